/-
  A cache's Write, allBelow, takeNext, Take.
-/
import Derived.Test.YtoijkdknjbgebaaCOb0
namespace Go.Proofs.Ytoijkdknjbgebaa
open Go.RowKit

/-- What writing to a Writer leaves. -/
theorem Wrote.stay {w w' : World} {p : Nat} {a a' : Option Nat} {bs cs : List Nat} (h : Wr w p a bs) (k : Wrote w p a w' a' cs) : Stay (fun t => t ≠ 66 ∧ t ≠ 5) w w' := by
  refine Stay.ofMovesS k.2.1 (fun b hb c t fz hc => ?_)
  obtain ⟨v, h1, rfl, h3⟩ := h
  rcases List.mem_cons.1 hb with rfl | hb
  · rw [h1] at hc
    simp at hc
    intro hn
    exact hn.1 hc.2.1.symm
  · rcases h3.2 with ⟨rfl, _⟩ | ⟨g, cap, cur, rfl, _, hgg, _⟩
    · simp [Value.ownBlock] at hb
    · simp [Value.ownBlock] at hb
      subst hb
      rw [hgg] at hc
      simp at hc
      intro hn
      exact hn.2 hc.2.1.symm

set_option maxRecDepth 100000 in
set_option maxHeartbeats 16000000 in
theorem owrite_w (W w : World) (p q : Nat) (a b : Option Nat) (xs : List Pt) (h : CaIs W w p a xs) (hw : Wr w q b []) (hb : ∀ x ∈ xs, BigT x) (hl : xs.length ≤ 1000) :
    Calls Try.prog 12 #[.pointer (some ⟨p, 0, none⟩), .pointer (some ⟨q, 0, none⟩)] w fun e w' => e = .returned (.tuple #[]) ∧ ∃ b', Wrote w q b w' b' (encC xs) := by
  obtain ⟨v, hp, -, hG⟩ := h
  obtain ⟨ad, n, cap, rfl, hn, hcap⟩ := hG.open
  have HL : Hid (ToldsAt w (.slice ad n cap) xs) := hG.at
  obtain ⟨x1, -⟩ := one_cell hp
  have hln : n ≤ 1000 := by have := hn.out; omega
  have hpq : p ∉ q :: b.toList := by
    obtain ⟨u, h1, rfl, h3⟩ := hw
    intro hm
    rcases List.mem_cons.1 hm with rfl | hm
    · rw [h1] at hp; simp at hp
    · rcases h3.2 with ⟨rfl, _⟩ | ⟨g, _, cur, rfl, _, hgg, _⟩
      · simp [Value.ownBlock] at hm
      · simp [Value.ownBlock] at hm
        subst hm
        rw [hgg] at hp
        simp at hp
  have hn32 : IntKind.u32.wrap (n : Int) = (n : Int) := by rw [wrap_u32]; omega
  have hnum := wnum_w q b [] n (n : Int) rfl w hw (by rw [List.length_nil]; omega) (by omega)
  rw [List.nil_append] at hnum
  have HW0 : Hid (Wr w q b []) := hw
  clear hG hw
  go_enter Try.func12, Try.ntmps12
  go_wp2_with (go_at_call 34; refine hnum.mono ?_; rintro _ w2 ⟨rfl, b2, hW2⟩; have x2 := hW2.2.1.cellOf x1 hpq)
  clear hnum
  go_loopw [21] (fun iv wr => ∃ (k : Nat) (b' : Option Nat), k ≤ n ∧ iv = .int .i64 (k : Int) ∧ Wrote w q b wr b' (be 4 n ++ (xs.take k).flatMap encT)) (fun iv _ => (n - intOf iv).toNat)
  case atStart => exact ⟨0, b2, Nat.zero_le _, rfl, by simpa using hW2⟩
  case round =>
    obtain ⟨k, b', hk, rfl, hW⟩ := hrel
    have HW : Hid (Wrote w q b wr b' (be 4 n ++ (xs.take k).flatMap encT)) := hW
    clear hW
    by_cases hkn : k < n
    · have hkn' : (k : Int) < (n : Int) := by omega
      obtain ⟨x, hx⟩ : ∃ x, xs[k]? = some x := ⟨_, List.getElem?_eq_getElem (by have := hn.out; omega)⟩
      obtain ⟨g, off, rfl, z0, z1, z2⟩ := (HL.out.stay (HW.out.stay HW0.out) (by decide)).at hx
      have hbx := hb x (List.mem_of_getElem? hx)
      have HET : Hid (be 4 n ++ (xs.take (k + 1)).flatMap encT = be 4 n ++ (xs.take k).flatMap encT ++ [x.c.toNat] ++ be 4 x.s.toNat ++ be 4 (zbs x.a).length ++ zbs x.a) := by
        unfold Hid
        rw [encsT_take hx]
        unfold encT
        rw [zbs_length]
        simp
      have hlen : (be 4 n ++ (xs.take k).flatMap encT).length ≤ 1048585004 := by
        have q1 := encsT_length (xs.take k) (fun y hy => hb y (List.mem_of_mem_take hy))
        have q2 : (xs.take k).length ≤ 1000 := by rw [List.length_take]; omega
        have q3 := Nat.mul_le_mul_right 1048585 q2
        rw [List.length_append, be_length]
        omega
      obtain ⟨BS, hBS⟩ : ∃ BS, be 4 n ++ (xs.take k).flatMap encT = BS := ⟨_, rfl⟩
      rw [hBS] at hlen HW HET
      obtain ⟨k1, k2, k3, k4, k5⟩ := hbx
      obtain ⟨c, hc⟩ : ∃ c : Nat, x.c = (c : Int) := ⟨x.c.toNat, by omega⟩
      obtain ⟨s, hs⟩ : ∃ s : Nat, x.s = (s : Int) := ⟨x.s.toNat, by omega⟩
      have ec : x.c.toNat = c := by omega
      have es : x.s.toNat = s := by omega
      rw [ec, es] at HET
      rw [hc] at z0 k1 k2
      rw [hs] at z1 k3 k4
      obtain ⟨za, hza⟩ : ∃ za, x.a = za := ⟨_, rfl⟩
      rw [hza] at z2 k5 HET
      have hu8 : IntKind.u8.wrap (c : Int) = (c : Int) := by rw [wrap_u8]; omega
      have hu32 : IntKind.u32.wrap (s : Int) = (s : Int) := by rw [wrap_u32]; omega
      have ma : Moves [] wr (wr.alloc (.cells #[.int .i64 (c : Int), .int .i64 (s : Int), .string za] 63)) := (Moves.refl [] wr).alloc _
      have hbx := heap_alloc_new wr (.cells #[.int .i64 (c : Int), .int .i64 (s : Int), .string za] 63)
      obtain ⟨X, hX⟩ : ∃ X, wr.heap.size = X := ⟨_, rfl⟩
      rw [hX] at hbx
      have hXn : X ∉ q :: b'.toList := by rw [← hX]; exact zne HW.out.1 (Nat.le_refl _)
      have hw3 := HW.out.1.moves ma (by simp) (by simp)
      have l1 : (BS ++ [c]).length = BS.length + 1 := by rw [List.length_append]; rfl
      have l2 : (BS ++ [c] ++ be 4 s).length = BS.length + 5 := by rw [List.length_append, l1, be_length]
      have n1 : (BS ++ [c]).length + 8 ≤ 1099511627776 := by omega
      have n2 : (BS ++ [c] ++ be 4 s).length + 2000000 ≤ 1099511627776 := by omega
      have hby := wbyte_w q b' BS c (c : Int) rfl _ hw3 (by omega)
      clear hc hs hza hBS ec es hx
      go_wp2_with fail
      refine hby.mono ?_
      rintro _ w4 ⟨rfl, b4, hW4⟩
      have hbx4 := hW4.2.1.at hbx hXn
      obtain ⟨d0, d1, d2, _, _, _⟩ := three_cells hbx4
      have hXn4 : X ∉ q :: b4.toList := by
        intro hm
        rcases List.mem_cons.1 hm with e | e
        · exact hXn (by simp [e])
        · rcases hW4.2.2 with e2 | ⟨j, e2, hj⟩
          · rw [e2] at e; exact hXn (by simp [Option.mem_toList.1 e])
          · rw [e2] at e; simp at e; simp at hj; omega
      have hnm := wnum_w q b4 (BS ++ [c]) s (s : Int) rfl w4 hW4.1 n1 (by omega)
      clear hby
      go_wp2_with fail
      refine hnm.mono ?_
      rintro _ w5 ⟨rfl, b5, hW5⟩
      have hbx5 := hW5.2.1.at hbx4 hXn4
      obtain ⟨f0, f1, f2, _, _, _⟩ := three_cells hbx5
      obtain ⟨g6, cap6, w6, hrun, hB6, m6, hg6⟩ := zbytes_run w5 za
      have hw6 := hW5.1.moves m6 (by simp) (by simp)
      have htx := wtext_any q b5 (BS ++ [c] ++ be 4 s) (zbs za) g6 _ w6 hw6 n2 hB6 (by rw [zbs_length]; omega) (zne hW5.1 hg6)
      clear hnm
      go_wp2_with fail
      refine htx.mono ?_
      rintro _ w7 ⟨rfl, b7, hW7⟩
      clear htx
      go_wp2_with fail
      go_roundw
      case rel =>
        refine ⟨k + 1, b7, by omega, by go_num, ?_⟩
        rw [HET.out]
        exact ((HW.out.step (zafter ma hW4)).step hW5).step (zafter m6 hW7)
      case measure => simp [intOf]; omega
    · have hkn' : ¬ (k : Int) < (n : Int) := by omega
      have HT : Hid (be 4 n ++ (xs.take k).flatMap encT = encC xs) := by
        have e : xs.take k = xs := List.take_of_length_le (by have := hn.out; omega)
        have e2 : n = xs.length := hn.out
        unfold Hid encC
        rw [e, ← e2]
      go_wp2_with fail
      go_end0
      exact ⟨rfl, b', by rw [← HT.out]; exact HW.out⟩
end Go.Proofs.Ytoijkdknjbgebaa
