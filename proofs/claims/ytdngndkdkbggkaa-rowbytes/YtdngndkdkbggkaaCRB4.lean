/-
  RowBytes: what the law does, for every argument.
-/
import Derived.Test.YtdngndkdkbggkaaCBytes4
import Derived.Test.YtdngndkdkbggkaaCMade4
import Derived.Laws.BitsAllLaws
namespace Go.Proofs.Ytdngndkdkbggkaa
open Go.RowKit

theorem own_row {w : World} {v : Value} {bs : List Nat} (h : Own w v bs) (hpos : 0 < bs.length) : ∃ g cap, v = .slice (some ⟨g, 0, none⟩) bs.length cap ∧
    ∀ j, j < bs.length → ∃ b, bs[j]? = some b ∧ w.cell? ⟨g, j, none⟩ = some (.int .u8 (b : Int)) ∧ w.frozen? ⟨g, j, none⟩ = false ∧ ∀ u : Nat, Own (w.setCell ⟨g, j, none⟩ (.int .u8 (u : Int))) v (bs.set j u) := by
  rcases h.2 with ⟨_, h0⟩ | ⟨g, cap, cur, rfl, hr⟩
  · omega
  · have h1 : w.ownsRow 0 5 1 (.slice (some ⟨g, 0, none⟩) bs.length cap) bs.length (u8s bs) := h
    refine ⟨g, cap, rfl, fun j hj => ⟨bs[j], by simp, ?_, h1.frozenAt j, fun u => ?_⟩⟩
    · rw [h1.cellAt j (by omega)]
      simp [u8s, hj]
    · have := h1.stored j (.int .u8 (u : Int))
      unfold Own
      rw [List.length_set]
      have e : u8s (bs.set j u) = (u8s bs).set j (.int .u8 (u : Int)) := by simp [u8s, List.map_set]
      rw [e]
      exact this.1
theorem set_oct {bs : List Nat} {j u : Nat} (h : ∀ y ∈ bs, y < 256) (hu : u < 256) : ∀ y ∈ bs.set j u, y < 256 := by
  intro y hy
  rcases List.mem_or_eq_of_mem_set hy with h1 | h1
  · exact h y h1
  · rw [h1]; exact hu

theorem own_len {w : World} {ad : Option Addr} {n cap : Nat} {bs : List Nat} (h : Own w (.slice ad n cap) bs) (hl : 1 ≤ bs.length ∧ bs.length ≤ 317) : bs.length = n ∧ 0 < n ∧ n ≤ 400 := by
  obtain ⟨ad', n', cap', e, e2, _⟩ := h.isB
  simp at e
  omega
theorem turn_at (z : Int) (n : Nat) (hn : 0 < n) (hn2 : n ≤ 400) : ∃ r : Nat, r < n ∧ ((z.tmod n < 0 ∧ wrap64 (-z.tmod n) = (r : Int)) ∨ (¬ z.tmod n < 0 ∧ z.tmod n = (r : Int))) := by
  have h1 : z.tmod n < n := Int.tmod_lt_of_pos z (by omega)
  have h2 : -(n : Int) < z.tmod n := Int.lt_tmod_of_pos z (by omega)
  by_cases h : z.tmod n < 0
  · exact ⟨(-z.tmod n).toNat, by omega, .inl ⟨h, by rw [IntWalk.wrap64_in _ (by omega)]; omega⟩⟩
  · exact ⟨(z.tmod n).toNat, by omega, .inr ⟨h, by omega⟩⟩

set_option maxRecDepth 100000 in
set_option maxHeartbeats 4000000 in
theorem rowBytes_w (u0 bv iv : Value) (t : Nat) (w : World) (h0 : CArgs w u0) (gb : Nat) (bs : List Nat) (hB : IsB w gb bv bs) (hob : ∀ y ∈ bs, y < 256) (hi : IArg iv) (ht : t < 256) :
    Calls Try.prog 3 #[u0, bv, iv, .int .u8 (t : Int)] w fun e w' => e = .returned (.bool true) ∧ Moves [] w w' := by
  obtain ⟨z, rfl⟩ := hi
  obtain ⟨adu, nu, cu, rfl, hcu, hVu⟩ := id h0
  obtain ⟨adb, nb, cb, rfl, _⟩ := id hB
  have hmade := made_w w w _ h0 (Moves.refl _ _)
  clear h0 hVu hcu
  go_enter Try.func3, Try.ntmps3
  obtain ⟨C, hC⟩ : ∃ C, Hid (C = bs.take 60) := ⟨_, rfl⟩
  have hCo : OctN 1000 C := by rw [hC.out]; exact ⟨by rw [List.length_take]; omega, fun y hy => hob y (List.mem_of_mem_take hy)⟩
  have hN : 1000 ≤ 1099511627776 := by omega
  go_wp2_with (first | (go_at_call 6; refine hmade.mono ?_; rintro _ w1 ⟨ad1, n1, cap1, R, rfl, hR, hpr, _, m1⟩; have ma : Moves [] w1 (w1.alloc (.cells #[.slice ad1 n1 cap1] 26)) := (Moves.refl _ _).alloc _; have q1 := heap_alloc_new w1 (.cells #[.slice ad1 n1 cap1] 26); have HR : Hid (RowAt w1 (.agg #[.slice ad1 n1 cap1]) R) := hR; clear hR) | (go_at_call 7; refine (refWrite_w w1 _ _ 0 [] _ R (isB_nil _ _) (by simp) HR.out ma hpr).mono ?_; rintro _ w2 ⟨ad2, n2, cap2, rfl, hO2, m2, f2⟩; rw [List.nil_append] at hO2; have hpl := pencR_len hpr; have oE := pencR_oct hpr (rowAt_oct HR.out); obtain ⟨E, hE⟩ : ∃ E, pencR R = E := ⟨_, rfl⟩; rw [hE] at hO2 hpl oE; clear hE; have q2 := m2.at q1 (by simp); obtain ⟨c2, _⟩ := one_cell q2; obtain ⟨hn2, hn2p, hn2l⟩ := own_len hO2 hpl; have Hn2 : Hid (E.length = n2) := hn2; clear hn2 hpl; have hp2 : ¬ (n2 : Int) = 0 := (by omega); have hp1 : (0 : Int) < (n2 : Int) := (by omega); obtain ⟨r, hr, hcase⟩ := turn_at z n2 hn2p hn2l; have ma2 : Moves [] w2 (w2.alloc (.cells #[] 5)) := (Moves.refl _ _).alloc _; have hx2 := hO2.isB.moves ma2 (by simp); rcases hcase with ⟨hneg, hk⟩ | ⟨hneg, hk⟩) | (at_builtin; refine append_law (.tmp 25) (.tmp 26) rfl _ _ [] E _ rfl rfl rfl (own_empty w2) hx2 (by have := Hn2.out; simp; omega) ?_; intro y w3 hy m3 hat3; rw [List.nil_append] at hy; (try rw [hk]); obtain ⟨M3, f3⟩ := appended ma2 (fresh_empty w2) m3 hat3; obtain ⟨gy, capy, rfl, hrow⟩ := own_row hy (by have := Hn2.out; omega); obtain ⟨b0, hb0, kc, kf, kown⟩ := hrow r (by have := Hn2.out; omega); rw [Hn2.out]; have hr1 : (r : Int) < (n2 : Int) := (by omega); have hb1 : b0 < 256 := oE b0 (List.mem_of_getElem? hb0); have hxor := u8_xor_nat b0 t hb1 ht; have hy3 := kown (b0 ^^^ t); have hxt : b0 ^^^ t < 256 := Nat.xor_lt_two_pow (n := 8) hb1 ht; have hgy : w2.heap.size ≤ gy := f3 gy rfl; have ms := moves_set w3 gy r (.int .u8 ((b0 ^^^ t : Nat) : Int)); have M4 : Moves [] w2 (w3.setCell ⟨gy, r, none⟩ (.int .u8 ((b0 ^^^ t : Nat) : Int))) := M3.trans ms (fun x hx => .inr (by simp at hx; omega)); have hE3 : OctN 1000 (E.set r (b0 ^^^ t)) := ⟨(by rw [List.length_set]; have := Hn2.out; omega), set_oct oE hxt⟩; have hE2 : OctN 1000 E := ⟨(by have := Hn2.out; omega), oE⟩; obtain ⟨w4, hw4⟩ : ∃ w4, w3.setCell ⟨gy, r, none⟩ (.int .u8 ((b0 ^^^ t : Nat) : Int)) = w4 := ⟨_, rfl⟩; rw [hw4] at hy3 M4; have hx4 := hO2.moves M4 (by simp); have c4 := M4.cell c2; have M1 : Moves [] w1 w4 := (ma.then m2).then M4; have hps : 0 < w4.heap.size := (Nat.lt_of_lt_of_le (Nat.lt_of_le_of_lt (Nat.zero_le _) (lt_of_block q2)) M4.size); rw [Hn2.out] at hy3; clear hrow kown hy) | (go_at_call 8; refine (writes4_w w1 _ _ R HR.out M1 hpr).mono ?_; rintro _ w5 ⟨rfl, m5⟩) | (go_at_call 10; refine (cut_w _ gb bs 60 _ rfl _ (hB.moves (((m1.then M1).then m5).then (m6.then m7)) (by simp))).mono ?_; rintro _ _ ⟨vc, rfl, hvc, rfl⟩; rw [← hC.out] at hvc) | (go_at_call 9; refine (reads4_w 1000 hN _ gb C _ hvc hCo (Nat.lt_of_lt_of_le hps ((m5.then m6).then m7).size)).mono ?_; rintro _ w8 ⟨rfl, m8⟩) | (go_at_call 9; refine (reads4_w 1000 hN _ _ _ _ (hy3.moves (m5.then m6) (by simp)).isB hE3 (Nat.lt_of_lt_of_le hps (m5.then m6).size)).mono ?_; rintro _ w7 ⟨rfl, m7⟩) | (go_at_call 9; refine (reads4_w 1000 hN _ _ _ _ (hx4.moves m5 (by simp)).isB hE2 (Nat.lt_of_lt_of_le hps m5.size)).mono ?_; rintro _ w6 ⟨rfl, m6⟩) | (go_at_call 11; refine (known_w _).mono ?_; rintro _ w9 ⟨rfl, m9⟩))
  all_goals (go_ret; exact ⟨rfl, (((((m1.then M1).then m5).then m6).then m7).then m8).then m9⟩)
end Go.Proofs.Ytdngndkdkbggkaa
