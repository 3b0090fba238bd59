/-
  RowsNumbers: the walk.
-/
import Derived.Test.YtcngllcifcpbkaaCRN6
namespace Go.Proofs.Ytcngllcifcpbkaa
open Go.RowKit

def askC (_ : World) (c x : List Value) : Prop := c = x ∧ ∀ u ∈ x, u.oneCell' = true
def GrowA (W w : World) (v : Value) (xs : List (List Value)) : Prop := Grow askC 25 5 W w v xs
def askAt (k : Nat) : List Value := [.int .i64 1, .int .i64 ((k * 7 % 45 : Nat) : Int), .bool (k % 11 != 10), .string ⟨#[]⟩, .slice none 0 0]
theorem ask_info : (Try.prog.info? 25).map (fun i => (i.zero, i.size, i.bytes)) = some (some (.agg #[.int .i64 0, .int .i64 0, .bool false, .string ByteArray.empty, .slice none 0 0]), 5, 64) := by kernel_rfl
theorem growA_append {ops : Array Oper} {rest : List Oper} {o : Oper} {a : Act} {Q : Exit → Act → World → Prop} {W w : World} (s x : Operand)
    (ho : o.op = .call { callee := .builtin .append, args := #[s, x], argTypes := #[22, 22] })
    (v yv : Value) (xs ys : List (List Value)) (hs : a.eval s = v) (hx : a.eval x = yv) (hw : Region.wanted o (yielded ops a.tmps) = true)
    (hv : GrowA W w v xs) (hy : Lies w 25 5 yv ys) (hys : ∀ y ∈ ys, ∀ u ∈ y, u.oneCell' = true) (hm : Moves [] W w) (hb : xs.length + ys.length ≤ 1048576)
    (h : ∀ v' w', GrowA W w' v' (xs ++ ys) → Moves [] W w' → wpList Try.prog ops Q rest (a.put o.dst v') w') :
    wpList Try.prog ops Q (o :: rest) a w := by
  refine wpList_wanted hw (wpList_plain rfl fun K hK => ?_)
  have hall : ∀ l : List (List Value), (∀ y ∈ l, ∀ u ∈ y, u.oneCell' = true) → All2 (askC w) l l := by
    intro l
    induction l with
    | nil => intro _; trivial
    | cons y l ih => exact fun hl => ⟨⟨rfl, hl y List.mem_cons_self⟩, ih (fun z hz => hl z (List.mem_cons_of_mem _ hz))⟩
  exact grow_append (EC := askC) s x _ 25 _ 5 64 ask_info Try.underlying22 rfl (by omega) (by omega) (fun _ _ _ h => by rw [h.1]; exact h.2) (fun _ _ _ _ h _ => h) ho v yv xs ys ys hs hx hv hy (hall ys hys) hm hb (fun v' w' h1 h2 _ _ _ => hK _ _ (h v' w' h1 h2))
theorem ask_at {k : Nat} : ([.int .i64 1, .int .i64 ((k : Int) * 7 % 45), .bool ((k : Int) % 11 != 10), .string ⟨#[]⟩, .slice none 0 0] : List Value) = askAt k := by
  have e1 : ((k * 7 % 45 : Nat) : Int) = (k : Int) * 7 % 45 := by omega
  have e2 : (k % 11 != 10) = ((k : Int) % 11 != 10) := by
    rw [Bool.eq_iff_iff]
    simp only [bne_iff_ne, ne_eq]
    omega
  unfold askAt
  rw [e1, e2]
theorem ask_one (k : Nat) : ∀ u ∈ askAt k, u.oneCell' = true := by
  intro u hu
  simp only [askAt, List.mem_cons, List.not_mem_nil, or_false] at hu
  rcases hu with rfl | rfl | rfl | rfl | rfl <;> rfl
theorem GrowA.moves0 {W w w' : World} {v : Value} {xs : List (List Value)} (h : GrowA W w v xs) (m : Moves [] w w') : GrowA W w' v xs := by
  obtain ⟨hf, css, hO, hE⟩ := h
  exact ⟨hf, css, hO.moves m (by simp), hE.mono fun _ _ q => q⟩
theorem asks_of {W w : World} {ad : Option Addr} {cap : Nat} (h : GrowA W w (.slice ad 45 cap) ((List.range 45).map askAt)) : Asks45 w (.slice ad 45 cap) := by
  obtain ⟨_, css, hO, hE⟩ := h
  obtain ⟨_, cap', e0, hc0⟩ := hO.slice
  have hlen := hE.length
  rw [List.length_map, List.length_range] at hlen
  simp at e0
  obtain ⟨_, _, rfl⟩ := e0
  refine ⟨ad, cap, rfl, by omega, fun k hk => ?_⟩
  obtain ⟨c, hc, hq⟩ := hE.get (k := k) (b := askAt k) (by rw [List.getElem?_map, List.getElem?_range hk]; rfl)
  obtain ⟨g, cap2, e, _, hcell⟩ := hO.cell hc
  simp at e
  rw [hq.1] at hcell
  refine ⟨g, 0, e.1, ?_, ?_, ?_, ?_, ?_⟩
  · rw [Nat.zero_add]; exact hcell 0 _ rfl
  · rw [Nat.zero_add]; exact hcell 1 _ rfl
  · rw [Nat.zero_add]; exact hcell 2 _ rfl
  · rw [Nat.zero_add]; exact hcell 3 _ rfl
  · rw [Nat.zero_add]; exact hcell 4 _ rfl
theorem bad_right : pright [⟨⟨#[]⟩, []⟩] = false := by decide

set_option maxRecDepth 100000 in
set_option maxHeartbeats 16000000 in
theorem rowsNumbers_w (w : World) : Calls Try.prog 3 #[] w fun e w' => e = .returned (.bool true) ∧ Moves [] w w' := by
  go_enter Try.func3, Try.ntmps3
  go_wp2_with fail
  go_loopw [1, 2] (fun vl vi wr => ∃ (k : Nat) (lv : Value), k ≤ 45 ∧ (vl = lv ∧ vi = .int .i64 (k : Nat)) ∧ Moves [] w wr ∧ GrowA w wr lv ((List.range k).map askAt)) (fun _ vi _ => 45 - (intOf vi).toNat)
  case atStart => exact ⟨0, _, by omega, ⟨rfl, rfl⟩, Moves.refl _ _, ⟨Fresh.nil _, [], OwnL.nil _ _ _, trivial⟩⟩
  case round =>
    obtain ⟨k, lv, hk, ⟨rfl, rfl⟩, mr, hG⟩ := hrel
    have hsl : ∃ ad cap, u1 = .slice ad k cap := by
      obtain ⟨_, css, hO, hE⟩ := id hG
      obtain ⟨ad, cap, e, _⟩ := hO.slice
      have := hE.length
      rw [List.length_map, List.length_range] at this
      exact ⟨ad, cap, by rw [e, this]⟩
    obtain ⟨ad, cap, rfl⟩ := hsl
    by_cases hlt : k < 45
    · have hk3 : (k : Int) < 45 := by omega
      have HG : Hid (GrowA w wr (.slice ad k cap) ((List.range k).map askAt)) := hG
      clear hG
      have hl : Lies (wr.alloc (.cells #[.int .i64 1, .int .i64 ((k : Int) * 7 % 45), .bool ((k : Int) % 11 != 10), .string ⟨#[]⟩, .slice none 0 0] 25)) 25 5 (.slice (some ⟨wr.heap.size, 0, none⟩) 1 1) [askAt k] := by
        rw [← ask_at]
        exact lies_new wr [.int .i64 1, .int .i64 ((k : Int) * 7 % 45), .bool ((k : Int) % 11 != 10), .string ⟨#[]⟩, .slice none 0 0] _
      have HL : Hid (Lies (wr.alloc (.cells #[.int .i64 1, .int .i64 ((k : Int) * 7 % 45), .bool ((k : Int) % 11 != 10), .string ⟨#[]⟩, .slice none 0 0] 25)) 25 5 (.slice (some ⟨wr.heap.size, 0, none⟩) 1 1) [askAt k]) := hl
      have hbd : ((List.range k).map askAt).length + [askAt k].length ≤ 1048576 := by rw [List.length_map, List.length_range, List.length_singleton]; omega
      have hr : (List.range k).map askAt ++ [askAt k] = (List.range (k + 1)).map askAt := by rw [List.range_succ, List.map_append]; rfl
      have HR : Hid ((List.range k).map askAt ++ [askAt k] = (List.range (k + 1)).map askAt) := hr
      clear hl hr
      go_wp2_with (at_builtin; refine growA_append (W := w) (.tmp 11) (.tmp 19) rfl _ _ ((List.range k).map askAt) [askAt k] rfl rfl rfl (HG.out.moves0 ((Moves.refl _ _).alloc _)) HL.out (by intro y hy; rw [List.mem_singleton.1 hy]; exact ask_one k) (mr.alloc _) hbd ?_; intro v' w4 hG4 m4; rw [HR.out] at hG4)
      go_roundw
      case rel => exact ⟨k + 1, _, by omega, ⟨rfl, by go_num⟩, m4, hG4⟩
      case measure => simp [intOf]; omega
    · obtain rfl : k = 45 := by omega
      have hA : Asks45 wr (.slice ad 45 cap) := asks_of hG
      have hp := play45_w wr wr _ hA (Moves.refl _ _)
      have hI := pf_inv 45
      obtain ⟨hl, hno⟩ := pf_full
      obtain ⟨xs, hxs⟩ : ∃ xs, pf 45 = xs := ⟨_, rfl⟩
      rw [hxs] at hp hI hl hno
      have HI : Hid (InvN xs) := hI
      have HL32 : Hid (xs.length = 32) := hl
      obtain ⟨e1, e2⟩ := psetE_full (xs := xs) (s := ⟨#[111, 110, 101, 46, 109, 111, 114, 101]⟩) (R := psome) (by decide) psome_right (by rw [hno, hl, psome_ne]; rfl)
      obtain ⟨e3, e4⟩ := psetE_bad (xs := xs) (s := ⟨#[97]⟩) (R := [⟨⟨#[]⟩, []⟩]) (by rw [bad_right]; decide)
      have HE2 : Hid (psetN xs ⟨#[111, 110, 101, 46, 109, 111, 114, 101]⟩ psome = xs) := e2
      have HE4 : Hid (psetN xs ⟨#[97]⟩ [⟨⟨#[]⟩, []⟩] = xs) := e4
      clear hxs hl hno hI hA hG e2 e4
      go_wp2_with (first
        | (go_at_call 5; refine hp.mono ?_; rintro _ w2 ⟨p, a, adm, nm, capm, rfl, hT, hN, hpp, m2⟩; have HT : Hid (TabIs wr w2 p a xs) := hT; have HN : Hid (NamsAt w2 (.slice adm nm capm) xs) := hN; have M : Moves [] w2 w2 := (Moves.refl _ _); clear hT hN hp)
        | (go_at_call 6; refine (tells6_w wr _ p a xs _ _ _ _ (HT.out.moves0 M) (HN.out.moves M) HI.out).mono ?_; rintro _ w5 ⟨rfl, m5⟩; replace M := M.then m5; clear m5))
      obtain ⟨w6, hw6⟩ : ∃ w6, (w5.alloc (.cells #[.string ⟨#[]⟩, .slice none 0 0] 33)).alloc (.cells #[.slice (some ⟨w5.heap.size, 0, none⟩) 1 1] 36) = w6 := ⟨_, rfl⟩
      obtain ⟨_, b6, m6⟩ : w6.heap[w5.heap.size]? = some (.cells #[.string ⟨#[]⟩, .slice none 0 0] 33 (0, 0)) ∧ w6.heap[w5.heap.size + 1]? = some (.cells #[.slice (some ⟨w5.heap.size, 0, none⟩) 1 1] 36 (0, 0)) ∧ Moves [] w5 w6 := by rw [← hw6]; exact boxes (Moves.refl _ _)
      have hC : ColsAt w6 (.slice (some ⟨w5.heap.size, 0, none⟩) 1 1) [⟨⟨#[]⟩, []⟩] := by rw [← hw6]; exact (cols_new w5 _ _ ⟨⟨#[]⟩, []⟩ ⟨_, rfl, VersAt.nil _⟩).moves ((Moves.refl _ _).alloc _)
      rw [hw6]
      obtain ⟨qb, hqb⟩ : ∃ qb, w5.heap.size + 1 = qb := ⟨_, rfl⟩
      rw [hqb] at b6 ⊢
      have HRB : Hid (RowAt w6 (.agg #[.slice (some ⟨w5.heap.size, 0, none⟩) 1 1]) [⟨⟨#[]⟩, []⟩]) := ⟨_, rfl, hC⟩
      have M6 : Moves [] wr w6 := m2.then (M.then m6)
      have HT6 : Hid (TabIs wr w6 p a xs) := HT.out.moves0 (M.then m6)
      have hlen := tlen_w wr w6 p a xs HT6.out
      rw [HL32.out] at hlen
      have hl1000 : xs.length ≤ 1000 := by have := HL32.out; omega
      have hqn : qb ∉ p :: a.toList := by
        intro hm
        rcases List.mem_cons.1 hm with e | hm
        · obtain ⟨_, hp0, _⟩ := HT6.out
          rw [← e, b6] at hp0
          simp at hp0
        · obtain ⟨_, _, e, hg0⟩ := HT6.out
          obtain ⟨cur, hc⟩ := hg0.blk (e.trans (Option.mem_toList.1 hm))
          rw [b6] at hc
          simp at hc
      have hone : True := trivial
      clear hw6 hqb hC
      generalize w5.heap.size = gc at *
      refine hlen.mono ?_
      rintro _ _ ⟨rfl, rfl⟩
      go_wp2_with (first
        | (go_at_call 9; refine (some6_w _).mono ?_; rintro _ w7 ⟨ad7, n7, cap7, rfl, hR7, m7⟩; have HR7 : Hid (RowAt w7 (.agg #[.slice ad7 n7 cap7]) psome) := hR7; clear hR7)
        | (go_at_call 8; revert hone; intro hone; refine (tset_w wr w7 p a xs _ _ psome (HT6.out.moves0 m7) HI.out.rise hl1000 HR7.out (M6.then m7).size).mono ?_; rw [e1]; rintro _ w8 ⟨rfl, a8, ⟨hT8, m8, hb8⟩, st8⟩; rw [HE2.out] at hT8; have M8 : Moves [] wr w8 := tab_moves (HT6.out.moves0 m7) hpp (M6.then m7) m8; have b8 := m8.at (m7.at b6 (by simp)) hqn; obtain ⟨z0, z1⟩ := one_cell b8; have HRB8 : Hid (RowAt w8 (.agg #[.slice (some ⟨gc, 0, none⟩) 1 1]) [⟨⟨#[]⟩, []⟩]) := ((HRB.out.moves m7).stay3 st8); have HT8 : Hid (TabIs wr w8 p a8 xs) := hT8; clear hone hT8 hb8 st8 m8))
      go_wp2_with (first
        | (go_at_call 8; refine (tset_w wr w8 p a8 xs _ _ [⟨⟨#[]⟩, []⟩] HT8.out HI.out.rise hl1000 HRB8.out M8.size).mono ?_; rw [e3]; rintro _ w9 ⟨rfl, a9, ⟨_, m9, _⟩, _⟩; have M9 : Moves [] wr w9 := tab_moves HT8.out hpp M8 m9; clear m9)
        | (go_at_call 10; refine (known6_w _).mono ?_; rintro _ w10 ⟨rfl, m10⟩))
      go_ret
      exact ⟨rfl, (mr.then M9).then m10⟩
end Go.Proofs.Ytcngllcifcpbkaa
