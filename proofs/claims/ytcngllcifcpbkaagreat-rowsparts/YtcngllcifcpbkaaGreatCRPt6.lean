/-
  RowsParts: plain facts, and the walk.
-/
import Derived.Test.YtcngllcifcpbkaaGreatCPlay6
import Derived.Test.YtcngllcifcpbkaaGreatCTab5
import Derived.Test.YtcngllcifcpbkaaGreatCTab6
import Derived.Test.YtcngllcifcpbkaaGreatCRs5
namespace Go.Proofs.YtcngllcifcpbkaaGreat
open Go.RowKit

theorem InvN.sub {xs ys : List Pnam} (h : InvN xs) (hs : ys.Sublist xs) : InvN ys :=
  ⟨List.Pairwise.sublist hs h.rise, Nat.le_trans hs.length_le h.len, fun x hx => h.right x (hs.subset hx), fun x hx => h.canon x (hs.subset hx), fun x hx => h.name x (hs.subset hx)⟩
theorem rise_parts {X Y : List Pnam} (h : RiseN (X ++ Y)) : ∀ x ∈ X, ∀ y ∈ Y, nlt x.name y.name = true := (List.pairwise_append.1 h).2.2
theorem pbelow_yes {X Y : List Pnam} (h : RiseN (X ++ Y)) : pbelow X Y = true := by
  unfold pbelow
  cases hx : X.getLast? with
  | none => rfl
  | some x =>
    cases hy : Y.head? with
    | none => rfl
    | some y => exact rise_parts h x (List.mem_of_getLast? hx) y (List.mem_of_head? hy)
theorem pbelow_no {X Y : List Pnam} (h : RiseN (X ++ Y)) (hx : X ≠ []) (hy : Y ≠ []) : pbelow Y X = false := by
  unfold pbelow
  cases h1 : Y.getLast? with
  | none => exact absurd (List.getLast?_eq_none_iff.1 h1) hy
  | some y =>
    cases h2 : X.head? with
    | none => exact absurd (List.head?_eq_none_iff.1 h2) hx
    | some x => exact nlt_asymm (rise_parts h x (List.mem_of_head? h2) y (List.mem_of_getLast? h1))
theorem pbelow_nil {X Y : List Pnam} (h : X = [] ∨ Y = []) : pbelow Y X = true := by
  unfold pbelow
  rcases h with rfl | rfl
  · cases Y.getLast? <;> rfl
  · rfl
/-- A table and a list with the same rows. -/
def TL (w : World) (q : Nat) (v : Value) : Prop := ∃ X W a, TabIs W w q a X ∧ NamsAt w v X ∧ InvN X
theorem tells_all {W w : World} {q : Nat} {v : Value} (h : Hid (TL W q v)) (m : Moves [] W w) (lo hi : ByteArray) (most : Int) :
    Calls Tryz.prog 10 #[.pointer (some ⟨q, 0, none⟩), v, .string lo, .string hi, .int .i64 most] w fun e w' => e = .returned (.bool true) ∧ Moves [] w w' := by
  obtain ⟨X, W', a, h1, h2, h3⟩ := h.out
  exact tells6_w W' w q a X v lo hi most (h1.moves0 m) (h2.moves m) h3
/-- A table of so many rows. -/
def LenIs (w : World) (q n : Nat) : Prop := ∃ X W a, TabIs W w q a X ∧ X.length = n
theorem len_all {W w : World} {q n : Nat} (h : Hid (LenIs W q n)) (m : Moves [] W w) : Calls Tryz.prog 8 #[.pointer (some ⟨q, 0, none⟩)] w fun e w' => e = .returned (.int .i64 (n : Int)) ∧ w = w' := by
  obtain ⟨X, W', a, h1, h2⟩ := h.out
  have := tlen_w W' w q a X (h1.moves0 m)
  rw [h2] at this
  exact this

set_option maxRecDepth 100000 in
set_option maxHeartbeats 16000000 in
theorem rowsParts_w (u0 u1 : Value) (w : World) (h0 : AArgs w u0) (h1 : ∃ s, u1 = .string s) : Calls Tryz.prog 3 #[u0, u1] w fun e w' => e = .returned (.bool true) ∧ Moves [] w w' := by
  obtain ⟨s0, rfl⟩ := h1
  have hp := play6_w w w u0 h0 (Moves.refl _ _)
  obtain ⟨s, hs⟩ : ∃ s, phead s0 4 = s := ⟨_, rfl⟩
  have hh := fun w1 => head_d w1 s0 4
  rw [hs] at hh
  clear h0 hs
  go_enter Tryz.func3, Tryz.ntmps3
  go_wp2_with (first | (go_at_call 5; refine hp.mono ?_; rintro _ w2 ⟨p, a, xs, ad, n, cap, rfl, hT, hN, hI, m2⟩; have HT : Hid (TabIs w w2 p a xs) := hT; have HN : Hid (NamsAt w2 (.slice ad n cap) xs) := hN; have HI : Hid (InvN xs) := hI; clear hT hN hI hp) | (go_at_call 6; refine (hh _).mono ?_; rintro _ _ ⟨rfl, rfl⟩))
  obtain ⟨i, hPl, _, _, _⟩ := place_ex HI.out.rise s
  have hl := HI.out.len
  have hsp := tsplit_w w w2 p a xs s i HT.out HI.out.rise (by omega) hPl
  obtain ⟨X1, hX1⟩ : ∃ X1, xs.take i = X1 := ⟨_, rfl⟩
  obtain ⟨X2, hX2⟩ : ∃ X2, xs.drop i = X2 := ⟨_, rfl⟩
  have hXX : X1 ++ X2 = xs := by rw [← hX1, ← hX2]; exact List.take_append_drop i xs
  have hI1 : InvN X1 := by rw [← hX1]; exact HI.out.sub (List.take_sublist i xs)
  have hI2 : InvN X2 := by rw [← hX2]; exact HI.out.sub (List.drop_sublist i xs)
  have hbl := fun w1 (m1 : Moves [] w2 w1) => nbelow_w w2 w1 _ xs s i HN.out (by omega) m1 hPl
  rw [hX1, hX2, hI1.own (fun y hy => hy), hI2.own (fun y hy => hy)] at hsp
  simp only [hX1, hX2] at hbl
  obtain ⟨n1, hn1⟩ : ∃ n1, X1.length = n1 := ⟨_, rfl⟩
  obtain ⟨n2, hn2⟩ : ∃ n2, X2.length = n2 := ⟨_, rfl⟩
  obtain ⟨nx, hnx⟩ : ∃ nx, xs.length = nx := ⟨_, rfl⟩
  have hsum : n1 + n2 = nx := by rw [← hn1, ← hn2, ← hnx, ← hXX, List.length_append]
  rw [hnx] at hl
  have hadd : wrap64 ((n1 : Int) + (n2 : Int)) = (nx : Int) := by unfold wrap64; omega
  have hR : RiseN (X1 ++ X2) := by rw [hXX]; exact HI.out.rise
  have hb1 := pbelow_yes hR
  have hown : pownL [X1, X2] = xs := by
    have e : pownL [X1, X2] = pownX xs := by unfold pownL pownX; rw [← hXX]; simp
    rw [e]
    exact HI.out.own (fun y hy => hy)
  have HLN : Hid (X1.length = n1 ∧ X2.length = n2 ∧ xs.length = nx ∧ n1 + n2 = nx ∧ nx ≤ 32) := ⟨hn1, hn2, hnx, hsum, hl⟩
  have HI1 : Hid (InvN X1) := hI1
  have HI2 : Hid (InvN X2) := hI2
  have HR : Hid (RiseN (X1 ++ X2)) := hR
  have HB1 : Hid (pbelow X1 X2 = true) := hb1
  have HOWN : Hid (pownL [X1, X2] = xs) := hown
  have HLX : Hid (LenIs w2 p nx) := ⟨xs, w, a, HT.out, hnx⟩
  have hone : True := trivial
  clear hX1 hX2 hXX hI1 hI2 hn1 hn2 hnx hsum hl hR hb1 hown hPl hh
  go_wp2_with (first
    | (go_at_call 7; refine hsp.mono ?_; rintro _ w3 ⟨q1, q2, rfl, ⟨b1, hT1⟩, ⟨b2, hT2⟩, hq1, hq2, m3⟩; have HT1 : Hid (TabIs w2 w3 q1 b1 X1) := hT1; have HT2 : Hid (TabIs w2 w3 q2 b2 X2) := hT2; have L1 : Hid (LenIs w3 q1 n1) := ⟨X1, w2, b1, hT1, HLN.out.1⟩; have L2 : Hid (LenIs w3 q2 n2) := ⟨X2, w2, b2, hT2, HLN.out.2.1⟩; have L3 : Hid (LenIs w3 p nx) := ⟨xs, w, a, HT.out.moves0 m3, HLN.out.2.2.1⟩; have M3 : Moves [] w3 w3 := Moves.refl _ _; clear hT1 hT2 hsp HLX)
    | (go_at_call 8; refine (len_all (by assumption) M3).mono ?_; rintro _ _ ⟨rfl, rfl⟩)
    | (go_at_call 9; refine (hbl _ m3).mono ?_; rintro _ w4 ⟨v1, v2, rfl, hv1, hv2, m4⟩; have T1 : Hid (TL w4 q1 v1) := ⟨X1, w2, b1, HT1.out.moves0 m4, hv1, HI1.out⟩; have T2 : Hid (TL w4 q2 v2) := ⟨X2, w2, b2, HT2.out.moves0 m4, hv2, HI2.out⟩; have T3 : Hid (TL w4 p (.slice ad n cap)) := ⟨xs, w, a, HT.out.moves0 (m3.then m4), HN.out.moves (m3.then m4), HI.out⟩; have M4 : Moves [] w4 w4 := Moves.refl _ _; clear hv1 hv2 hbl M3)
    | (go_at_call 10; refine (tells_all (by assumption) (by assumption) _ _ _).mono ?_; rintro _ w5 ⟨rfl, m5⟩; first | (replace MJ := MJ.then m5; clear m5) | (replace M4 := M4.then m5; clear m5))
    | (go_at_call 11; revert hone; intro hone; refine (tjoin_yes w2 w2 _ q1 q2 b1 b2 X1 X2 (HT1.out.moves0 (m4.then M4)) (HT2.out.moves0 (m4.then M4)) (by have := HLN.out; omega) HB1.out).mono ?_; rintro _ w6 ⟨z, rfl, ⟨c, hTj⟩, hz, m6⟩; rw [HOWN.out] at hTj; have M6 : Moves [] w2 w6 := ((m3.then m4).then M4).then m6; have TJ : Hid (TL w6 z (.slice ad n cap)) := ⟨xs, _, c, hTj, HN.out.moves M6, HI.out⟩; have HTJ : Hid (TabIs _ w6 z c xs) := hTj; have MJ : Moves [] w6 w6 := Moves.refl _ _; clear hone hTj)
    | (go_at_call 12; refine (tsame_yes _ w _ z p c a xs (HTJ.out.moves0 MJ) (HT.out.moves0 (M6.then MJ)) (by have := HLN.out; omega) (fun x hx => pright_sizes (HI.out.right x hx))).mono ?_; rintro _ w7 ⟨rfl, m7⟩; replace MJ := MJ.then m7; clear m7))
  have M7 := M6.then MJ
  have m37 : Moves [] w3 _ := ((m4.then M4).then m6).then MJ
  have hT1' := HT1.out.moves0 m37
  have hT2' := HT2.out.moves0 m37
  have hn12 := HLN.out
  have h32 : n1 ≤ 1000 ∧ n2 ≤ 1000 := by omega
  by_cases c1 : n1 = 0
  · have hb2 : pbelow X2 X1 = true := pbelow_nil (.inl (List.eq_nil_of_length_eq_zero (by omega)))
    have hj := tjoin_yes w2 w2 _ q2 q1 b2 b1 X2 X1 hT2' hT1' (by omega) hb2
    subst c1
    clear hn12 h32 hb2 hT1' hT2'
    go_wp2_with (first | (go_at_call 11; refine hj.mono ?_; rintro _ w8 ⟨z8, rfl, _, _, m8⟩; have M8 := m37.then m8; clear hj) | (go_at_call 11; revert M8; intro M8; refine (tjoin_nil _ _).mono ?_; rintro _ _ ⟨rfl, rfl⟩) | (go_at_call 8; refine (len_all (by assumption) M8).mono ?_; rintro _ _ ⟨rfl, rfl⟩) | (go_at_call 13; refine (known6_w _).mono ?_; rintro _ w9 ⟨rfl, m9⟩))
    go_ret
    exact ⟨rfl, ((m2.then M7).then m8).then m9⟩
  · by_cases c2 : n2 = 0
    · have hb2 : pbelow X2 X1 = true := pbelow_nil (.inr (List.eq_nil_of_length_eq_zero (by omega)))
      have hj := tjoin_yes w2 w2 _ q2 q1 b2 b1 X2 X1 hT2' hT1' (by omega) hb2
      have hp1 : (0 : Int) < n1 := by omega
      subst c2
      clear hn12 h32 hb2 hT1' hT2' c1
      go_wp2_with (first | (go_at_call 11; refine hj.mono ?_; rintro _ w8 ⟨z8, rfl, _, _, m8⟩; have M8 := m37.then m8; clear hj) | (go_at_call 11; revert M8; intro M8; refine (tjoin_nil _ _).mono ?_; rintro _ _ ⟨rfl, rfl⟩) | (go_at_call 8; refine (len_all (by assumption) M8).mono ?_; rintro _ _ ⟨rfl, rfl⟩) | (go_at_call 13; refine (known6_w _).mono ?_; rintro _ w9 ⟨rfl, m9⟩))
      go_ret
      exact ⟨rfl, ((m2.then M7).then m8).then m9⟩
    · have hb2 : pbelow X2 X1 = false := pbelow_no HR.out (fun e => c1 (by rw [← hn12.1, e]; rfl)) (fun e => c2 (by rw [← hn12.2.1, e]; rfl))
      have hj := tjoin_no w2 w2 _ q2 q1 b2 b1 X2 X1 hT2' hT1' (by omega) (by omega) hb2
      have hp1 : (0 : Int) < n1 := by omega
      have hp2 : (0 : Int) < n2 := by omega
      clear hn12 h32 hb2 hT1' hT2' c1 c2
      go_wp2_with (first | (go_at_call 11; refine hj.mono ?_; rintro _ w8 ⟨rfl, m8⟩; have M8 := m37.then m8; clear hj) | (go_at_call 11; revert M8; intro M8; refine (tjoin_nil _ _).mono ?_; rintro _ _ ⟨rfl, rfl⟩) | (go_at_call 8; refine (len_all (by assumption) M8).mono ?_; rintro _ _ ⟨rfl, rfl⟩) | (go_at_call 13; refine (known6_w _).mono ?_; rintro _ w9 ⟨rfl, m9⟩))
      go_ret
      exact ⟨rfl, ((m2.then M7).then m8).then m9⟩
end Go.Proofs.YtcngllcifcpbkaaGreat
