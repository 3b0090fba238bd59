/-
  Package change's Holds; the law's own known: some of chapter 5's runs.
-/
import Derived.Test.YtfegflimnngfaabCSum5
import Derived.Test.YtfegflimnngfaabCRef7
import Derived.Test.YtfegflimnngfaabCRow13
namespace Go.Proofs.Ytfegflimnngfaab
open Go.RowKit

/-- Whether a row is as a condition wants it. -/
def cHolds (R : List Pcol) (has want : Bool) (col : ByteArray) (q : Pv) : Bool := if has then (if want then (match pAt R col 1099511627776 with | none => false | some p => psame p q) else (pAt R col 1099511627776).isNone) else true

set_option maxRecDepth 100000 in
theorem condByte_w (w : World) (has want : Bool) (col : ByteArray) (k : Int) (a : Option Addr) (n cap x : Nat) (r : Int) (hr : (has = false ∧ r = 0) ∨ (has = true ∧ want = false ∧ r = 1) ∨ (has = true ∧ want = true ∧ r = 2)) :
    Calls Try.prog 36 #[.agg #[.bool has, .bool want, .string col, .int .i64 k, .slice a n cap, .float .f64 x]] w fun e w' => e = .returned (.int .u8 r) ∧ Moves [] w w' := by
  have hb := heap_alloc_new w (.cells #[.bool has, .bool want, .string col, .int .i64 k, .slice a n cap, .float .f64 x] 56)
  have mb : Moves [] w (w.alloc (.cells #[.bool has, .bool want, .string col, .int .i64 k, .slice a n cap, .float .f64 x] 56)) := (Moves.refl _ _).alloc _
  obtain ⟨x0, x1, _⟩ := six_cells hb
  rcases hr with ⟨rfl, rfl⟩ | ⟨rfl, rfl, rfl⟩ | ⟨rfl, rfl, rfl⟩
  all_goals go_enter Try.func36, Try.ntmps36
  all_goals go_wp2_with fail
  all_goals go_ret
  all_goals exact ⟨rfl, mb⟩

set_option maxRecDepth 100000 in
set_option maxHeartbeats 4000000 in
theorem cHolds_w (W w : World) (v : Value) (R : List Pcol) (has want : Bool) (col : ByteArray) (k : Int) (a : Option Addr) (n cap x : Nat) (q : Pv) (h : RowAt W v R) (hv : VA W [.int .i64 k, .slice a n cap, .float .f64 x] q) (m : Moves [] W w) :
    Calls Try.prog 18 #[v, .agg #[.bool has, .bool want, .string col, .int .i64 k, .slice a n cap, .float .f64 x]] w fun e w' => e = .returned (.bool (cHolds R has want col q)) ∧ Moves [] w w' := by
  have hN := fun w1 (m1 : Moves [] W w1) => newest_w W w1 v R col h m1
  obtain ⟨lv, rfl, hl⟩ := h
  obtain ⟨adr, capr, elv, _⟩ := hl.slice
  obtain ⟨nr, hnr⟩ : ∃ nr, Hid (nr = R.length) := ⟨_, rfl⟩
  rw [← hnr.out] at elv
  subst elv
  have HV : Hid (VA W [.int .i64 k, .slice a n cap, .float .f64 x] q) := hv
  obtain ⟨O, hO⟩ : ∃ O, pAt R col 1099511627776 = O := ⟨_, rfl⟩
  rw [hO] at hN
  unfold cHolds
  rw [hO]
  obtain ⟨w1, hw1⟩ : ∃ w1, (w.alloc (.cells #[.slice adr nr capr] 25)).alloc (.cells #[.bool has, .bool want, .string col, .int .i64 k, .slice a n cap, .float .f64 x] 56) = w1 := ⟨_, rfl⟩
  obtain ⟨b1, b2, bm⟩ := boxes (Moves.refl [] ((w.alloc (.cells #[.slice adr nr capr] 25)).alloc (.cells #[.bool has, .bool want, .string col, .int .i64 k, .slice a n cap, .float .f64 x] 56)))
  rw [hw1] at b1 b2 bm
  have hm := m.then bm
  obtain ⟨r0, _⟩ := one_cell b1
  obtain ⟨x0, x1, x2, x3, x4, x5⟩ := six_cells b2
  clear hl hv m hO
  cases has with
  | false =>
    have hB := fun w1 => condByte_w w1 false want col k a n cap x 0 (.inl ⟨rfl, rfl⟩)
    rw [if_neg (by simp)]
    go_enter Try.func18, Try.ntmps18
    go_wp2_with (first | (go_at_call 35; refine (hN _ hm).mono ?_; rintro _ w2 ⟨k2, ad2, n2, cap2, v2, rfl, hV2, m2⟩; (try have HV2 : Hid (VC w2 [.int .i64 k2, .slice ad2 n2 cap2, .float .f64 v2] p) := hV2); clear hV2; have mv : Moves [] w2 (w2.alloc (.cells #[.int .i64 k2, .slice ad2 n2 cap2, .float .f64 v2] 35)) := (Moves.refl _ _).alloc _; have M2 := m2.then mv; obtain ⟨vv0, vv1, vv2, _⟩ := three_cells (heap_alloc_new w2 (.cells #[.int .i64 k2, .slice ad2 n2 cap2, .float .f64 v2] 35)); have u0 := M2.cell x0; have u1 := M2.cell x1; have u2 := M2.cell x2; have u3 := M2.cell x3; have u4 := M2.cell x4; have u5 := M2.cell x5) | (go_at_call 36; refine (hB _).mono ?_; rintro _ w3 ⟨rfl, m3⟩; have y3 := m3.cell u3; have y4 := m3.cell u4; have y5 := m3.cell u5; have z0 := m3.cell vv0; have z1 := m3.cell vv1; have z2 := m3.cell vv2))
    go_ret
    exact ⟨rfl, bm.then (M2.then m3)⟩
  | true =>
    rw [if_pos rfl]
    cases want with
    | false =>
      have hB := fun w1 => condByte_w w1 true false col k a n cap x 1 (.inr (.inl ⟨rfl, rfl, rfl⟩))
      rw [if_neg (by simp)]
      cases O with
      | none =>
        go_enter Try.func18, Try.ntmps18
        go_wp2_with (first | (go_at_call 35; refine (hN _ hm).mono ?_; rintro _ w2 ⟨k2, ad2, n2, cap2, v2, rfl, hV2, m2⟩; (try have HV2 : Hid (VC w2 [.int .i64 k2, .slice ad2 n2 cap2, .float .f64 v2] p) := hV2); clear hV2; have mv : Moves [] w2 (w2.alloc (.cells #[.int .i64 k2, .slice ad2 n2 cap2, .float .f64 v2] 35)) := (Moves.refl _ _).alloc _; have M2 := m2.then mv; obtain ⟨vv0, vv1, vv2, _⟩ := three_cells (heap_alloc_new w2 (.cells #[.int .i64 k2, .slice ad2 n2 cap2, .float .f64 v2] 35)); have u0 := M2.cell x0; have u1 := M2.cell x1; have u2 := M2.cell x2; have u3 := M2.cell x3; have u4 := M2.cell x4; have u5 := M2.cell x5) | (go_at_call 36; refine (hB _).mono ?_; rintro _ w3 ⟨rfl, m3⟩; have y3 := m3.cell u3; have y4 := m3.cell u4; have y5 := m3.cell u5; have z0 := m3.cell vv0; have z1 := m3.cell vv1; have z2 := m3.cell vv2))
        go_ret
        exact ⟨rfl, bm.then (M2.then m3)⟩
      | some p =>
        go_enter Try.func18, Try.ntmps18
        go_wp2_with (first | (go_at_call 35; refine (hN _ hm).mono ?_; rintro _ w2 ⟨k2, ad2, n2, cap2, v2, rfl, hV2, m2⟩; (try have HV2 : Hid (VC w2 [.int .i64 k2, .slice ad2 n2 cap2, .float .f64 v2] p) := hV2); clear hV2; have mv : Moves [] w2 (w2.alloc (.cells #[.int .i64 k2, .slice ad2 n2 cap2, .float .f64 v2] 35)) := (Moves.refl _ _).alloc _; have M2 := m2.then mv; obtain ⟨vv0, vv1, vv2, _⟩ := three_cells (heap_alloc_new w2 (.cells #[.int .i64 k2, .slice ad2 n2 cap2, .float .f64 v2] 35)); have u0 := M2.cell x0; have u1 := M2.cell x1; have u2 := M2.cell x2; have u3 := M2.cell x3; have u4 := M2.cell x4; have u5 := M2.cell x5) | (go_at_call 36; refine (hB _).mono ?_; rintro _ w3 ⟨rfl, m3⟩; have y3 := m3.cell u3; have y4 := m3.cell u4; have y5 := m3.cell u5; have z0 := m3.cell vv0; have z1 := m3.cell vv1; have z2 := m3.cell vv2))
        go_ret
        exact ⟨rfl, bm.then (M2.then m3)⟩
    | true =>
      have hB := fun w1 => condByte_w w1 true true col k a n cap x 2 (.inr (.inr ⟨rfl, rfl, rfl⟩))
      rw [if_pos rfl]
      cases O with
      | none =>
        go_enter Try.func18, Try.ntmps18
        go_wp2_with (first | (go_at_call 35; refine (hN _ hm).mono ?_; rintro _ w2 ⟨k2, ad2, n2, cap2, v2, rfl, hV2, m2⟩; (try have HV2 : Hid (VC w2 [.int .i64 k2, .slice ad2 n2 cap2, .float .f64 v2] p) := hV2); clear hV2; have mv : Moves [] w2 (w2.alloc (.cells #[.int .i64 k2, .slice ad2 n2 cap2, .float .f64 v2] 35)) := (Moves.refl _ _).alloc _; have M2 := m2.then mv; obtain ⟨vv0, vv1, vv2, _⟩ := three_cells (heap_alloc_new w2 (.cells #[.int .i64 k2, .slice ad2 n2 cap2, .float .f64 v2] 35)); have u0 := M2.cell x0; have u1 := M2.cell x1; have u2 := M2.cell x2; have u3 := M2.cell x3; have u4 := M2.cell x4; have u5 := M2.cell x5) | (go_at_call 36; refine (hB _).mono ?_; rintro _ w3 ⟨rfl, m3⟩; have y3 := m3.cell u3; have y4 := m3.cell u4; have y5 := m3.cell u5; have z0 := m3.cell vv0; have z1 := m3.cell vv1; have z2 := m3.cell vv2))
        go_ret
        exact ⟨rfl, bm.then (M2.then m3)⟩
      | some p =>
        go_enter Try.func18, Try.ntmps18
        go_wp2_with (first | (go_at_call 35; refine (hN _ hm).mono ?_; rintro _ w2 ⟨k2, ad2, n2, cap2, v2, rfl, hV2, m2⟩; (try have HV2 : Hid (VC w2 [.int .i64 k2, .slice ad2 n2 cap2, .float .f64 v2] p) := hV2); clear hV2; have mv : Moves [] w2 (w2.alloc (.cells #[.int .i64 k2, .slice ad2 n2 cap2, .float .f64 v2] 35)) := (Moves.refl _ _).alloc _; have M2 := m2.then mv; obtain ⟨vv0, vv1, vv2, _⟩ := three_cells (heap_alloc_new w2 (.cells #[.int .i64 k2, .slice ad2 n2 cap2, .float .f64 v2] 35)); have u0 := M2.cell x0; have u1 := M2.cell x1; have u2 := M2.cell x2; have u3 := M2.cell x3; have u4 := M2.cell x4; have u5 := M2.cell x5) | (go_at_call 36; refine (hB _).mono ?_; rintro _ w3 ⟨rfl, m3⟩; have y3 := m3.cell u3; have y4 := m3.cell u4; have y5 := m3.cell u5; have z0 := m3.cell vv0; have z1 := m3.cell vv1; have z2 := m3.cell vv2) | (go_at_call 37; refine (same_p _ _ _ _ _ _ _ _ _ _ _ _ p q (HV2.out.va.moves (mv.then m3)) (HV.out.moves (hm.then (M2.then m3))) (Moves.refl _ _)).mono ?_; rintro _ w4 ⟨rfl, m4⟩))
        go_ret
        exact ⟨rfl, bm.then ((M2.then m3).then m4)⟩

theorem fits_one : Pl.Fits 4607182418800017408 := by unfold Pl.Fits; omega
theorem fits_two : Pl.Fits 4611686018427387904 := by unfold Pl.Fits; omega
theorem known5_plain : cApplyE [] [⟨5, sA, 5, pnum 4607182418800017408⟩, ⟨5, sA, 6, pnum 4611686018427387904⟩] = 0 ∧ One sA (cApply [] [⟨5, sA, 5, pnum 4607182418800017408⟩, ⟨5, sA, 6, pnum 4611686018427387904⟩]) 6 4613937818241073152 := by
  have hs : pname sA = true := by decide
  have h5 : ptime 5 = true := by decide
  have h6 : ptime 6 = true := by decide
  obtain ⟨a1, a2⟩ := add_first (x := 4607182418800017408) hs h5 fits_one
  obtain ⟨b1, b2⟩ := add_next (x := 4611686018427387904) a2 hs h6 (by decide)
  have hc : Pl.canon 4607182418800017408 = 4607182418800017408 := by decide
  rw [hc, sum_12] at b2
  have hl : cListE [⟨5, sA, 5, pnum 4607182418800017408⟩, ⟨5, sA, 6, pnum 4611686018427387904⟩] = 0 := by
    unfold cListE
    simp [addC_right (x := 4607182418800017408) hs h5, addC_right (x := 4611686018427387904) hs h6]
  have hf : cFold [⟨5, sA, 5, pnum 4607182418800017408⟩, ⟨5, sA, 6, pnum 4611686018427387904⟩] (pcopy []) = (0, cAp (cAp [] ⟨5, sA, 5, pnum 4607182418800017408⟩) ⟨5, sA, 6, pnum 4611686018427387904⟩) := by
    rw [pcopy_nil, cFold_cons, if_pos a1, cFold_cons, if_pos b1, cFold_nil]
  unfold cApplyE cApply
  rw [if_pos hl, if_pos hl, hf]
  exact ⟨rfl, b2⟩
theorem known5_bad : cApplyE [] [⟨1, ⟨#[]⟩, 5, pnum 4607182418800017408⟩] = 1 := by
  have hr : cRight ⟨1, ⟨#[]⟩, 5, pnum 4607182418800017408⟩ = 1 := by
    unfold cRight
    rw [if_neg (by simp), if_neg (by simp), if_pos (by decide)]
  have hl : cListE [⟨1, ⟨#[]⟩, 5, pnum 4607182418800017408⟩] = 1 := by unfold cListE; simp [hr]
  unfold cApplyE
  rw [if_neg (by rw [hl]; decide), hl]

set_option maxRecDepth 100000 in
set_option maxHeartbeats 8000000 in
theorem known5_w (w : World) : Calls Try.prog 10 #[] w fun e w' => e = .returned (.bool true) ∧ Moves [] w w' := by
  obtain ⟨k1, k2⟩ := known5_plain
  have k3 := k2.right (show pname sA = true by decide)
  have k4 := k2.newest (show pname sA = true by decide)
  have k5 := known5_bad
  obtain ⟨R1, hR1⟩ : ∃ R1, cApply [] [⟨5, sA, 5, pnum 4607182418800017408⟩, ⟨5, sA, 6, pnum 4611686018427387904⟩] = R1 := ⟨_, rfl⟩
  rw [hR1] at k3 k4
  have HK3 : Hid (pright R1 = true) := k3
  have hA1 := fun (wa : World) => cApply_w _ _ (.agg #[.slice none 0 0]) [] (some ⟨wa.heap.size, 0, none⟩) 2 2 _ (RowAt.nil _) (chgs_two wa ⟨5, sA, 5, pnum 4607182418800017408⟩ ⟨5, sA, 6, pnum 4611686018427387904⟩ none none 0 0 0 0 (VC.num _ fits_one).va (VC.num _ fits_two).va) rfl (by decide) (Moves.refl _ _)
  rw [k1, hR1] at hA1
  have hA2 := fun (wa : World) => cApply_w _ _ (.agg #[.slice none 0 0]) [] (some ⟨wa.heap.size, 0, none⟩) 1 1 _ (RowAt.nil _) (chgs_one wa ⟨1, ⟨#[]⟩, 5, pnum 4607182418800017408⟩ none 0 0 (VC.num _ fits_one).va) rfl (by decide) (Moves.refl _ _)
  rw [k5] at hA2
  have hN := fun w1 v (h : RowAt w1 v R1) => refNewest_yes w1 w1 v R1 sA h (Moves.refl _ _) HK3.out
  rw [k4] at hN
  have hH := fun w1 => cHolds_w w1 w1 (.agg #[.slice none 0 0]) [] true false sA 0 none 0 0 0 ⟨0, [], 0⟩ (RowAt.nil _) ⟨none, 0, 0, 0, rfl, isB_nil _ _, fits_zero, by simp, by simp⟩ (Moves.refl _ _)
  have hHt : cHolds [] true false sA ⟨0, [], 0⟩ = true := by
    unfold cHolds
    rw [pAt_nil]
    rfl
  rw [hHt] at hH
  clear k1 k2 k3 k4 k5 hR1 hHt
  go_enter Try.func10, Try.ntmps10
  go_wp2_with (first | (go_at_call 11; have qq := m2; refine (num5_w _ _).mono ?_; rintro _ w3 ⟨rfl, m3⟩) | (go_at_call 11; have qq := m1; refine (num5_w _ _).mono ?_; rintro _ w2 ⟨rfl, m2⟩) | (go_at_call 11; refine (num5_w _ _).mono ?_; rintro _ w1 ⟨rfl, m1⟩))
  refine (hA1 w2).mono ?_
  rintro _ w4 ⟨ad4, n4, cap4, rfl, hc4, m4⟩
  have HC4 : Hid (RowAt w4 (.agg #[.slice ad4 n4 cap4]) R1) := ⟨_, rfl, hc4⟩
  have mx4 : Moves [] w4 (w4.alloc (.cells #[.slice ad4 n4 cap4] 25)) := (Moves.refl _ _).alloc _
  have M4 : Hid (Moves [] w (w4.alloc (.cells #[.slice ad4 n4 cap4] 25))) := ((m1.then m2).alloc _).then (m4.then mx4)
  clear hc4 hA1 m1 m2 m4
  go_wp2_with (first | (go_at_call 15; refine (hN _ _ (HC4.out.moves mx4)).mono ?_; rintro _ w5 ⟨k5, ad5, n5, cap5, x5, rfl, hV5, m5⟩; obtain ⟨_, _, _, g5, e5, _⟩ := hV5; simp only [Option.getD_some, pnum, List.cons.injEq, Value.int.injEq, Value.float.injEq, true_and, and_true] at e5; obtain ⟨rfl, _, rfl⟩ := e5; have mx5 : Moves [] w5 (w5.alloc (.cells #[.int .i64 2, .slice ad5 n5 cap5, .float .f64 4613937818241073152] 35)) := (Moves.refl _ _).alloc _; obtain ⟨_, _, vb2, _⟩ := three_cells (heap_alloc_new w5 (.cells #[.int .i64 2, .slice ad5 n5 cap5, .float .f64 4613937818241073152] 35))) | (go_at_call 11; refine (num5_w _ _).mono ?_; rintro _ w6 ⟨rfl, m6⟩))
  refine (hA2 w6).mono ?_
  rintro _ w7 ⟨ad7, n7, cap7, rfl, _, m7⟩
  have mch : Moves [] w6 (w6.alloc (.cells #[.int .i64 1, .string ⟨#[]⟩, .int .i64 5, .int .i64 2, .slice none 0 0, .float .f64 4607182418800017408] 37)) := (Moves.refl _ _).alloc _
  have mx7 : Moves [] w7 (w7.alloc (.cells #[.slice ad7 n7 cap7] 25)) := (Moves.refl _ _).alloc _
  have M7 := m6.then ((mch.then m7).then mx7)
  have vb7 := M7.cell vb2
  clear hA2 hN
  go_wp2_with (go_at_call 18; refine (hH _).mono ?_; rintro _ w8 ⟨rfl, m8⟩)
  go_ret
  exact ⟨rfl, ((M4.out.then (m5.then mx5)).then M7).then m8⟩
end Go.Proofs.Ytfegflimnngfaab
