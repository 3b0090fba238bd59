/-
  Package change: add, apply, Apply.
-/
import Derived.Test.YtfegflimnngfaabCChg1
import Derived.Test.YtfegflimnngfaabCRow12
namespace Go.Proofs.Ytfegflimnngfaab
open Go.RowKit

set_option maxRecDepth 100000 in
set_option maxHeartbeats 8000000 in
theorem cAdd_w (W w : World) (v : Value) (R : List Pcol) (c : Pchg) (a : Option Addr) (n cap : Nat) (h : RowAt W v R) (hv : VA W [.int .i64 c.v.kind, .slice a n cap, .float .f64 c.v.n] c.v) (m : Moves [] W w) :
    Calls Try.prog 50 #[v, .agg #[.int .i64 c.kind, .string c.col, .int .i64 c.t, .int .i64 c.v.kind, .slice a n cap, .float .f64 c.v.n]] w fun e w' => ∃ ad n cap, e = .returned (.tuple #[.agg #[.slice ad n cap], .int .i64 (cAddE R c)]) ∧ ColsAt w' (.slice ad n cap) (cAdd R c) ∧ Moves [] w w' := by
  have hN := fun w1 (m1 : Moves [] W w1) => newest_w W w1 v R c.col h m1
  obtain ⟨lv, rfl, hl⟩ := h
  obtain ⟨adr, capr, elv, _⟩ := hl.slice
  obtain ⟨nr, hnr⟩ : ∃ nr, Hid (nr = R.length) := ⟨_, rfl⟩
  rw [← hnr.out] at elv
  subst elv
  obtain ⟨E, hE⟩ : ∃ E, Hid (cAddE R c = E) := ⟨_, rfl⟩
  obtain ⟨P, hP⟩ : ∃ P, Hid (cAdd R c = P) := ⟨_, rfl⟩
  rw [hE.out, hP.out]
  have HR : Hid (RowAt W (.agg #[.slice adr nr capr]) R) := ⟨_, rfl, hl⟩
  have HV : Hid (VA W [.int .i64 c.v.kind, .slice a n cap, .float .f64 c.v.n] c.v) := hv
  obtain ⟨w1, hw1⟩ : ∃ w1, ((w.alloc (.cells #[.slice adr nr capr] 25)).alloc (.cells #[.int .i64 c.kind, .string c.col, .int .i64 c.t, .int .i64 c.v.kind, .slice a n cap, .float .f64 c.v.n] 37)).alloc (.cells #[.slice none 0 0] 25) = w1 := ⟨_, rfl⟩
  obtain ⟨b1, b2, b3, bm⟩ := boxes3 (Moves.refl [] (((w.alloc (.cells #[.slice adr nr capr] 25)).alloc (.cells #[.int .i64 c.kind, .string c.col, .int .i64 c.t, .int .i64 c.v.kind, .slice a n cap, .float .f64 c.v.n] 37)).alloc (.cells #[.slice none 0 0] 25)))
  rw [hw1] at b1 b2 b3 bm
  have hm := m.then bm
  obtain ⟨r0, _⟩ := one_cell b1
  obtain ⟨x0, x1, x2, x3, x4, x5⟩ := six_cells b2
  obtain ⟨z0, z1⟩ := one_cell b3
  clear hl hv m
  obtain ⟨q, hq⟩ : ∃ q, cOld R c.col = q := ⟨_, rfl⟩
  have HQ : Hid (cOld R c.col = q) := hq
  obtain ⟨O, hO⟩ : ∃ O, pAt R c.col 1099511627776 = O := ⟨_, rfl⟩
  have hq2 := hq
  unfold cOld at hq2
  rw [hO] at hN hq2
  clear hq
  cases O with
  | none =>
    simp only [Option.getD_none] at hq2
    go_enter Try.func50, Try.ntmps50
    go_wp2_with fail
    clear hw1
    go_wp2_with (first | (go_at_call 35; refine (hN _ hm).mono ?_; rintro _ w2 ⟨k2, ad2, n2, cap2, v2, rfl, hV2, m2⟩; have HV2 : Hid (VC w2 [.int .i64 k2, .slice ad2 n2 cap2, .float .f64 v2] ⟨0, [], 0⟩) := hV2; clear hV2; have mv : Moves [] w2 (w2.alloc (.cells #[.int .i64 k2, .slice ad2 n2 cap2, .float .f64 v2] 35)) := (Moves.refl _ _).alloc _; have M2 := m2.then mv; have hvb := heap_alloc_new w2 (.cells #[.int .i64 k2, .slice ad2 n2 cap2, .float .f64 v2] 35); obtain ⟨vv0, vv1, vv2, vf0, vf1, vf2⟩ := three_cells hvb; have u0 := M2.cell r0; have u1 := M2.cell x1; have u2 := M2.cell x2; have u3 := M2.cell x3; have u4 := M2.cell x4; have u5 := M2.cell x5) | (go_at_call 75; refine (noNumber_w _).mono ?_; rintro _ w3 ⟨rfl, m3⟩; have c3 := m3.at hvb (by simp); obtain ⟨i0, i1, i2, j0, j1, j2⟩ := three_cells c3; obtain ⟨st1, st2, st3⟩ := stored3 c3 (M2.then m3) m2.size (.int .i64 2) (.slice none 0 0) (.float .f64 9223372036854775808); obtain ⟨t0, t1, t2, _, _, _⟩ := three_cells st1; have y3 := st2.cell x3; have y4 := st2.cell x4; have y5 := st2.cell x5))
    obtain ⟨wc, hwc⟩ : ∃ wc, ((w3.setCell ⟨w2.heap.size, 0, none⟩ (.int .i64 2)).setCell ⟨w2.heap.size, 1, none⟩ (.slice none 0 0)).setCell ⟨w2.heap.size, 2, none⟩ (.float .f64 9223372036854775808) = wc := ⟨_, rfl⟩
    rw [hwc] at st2 ⊢
    have HQV : Hid (VC wc [.int .i64 2, .slice none 0 0, .float .f64 9223372036854775808] q) := by unfold Hid; rw [← hq2]; exact VC.negZ wc
    clear hwc hq2 st1 st3 t0 t1 t2 y3 y4 y5 c3 i0 i1 i2 j0 j1 j2 m3 HV2 M2 m2 mv hvb vv0 vv1 vv2 vf0 vf1 vf2 u0 u1 u2 u3 u4 u5 hN
    obtain ⟨SE, hSE⟩ : ∃ SE, pPlusE q c.v = SE := ⟨_, rfl⟩
    have HSE : Hid (pPlusE q c.v = SE) := hSE
    have hEq := hE.out
    have hPq := hP.out
    unfold cAddE at hEq
    unfold cAdd at hPq
    rw [HQ.out, hSE] at hEq hPq
    clear hSE
    by_cases hS0 : SE = 0
    · rw [if_pos hS0] at hEq hPq
      subst hS0
      have HPE : Hid (pPutE R c.col c.t (pPlus q c.v) = E) := hEq
      have HPP : Hid (pPut R c.col c.t (pPlus q c.v) = P) := hPq
      clear hEq hPq
      go_wp2_with (first | (go_at_call 76; refine (plus_p wc _ _ _ _ _ _ _ _ _ _ _ q c.v HQV.out.va (HV.out.moves (hm.then st2)) (Moves.refl _ _)).mono ?_; rintro _ w5 ⟨rfl, hS5, m5⟩; rw [HSE.out]; have HS5 : Hid (VC w5 [.int .i64 (pPlus q c.v).kind, .slice none 0 0, .float .f64 (pPlus q c.v).n] (pPlus q c.v)) := hS5; clear hS5; have mx : Moves [] w5 (w5.alloc (.cells #[.int .i64 (pPlus q c.v).kind, .slice none 0 0, .float .f64 (pPlus q c.v).n] 35)) := (Moves.refl _ _).alloc _; have M5 := (st2).then (m5.then mx); have s0 := M5.cell r0; have s1 := M5.cell x1; have s2 := M5.cell x2; have sz := M5.at b3 (by simp); obtain ⟨sz0, sz1⟩ := one_cell sz; obtain ⟨sv0, sv1, sv2, _⟩ := three_cells (heap_alloc_new w5 (.cells #[.int .i64 (pPlus q c.v).kind, .slice none 0 0, .float .f64 (pPlus q c.v).n] 35))) | (go_at_call 47; refine (rput_w (w5.alloc (.cells #[.int .i64 (pPlus q c.v).kind, .slice none 0 0, .float .f64 (pPlus q c.v).n] 35)) _ _ R c.col c.t _ _ _ _ _ (pPlus q c.v) (HR.out.moves (hm.then M5)) (HS5.out.va.moves mx) (Moves.refl _ _)).mono ?_; rintro _ w7 ⟨ad7, n7, cap7, rfl, hc7, m7⟩; rw [HPE.out]; have q7 := (M5.then m7).at b3 (by simp); obtain ⟨y0, y1⟩ := one_cell q7))
      try simp only [Exit.inBlock, Exit.then]
      rw [HPP.out] at hc7
      obtain ⟨_, er, hcols⟩ := RowAt.setRow ⟨_, rfl, hc7⟩ q7 (.slice ad7 n7 cap7)
      simp only [Value.agg.injEq, Array.mk.injEq, List.cons.injEq, and_true] at er
      subst er
      exact bodyPost_ret (ret_row2 rfl _ _ _ _ rfl (set_one q7 _)) rfl ⟨_, _, _, rfl, hcols, (bm.then (M5.then m7)).setCell (.inr (by show _ ≤ _ + 1 + 1; omega)) _⟩
    · rw [if_neg hS0] at hEq hPq
      subst hEq hPq
      go_wp2_with (go_at_call 76; refine (plus_p wc _ _ _ _ _ _ _ _ _ _ _ q c.v HQV.out.va (HV.out.moves (hm.then st2)) (Moves.refl _ _)).mono ?_; rintro _ w5 ⟨rfl, hS5, m5⟩; rw [HSE.out]; have HS5 : Hid (VC w5 [.int .i64 (pPlus q c.v).kind, .slice none 0 0, .float .f64 (pPlus q c.v).n] (pPlus q c.v)) := hS5; clear hS5; have mx : Moves [] w5 (w5.alloc (.cells #[.int .i64 (pPlus q c.v).kind, .slice none 0 0, .float .f64 (pPlus q c.v).n] 35)) := (Moves.refl _ _).alloc _; have M5 := (st2).then (m5.then mx); have s0 := M5.cell r0; have s1 := M5.cell x1; have s2 := M5.cell x2; have sz := M5.at b3 (by simp); obtain ⟨sz0, sz1⟩ := one_cell sz; obtain ⟨sv0, sv1, sv2, _⟩ := three_cells (heap_alloc_new w5 (.cells #[.int .i64 (pPlus q c.v).kind, .slice none 0 0, .float .f64 (pPlus q c.v).n] 35)))
      try simp only [Exit.inBlock, Exit.then]
      exact bodyPost_ret (ret_row2 rfl _ _ _ _ rfl (set_one sz _)) rfl ⟨_, _, _, rfl, ColsAt.nil _, (bm.then M5).setCell (.inr (by show _ ≤ _ + 1 + 1; omega)) _⟩
  | some p =>
    simp only [Option.getD_some] at hq2
    subst hq2
    go_enter Try.func50, Try.ntmps50
    go_wp2_with fail
    clear hw1
    go_wp2_with (go_at_call 35; refine (hN _ hm).mono ?_; rintro _ w2 ⟨k2, ad2, n2, cap2, v2, rfl, hV2, m2⟩; have HV2 : Hid (VC w2 [.int .i64 k2, .slice ad2 n2 cap2, .float .f64 v2] p) := hV2; clear hV2; have mv : Moves [] w2 (w2.alloc (.cells #[.int .i64 k2, .slice ad2 n2 cap2, .float .f64 v2] 35)) := (Moves.refl _ _).alloc _; have M2 := m2.then mv; have hvb := heap_alloc_new w2 (.cells #[.int .i64 k2, .slice ad2 n2 cap2, .float .f64 v2] 35); obtain ⟨vv0, vv1, vv2, vf0, vf1, vf2⟩ := three_cells hvb; have u0 := M2.cell r0; have u1 := M2.cell x1; have u2 := M2.cell x2; have u3 := M2.cell x3; have u4 := M2.cell x4; have u5 := M2.cell x5)
    obtain ⟨wc, hwc⟩ : ∃ wc, w2.alloc (.cells #[.int .i64 k2, .slice ad2 n2 cap2, .float .f64 v2] 35) = wc := ⟨_, rfl⟩
    rw [hwc] at M2 mv ⊢
    have HQV : Hid (VC wc [.int .i64 k2, .slice ad2 n2 cap2, .float .f64 v2] p) := HV2.out.moves mv
    have st2 := M2
    clear hwc HV2 M2 m2 mv hvb vv0 vv1 vv2 vf0 vf1 vf2 u0 u1 u2 u3 u4 u5 hN
    obtain ⟨SE, hSE⟩ : ∃ SE, pPlusE p c.v = SE := ⟨_, rfl⟩
    have HSE : Hid (pPlusE p c.v = SE) := hSE
    have hEq := hE.out
    have hPq := hP.out
    unfold cAddE at hEq
    unfold cAdd at hPq
    rw [HQ.out, hSE] at hEq hPq
    clear hSE
    by_cases hS0 : SE = 0
    · rw [if_pos hS0] at hEq hPq
      subst hS0
      have HPE : Hid (pPutE R c.col c.t (pPlus p c.v) = E) := hEq
      have HPP : Hid (pPut R c.col c.t (pPlus p c.v) = P) := hPq
      clear hEq hPq
      go_wp2_with (first | (go_at_call 76; refine (plus_p wc _ _ _ _ _ _ _ _ _ _ _ p c.v HQV.out.va (HV.out.moves (hm.then st2)) (Moves.refl _ _)).mono ?_; rintro _ w5 ⟨rfl, hS5, m5⟩; rw [HSE.out]; have HS5 : Hid (VC w5 [.int .i64 (pPlus p c.v).kind, .slice none 0 0, .float .f64 (pPlus p c.v).n] (pPlus p c.v)) := hS5; clear hS5; have mx : Moves [] w5 (w5.alloc (.cells #[.int .i64 (pPlus p c.v).kind, .slice none 0 0, .float .f64 (pPlus p c.v).n] 35)) := (Moves.refl _ _).alloc _; have M5 := (st2).then (m5.then mx); have s0 := M5.cell r0; have s1 := M5.cell x1; have s2 := M5.cell x2; have sz := M5.at b3 (by simp); obtain ⟨sz0, sz1⟩ := one_cell sz; obtain ⟨sv0, sv1, sv2, _⟩ := three_cells (heap_alloc_new w5 (.cells #[.int .i64 (pPlus p c.v).kind, .slice none 0 0, .float .f64 (pPlus p c.v).n] 35))) | (go_at_call 47; refine (rput_w (w5.alloc (.cells #[.int .i64 (pPlus p c.v).kind, .slice none 0 0, .float .f64 (pPlus p c.v).n] 35)) _ _ R c.col c.t _ _ _ _ _ (pPlus p c.v) (HR.out.moves (hm.then M5)) (HS5.out.va.moves mx) (Moves.refl _ _)).mono ?_; rintro _ w7 ⟨ad7, n7, cap7, rfl, hc7, m7⟩; rw [HPE.out]; have q7 := (M5.then m7).at b3 (by simp); obtain ⟨y0, y1⟩ := one_cell q7))
      try simp only [Exit.inBlock, Exit.then]
      rw [HPP.out] at hc7
      obtain ⟨_, er, hcols⟩ := RowAt.setRow ⟨_, rfl, hc7⟩ q7 (.slice ad7 n7 cap7)
      simp only [Value.agg.injEq, Array.mk.injEq, List.cons.injEq, and_true] at er
      subst er
      exact bodyPost_ret (ret_row2 rfl _ _ _ _ rfl (set_one q7 _)) rfl ⟨_, _, _, rfl, hcols, (bm.then (M5.then m7)).setCell (.inr (by show _ ≤ _ + 1 + 1; omega)) _⟩
    · rw [if_neg hS0] at hEq hPq
      subst hEq hPq
      go_wp2_with (go_at_call 76; refine (plus_p wc _ _ _ _ _ _ _ _ _ _ _ p c.v HQV.out.va (HV.out.moves (hm.then st2)) (Moves.refl _ _)).mono ?_; rintro _ w5 ⟨rfl, hS5, m5⟩; rw [HSE.out]; have HS5 : Hid (VC w5 [.int .i64 (pPlus p c.v).kind, .slice none 0 0, .float .f64 (pPlus p c.v).n] (pPlus p c.v)) := hS5; clear hS5; have mx : Moves [] w5 (w5.alloc (.cells #[.int .i64 (pPlus p c.v).kind, .slice none 0 0, .float .f64 (pPlus p c.v).n] 35)) := (Moves.refl _ _).alloc _; have M5 := (st2).then (m5.then mx); have s0 := M5.cell r0; have s1 := M5.cell x1; have s2 := M5.cell x2; have sz := M5.at b3 (by simp); obtain ⟨sz0, sz1⟩ := one_cell sz; obtain ⟨sv0, sv1, sv2, _⟩ := three_cells (heap_alloc_new w5 (.cells #[.int .i64 (pPlus p c.v).kind, .slice none 0 0, .float .f64 (pPlus p c.v).n] 35)))
      try simp only [Exit.inBlock, Exit.then]
      exact bodyPost_ret (ret_row2 rfl _ _ _ _ rfl (set_one sz _)) rfl ⟨_, _, _, rfl, ColsAt.nil _, (bm.then M5).setCell (.inr (by show _ ≤ _ + 1 + 1; omega)) _⟩

set_option maxRecDepth 100000 in
set_option maxHeartbeats 8000000 in
theorem cApply1_w (W w : World) (v : Value) (R : List Pcol) (c : Pchg) (a : Option Addr) (n cap : Nat) (h : RowAt W v R) (hv : VA W [.int .i64 c.v.kind, .slice a n cap, .float .f64 c.v.n] c.v) (m : Moves [] W w) (hk : 1 ≤ c.kind ∧ c.kind ≤ 5) :
    Calls Try.prog 23 #[v, .agg #[.int .i64 c.kind, .string c.col, .int .i64 c.t, .int .i64 c.v.kind, .slice a n cap, .float .f64 c.v.n]] w fun e w' => ∃ ad n cap, e = .returned (.tuple #[.agg #[.slice ad n cap], .int .i64 (cApE R c)]) ∧ ColsAt w' (.slice ad n cap) (cAp R c) ∧ Moves [] w w' := by
  have hP1 := fun w1 (m1 : Moves [] W w1) => rput_w W w1 v R c.col c.t c.v.kind a n cap c.v.n c.v h hv m1
  have hP2 := fun w1 (m1 : Moves [] W w1) => drop2_w W w1 v R c.col c.t h m1
  have hP3 := fun w1 (m1 : Moves [] W w1) => dropCol_w W w1 v R c.col h m1
  have hP5 := fun w1 (m1 : Moves [] W w1) => cAdd_w W w1 v R c a n cap h hv m1
  obtain ⟨lv, rfl, hl⟩ := h
  obtain ⟨adr, capr, elv, _⟩ := hl.slice
  obtain ⟨nr, hnr⟩ : ∃ nr, Hid (nr = R.length) := ⟨_, rfl⟩
  rw [← hnr.out] at elv
  subst elv
  obtain ⟨E, hE⟩ : ∃ E, Hid (cApE R c = E) := ⟨_, rfl⟩
  obtain ⟨P, hP⟩ : ∃ P, Hid (cAp R c = P) := ⟨_, rfl⟩
  rw [hE.out, hP.out]
  have HR : Hid (RowAt W (.agg #[.slice adr nr capr]) R) := ⟨_, rfl, hl⟩
  have HV : Hid (VA W [.int .i64 c.v.kind, .slice a n cap, .float .f64 c.v.n] c.v) := hv
  obtain ⟨w1, hw1⟩ : ∃ w1, ((w.alloc (.cells #[.slice adr nr capr] 25)).alloc (.cells #[.int .i64 c.kind, .string c.col, .int .i64 c.t, .int .i64 c.v.kind, .slice a n cap, .float .f64 c.v.n] 37)).alloc (.cells #[.slice none 0 0] 25) = w1 := ⟨_, rfl⟩
  obtain ⟨b1, b2, b3, bm⟩ := boxes3 (Moves.refl [] (((w.alloc (.cells #[.slice adr nr capr] 25)).alloc (.cells #[.int .i64 c.kind, .string c.col, .int .i64 c.t, .int .i64 c.v.kind, .slice a n cap, .float .f64 c.v.n] 37)).alloc (.cells #[.slice none 0 0] 25)))
  rw [hw1] at b1 b2 b3 bm
  have hm := m.then bm
  obtain ⟨r0, _⟩ := one_cell b1
  obtain ⟨x0, x1, x2, x3, x4, x5⟩ := six_cells b2
  obtain ⟨z0, z1⟩ := one_cell b3
  clear hl hv m
  have hways : c.kind = 1 ∨ c.kind = 2 ∨ c.kind = 3 ∨ c.kind = 4 ∨ c.kind = 5 := by omega
  have hEq := hE.out
  have hPq := hP.out
  unfold cApE at hEq
  unfold cAp at hPq
  clear hk
  rcases hways with hk | hk | hk | hk | hk
  · rw [if_pos hk] at hEq hPq
    have HE : Hid (pPutE R c.col c.t c.v = E) := hEq
    have HP : Hid (pPut R c.col c.t c.v = P) := hPq
    clear hEq hPq
    rw [hk] at hw1 x0 ⊢
    clear hk
    go_enter Try.func23, Try.ntmps23
    go_wp2_with (go_at_call 47; refine (hP1 _ hm).mono ?_; rintro _ w7 ⟨ad7, n7, cap7, rfl, hc7, m7⟩; rw [HE.out]; have q7 := m7.at b3 (by simp); obtain ⟨y0, y1⟩ := one_cell q7)
    try simp only [Exit.inBlock, Exit.then]
    rw [HP.out] at hc7
    obtain ⟨_, er, hcols⟩ := RowAt.setRow ⟨_, rfl, hc7⟩ q7 (.slice ad7 n7 cap7)
    simp only [Value.agg.injEq, Array.mk.injEq, List.cons.injEq, and_true] at er
    subst er
    exact bodyPost_ret (ret_row2 rfl _ _ _ _ rfl (set_one q7 _)) rfl ⟨_, _, _, rfl, hcols, (bm.then m7).setCell (.inr (by show _ ≤ _ + 1 + 1; omega)) _⟩
  · rw [if_neg (by omega), if_neg (by omega)] at hEq
    rw [if_neg (by omega), if_pos hk] at hPq
    subst hEq
    have HP : Hid (pDrop R c.col c.t = P) := hPq
    clear hPq
    rw [hk] at hw1 x0 ⊢
    clear hk
    go_enter Try.func23, Try.ntmps23
    go_wp2_with (go_at_call 48; refine (hP2 _ hm).mono ?_; rintro _ w7 ⟨ad7, n7, cap7, rfl, hc7, m7⟩; have q7 := m7.at b3 (by simp); obtain ⟨y0, y1⟩ := one_cell q7)
    try simp only [Exit.inBlock, Exit.then]
    rw [HP.out] at hc7
    obtain ⟨_, er, hcols⟩ := RowAt.setRow ⟨_, rfl, hc7⟩ q7 (.slice ad7 n7 cap7)
    simp only [Value.agg.injEq, Array.mk.injEq, List.cons.injEq, and_true] at er
    subst er
    exact bodyPost_ret (ret_row2 rfl _ _ _ _ rfl (set_one q7 _)) rfl ⟨_, _, _, rfl, hcols, (bm.then m7).setCell (.inr (by show _ ≤ _ + 1 + 1; omega)) _⟩
  · rw [if_neg (by omega), if_neg (by omega)] at hEq
    rw [if_neg (by omega), if_neg (by omega), if_pos hk] at hPq
    subst hEq
    have HP : Hid (pDropCol R c.col = P) := hPq
    clear hPq
    rw [hk] at hw1 x0 ⊢
    clear hk
    go_enter Try.func23, Try.ntmps23
    go_wp2_with (go_at_call 49; refine (hP3 _ hm).mono ?_; rintro _ w7 ⟨ad7, n7, cap7, rfl, hc7, m7⟩; have q7 := m7.at b3 (by simp); obtain ⟨y0, y1⟩ := one_cell q7)
    try simp only [Exit.inBlock, Exit.then]
    rw [HP.out] at hc7
    obtain ⟨_, er, hcols⟩ := RowAt.setRow ⟨_, rfl, hc7⟩ q7 (.slice ad7 n7 cap7)
    simp only [Value.agg.injEq, Array.mk.injEq, List.cons.injEq, and_true] at er
    subst er
    exact bodyPost_ret (ret_row2 rfl _ _ _ _ rfl (set_one q7 _)) rfl ⟨_, _, _, rfl, hcols, (bm.then m7).setCell (.inr (by show _ ≤ _ + 1 + 1; omega)) _⟩
  · rw [if_neg (by omega), if_neg (by omega)] at hEq
    rw [if_neg (by omega), if_neg (by omega), if_neg (by omega), if_neg (by omega)] at hPq
    subst hEq hPq
    rw [hk] at hw1 x0 ⊢
    clear hk
    go_enter Try.func23, Try.ntmps23
    go_wp2_with fail
    try simp only [Exit.inBlock, Exit.then]
    exact bodyPost_ret (ret_row2 rfl _ _ _ _ rfl (set_one b3 _)) rfl ⟨_, _, _, rfl, ColsAt.nil _, bm.setCell (.inr (by show _ ≤ _ + 1 + 1; omega)) _⟩
  · rw [if_neg (by omega), if_pos hk] at hEq
    rw [if_neg (by omega), if_neg (by omega), if_neg (by omega), if_pos hk] at hPq
    have HE : Hid (cAddE R c = E) := hEq
    have HP : Hid (cAdd R c = P) := hPq
    clear hEq hPq
    rw [hk] at hP5 hw1 x0 ⊢
    clear hk
    go_enter Try.func23, Try.ntmps23
    go_wp2_with (go_at_call 50; refine (hP5 _ hm).mono ?_; rintro _ w7 ⟨ad7, n7, cap7, rfl, hc7, m7⟩; rw [HE.out]; have q7 := m7.at b3 (by simp); obtain ⟨y0, y1⟩ := one_cell q7)
    try simp only [Exit.inBlock, Exit.then]
    rw [HP.out] at hc7
    obtain ⟨_, er, hcols⟩ := RowAt.setRow ⟨_, rfl, hc7⟩ q7 (.slice ad7 n7 cap7)
    simp only [Value.agg.injEq, Array.mk.injEq, List.cons.injEq, and_true] at er
    subst er
    exact bodyPost_ret (ret_row2 rfl _ _ _ _ rfl (set_one q7 _)) rfl ⟨_, _, _, rfl, hcols, (bm.then m7).setCell (.inr (by show _ ≤ _ + 1 + 1; omega)) _⟩
end Go.Proofs.Ytfegflimnngfaab
