/-
  The law's own list of values: sixteen, each of few bytes, in a row of the call's own.
-/
import Derived.Test.YthgoedifkabadaaSome2
import Derived.Test.YthgoedifkabadaaRf3c
namespace Go.Proofs.Ythgoedifkabadaa
open Go.RowKit

set_option maxRecDepth 100000 in
set_option maxHeartbeats 4000000 in
theorem some_w (w : World) : Calls Try.prog 7 #[] w fun e w' => ∃ v, e = .returned v ∧ LGood w 16 w' v ∧ Moves [] w w' := by
  go_enter Try.func7, Try.ntmps7
  go_wp2_with fail
  refine region_ssaQ (by kernel_rfl) (fun i => if i = 14 then 1 else i + 3) [1, 3, 4, 5, 6, 7, 8, 9, 10, 11, 12, 13, 14, 15, 16] (SF w) (Kept w) (by kernel_rfl) ?_ ?_ ?_ (Kept.ofMoves (Moves.refl [] w).drew) (fun _ _ _ => Kept.trans) (fun i _ _ _ h k => SF.kept k i h) ?_ ?_
  · intro i hi
    have hi : i < 15 := hi
    show _ < 28
    try dsimp only
    split <;> omega
  · intro i j hi hj hne
    have hi : i < 15 := hi
    have hj : j < 15 := hj
    try dsimp only
    split <;> split <;> omega
  · intro i hi
    have hi : i < 15 := hi
    match i, hi with
    | 0, _ => decide
    | 1, _ => decide
    | 2, _ => decide
    | 3, _ => decide
    | 4, _ => decide
    | 5, _ => decide
    | 6, _ => decide
    | 7, _ => decide
    | 8, _ => decide
    | 9, _ => decide
    | 10, _ => decide
    | 11, _ => decide
    | 12, _ => decide
    | 13, _ => decide
    | 14, _ => decide
  · intro i hi a u hR hsz hold hF K hK
    have hi : i < 15 := hi
    have kr : Kept w u u := Kept.ofMoves (Moves.refl _ _)
    match i, hi with
    | 0, _ =>
      refine wpOp_of_wp rfl rfl (wp_build' 28 _ rfl [] #[.int .i64 0, .slice none 0 0, .float .f64 0] (by simp [Act.eval]) (by kernel_rfl) ?_)
      exact hK _ _ (VGood.of u 0 _ 0 (by unfold Pl.Fits; omega) (BGood.nil _)) kr
    | 1, _ =>
      refine wpOp_of_wp rfl rfl (wp_build' 28 _ rfl [(0, .int .i64 9), (2, .float .f64 4617315517961601024)] #[.int .i64 9, .slice none 0 0, .float .f64 4617315517961601024] (by simp [Act.eval]) (by kernel_rfl) ?_)
      exact hK _ _ (VGood.of u 9 _ 4617315517961601024 (by unfold Pl.Fits; omega) (BGood.nil _)) kr
    | 2, _ =>
      refine wpOp_of_wp rfl rfl (wp_build' 28 _ rfl [(0, .int .i64 1)] #[.int .i64 1, .slice none 0 0, .float .f64 0] (by simp [Act.eval]) (by kernel_rfl) ?_)
      exact hK _ _ (VGood.of u 1 _ 0 (by unfold Pl.Fits; omega) (BGood.nil _)) kr
    | 3, _ =>
      refine wpOp_of_wp rfl rfl (wp_buildSlice' 25 5 1 _ rfl [(0, .int .u8 97)] #[.int .u8 97] (.int .u8 0) 1 1 Try.info5 Try.underlying25 (by omega) (by omega) (by simp [Act.eval]) (by kernel_rfl) ?_)
      exact hK _ _ ⟨u.heap.size, (0, 0), rfl, hR.size, heap_alloc_new _ _⟩ (Kept.ofMoves ((Moves.refl _ _).alloc _))
    | 4, _ =>
      have hb : Raw w [97] u (a.tmps.getD 6 undef) := hF 3 (by decide) (by kernel_rfl)
      obtain ⟨u', h1, h2, h3⟩ := conv_run hb (by decide) (by decide)
      exact wpOp_of_wp rfl rfl (wp_convert1 25 25 6 rfl _ _ rfl h1 (hK _ _ h2 h3))
    | 5, _ =>
      obtain ⟨ad, m, cap, g, bs, hv, hb⟩ : BGood u (a.tmps.getD 7 undef) := hF 4 (by decide) (by kernel_rfl)
      refine wpOp_of_wp rfl rfl (wp_build' 28 _ rfl [(0, .int .i64 1), (1, .slice ad m cap), (2, .float .f64 4613937818241073152)] #[.int .i64 1, .slice ad m cap, .float .f64 4613937818241073152] (by simpa [Act.eval] using hv) (by kernel_rfl) ?_)
      exact hK _ _ (VGood.of u 1 _ 4613937818241073152 (by unfold Pl.Fits; omega) ⟨ad, m, cap, g, bs, rfl, hb⟩) kr
    | 6, _ =>
      refine wpOp_of_wp rfl rfl (wp_buildSlice' 25 5 2 _ rfl [(0, .int .u8 97), (1, .int .u8 98)] #[.int .u8 97, .int .u8 98] (.int .u8 0) 1 1 Try.info5 Try.underlying25 (by omega) (by omega) (by simp [Act.eval]) (by kernel_rfl) ?_)
      exact hK _ _ ⟨u.heap.size, (0, 0), rfl, hR.size, heap_alloc_new _ _⟩ (Kept.ofMoves ((Moves.refl _ _).alloc _))
    | 7, _ =>
      have hb : Raw w [97, 98] u (a.tmps.getD 9 undef) := hF 6 (by decide) (by kernel_rfl)
      obtain ⟨u', h1, h2, h3⟩ := conv_run hb (by decide) (by decide)
      exact wpOp_of_wp rfl rfl (wp_convert1 25 25 9 rfl _ _ rfl h1 (hK _ _ h2 h3))
    | 8, _ =>
      obtain ⟨ad, m, cap, g, bs, hv, hb⟩ : BGood u (a.tmps.getD 10 undef) := hF 7 (by decide) (by kernel_rfl)
      refine wpOp_of_wp rfl rfl (wp_build' 28 _ rfl [(0, .int .i64 1), (1, .slice ad m cap)] #[.int .i64 1, .slice ad m cap, .float .f64 0] (by simpa [Act.eval] using hv) (by kernel_rfl) ?_)
      exact hK _ _ (VGood.of u 1 _ 0 (by unfold Pl.Fits; omega) ⟨ad, m, cap, g, bs, rfl, hb⟩) kr
    | 9, _ =>
      obtain ⟨i0, hi0, hz0, hz1, hz2⟩ := info_parts Try.info5
      refine wpOp_of_list rfl (wpList_make_full _ rfl (.const (.int .i64 16)) (.const (.int .i64 16)) 25 rfl 0 5 i0 (.int .u8 0) 1 Try.underlying25 hi0 hz0 hz1 .i64 .i64 16 16 16 rfl rfl rfl rfl (by rw [hz2]; omega) (by unfold maxLen; omega) (Nat.zero_le _) ?_)
      intro u' ho hg
      have hz := (own_zeros ho).isB
      have hu : U8 u' ((Value.slice (some ⟨u.heap.size, 0, none⟩) 16 16).ownBlock.getD 0) (List.replicate 16 0) := by
        rcases ho.2 with ⟨h0, _⟩ | ⟨g, cap, cur, h0, _, h1, _⟩
        · simp at h0
        · simp at h0
          obtain ⟨rfl, _⟩ := h0
          exact .inr ⟨_, _, h1⟩
      exact hK _ _ ⟨_, _, _, _, _, rfl, hz, fun z hz => by have := List.eq_of_mem_replicate hz; omega, by rw [List.length_replicate]; omega, hu⟩ (Kept.ofMoves ((Moves.refl _ _).grown hg (by simp)))
    | 10, _ =>
      obtain ⟨ad, m, cap, g, bs, hv, hb⟩ : BGood u (a.tmps.getD 12 undef) := hF 9 (by decide) (by kernel_rfl)
      refine wpOp_of_wp rfl rfl (wp_build' 28 _ rfl [(0, .int .i64 1), (1, .slice ad m cap)] #[.int .i64 1, .slice ad m cap, .float .f64 0] (by simpa [Act.eval] using hv) (by kernel_rfl) ?_)
      exact hK _ _ (VGood.of u 1 _ 0 (by unfold Pl.Fits; omega) ⟨ad, m, cap, g, bs, rfl, hb⟩) kr
    | 11, _ =>
      obtain ⟨i0, hi0, hz0, hz1, hz2⟩ := info_parts Try.info5
      refine wpOp_of_list rfl (wpList_make_full _ rfl (.const (.int .i64 17)) (.const (.int .i64 17)) 25 rfl 0 5 i0 (.int .u8 0) 1 Try.underlying25 hi0 hz0 hz1 .i64 .i64 17 17 17 rfl rfl rfl rfl (by rw [hz2]; omega) (by unfold maxLen; omega) (Nat.zero_le _) ?_)
      intro u' ho hg
      have hz := (own_zeros ho).isB
      have hu : U8 u' ((Value.slice (some ⟨u.heap.size, 0, none⟩) 17 17).ownBlock.getD 0) (List.replicate 17 0) := by
        rcases ho.2 with ⟨h0, _⟩ | ⟨g, cap, cur, h0, _, h1, _⟩
        · simp at h0
        · simp at h0
          obtain ⟨rfl, _⟩ := h0
          exact .inr ⟨_, _, h1⟩
      exact hK _ _ ⟨_, _, _, _, _, rfl, hz, fun z hz => by have := List.eq_of_mem_replicate hz; omega, by rw [List.length_replicate]; omega, hu⟩ (Kept.ofMoves ((Moves.refl _ _).grown hg (by simp)))
    | 12, _ =>
      obtain ⟨ad, m, cap, g, bs, hv, hb⟩ : BGood u (a.tmps.getD 14 undef) := hF 11 (by decide) (by kernel_rfl)
      refine wpOp_of_wp rfl rfl (wp_build' 28 _ rfl [(0, .int .i64 1), (1, .slice ad m cap)] #[.int .i64 1, .slice ad m cap, .float .f64 0] (by simpa [Act.eval] using hv) (by kernel_rfl) ?_)
      exact hK _ _ (VGood.of u 1 _ 0 (by unfold Pl.Fits; omega) ⟨ad, m, cap, g, bs, rfl, hb⟩) kr
    | 13, _ =>
      have g0 : VGood u (a.tmps.getD 3 undef) := hF 0 (by decide) (by kernel_rfl)
      obtain ⟨k0, ad0, n0, cap0, x0, e0⟩ := g0.cells
      rw [e0] at g0
      have g1 : VGood u (a.tmps.getD 4 undef) := hF 1 (by decide) (by kernel_rfl)
      obtain ⟨k1, ad1, n1, cap1, x1, e1⟩ := g1.cells
      rw [e1] at g1
      have g2 : VGood u (a.tmps.getD 5 undef) := hF 2 (by decide) (by kernel_rfl)
      obtain ⟨k2, ad2, n2, cap2, x2, e2⟩ := g2.cells
      rw [e2] at g2
      have g3 : VGood u (a.tmps.getD 8 undef) := hF 5 (by decide) (by kernel_rfl)
      obtain ⟨k3, ad3, n3, cap3, x3, e3⟩ := g3.cells
      rw [e3] at g3
      have g4 : VGood u (a.tmps.getD 11 undef) := hF 8 (by decide) (by kernel_rfl)
      obtain ⟨k4, ad4, n4, cap4, x4, e4⟩ := g4.cells
      rw [e4] at g4
      have g5 : VGood u (a.tmps.getD 13 undef) := hF 10 (by decide) (by kernel_rfl)
      obtain ⟨k5, ad5, n5, cap5, x5, e5⟩ := g5.cells
      rw [e5] at g5
      have g6 : VGood u (a.tmps.getD 15 undef) := hF 12 (by decide) (by kernel_rfl)
      obtain ⟨k6, ad6, n6, cap6, x6, e6⟩ := g6.cells
      rw [e6] at g6
      refine wpOp_of_wp rfl rfl (wp_buildSlice' 22 28 7 _ rfl [(0, .agg #[.int .i64 k0, .slice ad0 n0 cap0, .float .f64 x0]), (1, .agg #[.int .i64 k1, .slice ad1 n1 cap1, .float .f64 x1]), (2, .agg #[.int .i64 k2, .slice ad2 n2 cap2, .float .f64 x2]), (3, .agg #[.int .i64 k3, .slice ad3 n3 cap3, .float .f64 x3]), (4, .agg #[.int .i64 k4, .slice ad4 n4 cap4, .float .f64 x4]), (5, .agg #[.int .i64 k5, .slice ad5 n5 cap5, .float .f64 x5]), (6, .agg #[.int .i64 k6, .slice ad6 n6 cap6, .float .f64 x6])] #[.int .i64 k0, .slice ad0 n0 cap0, .float .f64 x0, .int .i64 k1, .slice ad1 n1 cap1, .float .f64 x1, .int .i64 k2, .slice ad2 n2 cap2, .float .f64 x2, .int .i64 k3, .slice ad3 n3 cap3, .float .f64 x3, .int .i64 k4, .slice ad4 n4 cap4, .float .f64 x4, .int .i64 k5, .slice ad5 n5 cap5, .float .f64 x5, .int .i64 k6, .slice ad6 n6 cap6, .float .f64 x6] _ 3 40 val_info Try.underlying22 (by omega) (by omega) (by simpa [Act.eval] using And.intro e0 ( And.intro e1 ( And.intro e2 ( And.intro e3 ( And.intro e4 (And.intro e5 e6)))))) (seven_fill ..) ?_)
      have ka : Kept w u (u.alloc (.cells #[.int .i64 k0, .slice ad0 n0 cap0, .float .f64 x0, .int .i64 k1, .slice ad1 n1 cap1, .float .f64 x1, .int .i64 k2, .slice ad2 n2 cap2, .float .f64 x2, .int .i64 k3, .slice ad3 n3 cap3, .float .f64 x3, .int .i64 k4, .slice ad4 n4 cap4, .float .f64 x4, .int .i64 k5, .slice ad5 n5 cap5, .float .f64 x5, .int .i64 k6, .slice ad6 n6 cap6, .float .f64 x6] 28)) := Kept.ofMoves ((Moves.refl _ _).alloc _)
      refine hK _ _ ⟨[[.int .i64 k0, .slice ad0 n0 cap0, .float .f64 x0], [.int .i64 k1, .slice ad1 n1 cap1, .float .f64 x1], [.int .i64 k2, .slice ad2 n2 cap2, .float .f64 x2], [.int .i64 k3, .slice ad3 n3 cap3, .float .f64 x3], [.int .i64 k4, .slice ad4 n4 cap4, .float .f64 x4], [.int .i64 k5, .slice ad5 n5 cap5, .float .f64 x5], [.int .i64 k6, .slice ad6 n6 cap6, .float .f64 x6]], rfl, ⟨?_, rfl, .inr ⟨_, 7, _, rfl, Nat.zero_le _, heap_alloc_new _ _, Nat.le_refl _, by unfold maxLen; omega, rfl, rfl⟩⟩, ?_, ?_⟩ ka
      · intro c hc
        simp only [List.mem_cons, List.not_mem_nil, or_false] at hc
        rcases hc with rfl | rfl | rfl | rfl | rfl | rfl | rfl <;> rfl
      · intro c hc
        simp only [List.mem_cons, List.not_mem_nil, or_false] at hc
        rcases hc with rfl | rfl | rfl | rfl | rfl | rfl | rfl
        · exact g0.kept ka
        · exact g1.kept ka
        · exact g2.kept ka
        · exact g3.kept ka
        · exact g4.kept ka
        · exact g5.kept ka
        · exact g6.kept ka
      · intro k hk
        simp [Value.ownBlock] at hk
        subst hk
        exact hR.size
    | 14, _ =>
      have hb : LGood w 7 u (a.tmps.getD 16 undef) := hF 13 (by decide) (by kernel_rfl)
      exact wpOp_of_wp rfl rfl (wp_assign1 16 rfl _ rfl (hK _ _ hb kr))
  · intro v u hall hR
    have hL : LGood w 7 u (v 1) := hall 14 (by decide)
    have hM : Moves [] w u := hR.moves (Moves.refl _ _)
    obtain ⟨css, hl, hO, hG, hFr⟩ := hL
    obtain ⟨ad, cap, hv, hcap⟩ := hO.slice
    rw [hv] at hO hFr
    have hI : Hid (LGood w 7 u (.slice ad css.length cap)) := ⟨css, hl, hO, hG, hFr⟩
    clear hG hFr hO hR hall
    simp only [List.foldl_cons, List.foldl_nil, List.setIfInBounds_toArray, List.set_cons_zero, List.set_cons_succ, hv]
    clear hv
    generalize v 3 = u3
    generalize v 4 = u4
    generalize v 5 = u5
    generalize v 6 = u6
    generalize v 7 = u7
    generalize v 8 = u8
    generalize v 9 = u9
    generalize v 10 = u10
    generalize v 11 = u11
    generalize v 12 = u12
    generalize v 13 = u13
    generalize v 14 = u14
    generalize v 15 = u15
    generalize v 16 = u16
    go_wp2_with fail
    go_loopw [1, 2] (fun v i wr => ∃ k : Nat, k ≤ 9 ∧ i = .int .i64 k ∧ LGood w (7 + k) wr v ∧ Moves [] w wr) (fun _ i _ => 9 - (intOf i).toNat)
    case atStart => exact ⟨0, Nat.zero_le _, rfl, hI.out, hM⟩
    case round =>
      obtain ⟨k, hk, rfl, hL, mr⟩ := hrel
      obtain ⟨css2, hl2, hO2, hG2, hF2⟩ := id hL
      obtain ⟨ad2, cap2, rfl, hcap2⟩ := hO2.slice
      rw [hl2] at hO2 hL hF2 hcap2 ⊢
      have HL : Hid (css2.length = 7 + k) := hl2
      clear hl2
      have hb2 : css2.length + 1 ≤ 1048576 := by have := HL.out; omega
      by_cases hlt : k < 9
      · have hk3 : (k : Int) < 9 := by omega
        go_wp2_with (first | (go_at_call 14; refine (keepNum_w _ _ _ fits_half).mono ?_; rintro _ w3 ⟨c, hc, rfl, m3⟩; have ma : Moves [] wr (w3.alloc (.cells #[.int .i64 2, .slice none 0 0, .float .f64 c] 28)) := m3.alloc _; have hO3 := hO2.moves ma (by simp); have hnew := new_one w3 [.int .i64 2, .slice none 0 0, .float .f64 c] 28) | (at_builtin; refine appendL_law (.tmp 21) (.tmp 25) 22 28 _ 3 40 val_info Try.underlying22 rfl (by omega) (by omega) rfl (.slice ad2 (7 + k) cap2) css2 [[.int .i64 2, .slice none 0 0, .float .f64 c]] ⟨w3.heap.size, 0, none⟩ 1 rfl rfl (by rfl) hO3 (by simp) (by simp [Value.oneCell']) hnew hb2 ?_; intro v4 w4 hO4 m4 hat4))
        go_roundw
        case rel => 
          refine ⟨k + 1, by omega, by go_num, ⟨_, ?_, hO4, ?_, ?_⟩, ?_⟩
          · have := HL.out
            simp
            omega
          · have hS : ∀ b ∈ (Value.slice ad2 (7 + k) cap2).ownBlock.toList, ∃ c' t fz, (w3.alloc (.cells #[.int .i64 2, .slice none 0 0, .float .f64 c] 28)).heap[b]? = some (.cells c' t fz) ∧ t ≠ 5 := by
              intro b hb
              rcases hO3.2.2 with ⟨h0, _⟩ | ⟨g, cap', cur, h0, _, h1, _⟩
              · rw [h0] at hb
                simp [Value.ownBlock] at hb
              · rw [h0] at hb
                simp [Value.ownBlock] at hb
                subst hb
                exact ⟨_, _, _, h1, by decide⟩
            intro x hx
            rcases List.mem_append.1 hx with hx | hx
            · exact ((hG2 x hx).kept (Kept.ofMoves (W := wr) ma)).moves m4 hS
            · simp at hx
              subst hx
              exact VGood.of _ 2 _ c hc (BGood.nil _)
          · exact (appended (mr.then ma) hF2 m4 hat4).2
          · exact (appended (mr.then ma) hF2 m4 hat4).1
        case measure => simp [intOf]; omega
      · obtain rfl : k = 9 := by omega
        go_wp2_with fail
        go_ret
        exact ⟨_, rfl, hL, mr⟩
end Go.Proofs.Ythgoedifkabadaa
