/-
  ValueOrders is true for every argument: an order: what is not above what is not above is not above; the same ones alone are neither; the arguments read behind the call as they read before. No condition.
-/
import Derived.Test.YthgoedifkabadaaPar3
import Derived.ProofKit
import Derived.OpenShut
import Derived.ChangeOld
namespace Go.Proofs.Ythgoedifkabadaa
open Go.RowKit

set_option maxRecDepth 100000 in
set_option maxHeartbeats 8000000 in
theorem orders_w (u0 u1 u2 : Value) (w : World) (h0 : KArg w u0) (h1 : KArg w u1) (h2 : KArg w u2) :
    Calls Try.prog 6 #[u0, u1, u2] w fun e w' => e = .returned (.bool true) ∧ Moves [] w w' := by
  have k0 := h0
  have k1 := h1
  have k2 := h2
  obtain ⟨t0, n0, x0, ad0, len0, cap0, _, _, rfl, _⟩ := h0.out
  obtain ⟨t1, n1, x1, ad1, len1, cap1, _, _, rfl, _⟩ := h1.out
  obtain ⟨t2, n2, x2, ad2, len2, cap2, _, _, rfl, _⟩ := h2.out
  clear h0 h1 h2
  obtain ⟨p0, p1, p2, m0⟩ := boxes3 (Moves.refl [] (((w.alloc (.cells #[.bool t0, .int .i64 n0, .float .f64 x0, .slice ad0 len0 cap0] 34)).alloc (.cells #[.bool t1, .int .i64 n1, .float .f64 x1, .slice ad1 len1 cap1] 34)).alloc (.cells #[.bool t2, .int .i64 n2, .float .f64 x2, .slice ad2 len2 cap2] 34)))
  go_enter Try.func6, Try.ntmps6
  go_wp2
  replace k0 := k0.moves m0
  replace k1 := k1.moves m0
  replace k2 := k2.moves m0
  generalize (((w.alloc (.cells #[.bool t0, .int .i64 n0, .float .f64 x0, .slice ad0 len0 cap0] 34)).alloc (.cells #[.bool t1, .int .i64 n1, .float .f64 x1, .slice ad1 len1 cap1] 34)).alloc (.cells #[.bool t2, .int .i64 n2, .float .f64 x2, .slice ad2 len2 cap2] 34)) = W1 at *
  refine par3_wp (by kernel_rfl) (F := fun _ => 14) (S := fun j => 3 + j) (L := fun j => 10 + 2 * j) (C := fun j => 11 + 2 * j) (D := fun j => 7 + j) (tv := 34) (T := 28) (Z := #[.int .i64 0, .slice none 0 0, .float .f64 0]) (B := fun j => w.heap.size + j)
    (scs := fun j => match j with | 0 => #[.bool t0, .int .i64 n0, .float .f64 x0, .slice ad0 len0 cap0] | 1 => #[.bool t1, .int .i64 n1, .float .f64 x1, .slice ad1 len1 cap1] | _ => #[.bool t2, .int .i64 n2, .float .f64 x2, .slice ad2 len2 cap2]) (R := fun _ => Drew W1) (W := W1) ?_ (Moves.refl _ _) ?_
  · refine ⟨rfl, by kernel_rfl, by kernel_rfl, ?_, ?_, ?_, ?_, ?_, ?_, ?_, ?_, ?_, ⟨_, Try.underlying34⟩, fun _ _ _ _ => rfl, fun _ => rfl, by kernel_rfl, ?_⟩
    · intro j hj; simp; omega
    · intro j k hj hk; omega
    · intro j k hj hk hne; omega
    · intro j k hj hk; omega
    · intro j hj; match j, hj with | 0, _ => exact ⟨_, rfl, rfl, rfl, rfl⟩ | 1, _ => exact ⟨_, rfl, rfl, rfl, rfl⟩ | 2, _ => exact ⟨_, rfl, rfl, rfl, rfl⟩
    · intro j hj; match j, hj with | 0, _ => exact ⟨_, _, rfl, rfl, rfl, rfl⟩ | 1, _ => exact ⟨_, _, rfl, rfl, rfl, rfl⟩ | 2, _ => exact ⟨_, _, rfl, rfl, rfl, rfl⟩
    · intro j hj; match j, hj with | 0, _ => exact ⟨_, rfl, rfl, rfl, rfl⟩ | 1, _ => exact ⟨_, rfl, rfl, rfl, rfl⟩ | 2, _ => exact ⟨_, rfl, rfl, rfl, rfl⟩
    · intro j hj; match j, hj with | 0, _ => exact ⟨_, rfl, rfl, rfl, rfl⟩ | 1, _ => exact ⟨_, rfl, rfl, rfl, rfl⟩ | 2, _ => exact ⟨_, rfl, rfl, rfl, rfl⟩
    · intro j hj; match j, hj with | 0, _ => exact ⟨rfl, p0, by kernel_rfl⟩ | 1, _ => exact ⟨rfl, p1, by kernel_rfl⟩ | 2, _ => exact ⟨rfl, p2, by kernel_rfl⟩
    · intro j hj w' _; match j, hj with | 0, _ => exact drew_b W1 w' _ k0 | 1, _ => exact drew_b W1 w' _ k1 | 2, _ => exact drew_b W1 w' _ k2
  clear k0 k1 k2 p0 p1 p2
  rintro l0 c0 l1 c1 l2 c2 q0 q1 q2 cs0 cs1 cs2 w2 m2 ⟨A, adA, lenA, capA, rfl, hA, yA⟩ z0 b0 ⟨B, adB, lenB, capB, rfl, hB, yB⟩ z1 b1 ⟨C, adC, lenC, capC, rfl, hC, yC⟩ z2 b2
  replace hA := hA.moves m2
  replace hB := hB.moves m2
  replace hC := hC.moves m2
  obtain ⟨c00, c01, c02, _, _, _⟩ := three_cells b0
  obtain ⟨c10, c11, c12, _, _, _⟩ := three_cells b1
  obtain ⟨c20, c21, c22, _, _, _⟩ := three_cells b2
  have d00 := c00
  have d01 := c01
  have d02 := c02
  have d10 := c10
  have d11 := c11
  have d12 := c12
  have d20 := c20
  have d21 := c21
  have d22 := c22
  have f1 : vord A A = 0 := vord_self A
  have f2 : IntKind.i64.wrap (-(vord B A)) = vord A B := by rw [wrap_i64 (by have := vord_bounds B A; omega), vord_anti A B]
  have f3 : vord A B ≤ 0 → vord B C ≤ 0 → vord A C ≤ 0 := fun h k => vord_trans h k
  have m3 := Moves.refl [] w2
  have M := m0.then m2
  clear m0 m2 b0 b1 b2
  simp only [List.setIfInBounds_toArray, List.set_cons_zero, List.set_cons_succ]
  have ways : (vord A B ≤ 0 ∧ vord B C ≤ 0 ∧ ¬ 0 < vord A C) ∨ (vord A B ≤ 0 ∧ ¬ vord B C ≤ 0) ∨ ¬ vord A B ≤ 0 := by
    by_cases g1 : vord A B ≤ 0
    · by_cases g2 : vord B C ≤ 0
      · exact .inl ⟨g1, g2, by have := f3 g1 g2; omega⟩
      · exact .inr (.inl ⟨g1, g2⟩)
    · exact .inr (.inr g1)
  clear f3
  rcases ways with ⟨g1, g2, g3⟩ | ⟨g1, g2⟩ | g1
  all_goals go_wp2_with (first | (go_at_call 22; refine (order_b w2 _ _ _ _ _ (by assumption) (by assumption) (by first | (with_reducible assumption) | (exact Moves.drew (by with_reducible assumption)))).mono ?_; rintro _ w3 ⟨rfl, m3⟩; have e00 := m3.cell d00; have e01 := m3.cell d01; have e02 := m3.cell d02; have e10 := m3.cell d10; have e11 := m3.cell d11; have e12 := m3.cell d12; have e20 := m3.cell d20; have e21 := m3.cell d21; have e22 := m3.cell d22; clear c00 c01 c02 c10 c11 c12 c20 c21 c22; have c00 := e00; have c01 := e01; have c02 := e02; have c10 := e10; have c11 := e11; have c12 := e12; have c20 := e20; have c21 := e21; have c22 := e22; clear e00 e01 e02 e10 e11 e12 e20 e21 e22))
  all_goals go_region_held3 (fun w' => w'.cell? ⟨q0, 0, none⟩ = some (.int .i64 A.kind) ∧ w'.cell? ⟨q0, 1, none⟩ = some (.slice adA lenA capA) ∧ w'.cell? ⟨q0, 2, none⟩ = some (.float .f64 A.n) ∧ w'.cell? ⟨q1, 0, none⟩ = some (.int .i64 B.kind) ∧ w'.cell? ⟨q1, 1, none⟩ = some (.slice adB lenB capB) ∧ w'.cell? ⟨q1, 2, none⟩ = some (.float .f64 B.n) ∧ w'.cell? ⟨q2, 0, none⟩ = some (.int .i64 C.kind) ∧ w'.cell? ⟨q2, 1, none⟩ = some (.slice adC lenC capC) ∧ w'.cell? ⟨q2, 2, none⟩ = some (.float .f64 C.n)) (first | (with_reducible exact ⟨c00, c01, c02, c10, c11, c12, c20, c21, c22⟩) | (go_keep; done)) (first | (go_at_call 21; have zG := oG; refine (same_b w3 _ _ _ A G hAG hG (Moves.refl _ _)).mono ?_; rintro _ w4 ⟨rfl, m4⟩; rw [oG]; clear oG; have m3 := m3.then m4; have e00 := m3.cell d00; have e01 := m3.cell d01; have e02 := m3.cell d02; have e10 := m3.cell d10; have e11 := m3.cell d11; have e12 := m3.cell d12; have e20 := m3.cell d20; have e21 := m3.cell d21; have e22 := m3.cell d22; clear c00 c01 c02 c10 c11 c12 c20 c21 c22; have c00 := e00; have c01 := e01; have c02 := e02; have c10 := e10; have c11 := e11; have c12 := e12; have c20 := e20; have c21 := e21; have c22 := e22; clear e00 e01 e02 e10 e11 e12 e20 e21 e22) | (go_at_call 23; refine (canon_b w2 _ _ A hA (by first | (with_reducible assumption) | (exact Moves.drew (by with_reducible assumption))) yA.len).mono ?_; rintro _ w3 ⟨G, rfl, hG0, hG, oG, m3⟩; obtain ⟨adG, lenG, capG, eG, fG⟩ := hG.open; rw [fG] at hG ⊢; have hAG := hA.moves m3; have e00 := m3.cell d00; have e01 := m3.cell d01; have e02 := m3.cell d02; have e10 := m3.cell d10; have e11 := m3.cell d11; have e12 := m3.cell d12; have e20 := m3.cell d20; have e21 := m3.cell d21; have e22 := m3.cell d22; clear c00 c01 c02 c10 c11 c12 c20 c21 c22; have c00 := e00; have c01 := e01; have c02 := e02; have c10 := e10; have c11 := e11; have c12 := e12; have c20 := e20; have c21 := e21; have c22 := e22; clear e00 e01 e02 e10 e11 e12 e20 e21 e22) | (go_at_call 22; refine (order_b w2 _ _ _ _ _ (by assumption) (by assumption) (by first | (with_reducible assumption) | (exact Moves.drew (by with_reducible assumption)))).mono ?_; rintro _ w3 ⟨rfl, m3⟩; have e00 := m3.cell d00; have e01 := m3.cell d01; have e02 := m3.cell d02; have e10 := m3.cell d10; have e11 := m3.cell d11; have e12 := m3.cell d12; have e20 := m3.cell d20; have e21 := m3.cell d21; have e22 := m3.cell d22; clear c00 c01 c02 c10 c11 c12 c20 c21 c22; have c00 := e00; have c01 := e01; have c02 := e02; have c10 := e10; have c11 := e11; have c12 := e12; have c20 := e20; have c21 := e21; have c22 := e22; clear e00 e01 e02 e10 e11 e12 e20 e21 e22) | (go_at_call 21; refine (same_b w2 _ _ _ _ _ (by assumption) (by assumption) (by first | (with_reducible assumption) | (exact Moves.drew (by with_reducible assumption)))).mono ?_; rintro _ w3 ⟨rfl, m3⟩; have e00 := m3.cell d00; have e01 := m3.cell d01; have e02 := m3.cell d02; have e10 := m3.cell d10; have e11 := m3.cell d11; have e12 := m3.cell d12; have e20 := m3.cell d20; have e21 := m3.cell d21; have e22 := m3.cell d22; clear c00 c01 c02 c10 c11 c12 c20 c21 c22; have c00 := e00; have c01 := e01; have c02 := e02; have c10 := e10; have c11 := e11; have c12 := e12; have c20 := e20; have c21 := e21; have c22 := e22; clear e00 e01 e02 e10 e11 e12 e20 e21 e22) | (go_at_call 12; refine (vknown_w _).mono ?_; rintro _ w5 ⟨rfl, m5⟩; have m3 := m3.then m5; have e00 := m3.cell d00; have e01 := m3.cell d01; have e02 := m3.cell d02; have e10 := m3.cell d10; have e11 := m3.cell d11; have e12 := m3.cell d12; have e20 := m3.cell d20; have e21 := m3.cell d21; have e22 := m3.cell d22; clear c00 c01 c02 c10 c11 c12 c20 c21 c22; have c00 := e00; have c01 := e01; have c02 := e02; have c10 := e10; have c11 := e11; have c12 := e12; have c20 := e20; have c21 := e21; have c22 := e22; clear e00 e01 e02 e10 e11 e12 e20 e21 e22))
  all_goals go_wp2
  all_goals go_ret
  all_goals exact ⟨rfl, M.then m3⟩

open Go.ChangeShapes Go.WideShapes Go.ChangeAt
set_option linter.unusedVariables false
theorem orders_own : ownKnob Try.prog.godebug = none := by kernel_rfl
theorem orders_laidOut : laidOutB Try.prog = true := by kernel_rfl

set_option maxRecDepth 100000 in
theorem orders_lifted (os : Os) (started : os.Started) (H : Type) (enc : TypeId × Value → H) :
    ReturnsInHanded {} Try.checked os 6 .any (Rows.valueOrdersSpec.pre6 enc Try.prog Try.f6 Rows.valueOrdersRow.domain false) (Rows.valueOrdersSpec.post enc Try.prog Try.f6 false true false false) := by
  refine returnsInHanded_of_change (C := Try.checked) orders_own started (by kernel_rfl) Try.func6
    (ChangeSpec.witness6 (enc := enc) (C := Try.checked) false ⟨#[], #[.agg #[.bool false, .int .i64 0, .float .f64 0, .slice none 0 0], .agg #[.bool false, .int .i64 0, .float .f64 0, .slice none 0 0], .agg #[.bool false, .int .i64 0, .float .f64 0, .slice none 0 0]], []⟩ 8 (by kernel_rfl) (by kernel_rfl) (by kernel_rfl) (by kernel_rfl)) ?_
  intro W base args ds gs before hval0 hW hcnd _
  have hval : ∀ (j : Nat) t v, Try.f6.params[j]? = some t → args[j]? = some v → Value.okWide Try.prog W .any base t v := hval0
  have hW' := hW
  obtain ⟨p, q, hA0, hV, rfl, hfz, hnd⟩ := hW
  have hA : DataW.TrodAll enc Try.prog W 0 (fun _ => true) true Try.f6.params.toList args.toList ds p := hA0
  rw [Try.params6] at hA hval
  obtain ⟨v0, vs0, d0, ds0, p0, q0, hargs, rfl, rfl, h0, r0⟩ := trodAll_cons hA
  obtain ⟨v1, vs1, d1, ds1, p1, q1, rfl, rfl, rfl, h1, r1⟩ := trodAll_cons r0
  obtain ⟨v2, vs2, d2, ds2, p2, q2, rfl, rfl, rfl, h2, r2⟩ := trodAll_cons r1
  obtain ⟨rfl, rfl, rfl⟩ := trodAll_nil r2
  obtain rfl : args = #[v0, v1, v2] := by cases args; simp_all
  obtain ⟨rfl, rfl⟩ := trodVars_none hV
  have k0 := h0
  have k1 := h1
  have k2 := h2
  have lt0 : ∀ x ∈ p0, x.block < W.heap.size := by obtain ⟨m, hm⟩ := k0; exact DataW.trod_lt m _ _ _ hm
  have lt1 : ∀ x ∈ p1, x.block < W.heap.size := by obtain ⟨m, hm⟩ := k1; exact DataW.trod_lt m _ _ _ hm
  have lt2 : ∀ x ∈ p2, x.block < W.heap.size := by obtain ⟨m, hm⟩ := k2; exact DataW.trod_lt m _ _ _ hm
  have w0 := karg_of_trod (hval 0 34 v0 rfl rfl) h0
  have w1 := karg_of_trod (hval 1 34 v1 rfl rfl) h1
  have w2 := karg_of_trod (hval 2 34 v2 rfl rfl) h2
  clear hA0 hval0
  refine (orders_w v0 v1 v2 W w0 w1 w2).mono fun e W' ⟨he, mv⟩ => ?_
  subst he
  have bel : Below W.heap.size W W' := mv.below (by simp) (Nat.le_refl _)
  exact ⟨_, rfl, _, _, _, [], _, [], hW', trodAll_mk1 (shut_bool Try.underlying4 _), (trodAll_cons_mk (Below.trod orders_laidOut (by kernel_rfl) (of_decide_eq_true (by kernel_rfl)) k0 bel lt0) (trodAll_cons_mk (Below.trod orders_laidOut (by kernel_rfl) (of_decide_eq_true (by kernel_rfl)) k1 bel lt1) (trodAll_cons_mk (Below.trod orders_laidOut (by kernel_rfl) (of_decide_eq_true (by kernel_rfl)) k2 bel lt2) trodAll_mk0))), rfl, bel.frame _, fun h => by cases h⟩

theorem ValueOrders_holds : Rows.ValueOrdersSaid :=
  OpenClaim.holds_of_wide 6 Try.f6 rfl rfl rfl rfl rfl rfl rfl ⟨rfl, rfl, rfl, rfl, rfl⟩ rfl rfl rfl rfl rfl (by kernel_rfl) Try.func6 (by kernel_rfl)
    (of_decide_eq_true (by kernel_rfl)) (by unfold Func.isWrapper; first | (rw [if_pos (by decide +kernel)]; kernel_rfl) | (rw [if_neg (by decide +kernel)]; exact ⟨rfl, rfl⟩))
    (fun os started H enc _ => orders_lifted os started H enc)

#print axioms ValueOrders_holds
end Go.Proofs.Ythgoedifkabadaa
