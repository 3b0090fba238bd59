/-
  Proved: NumEdges returns true for every word and every drawn number, and its arguments read as before. No condition.
-/
import Derived.Test.YtncmdbhbmbfdfaaFloat
import Derived.Test.YtncmdbhbmbfdfaaPlain5
import Derived.ProofKit
import Derived.OpenShut
namespace Go.Proofs.Ytncmdbhbmbfdfaa
open Go.RowKit

theorem word_of_u64 {a : Int} (h : (Lit.int .u64 a).wf = true) : ∃ A : Nat, a = (A : Int) ∧ Pl.Fits A := by
  have : 0 ≤ a ∧ a ≤ 18446744073709551615 := by simpa [Lit.wf, IntKind.min, IntKind.max, IntKind.signed, IntKind.bits] using h
  exact ⟨a.toNat, by omega, by unfold Pl.Fits; omega⟩

theorem infOf_pos : infOf 1 = 9218868437227405312 := by decide
theorem infOf_neg : infOf (-1) = 18442240474082181120 := by decide

/-- The ways of a word at the edges, in the forms that the walk meets. -/
theorem edges_cases {p : Nat} (h : Pl.Fits p) :
    ((FloatKind.f64.format.order p p != some .eq) = true ∧ Pl.cls (Pl.sum p (infOf 1)) = 6)
    ∨ ((FloatKind.f64.format.order p p != some .eq) = false ∧ (FloatKind.f64.format.order p (infOf (-1)) == some .eq) = true ∧ Pl.cls (Pl.sum p (infOf 1)) = 6)
    ∨ ((FloatKind.f64.format.order p p != some .eq) = false ∧ (FloatKind.f64.format.order p (infOf (-1)) == some .eq) = false ∧ Pl.cls (Pl.sum p (infOf 1)) = 4 ∧ (FloatKind.f64.format.order p 0 == some .eq) = true)
    ∨ ((FloatKind.f64.format.order p p != some .eq) = false ∧ (FloatKind.f64.format.order p (infOf (-1)) == some .eq) = false ∧ Pl.cls (Pl.sum p (infOf 1)) = 4 ∧ (FloatKind.f64.format.order p 0 == some .eq) = false ∧ Pl.canon (Pl.sum p 0) = Pl.canon p) := by
  have sp : (FloatKind.f64.format.order p p != some .eq) = Pl.isNan p := Pl.order_self p
  rw [sp, infOf_pos, infOf_neg]
  cases hn : Pl.isNan p
  · have hr := Pl.not_nan hn
    have eN : (FloatKind.f64.format.order p 18442240474082181120 == some .eq) = decide (p = 18442240474082181120) := by
      have e : FloatKind.f64.format.order p 18442240474082181120 = some (compare (Pl.pos p) (Pl.pos 18442240474082181120)) := Pl.order_num hr (by decide)
      have e2 : Pl.pos 18442240474082181120 = -9218868437227405312 := by decide
      rw [e, Pl.is_eq, e2]
      congr 1
      apply propext
      unfold Pl.pos
      rw [Pl.sg_eq h]
      unfold Pl.rg Pl.Fits at *
      by_cases c : 9223372036854775808 ≤ p <;> simp [c] <;> omega
    have eZ : (FloatKind.f64.format.order p 0 == some .eq) = decide (Pl.rg p = 0) := by
      have e : FloatKind.f64.format.order p 0 = some (compare (Pl.pos p) (Pl.pos 0)) := Pl.order_num hr Pl.rg_zero
      rw [e, Pl.is_eq, Pl.pos_zero]
      congr 1
      apply propext
      unfold Pl.pos
      cases Pl.sg p <;> simp
    rw [eN, eZ]
    by_cases hi : p = 18442240474082181120
    · right; left
      subst hi
      exact ⟨rfl, by decide, by rw [Pl.sum_ninf]; decide⟩
    · rw [Pl.sum_pinf hn h hi, decide_eq_false hi]
      by_cases hz : Pl.rg p = 0
      · right; right; left
        exact ⟨rfl, rfl, by decide, decide_eq_true hz⟩
      · right; right; right
        exact ⟨rfl, rfl, by decide, decide_eq_false hz, by rw [Pl.sum_zero h hz, Pl.canon_canon]⟩
  · left
    exact ⟨rfl, by rw [Pl.sum_comm, Pl.sum_nan hn]; decide⟩

set_option maxHeartbeats 4000000 in
theorem edges_w (A : Nat) (hA : Pl.Fits A) (a1 : Int) (w : World) :
    Calls Try.prog 6 #[.int .u64 A, .int .i64 a1] w fun e w' => e = .returned (.bool true) ∧ Grown w w' := by
  go_enter Try.func6, Try.ntmps6
  go_wp2_with (go_at_call 13; refine (float_w _ _ (by assumption) _).mono ?_; rintro _ _ ⟨p, hp, rfl, rfl⟩)
  have c1 : Pl.cls (Pl.sum p 9221120237041090561) = 6 := by rw [Pl.sum_nan Pl.isNan_one]; decide
  have c2 : Pl.canon (Pl.sum 9223372036854775808 p) = Pl.canon p := by rw [Pl.sum_nzero hp, Pl.canon_canon]
  have c3 : Pl.canon (Pl.sum p 9223372036854775808) = Pl.canon p := by rw [Pl.sum_comm, Pl.sum_nzero hp, Pl.canon_canon]
  rcases edges_cases hp with ⟨e1, e2⟩ | ⟨e1, e2, e3⟩ | ⟨e1, e2, e3, e4⟩ | ⟨e1, e2, e3, e4, e5⟩
  all_goals go_wp2_with (first
    | (go_at_call 23; refine (sum_w _ _ _).mono ?_; rintro _ _ ⟨rfl, hs⟩)
    | (go_at_call 25; refine (cls_w _ (fits_sum _ _) _).mono ?_; rintro _ _ ⟨rfl, rfl⟩)
    | (go_at_call 19; refine (numBits_w _ _).mono ?_; rintro _ _ ⟨rfl, rfl⟩)
    | (go_at_call 22; refine (copysign_w _).mono ?_; rintro _ _ ⟨rfl, rfl⟩)
    | (go_at_call 26; refine (inf_w _ _).mono ?_; rintro _ _ ⟨rfl, rfl⟩)
    | (go_at_call 24; refine (nan_w _).mono ?_; rintro _ _ ⟨rfl, rfl⟩)
    | (go_at_call 12; refine (known_w _).mono ?_; rintro _ _ ⟨rfl, hs⟩))
  all_goals (go_ret; exact ⟨rfl, Still.grown (by repeat (first | assumption | exact Still.refl _ | refine Still.trans ?_ (by assumption)))⟩)

theorem edges_any (a0 a1 : Int) (w0 : (Lit.int .u64 a0).wf = true) (w : World) :
    Calls Try.prog 6 #[.int .u64 a0, .int .i64 a1] w fun e w' => e = .returned (.bool true) ∧ Grown w w' := by
  obtain ⟨A, rfl, hA⟩ := word_of_u64 w0
  exact edges_w A hA a1 w

open Go.ChangeShapes Go.WideShapes Go.ChangeAt
set_option linter.unusedVariables false
theorem edges_own : ownKnob Try.prog.godebug = none := by kernel_rfl

set_option maxRecDepth 100000 in
theorem edges_lifted (os : Os) (started : os.Started) (H : Type) (enc : TypeId × Value → H) :
    ReturnsInHanded {} Try.checked os 6 .any (Rows.numEdgesSpec.pre6 enc Try.prog Try.f6 Rows.numEdgesRow.domain false) (Rows.numEdgesSpec.post enc Try.prog Try.f6 false true false false) := by
  refine returnsInHanded_of_change (C := Try.checked) edges_own started (by kernel_rfl) Try.func6
    (ChangeSpec.witness6 (enc := enc) (C := Try.checked) false ⟨#[], #[.int .u64 0, .int .i64 0], []⟩ 8 (by kernel_rfl) (by kernel_rfl) (by kernel_rfl) (by kernel_rfl)) ?_
  intro W base args ds gs before hval0 hW hcnd _
  have hval : ∀ (j : Nat) t v, Try.f6.params[j]? = some t → args[j]? = some v → Value.okWide Try.prog W .any base t v := hval0
  have hW' := hW
  obtain ⟨p, q, hA0, hV, rfl, hfz, hnd⟩ := hW
  have hA : DataW.TrodAll enc Try.prog W 0 (fun _ => true) true Try.f6.params.toList args.toList ds p := hA0
  rw [Try.params6] at hA hval
  obtain ⟨v0, vs0, d0, ds0, p0, q0, hargs, rfl, rfl, h0, r0⟩ := trodAll_cons hA
  obtain ⟨v1, vs1, d1, ds1, p1, q1, rfl, rfl, rfl, h1, r1⟩ := trodAll_cons r0
  obtain ⟨rfl, rfl, rfl⟩ := trodAll_nil r1
  obtain rfl : args = #[v0, v1] := by cases args; simp_all
  obtain ⟨rfl, rfl⟩ := trodVars_none hV
  obtain ⟨a0, rfl, rfl, rfl, w0⟩ := open_int Try.underlying28 (hval 0 28 v0 rfl rfl) h0
  obtain ⟨a1, rfl, rfl, rfl, w1⟩ := open_int Try.underlying3 (hval 1 3 v1 rfl rfl) h1
  clear hA0 hval0
  simp only [List.append_nil] at hW'
  refine (edges_any a0 a1 w0 W).mono fun e W' ⟨he, hg⟩ => ?_
  subst he
  exact ⟨_, rfl, post_of_same (pa := []) (pv := []) hW' (fun _ _ _ => (trodAll_cons_mk (shut_bool Try.underlying4 _) trodAll_mk0)) (fun sp _ => (trodAll_cons_mk (shut_int Try.underlying28 w0) (trodAll_cons_mk (shut_int Try.underlying3 w1) trodAll_mk0))) (fun _ _ => rfl) rfl
    (hg.frame _) hg.2.1 (ok_one (by kernel_rfl) rfl (okWide_bool_mk Try.underlying4 _))⟩

theorem NumEdges_holds : Rows.NumEdgesSaid :=
  OpenClaim.holds_of_wide 6 Try.f6 rfl rfl rfl rfl rfl rfl rfl ⟨rfl, rfl, rfl, rfl, rfl⟩ rfl rfl rfl rfl rfl (by kernel_rfl) Try.func6 (by kernel_rfl)
    (of_decide_eq_true (by kernel_rfl)) (by unfold Func.isWrapper; first | (rw [if_pos (by decide +kernel)]; kernel_rfl) | (rw [if_neg (by decide +kernel)]; exact ⟨rfl, rfl⟩))
    (fun os started H enc _ => edges_lifted os started H enc)

#print axioms NumEdges_holds
end Go.Proofs.Ytncmdbhbmbfdfaa
