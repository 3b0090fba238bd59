/-
  Proved: NumOrders returns true for every three words and every two drawn numbers, and its arguments read as before. No condition.
-/
import Derived.Test.YtncmdbhbmbfdfaaFloat
import Derived.Test.YtncmdbhbmbfdfaaPlain3
import Derived.ProofKit
import Derived.OpenShut
namespace Go.Proofs.Ytncmdbhbmbfdfaa
open Go.RowKit

theorem beq_cast (a b : Nat) : ((a : Int) == (b : Int)) = (a == b) := by
  rw [Bool.eq_iff_iff]; simp; omega

/-- The ways of three words in the order. -/
theorem orders_cases {a q : Nat} (r : Nat) (ha : Pl.Fits a) (hq : Pl.Fits q) :
    (Pl.ord a q = 1 ∧ Pl.ord q a = -1 ∧ ((Pl.canon a : Int) == (Pl.canon q : Int)) = false)
    ∨ (Pl.ord a q = 0 ∧ Pl.ord q a = 0 ∧ ((Pl.canon a : Int) == (Pl.canon q : Int)) = true ∧ 0 < Pl.ord q r)
    ∨ (Pl.ord a q = 0 ∧ Pl.ord q a = 0 ∧ ((Pl.canon a : Int) == (Pl.canon q : Int)) = true ∧ Pl.ord q r ≤ 0 ∧ Pl.ord a r ≤ 0)
    ∨ (Pl.ord a q = -1 ∧ Pl.ord q a = 1 ∧ ((Pl.canon a : Int) == (Pl.canon q : Int)) = false ∧ 0 < Pl.ord q r)
    ∨ (Pl.ord a q = -1 ∧ Pl.ord q a = 1 ∧ ((Pl.canon a : Int) == (Pl.canon q : Int)) = false ∧ Pl.ord q r ≤ 0 ∧ Pl.ord a r ≤ 0) := by
  have hz := Pl.ord_zero ha hq
  rw [beq_cast, ← hz]
  rcases Int.lt_or_le 0 (Pl.ord q r) with h | h
  · rcases Pl.cmp_cases (Pl.rank a) (Pl.rank q) with ⟨_, h1, h2⟩ | ⟨_, h1, h2⟩ | ⟨_, h1, h2⟩
    · right; right; right; left; exact ⟨h1, h2, by rw [show Pl.ord a q = -1 from h1]; rfl, h⟩
    · right; left; exact ⟨h1, h2, by rw [show Pl.ord a q = 0 from h1]; rfl, h⟩
    · left; exact ⟨h1, h2, by rw [show Pl.ord a q = 1 from h1]; rfl⟩
  · rcases Pl.cmp_cases (Pl.rank a) (Pl.rank q) with ⟨_, h1, h2⟩ | ⟨_, h1, h2⟩ | ⟨_, h1, h2⟩
    · right; right; right; right; exact ⟨h1, h2, by rw [show Pl.ord a q = -1 from h1]; rfl, h, Pl.ord_trans (b := q) (by rw [show Pl.ord a q = -1 from h1]; decide) h⟩
    · right; right; left; exact ⟨h1, h2, by rw [show Pl.ord a q = 0 from h1]; rfl, h, Pl.ord_trans (b := q) (by rw [show Pl.ord a q = 0 from h1]; decide) h⟩
    · left; exact ⟨h1, h2, by rw [show Pl.ord a q = 1 from h1]; rfl⟩

/-- The ways of two words as floats. -/
theorem floats_cases {a q : Nat} (ha : Pl.Fits a) (hq : Pl.Fits q) :
    FloatKind.f64.format.order a q = some .gt ∨ FloatKind.f64.format.order a q = some .eq
    ∨ (FloatKind.f64.format.order a q = some .lt ∧ Pl.ord a q = -1)
    ∨ (FloatKind.f64.format.order a q = none ∧ (FloatKind.f64.format.order a a != some .eq) = true)
    ∨ (FloatKind.f64.format.order a q = none ∧ (FloatKind.f64.format.order a a != some .eq) = false ∧ (FloatKind.f64.format.order q q != some .eq) = true) := by
  have sa : (FloatKind.f64.format.order a a != some .eq) = Pl.isNan a := Pl.order_self a
  have sq : (FloatKind.f64.format.order q q != some .eq) = Pl.isNan q := Pl.order_self q
  rw [sa, sq]
  cases na : Pl.isNan a
  · cases nq : Pl.isNan q
    · have e : FloatKind.f64.format.order a q = some (compare (Pl.pos a) (Pl.pos q)) := Pl.order_num (Pl.not_nan na) (Pl.not_nan nq)
      cases c : compare (Pl.pos a) (Pl.pos q)
      · right; right; left
        refine ⟨by rw [e, c], ?_⟩
        have lt := Pl.below_of_order ha hq na nq (by
          have e' : Ieee.double.order a q = some .lt := by rw [← c]; exact e
          rw [e']; rfl)
        have := Pl.ord_lt a q
        rw [decide_eq_true lt] at this
        exact eq_of_beq this
      · right; left; rw [e, c]
      · left; rw [e, c]
    · right; right; right; right
      exact ⟨Pl.order_nan_right nq, rfl, rfl⟩
  · right; right; right; left
    exact ⟨Pl.order_nan_left na, rfl⟩

set_option maxHeartbeats 4000000 in
theorem orders_w (A B C : Nat) (hA : Pl.Fits A) (hB : Pl.Fits B) (hC : Pl.Fits C) (a3 a4 : Int) (w : World) :
    Calls Try.prog 5 #[.int .u64 A, .int .u64 B, .int .u64 C, .int .i64 a3, .int .i64 a4] w fun e w' => e = .returned (.bool true) ∧ Grown w w' := by
  go_enter Try.func5, Try.ntmps5
  go_wp2_with (first
    | (go_at_call 13; revert hq; intro hq; refine (float_w _ _ (by assumption) _).mono ?_; rintro _ _ ⟨r, hr, rfl, rfl⟩)
    | (go_at_call 13; refine (float_w _ _ (by assumption) _).mono ?_; rintro _ _ ⟨q, hq, rfl, rfl⟩))
  have cc := Pl.canon_canon A
  have fl := floats_cases hA hq
  rcases orders_cases r hA hq with ⟨o1, o2, o3⟩ | ⟨o1, o2, o3, o4⟩ | ⟨o1, o2, o3, o4, o5⟩ | ⟨o1, o2, o3, o4⟩ | ⟨o1, o2, o3, o4, o5⟩
  all_goals rcases fl with g | g | ⟨g, g0⟩ | ⟨g, g0⟩ | ⟨g, g0, g1⟩
  all_goals first | exact absurd (o1.symm.trans g0) (by decide) | skip
  all_goals go_wp2_with (first
    | (go_at_call 18; refine (order_w _ _ (by assumption) (by assumption) _).mono ?_; rintro _ _ ⟨rfl, rfl⟩)
    | (go_at_call 20; refine (same_w _ _ (by assumption) (by assumption) _).mono ?_; rintro _ _ ⟨rfl, rfl⟩)
    | (go_at_call 19; refine (numBits_w _ _).mono ?_; rintro _ _ ⟨rfl, rfl⟩)
    | (go_at_call 21; refine (canon_w _ _).mono ?_; rintro _ _ ⟨rfl, rfl⟩)
    | (go_at_call 15; refine (bits_w _ _).mono ?_; rintro _ _ ⟨rfl, rfl⟩)
    | (go_at_call 12; refine (known_w _).mono ?_; rintro _ _ ⟨rfl, hs⟩))
  all_goals (go_ret; exact ⟨rfl, by first | exact Still.grown (by assumption) | exact Grown.refl _⟩)

theorem nat_of_u64 {a : Int} (h : (Lit.int .u64 a).wf = true) : ∃ A : Nat, a = (A : Int) ∧ Pl.Fits A := by
  have : 0 ≤ a ∧ a ≤ 18446744073709551615 := by simpa [Lit.wf, IntKind.min, IntKind.max, IntKind.signed, IntKind.bits] using h
  exact ⟨a.toNat, by omega, by unfold Pl.Fits; omega⟩

theorem orders_any (a0 a1 a2 a3 a4 : Int) (w0 : (Lit.int .u64 a0).wf = true) (w1 : (Lit.int .u64 a1).wf = true) (w2 : (Lit.int .u64 a2).wf = true) (w : World) :
    Calls Try.prog 5 #[.int .u64 a0, .int .u64 a1, .int .u64 a2, .int .i64 a3, .int .i64 a4] w fun e w' => e = .returned (.bool true) ∧ Grown w w' := by
  obtain ⟨A, rfl, hA⟩ := nat_of_u64 w0
  obtain ⟨B, rfl, hB⟩ := nat_of_u64 w1
  obtain ⟨C, rfl, hC⟩ := nat_of_u64 w2
  exact orders_w A B C hA hB hC a3 a4 w

open Go.ChangeShapes Go.WideShapes Go.ChangeAt
set_option linter.unusedVariables false
theorem own : ownKnob Try.prog.godebug = none := by kernel_rfl

set_option maxRecDepth 100000 in
theorem orders_lifted (os : Os) (started : os.Started) (H : Type) (enc : TypeId × Value → H) :
    ReturnsInHanded {} Try.checked os 5 .any (Rows.numOrdersSpec.pre6 enc Try.prog Try.f5 Rows.numOrdersRow.domain false) (Rows.numOrdersSpec.post enc Try.prog Try.f5 false true false false) := by
  refine returnsInHanded_of_change (C := Try.checked) own started (by kernel_rfl) Try.func5
    (ChangeSpec.witness6 (enc := enc) (C := Try.checked) false ⟨#[], #[.int .u64 0, .int .u64 0, .int .u64 0, .int .i64 0, .int .i64 0], []⟩ 8 (by kernel_rfl) (by kernel_rfl) (by kernel_rfl) (by kernel_rfl)) ?_
  intro W base args ds gs before hval0 hW hcnd _
  have hval : ∀ (j : Nat) t v, Try.f5.params[j]? = some t → args[j]? = some v → Value.okWide Try.prog W .any base t v := hval0
  have hW' := hW
  obtain ⟨p, q, hA0, hV, rfl, hfz, hnd⟩ := hW
  have hA : DataW.TrodAll enc Try.prog W 0 (fun _ => true) true Try.f5.params.toList args.toList ds p := hA0
  rw [Try.params5] at hA hval
  obtain ⟨v0, vs0, d0, ds0, p0, q0, hargs, rfl, rfl, h0, r0⟩ := trodAll_cons hA
  obtain ⟨v1, vs1, d1, ds1, p1, q1, rfl, rfl, rfl, h1, r1⟩ := trodAll_cons r0
  obtain ⟨v2, vs2, d2, ds2, p2, q2, rfl, rfl, rfl, h2, r2⟩ := trodAll_cons r1
  obtain ⟨v3, vs3, d3, ds3, p3, q3, rfl, rfl, rfl, h3, r3⟩ := trodAll_cons r2
  obtain ⟨v4, vs4, d4, ds4, p4, q4, rfl, rfl, rfl, h4, r4⟩ := trodAll_cons r3
  obtain ⟨rfl, rfl, rfl⟩ := trodAll_nil r4
  obtain rfl : args = #[v0, v1, v2, v3, v4] := by cases args; simp_all
  obtain ⟨rfl, rfl⟩ := trodVars_none hV
  obtain ⟨a0, rfl, rfl, rfl, w0⟩ := open_int Try.underlying28 (hval 0 28 v0 rfl rfl) h0
  obtain ⟨a1, rfl, rfl, rfl, w1⟩ := open_int Try.underlying28 (hval 1 28 v1 rfl rfl) h1
  obtain ⟨a2, rfl, rfl, rfl, w2⟩ := open_int Try.underlying28 (hval 2 28 v2 rfl rfl) h2
  obtain ⟨a3, rfl, rfl, rfl, w3⟩ := open_int Try.underlying3 (hval 3 3 v3 rfl rfl) h3
  obtain ⟨a4, rfl, rfl, rfl, w4⟩ := open_int Try.underlying3 (hval 4 3 v4 rfl rfl) h4
  clear hA0 hval0
  simp only [List.append_nil] at hW'
  refine (orders_any a0 a1 a2 a3 a4 w0 w1 w2 W).mono fun e W' ⟨he, hg⟩ => ?_
  subst he
  exact ⟨_, rfl, post_of_same (pa := []) (pv := []) hW' (fun _ _ _ => (trodAll_cons_mk (shut_bool Try.underlying4 _) trodAll_mk0)) (fun sp _ => (trodAll_cons_mk (shut_int Try.underlying28 w0) (trodAll_cons_mk (shut_int Try.underlying28 w1) (trodAll_cons_mk (shut_int Try.underlying28 w2) (trodAll_cons_mk (shut_int Try.underlying3 w3) (trodAll_cons_mk (shut_int Try.underlying3 w4) trodAll_mk0)))))) (fun _ _ => rfl) rfl
    (hg.frame _) hg.2.1 (ok_one (by kernel_rfl) rfl (okWide_bool_mk Try.underlying4 _))⟩

theorem NumOrders_holds : Rows.NumOrdersSaid :=
  OpenClaim.holds_of_wide 5 Try.f5 rfl rfl rfl rfl rfl rfl rfl ⟨rfl, rfl, rfl, rfl, rfl⟩ rfl rfl rfl rfl rfl (by kernel_rfl) Try.func5 (by kernel_rfl)
    (of_decide_eq_true (by kernel_rfl)) (by unfold Func.isWrapper; first | (rw [if_pos (by decide +kernel)]; kernel_rfl) | (rw [if_neg (by decide +kernel)]; exact ⟨rfl, rfl⟩))
    (fun os started H enc _ => orders_lifted os started H enc)

#print axioms NumOrders_holds
end Go.Proofs.Ytncmdbhbmbfdfaa
