/-
  What Class, math's constants, the law's own 'known' and the drawn float do: for every word of 64 bits the call returns, and leaves memory as it was.
-/
import Derived.Test.YtncmdbhbmbfdfaaCalls
import Derived.Test.YtncmdbhbmbfdfaaPlain2
namespace Go.Proofs.Ytncmdbhbmbfdfaa
open Go.RowKit

theorem fits_sum (a b : Nat) : Pl.Fits (Pl.sum a b) := by
  unfold Pl.sum
  cases h : Ieee.double.add a b with
  | none => show (9221120237041090561 : Nat) < 18446744073709551616; omega
  | some r => exact Pl.fits_canon (Ieee.Format.add_lt _ h)

theorem sign64 {a : Nat} (h : Pl.Fits a) : wrap64 (a : Int) < 0 ↔ 9223372036854775808 ≤ a := by
  unfold Pl.Fits at h
  unfold wrap64
  omega

theorem c1 {a : Nat} (ha : Pl.Fits a) (hn : Pl.isNan a = false) : (FloatKind.f64.format.order a 9218868437227405311 == some .gt) = decide (a = 9218868437227405312) := Pl.order_maxf ha hn
theorem c2 {a : Nat} (ha : Pl.Fits a) (hn : Pl.isNan a = false) : (FloatKind.f64.format.order (a ^^^ 9223372036854775808) 9218868437227405311 == some .gt) = decide (a = 18442240474082181120) := by
  have e : (FloatKind.f64.format.order (a ^^^ 9223372036854775808) 9218868437227405311 == some .gt) = decide (a ^^^ 9223372036854775808 = 9218868437227405312) :=
    Pl.order_maxf (Pl.fits_neg ha) (by rw [Pl.isNan_neg ha]; exact hn)
  rw [e, Pl.neg_word ha]
  congr 1
  apply propext
  unfold Pl.Fits at ha
  split <;> omega
theorem c3 {a : Nat} (ha : Pl.Fits a) (hn : Pl.isNan a = false) : (FloatKind.f64.format.order a 0 != some .eq) = decide (a ≠ 0 ∧ a ≠ 9223372036854775808) := Pl.order_zero ha hn

theorem cls_w (a : Nat) (ha : Pl.Fits a) (w : World) :
    Calls Try.prog 25 #[.float .f64 a] w fun e w' => e = .returned (.int .i64 (Pl.cls a)) ∧ w = w' := by
  cases hn : Pl.isNan a
  · go_enter Try.func25, Try.ntmps25
    go_wp2_with (first | (go_at_call 40; refine (isNaN_w _ _).mono ?_; rintro _ _ ⟨rfl, rfl⟩) | go_in)
    all_goals (go_ret; refine ⟨?_, rfl⟩; congr 2)
    all_goals have f1 := c1 ha hn
    all_goals have f2 := c2 ha hn
    all_goals have f3 := c3 ha hn
    all_goals have f4 := sign64 ha
    all_goals simp only [f1, f2, f3, decide_eq_true_eq, decide_eq_false_iff_not] at *
    all_goals unfold Pl.cls
    all_goals simp only [hn, Bool.false_eq_true, if_false]
    · rename_i h; subst h; rfl
    · rename_i h1 h2; subst h2; rfl
    · rename_i h1 h2 h3; rw [if_neg h1, if_neg h2, if_neg h3.1, if_neg h3.2]; rfl
    · rename_i h1 h2 h3 h4
      have : a = 9223372036854775808 := by omega
      subst this; rfl
    · rename_i h1 h2 h3 h4
      have : a = 0 := by omega
      subst this; rfl
  · go_enter Try.func25, Try.ntmps25
    go_wp2_with (first | (go_at_call 40; refine (isNaN_w _ _).mono ?_; rintro _ _ ⟨rfl, rfl⟩) | go_in)
    go_ret
    refine ⟨?_, rfl⟩
    simp [Pl.cls, hn]

theorem copysign_w (w : World) :
    Calls Try.prog 22 #[.float .f64 0, .float .f64 13830554455654793216] w fun e w' => e = .returned (.float .f64 9223372036854775808) ∧ w = w' := by
  go_enter Try.func22, Try.ntmps22
  go_wp2
  go_ret
  refine ⟨?_, rfl⟩
  show Ending.returned (Value.float .f64 (bits .or .u64 (bits .andNot .u64 0 9223372036854775808) (bits .and .u64 13830554455654793216 9223372036854775808)).toNat) = _
  congr 2

/-- The word of an infinity, by a sign. -/
def infOf (s : Int) : Nat := if 0 ≤ s then 9218868437227405312 else 18442240474082181120

theorem inf_w (s : Int) (w : World) :
    Calls Try.prog 26 #[.int .i64 s] w fun e w' => e = .returned (.float .f64 (infOf s)) ∧ w = w' := by
  unfold infOf
  by_cases h : 0 ≤ s
  · rw [if_pos h]
    go_enter Try.func26, Try.ntmps26
    go_wp2
    go_ret
    exact ⟨rfl, rfl⟩
  · rw [if_neg h]
    go_enter Try.func26, Try.ntmps26
    go_wp2
    go_ret
    exact ⟨rfl, rfl⟩

theorem nan_w (w : World) :
    Calls Try.prog 24 #[] w fun e w' => e = .returned (.float .f64 9221120237041090561) ∧ w = w' := by
  go_enter Try.func24, Try.ntmps24
  go_wp2
  go_ret
  exact ⟨rfl, rfl⟩

theorem fits_top : Pl.Fits 9223372036854775808 := by unfold Pl.Fits; omega
theorem fits_zero : Pl.Fits 0 := by unfold Pl.Fits; omega
theorem fits_inf (s : Int) : Pl.Fits (infOf s) := by unfold infOf Pl.Fits; split <;> omega
theorem fits_nan : Pl.Fits 9221120237041090561 := by unfold Pl.Fits; omega

theorem k1 : (Pl.ord 9223372036854775808 0 == -1) = true := by decide +kernel
theorem k2 : (Pl.ord (infOf 1) 9221120237041090561 == -1) = true := by decide +kernel
theorem k3 : (Pl.cls (Pl.sum (infOf 1) (infOf (-1))) == 6) = true := by decide +kernel
theorem k4 : (Pl.cls (Pl.sum 9223372036854775808 9223372036854775808) == 3) = true := by decide +kernel

theorem known_w (w : World) :
    Calls Try.prog 12 #[] w fun e w' => e = .returned (.bool true) ∧ Still w w' := by
  have k1 := k1
  have k2 := k2
  have k3 := k3
  have k4 := k4
  have f1 := fits_top
  have f2 := fits_zero
  have f3 := fits_inf 1
  have f4 := fits_nan
  go_enter Try.func12, Try.ntmps12
  go_wp2_with (first
    | (go_at_call 22; refine (copysign_w _).mono ?_; rintro _ _ ⟨rfl, rfl⟩)
    | (go_at_call 26; refine (inf_w _ _).mono ?_; rintro _ _ ⟨rfl, rfl⟩)
    | (go_at_call 24; refine (nan_w _).mono ?_; rintro _ _ ⟨rfl, rfl⟩)
    | (go_at_call 18; refine (order_w _ _ (by assumption) (by assumption) _).mono ?_; rintro _ _ ⟨rfl, rfl⟩)
    | (go_at_call 23; refine (sum_w _ _ _).mono ?_; rintro _ _ ⟨rfl, hs⟩)
    | (go_at_call 25; refine (cls_w _ (fits_sum _ _) _).mono ?_; rintro _ _ ⟨rfl, rfl⟩))
  go_ret
  exact ⟨rfl, by repeat (first | assumption | exact Still.refl _ | refine Still.trans ?_ (by assumption))⟩

end Go.Proofs.Ytncmdbhbmbfdfaa
