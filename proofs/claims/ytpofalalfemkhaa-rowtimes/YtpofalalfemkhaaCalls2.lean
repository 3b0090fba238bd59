/-
  What Class, math's constants, the law's own 'known' and the drawn float do: for every word of 64 bits the call returns, and leaves memory as it was.
-/
import Derived.Test.YtpofalalfemkhaaCalls
import Derived.Test.YtpofalalfemkhaaPlain2
namespace Go.Proofs.Ytpofalalfemkhaa
open Go.RowKit

theorem fits_sum (a b : Nat) : Pl.Fits (Pl.sum a b) := by
  unfold Pl.sum
  cases h : Ieee.double.add a b with
  | none => show (9221120237041090561 : Nat) < 18446744073709551616; omega
  | some r => exact Pl.fits_canon (Ieee.Format.add_lt _ h)

theorem sign64 {a : Nat} (h : Pl.Fits a) : wrap64 (a : Int) < 0 ↔ 9223372036854775808 ≤ a := by
  unfold Pl.Fits at h
  unfold wrap64
  omega

theorem c1 {a : Nat} (ha : Pl.Fits a) (hn : Pl.isNan a = false) : (FloatKind.f64.format.order a 9218868437227405311 == some .gt) = decide (a = 9218868437227405312) := Pl.order_maxf ha hn
theorem c2 {a : Nat} (ha : Pl.Fits a) (hn : Pl.isNan a = false) : (FloatKind.f64.format.order (a ^^^ 9223372036854775808) 9218868437227405311 == some .gt) = decide (a = 18442240474082181120) := by
  have e : (FloatKind.f64.format.order (a ^^^ 9223372036854775808) 9218868437227405311 == some .gt) = decide (a ^^^ 9223372036854775808 = 9218868437227405312) :=
    Pl.order_maxf (Pl.fits_neg ha) (by rw [Pl.isNan_neg ha]; exact hn)
  rw [e, Pl.neg_word ha]
  congr 1
  apply propext
  unfold Pl.Fits at ha
  split <;> omega
theorem c3 {a : Nat} (ha : Pl.Fits a) (hn : Pl.isNan a = false) : (FloatKind.f64.format.order a 0 != some .eq) = decide (a ≠ 0 ∧ a ≠ 9223372036854775808) := Pl.order_zero ha hn

theorem copysign_w (w : World) :
    Calls Try.prog 84 #[.float .f64 0, .float .f64 13830554455654793216] w fun e w' => e = .returned (.float .f64 9223372036854775808) ∧ w = w' := by
  go_enter Try.func84, Try.ntmps84
  go_wp2
  go_ret
  refine ⟨?_, rfl⟩
  show Ending.returned (Value.float .f64 (bits .or .u64 (bits .andNot .u64 0 9223372036854775808) (bits .and .u64 13830554455654793216 9223372036854775808)).toNat) = _
  congr 2

/-- The word of an infinity, by a sign. -/
def infOf (s : Int) : Nat := if 0 ≤ s then 9218868437227405312 else 18442240474082181120

theorem inf_w (s : Int) (w : World) :
    Calls Try.prog 85 #[.int .i64 s] w fun e w' => e = .returned (.float .f64 (infOf s)) ∧ w = w' := by
  unfold infOf
  by_cases h : 0 ≤ s
  · rw [if_pos h]
    go_enter Try.func85, Try.ntmps85
    go_wp2
    go_ret
    exact ⟨rfl, rfl⟩
  · rw [if_neg h]
    go_enter Try.func85, Try.ntmps85
    go_wp2
    go_ret
    exact ⟨rfl, rfl⟩

theorem nan_w (w : World) :
    Calls Try.prog 86 #[] w fun e w' => e = .returned (.float .f64 9221120237041090561) ∧ w = w' := by
  go_enter Try.func86, Try.ntmps86
  go_wp2
  go_ret
  exact ⟨rfl, rfl⟩

theorem fits_top : Pl.Fits 9223372036854775808 := by unfold Pl.Fits; omega
theorem fits_zero : Pl.Fits 0 := by unfold Pl.Fits; omega
theorem fits_inf (s : Int) : Pl.Fits (infOf s) := by unfold infOf Pl.Fits; split <;> omega
theorem fits_nan : Pl.Fits 9221120237041090561 := by unfold Pl.Fits; omega

theorem k1 : (Pl.ord 9223372036854775808 0 == -1) = true := by decide +kernel
theorem k2 : (Pl.ord (infOf 1) 9221120237041090561 == -1) = true := by decide +kernel
theorem k3 : (Pl.cls (Pl.sum (infOf 1) (infOf (-1))) == 6) = true := by decide +kernel
theorem k4 : (Pl.cls (Pl.sum 9223372036854775808 9223372036854775808) == 3) = true := by decide +kernel

end Go.Proofs.Ytpofalalfemkhaa
