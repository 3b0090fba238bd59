/-
  More plain facts on words of doubles: how a word stands to zero and to the greatest number, what its negative is, which of the six kinds it is. Condition: the word fits 64 bits.
-/
import Derived.Test.YtpofalalfemkhaaBits
namespace Go.Proofs.Ytpofalalfemkhaa.Pl
open Ieee

theorem is_gt (x y : Int) : (some (compare x y) == some Ordering.gt) = decide (y < x) := by
  rcases Int.lt_trichotomy x y with h | h | h
  · rw [cmp_lt h, decide_eq_false (by omega)]; rfl
  · subst h; simp
  · rw [cmp_gt h, decide_eq_true h]; rfl

theorem is_lt (x y : Int) : (some (compare x y) == some Ordering.lt) = decide (x < y) := by
  rcases Int.lt_trichotomy x y with h | h | h
  · rw [cmp_lt h, decide_eq_true h]; rfl
  · subst h; simp
  · rw [cmp_gt h, decide_eq_false (by omega)]; rfl

theorem is_eq (x y : Int) : (some (compare x y) == some Ordering.eq) = decide (x = y) := by
  rcases Int.lt_trichotomy x y with h | h | h
  · rw [cmp_lt h, decide_eq_false (by omega)]; rfl
  · subst h; simp
  · rw [cmp_gt h, decide_eq_false (by omega)]; rfl

theorem xor_low {a : Nat} (h : a < 9223372036854775808) : a ^^^ 9223372036854775808 = a + 9223372036854775808 := by
  have e2 := Nat.two_pow_add_eq_or_of_lt (i := 63) (b := a) h 1
  have e3 : a + 9223372036854775808 = 2 ^ 63 ||| a := by
    rw [Nat.add_comm]
    exact e2
  rw [e3]
  apply Nat.eq_of_testBit_eq
  intro i
  have e4 : (9223372036854775808 : Nat) = 2 ^ 63 := by decide
  rw [e4, Nat.testBit_xor, Nat.testBit_or, Nat.testBit_two_pow]
  by_cases c : 63 = i
  · subst c
    rw [Nat.testBit_lt_two_pow h]
    rfl
  · simp [c]

theorem neg_word {a : Nat} (h : Fits a) : a ^^^ 9223372036854775808 = if 9223372036854775808 ≤ a then a - 9223372036854775808 else a + 9223372036854775808 := by
  unfold Fits at h
  split
  · rename_i c
    have e := xor_low (a := a - 9223372036854775808) (by omega)
    have e2 : a - 9223372036854775808 + 9223372036854775808 = a := by omega
    rw [e2] at e
    have e3 : (a - 9223372036854775808 ^^^ 9223372036854775808) ^^^ 9223372036854775808 = a - 9223372036854775808 := by
      rw [Nat.xor_assoc, Nat.xor_self, Nat.xor_zero]
    rw [e] at e3
    exact e3
  · exact xor_low (by omega)

theorem fits_neg {a : Nat} (h : Fits a) : Fits (a ^^^ 9223372036854775808) := by
  rw [neg_word h]; unfold Fits at *; split <;> omega

theorem sg_eq {a : Nat} (h : Fits a) : sg a = decide (9223372036854775808 ≤ a) := by
  unfold sg Fits at *
  by_cases c : 9223372036854775808 ≤ a
  · have : a / 9223372036854775808 % 2 = 1 := by omega
    rw [this]; simp [c]
  · have : a / 9223372036854775808 % 2 = 0 := by omega
    rw [this]; simp [c]

theorem word_eq {a : Nat} (h : Fits a) : a = (if sg a then 9223372036854775808 else 0) + rg a := by
  rw [sg_eq h]; unfold rg Fits at *
  by_cases c : 9223372036854775808 ≤ a <;> simp [c] <;> omega

theorem not_nan {a : Nat} (h : isNan a = false) : rg a ≤ 9218868437227405312 := by
  unfold isNan at h
  have := of_decide_eq_false h
  unfold rg; omega

theorem pos_maxf : pos 9218868437227405311 = 9218868437227405311 := by decide
theorem rg_maxf : rg 9218868437227405311 ≤ 9218868437227405312 := by decide
theorem pos_zero : pos 0 = 0 := by decide
theorem rg_zero : rg 0 ≤ 9218868437227405312 := by decide

theorem order_maxf {a : Nat} (hf : Fits a) (h : isNan a = false) : (double.order a 9218868437227405311 == some .gt) = decide (a = 9218868437227405312) := by
  have hr := not_nan h
  rw [order_num hr rg_maxf, is_gt, pos_maxf]
  congr 1
  apply propext
  unfold pos
  rw [sg_eq hf]
  unfold rg Fits at *
  by_cases c : 9223372036854775808 ≤ a <;> simp [c] <;> omega

theorem isNan_neg {a : Nat} (hf : Fits a) : isNan (a ^^^ 9223372036854775808) = isNan a := by
  rw [neg_word hf]; unfold Fits at hf
  have key : ∀ b : Nat, b % 9223372036854775808 = a % 9223372036854775808 → isNan b = isNan a := fun b h => by unfold isNan; rw [h]
  split <;> apply key <;> omega

theorem order_zero {a : Nat} (hf : Fits a) (h : isNan a = false) : (double.order a 0 != some .eq) = decide (a ≠ 0 ∧ a ≠ 9223372036854775808) := by
  have hr := not_nan h
  have e : (double.order a 0 == some .eq) = decide (a = 0 ∨ a = 9223372036854775808) := by
    rw [order_num hr rg_zero, is_eq, pos_zero]
    congr 1
    apply propext
    unfold pos
    rw [sg_eq hf]
    unfold rg Fits at *
    by_cases c : 9223372036854775808 ≤ a <;> simp [c] <;> omega
  have e2 : (double.order a 0 != some .eq) = !(double.order a 0 == some .eq) := rfl
  rw [e2, e]
  by_cases c1 : a = 0 <;> by_cases c2 : a = 9223372036854775808 <;> simp [c1, c2]

end Go.Proofs.Ytpofalalfemkhaa.Pl
