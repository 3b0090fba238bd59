/-
  The order of words is an order, without any program: of two words one is below or they are one; what is below what is below is below; it agrees with the order of floats where both are numbers. Condition: the words fit 64 bits.
-/
import Derived.Test.YtpofalalfemkhaaPlain2
import Derived.RowKit
namespace Go.Proofs.Ytpofalalfemkhaa.Pl
open Ieee Go.RowKit

theorem cmp_cases (x y : Nat) : (x < y ∧ cmp x y = -1 ∧ cmp y x = 1) ∨ (x = y ∧ cmp x y = 0 ∧ cmp y x = 0) ∨ (y < x ∧ cmp x y = 1 ∧ cmp y x = -1) := by
  unfold cmp
  rcases Nat.lt_trichotomy x y with h | h | h
  · left; refine ⟨h, by rw [if_pos h], by rw [if_neg (by omega), if_pos h]⟩
  · right; left; subst h; simp
  · right; right; refine ⟨h, by rw [if_neg (by omega), if_pos h], by rw [if_pos h]⟩

theorem canon_fits_lt {a : Nat} (h : Fits a) : canon a < 18446744073709551616 := fits_canon h

theorem rank_inj {a b : Nat} (ha : Fits a) (hb : Fits b) : rank a = rank b ↔ canon a = canon b := by
  have h1 := canon_fits_lt ha
  have h2 := canon_fits_lt hb
  unfold rank
  split <;> split <;> omega

theorem neg64 {x : Int} (h : -1 ≤ x ∧ x ≤ 1) : wrap64 (-x) = -x := by unfold wrap64; omega

theorem ord_bounds (a b : Nat) : -1 ≤ ord a b ∧ ord a b ≤ 1 := by
  unfold ord
  rcases cmp_cases (rank a) (rank b) with h | h | h <;> omega

theorem ord_anti (a b : Nat) : (ord a b == wrap64 (-(ord b a))) = true := by
  rw [neg64 (ord_bounds b a)]
  unfold ord
  rcases cmp_cases (rank a) (rank b) with h | h | h <;> rw [h.2.1, h.2.2] <;> rfl

theorem ord_zero {a b : Nat} (ha : Fits a) (hb : Fits b) : (ord a b == 0) = (canon a == canon b) := by
  have hr := rank_inj ha hb
  unfold ord
  rcases cmp_cases (rank a) (rank b) with h | h | h
  · rw [h.2.1]
    have : ¬ canon a = canon b := fun e => by have := hr.2 e; omega
    simp [this]
  · rw [h.2.1]
    have := hr.1 h.1
    simp [this]
  · rw [h.2.1]
    have : ¬ canon a = canon b := fun e => by have := hr.2 e; omega
    simp [this]

theorem ord_le (a b : Nat) : ord a b ≤ 0 ↔ rank a ≤ rank b := by
  unfold ord
  rcases cmp_cases (rank a) (rank b) with h | h | h <;> rw [h.2.1] <;> constructor <;> intro g <;> omega

theorem ord_trans {a b c : Nat} (h1 : ord a b ≤ 0) (h2 : ord b c ≤ 0) : ord a c ≤ 0 := by
  rw [ord_le] at *; omega

theorem ord_lt (a b : Nat) : (ord a b == -1) = decide (rank a < rank b) := by
  unfold ord
  rcases cmp_cases (rank a) (rank b) with h | h | h <;> rw [h.2.1]
  · rw [decide_eq_true h.1]; rfl
  · rw [decide_eq_false (by omega)]; rfl
  · rw [decide_eq_false (by omega)]; rfl

theorem canon_num {a : Nat} (h : isNan a = false) : canon a = a := by simp [canon, h]
theorem canon_nan {a : Nat} (h : isNan a = true) : canon a = 9221120237041090561 := by simp [canon, h]
theorem isNan_canon (a : Nat) : isNan (canon a) = isNan a := by
  cases h : isNan a
  · rw [canon_num h, h]
  · rw [canon_nan h]; decide
theorem canon_canon (a : Nat) : canon (canon a) = canon a := by
  cases h : isNan a
  · rw [canon_num h, canon_num h]
  · rw [canon_nan h]; decide

theorem rank_pos {a : Nat} (ha : Fits a) (hn : isNan a = false) : (rank a : Int) = 9223372036854775808 + pos a - (if sg a then 1 else 0) := by
  unfold rank pos
  rw [canon_num hn, sg_eq ha]
  unfold rg Fits at *
  by_cases c : 9223372036854775808 ≤ a <;> simp [c] <;> omega

/-- Where two numbers are not 'a >= b', a is below b. -/
theorem below_of_order {a b : Nat} (ha : Fits a) (hb : Fits b) (na : isNan a = false) (nb : isNan b = false)
    (h : (double.order a b == some .gt || double.order a b == some .eq) = false) : rank a < rank b := by
  rw [order_num (not_nan na) (not_nan nb), is_gt, is_eq] at h
  simp at h
  have e1 := rank_pos ha na
  have e2 := rank_pos hb nb
  have lt : pos a < pos b := by omega
  have s1 : sg a = false → 0 ≤ pos a := fun e => by unfold pos; rw [e]; simp
  have s2 : sg b = true → pos b ≤ 0 := fun e => by unfold pos; rw [e]; simp
  cases ca : sg a <;> cases cb : sg b <;> rw [ca] at e1 <;> rw [cb] at e2 <;> simp at e1 e2
  · omega
  · have := s1 ca; have := s2 cb; omega
  · omega
  · omega

end Go.Proofs.Ytpofalalfemkhaa.Pl
