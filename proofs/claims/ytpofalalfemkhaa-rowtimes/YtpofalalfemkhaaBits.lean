/-
  Plain facts on the bit operations that the num package and the document's own answer use: the sign bit, the exponent's bits, the fraction's bits of a 64-bit word, in plain arithmetic. Condition: the word fits 64 bits.
-/
import Derived.Laws.BitsAllLaws
import Derived.Test.YtpofalalfemkhaaPlain
namespace Go.Proofs.Ytpofalalfemkhaa.Pl

/-- A word fits 64 bits. -/
def Fits (a : Nat) : Prop := a < 18446744073709551616

theorem fits_of_wf {b : Nat} (h : (Lit.float .f64 b).wf = true) : Fits b := by
  have : b < 2 ^ 64 := by simpa [Lit.wf] using h
  exact this

theorem wf_of_fits {b : Nat} (h : Fits b) : (Lit.float .f64 b).wf = true := by
  have : b < 2 ^ 64 := h
  simp [Lit.wf, this]

theorem fits_canon {a : Nat} (h : Fits a) : Fits (canon a) := by
  unfold canon Fits at *; split <;> omega

theorem and_top (a : Nat) : a &&& 9223372036854775808 = (a / 9223372036854775808 % 2) * 9223372036854775808 := by
  have e1 : a / 9223372036854775808 % 2 = (a >>> 63) &&& 1 := by
    rw [Nat.shiftRight_eq_div_pow]
    exact (Nat.and_two_pow_sub_one_eq_mod _ 1).symm
  have e2 : ((a >>> 63) &&& 1) * 9223372036854775808 = ((a >>> 63) &&& 1) <<< 63 := by rw [Nat.shiftLeft_eq]
  have e3 : (9223372036854775808 : Nat) = 1 <<< 63 := by decide
  rw [e1, e2, e3]
  apply Nat.eq_of_testBit_eq
  intro i
  simp only [Nat.testBit_and, Nat.testBit_shiftLeft, Nat.testBit_shiftRight]
  by_cases c : 63 ≤ i
  · have : 63 + (i - 63) = i := by omega
    simp [c, this]
  · simp [c]

theorem and_sign {a : Nat} (h : Fits a) : bits .and .u64 (a : Int) 9223372036854775808 = if 9223372036854775808 ≤ a then 9223372036854775808 else 0 := by
  have e := u64_and_nat a 9223372036854775808 h (by omega)
  rw [and_top] at e
  refine Eq.trans e ?_
  unfold Fits at h
  split <;> omega

theorem xor_max {a : Nat} (h : Fits a) : bits .xor .u64 IntKind.u64.max (a : Int) = ((18446744073709551615 - a : Nat) : Int) := by
  have o : BitVec.ofInt 64 IntKind.u64.max = BitVec.allOnes 64 := by decide
  show IntKind.u64.wrap ((BitVec.ofInt 64 IntKind.u64.max ^^^ BitVec.ofInt 64 (a : Int)).toNat : Int) = _
  rw [o, BitVec.allOnes_xor, BitVec.toNat_not, ofInt_u64 a h, IntKind.wrap_u64]
  unfold Fits at h
  omega

theorem or_sign {a : Nat} (h : a < 9223372036854775808) : bits .or .u64 (a : Int) 9223372036854775808 = ((a + 9223372036854775808 : Nat) : Int) := by
  have e := u64_or_nat a 9223372036854775808 (by omega) (by omega)
  have e2 := Nat.two_pow_add_eq_or_of_lt (i := 63) (b := a) h 1
  have e3 : a ||| 9223372036854775808 = 9223372036854775808 + a := by
    rw [Nat.or_comm]
    exact e2.symm
  rw [e3] at e
  refine Eq.trans e ?_
  omega

theorem and_exp (a : Nat) : a &&& 9218868437227405312 = (a / 4503599627370496 % 2048) * 4503599627370496 := by
  have e1 : a / 4503599627370496 % 2048 = (a >>> 52) &&& 2047 := by
    rw [Nat.shiftRight_eq_div_pow]
    exact (Nat.and_two_pow_sub_one_eq_mod _ 11).symm
  have e2 : ((a >>> 52) &&& 2047) * 4503599627370496 = ((a >>> 52) &&& 2047) <<< 52 := by rw [Nat.shiftLeft_eq]
  have e3 : (9218868437227405312 : Nat) = 2047 <<< 52 := by decide
  rw [e1, e2, e3]
  apply Nat.eq_of_testBit_eq
  intro i
  simp only [Nat.testBit_and, Nat.testBit_shiftLeft, Nat.testBit_shiftRight]
  by_cases c : 52 ≤ i
  · have : 52 + (i - 52) = i := by omega
    simp [c, this]
  · simp [c]

theorem and_frac (a : Nat) : a &&& 4503599627370495 = a % 4503599627370496 := Nat.and_two_pow_sub_one_eq_mod a 52

theorem and_exp64 {a : Nat} (h : Fits a) : bits .and .u64 (a : Int) 9218868437227405312 = ((a / 4503599627370496 % 2048 * 4503599627370496 : Nat) : Int) := by
  rw [← and_exp]; exact u64_and_nat a 9218868437227405312 h (by omega)

theorem and_frac64 {a : Nat} (h : Fits a) : bits .and .u64 (a : Int) 4503599627370495 = ((a % 4503599627370496 : Nat) : Int) := by
  rw [← and_frac]; exact u64_and_nat a 4503599627370495 h (by omega)

end Go.Proofs.Ytpofalalfemkhaa.Pl
