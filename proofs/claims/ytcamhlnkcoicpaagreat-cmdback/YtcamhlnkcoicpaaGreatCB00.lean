/-
  Plain, Bits, Plain2, Plain3, Plain4, Plain5, Calls, Calls2: our texts of these names, laid into one.
-/
import Derived.Laws.FloatArith
import Derived.Laws.BitsAllLaws
import Derived.RowKit
import Derived.Test.YtcamhlnkcoicpaaGreatRows
import Derived.WalkKit
import Derived.WalkSpells
import Derived.WalkLawsBesides
import Derived.Deep.Draws
/-
  Plain facts on the words of IEEE 754 doubles (no program in sight): which words are no numbers, what the one word of all of them is, in which order words stand, what a sum is. No condition but that a word fits 64 bits, where it is said.
-/
namespace Go.Proofs.YtcamhlnkcoicpaaGreat.Pl
open Ieee

def isNan (b : Nat) : Bool := decide (9218868437227405312 < b % 9223372036854775808)
def canon (b : Nat) : Nat := if isNan b then 9221120237041090561 else b
def rank (b : Nat) : Nat := if 9223372036854775808 ≤ canon b then 18446744073709551615 - canon b else canon b + 9223372036854775808
def cmp (x y : Nat) : Int := if x < y then -1 else if y < x then 1 else 0
def ord (a b : Nat) : Int := cmp (rank a) (rank b)
def sum (a b : Nat) : Nat := match double.add a b with | some r => canon r | none => 9221120237041090561
theorem sw : double.signWeight = 9223372036854775808 := by decide
theorem bn : double.binade = 4503599627370496 := by decide
theorem ir : double.infRung = 9218868437227405312 := by decide
theorem lp : double.leastPlace = -1074 := by decide

/-- The magnitude of a rung, in units of the least place. -/
def val (r : Nat) : Nat := if r < 4503599627370496 then r else (4503599627370496 + r % 4503599627370496) * 2 ^ (r / 4503599627370496 - 1)

/-- The sign and the rung of a word. -/
def sg (b : Nat) : Bool := b / 9223372036854775808 % 2 == 1
def rg (b : Nat) : Nat := b % 9223372036854775808

theorem val_step (r : Nat) : val r < val (r + 1) := by
  unfold val
  by_cases h1 : r + 1 < 4503599627370496
  · rw [if_pos h1, if_pos (by omega)]; omega
  · rw [if_neg h1]
    by_cases h2 : r < 4503599627370496
    · have : r = 4503599627370495 := by omega
      subst this; decide
    · rw [if_neg h2]
      by_cases h3 : (r + 1) % 4503599627370496 = 0
      · have e1 : (r + 1) / 4503599627370496 - 1 = (r / 4503599627370496 - 1) + 1 := by omega
        have e2 : r % 4503599627370496 = 4503599627370495 := by omega
        rw [e1, h3, e2, Nat.pow_succ]
        have : 0 < 2 ^ (r / 4503599627370496 - 1) := Nat.two_pow_pos _
        omega
      · have e1 : (r + 1) / 4503599627370496 = r / 4503599627370496 := by omega
        have e2 : (r + 1) % 4503599627370496 = r % 4503599627370496 + 1 := by omega
        rw [e1, e2]
        exact Nat.mul_lt_mul_of_pos_right (by omega) (Nat.two_pow_pos _)

theorem val_mono {r s : Nat} (h : r < s) : val r < val s := by
  obtain ⟨k, rfl⟩ := Nat.exists_eq_add_of_lt h
  clear h
  induction k with
  | zero => exact val_step r
  | succ n ih => exact Nat.lt_trans ih (val_step _)

theorem val_lt_iff {r s : Nat} : val r < val s ↔ r < s := by
  constructor
  · intro h
    rcases Nat.lt_trichotomy r s with g | g | g
    · exact g
    · subst g; omega
    · have := val_mono g; omega
  · exact val_mono

theorem val_zero : val 0 = 0 := by decide

/-- What a word stands for: four ways. -/
theorem read_cases (b : Nat) :
    (rg b < 9218868437227405312 ∧ ∃ m i, double.read b = .number (sg b) m i ∧ -1074 ≤ i ∧ m <<< (i + 1074).toNat = val (rg b) ∧ m < 9007199254740992)
    ∨ (rg b = 9218868437227405312 ∧ double.read b = .infinity (sg b))
    ∨ (9218868437227405312 < rg b ∧ ∃ t, double.read b = .nan (sg b) t) := by
  have hm : rg b < 9223372036854775808 := Nat.mod_lt _ (by decide)
  unfold Format.read
  rw [sw, bn, ir, lp]
  dsimp only
  by_cases h1 : b % 9223372036854775808 < 4503599627370496
  · left
    refine ⟨by unfold rg; omega, b % 9223372036854775808, -1074, ?_, by omega, ?_, by omega⟩
    · rw [if_pos h1]; rfl
    · unfold val rg; rw [if_pos h1]; simp
  · rw [if_neg h1]
    by_cases h2 : b % 9223372036854775808 < 9218868437227405312
    · left
      refine ⟨h2, 4503599627370496 + b % 9223372036854775808 % 4503599627370496, -1074 + ((b % 9223372036854775808 / 4503599627370496 - 1 : Nat) : Int), ?_, by omega, ?_, by omega⟩
      · rw [if_pos h2]; rfl
      · have e : (-1074 + ((b % 9223372036854775808 / 4503599627370496 - 1 : Nat) : Int) + 1074).toNat = b % 9223372036854775808 / 4503599627370496 - 1 := by omega
        unfold val rg
        rw [if_neg h1, e, Nat.shiftLeft_eq]
    · rw [if_neg h2]
      by_cases h3 : b % 9223372036854775808 = 9218868437227405312
      · right; left
        exact ⟨h3, by rw [if_pos h3]; rfl⟩
      · right; right
        exact ⟨by unfold rg; omega, _, by rw [if_neg h3]; rfl⟩

theorem isNan_iff (b : Nat) : isNan b = true ↔ 9218868437227405312 < rg b := by simp [isNan, rg]

theorem signed_eq (s : Bool) (m k : Nat) : signed s m k = if s then -((m <<< k : Nat) : Int) else ((m <<< k : Nat) : Int) := by
  cases s <;> simp [signed]

/-- A number in units of the least place, with its sign. -/
def sval (b : Nat) : Int := if sg b then -(val (rg b) : Int) else (val (rg b) : Int)

theorem signed_scale (s : Bool) (m : Nat) (j k : Nat) : signed s m (j + k) = signed s m j * 2 ^ k := by
  rw [signed_eq, signed_eq, Nat.shiftLeft_eq, Nat.shiftLeft_eq, Nat.pow_add, ← Nat.mul_assoc]
  cases s <;> simp [Int.neg_mul]

theorem cmp_lt {x y : Int} (h : x < y) : compare x y = .lt := by simp [compare, compareOfLessAndEq, h]
theorem cmp_gt {x y : Int} (h : y < x) : compare x y = .gt := by
  have h1 : ¬ x < y := by omega
  have h2 : ¬ x = y := by omega
  simp [compare, compareOfLessAndEq, h1, h2]

theorem compare_scale (x y : Int) (k : Nat) : compare (x * 2 ^ k) (y * 2 ^ k) = compare x y := by
  have hp : (0 : Int) < 2 ^ k := Int.pow_pos (by decide)
  rcases Int.lt_trichotomy x y with h | h | h
  · rw [cmp_lt h, cmp_lt (Int.mul_lt_mul_of_pos_right h hp)]
  · subst h; simp
  · rw [cmp_gt h, cmp_gt (Int.mul_lt_mul_of_pos_right h hp)]

/-- How two words stand to each other, by the order of floats. -/
def pos (b : Nat) : Int := if sg b then -(rg b : Int) else (rg b : Int)

theorem compare_sval (a b : Nat) : compare (sval a) (sval b) = compare (pos a) (pos b) := by
  have key : ∀ x y x' y' : Int, (x < y ↔ x' < y') → (y < x ↔ y' < x') → compare x y = compare x' y' := by
    intro x y x' y' h1 h2
    rcases Int.lt_trichotomy x y with h | h | h
    · rw [cmp_lt h, cmp_lt (h1.1 h)]
    · have : x' = y' := by
        rcases Int.lt_trichotomy x' y' with g | g | g
        · have := h1.2 g; omega
        · exact g
        · have := h2.2 g; omega
      subst h; subst this; simp
    · rw [cmp_gt h, cmp_gt (h2.1 h)]
  have z : ∀ r : Nat, (0 < val r ↔ 0 < r) := fun r => by
    have := @val_lt_iff 0 r
    rw [val_zero] at this
    exact this
  have l1 := @val_lt_iff (rg a) (rg b)
  have l2 := @val_lt_iff (rg b) (rg a)
  have z1 := z (rg a)
  have z2 := z (rg b)
  apply key <;> unfold sval pos <;> cases sg a <;> cases sg b <;> simp <;> omega

theorem order_num {a b : Nat} (ha : rg a ≤ 9218868437227405312) (hb : rg b ≤ 9218868437227405312) :
    double.order a b = some (compare (pos a) (pos b)) := by
  unfold Format.order
  rcases read_cases a with ⟨a1, m, i, ra, hi, hm, _⟩ | ⟨a1, ra⟩ | ⟨a1, t, ra⟩
  · rcases read_cases b with ⟨b1, n, j, rb, hj, hn, _⟩ | ⟨b1, rb⟩ | ⟨b1, t, rb⟩
    · rw [ra, rb]
      show some (compare (signed (sg a) m (i - min i j).toNat) (signed (sg b) n (j - min i j).toNat)) = _
      rw [← compare_sval, ← compare_scale _ _ (min i j + 1074).toNat, ← signed_scale, ← signed_scale]
      have e1 : (i - min i j).toNat + (min i j + 1074).toNat = (i + 1074).toNat := by omega
      have e2 : (j - min i j).toNat + (min i j + 1074).toNat = (j + 1074).toNat := by omega
      rw [e1, e2, signed_eq, signed_eq, hm, hn]
      rfl
    · rw [ra, rb]
      show some (if sg b then Ordering.gt else Ordering.lt) = _
      unfold pos
      rw [b1]
      cases sg b
      · rw [cmp_lt]; · rfl
        · cases sg a <;> simp <;> omega
      · rw [cmp_gt]; · rfl
        · cases sg a <;> simp <;> omega
    · omega
  · rcases read_cases b with ⟨b1, n, j, rb, hj, hn, _⟩ | ⟨b1, rb⟩ | ⟨b1, t, rb⟩
    · rw [ra, rb]
      show some (if sg a then Ordering.lt else Ordering.gt) = _
      unfold pos
      rw [a1]
      cases sg a
      · rw [cmp_gt]; · rfl
        · cases sg b <;> simp <;> omega
      · rw [cmp_lt]; · rfl
        · cases sg b <;> simp <;> omega
    · rw [ra, rb]
      show some (compare (sg b).toNat (sg a).toNat) = _
      unfold pos
      rw [a1, b1]
      cases sg a <;> cases sg b <;> decide
    · omega
  · omega

theorem order_nan_left {a b : Nat} (ha : isNan a = true) : double.order a b = none := by
  rw [isNan_iff] at ha
  unfold Format.order
  rcases read_cases a with ⟨a1, m, i, ra, hi, hm, _⟩ | ⟨a1, ra⟩ | ⟨a1, t, ra⟩
  · omega
  · omega
  · rw [ra]; rfl

/-- 'x != x' is true of what is no number, and of nothing else. -/
theorem order_self (b : Nat) : (double.order b b != some .eq) = isNan b := by
  by_cases h : isNan b = true
  · rw [order_nan_left h, h]; rfl
  · have h' := h
    rw [isNan_iff] at h
    rw [order_num (by omega) (by omega)]
    simp at h'
    rw [h']
    simp

end Go.Proofs.YtcamhlnkcoicpaaGreat.Pl
/-
  Plain facts on the bit operations that the num package and the document's own answer use: the sign bit, the exponent's bits, the fraction's bits of a 64-bit word, in plain arithmetic. Condition: the word fits 64 bits.
-/
namespace Go.Proofs.YtcamhlnkcoicpaaGreat.Pl

/-- A word fits 64 bits. -/
def Fits (a : Nat) : Prop := a < 18446744073709551616

theorem fits_of_wf {b : Nat} (h : (Lit.float .f64 b).wf = true) : Fits b := by
  have : b < 2 ^ 64 := by simpa [Lit.wf] using h
  exact this

theorem fits_canon {a : Nat} (h : Fits a) : Fits (canon a) := by
  unfold canon Fits at *; split <;> omega

theorem xor_max {a : Nat} (h : Fits a) : bits .xor .u64 IntKind.u64.max (a : Int) = ((18446744073709551615 - a : Nat) : Int) := by
  have o : BitVec.ofInt 64 IntKind.u64.max = BitVec.allOnes 64 := by decide
  show IntKind.u64.wrap ((BitVec.ofInt 64 IntKind.u64.max ^^^ BitVec.ofInt 64 (a : Int)).toNat : Int) = _
  rw [o, BitVec.allOnes_xor, BitVec.toNat_not, ofInt_u64 a h, IntKind.wrap_u64]
  unfold Fits at h
  omega

theorem or_sign {a : Nat} (h : a < 9223372036854775808) : bits .or .u64 (a : Int) 9223372036854775808 = ((a + 9223372036854775808 : Nat) : Int) := by
  have e := u64_or_nat a 9223372036854775808 (by omega) (by omega)
  have e2 := Nat.two_pow_add_eq_or_of_lt (i := 63) (b := a) h 1
  have e3 : a ||| 9223372036854775808 = 9223372036854775808 + a := by
    rw [Nat.or_comm]
    exact e2.symm
  rw [e3] at e
  refine Eq.trans e ?_
  omega

theorem and_exp (a : Nat) : a &&& 9218868437227405312 = (a / 4503599627370496 % 2048) * 4503599627370496 := by
  have e1 : a / 4503599627370496 % 2048 = (a >>> 52) &&& 2047 := by
    rw [Nat.shiftRight_eq_div_pow]
    exact (Nat.and_two_pow_sub_one_eq_mod _ 11).symm
  have e2 : ((a >>> 52) &&& 2047) * 4503599627370496 = ((a >>> 52) &&& 2047) <<< 52 := by rw [Nat.shiftLeft_eq]
  have e3 : (9218868437227405312 : Nat) = 2047 <<< 52 := by decide
  rw [e1, e2, e3]
  apply Nat.eq_of_testBit_eq
  intro i
  simp only [Nat.testBit_and, Nat.testBit_shiftLeft, Nat.testBit_shiftRight]
  by_cases c : 52 ≤ i
  · have : 52 + (i - 52) = i := by omega
    simp [c, this]
  · simp [c]

theorem and_frac (a : Nat) : a &&& 4503599627370495 = a % 4503599627370496 := Nat.and_two_pow_sub_one_eq_mod a 52

theorem and_exp64 {a : Nat} (h : Fits a) : bits .and .u64 (a : Int) 9218868437227405312 = ((a / 4503599627370496 % 2048 * 4503599627370496 : Nat) : Int) := by
  rw [← and_exp]; exact u64_and_nat a 9218868437227405312 h (by omega)

theorem and_frac64 {a : Nat} (h : Fits a) : bits .and .u64 (a : Int) 4503599627370495 = ((a % 4503599627370496 : Nat) : Int) := by
  rw [← and_frac]; exact u64_and_nat a 4503599627370495 h (by omega)

end Go.Proofs.YtcamhlnkcoicpaaGreat.Pl
/-
  More plain facts on words of doubles: how a word stands to zero and to the greatest number, what its negative is, which of the six kinds it is. Condition: the word fits 64 bits.
-/
namespace Go.Proofs.YtcamhlnkcoicpaaGreat.Pl
open Ieee

theorem not_nan {a : Nat} (h : isNan a = false) : rg a ≤ 9218868437227405312 := by
  unfold isNan at h
  have := of_decide_eq_false h
  unfold rg; omega

end Go.Proofs.YtcamhlnkcoicpaaGreat.Pl
/-
  The order of words is an order, without any program: of two words one is below or they are one; what is below what is below is below; it agrees with the order of floats where both are numbers. Condition: the words fit 64 bits.
-/
namespace Go.Proofs.YtcamhlnkcoicpaaGreat.Pl
open Ieee Go.RowKit

theorem cmp_cases (x y : Nat) : (x < y ∧ cmp x y = -1 ∧ cmp y x = 1) ∨ (x = y ∧ cmp x y = 0 ∧ cmp y x = 0) ∨ (y < x ∧ cmp x y = 1 ∧ cmp y x = -1) := by
  unfold cmp
  rcases Nat.lt_trichotomy x y with h | h | h
  · left; refine ⟨h, by rw [if_pos h], by rw [if_neg (by omega), if_pos h]⟩
  · right; left; subst h; simp
  · right; right; refine ⟨h, by rw [if_neg (by omega), if_pos h], by rw [if_pos h]⟩

theorem canon_fits_lt {a : Nat} (h : Fits a) : canon a < 18446744073709551616 := fits_canon h

theorem canon_num {a : Nat} (h : isNan a = false) : canon a = a := by simp [canon, h]
theorem canon_nan {a : Nat} (h : isNan a = true) : canon a = 9221120237041090561 := by simp [canon, h]
theorem isNan_canon (a : Nat) : isNan (canon a) = isNan a := by
  cases h : isNan a
  · rw [canon_num h, h]
  · rw [canon_nan h]; decide
theorem canon_canon (a : Nat) : canon (canon a) = canon a := by
  cases h : isNan a
  · rw [canon_num h, canon_num h]
  · rw [canon_nan h]; decide

end Go.Proofs.YtcamhlnkcoicpaaGreat.Pl
/-
  Plain facts on sums of words, without any program: a sum does not hang on which of two comes first; a number and its negative are +0 if they are finite, and no number else. Condition: the words fit 64 bits.
-/
namespace Go.Proofs.YtcamhlnkcoicpaaGreat.Pl
open Ieee

end Go.Proofs.YtcamhlnkcoicpaaGreat.Pl
/-
  Plain facts on sums of words at the edges, without any program: a word read and written again is itself; -0 and a number are the number; an infinity stays. Condition: the words fit 64 bits.
-/
namespace Go.Proofs.YtcamhlnkcoicpaaGreat.Pl
open Ieee

end Go.Proofs.YtcamhlnkcoicpaaGreat.Pl
/-
  What each function of package num that takes floats alone does, as plain arithmetic on words: for every word of 64 bits the call returns, and leaves memory as it was.
-/
namespace Go.Proofs.YtcamhlnkcoicpaaGreat
open Go.RowKit

@[go_sem] theorem run_frombits (n : Int) (w : World) : (callFunc 130 #[.int .u64 n]).run Tryz.prog w = .ok (.value (.float .f64 n.toNat)) w := by kernel_rfl
@[go_sem] theorem run_tobits (n : Nat) (w : World) : (callFunc 150 #[.float .f64 n]).run Tryz.prog w = .ok (.value (.int .u64 n)) w := by kernel_rfl
@[go_sem] theorem run_negfloat (n : Nat) (w : World) : (Op.unary .neg (.float .f64 n)).run Tryz.prog w = .ok (.float .f64 (n ^^^ 9223372036854775808)) w := rfl

theorem isNaN_w (a : Nat) (w : World) :
    Calls Tryz.prog 189 #[.float .f64 a] w fun e w' => e = .returned (.bool (Pl.isNan a)) ∧ w = w' := by
  go_enter Tryz.func189, Tryz.ntmps189
  go_wp2
  go_ret
  exact ⟨by rw [← Pl.order_self]; rfl, rfl⟩

theorem canon_w (a : Nat) (w : World) :
    Calls Tryz.prog 184 #[.float .f64 a] w fun e w' => e = .returned (.float .f64 (Pl.canon a)) ∧ w = w' := by
  cases h : Pl.isNan a
  · have e : Pl.canon a = a := by simp [Pl.canon, h]
    rw [e]
    go_enter Tryz.func184, Tryz.ntmps184
    go_wp2_with (go_at_call 189; refine (isNaN_w _ _).mono ?_; rintro _ _ ⟨rfl, rfl⟩)
    all_goals (go_ret; exact ⟨rfl, rfl⟩)
  · have e : Pl.canon a = 9221120237041090561 := by simp [Pl.canon, h]
    rw [e]
    clear e
    go_enter Tryz.func184, Tryz.ntmps184
    go_wp2_with (go_at_call 189; refine (isNaN_w _ _).mono ?_; rintro _ _ ⟨rfl, rfl⟩)
    all_goals (go_ret; exact ⟨rfl, rfl⟩)

theorem numBits_w (a : Nat) (w : World) :
    Calls Tryz.prog 179 #[.float .f64 a] w fun e w' => e = .returned (.int .u64 (Pl.canon a)) ∧ w = w' := by
  go_enter Tryz.func179, Tryz.ntmps179
  go_wp2_with (go_at_call 184; refine (canon_w _ _).mono ?_; rintro _ _ ⟨rfl, rfl⟩)
  go_ret
  exact ⟨rfl, rfl⟩

theorem numFrom_w (a : Nat) (w : World) :
    Calls Tryz.prog 180 #[.int .u64 a] w fun e w' => e = .returned (.float .f64 (Pl.canon a)) ∧ w = w' := by
  go_enter Tryz.func180, Tryz.ntmps180
  go_wp2_with (go_at_call 184; refine (canon_w _ _).mono ?_; rintro _ _ ⟨rfl, rfl⟩)
  go_ret
  exact ⟨rfl, rfl⟩

end Go.Proofs.YtcamhlnkcoicpaaGreat
/-
  What Class, math's constants, the law's own 'known' and the drawn float do: for every word of 64 bits the call returns, and leaves memory as it was.
-/
namespace Go.Proofs.YtcamhlnkcoicpaaGreat
open Go.RowKit

theorem fits_sum (a b : Nat) : Pl.Fits (Pl.sum a b) := by
  unfold Pl.sum
  cases h : Ieee.double.add a b with
  | none => show (9221120237041090561 : Nat) < 18446744073709551616; omega
  | some r => exact Pl.fits_canon (Ieee.Format.add_lt _ h)

theorem copysign_w (w : World) :
    Calls Tryz.prog 127 #[.float .f64 0, .float .f64 13830554455654793216] w fun e w' => e = .returned (.float .f64 9223372036854775808) ∧ w = w' := by
  go_enter Tryz.func127, Tryz.ntmps127
  go_wp2
  go_ret
  refine ⟨?_, rfl⟩
  show Ending.returned (Value.float .f64 (bits .or .u64 (bits .andNot .u64 0 9223372036854775808) (bits .and .u64 13830554455654793216 9223372036854775808)).toNat) = _
  congr 2

/-- The word of an infinity, by a sign. -/
def infOf (s : Int) : Nat := if 0 ≤ s then 9218868437227405312 else 18442240474082181120

theorem inf_w (s : Int) (w : World) :
    Calls Tryz.prog 128 #[.int .i64 s] w fun e w' => e = .returned (.float .f64 (infOf s)) ∧ w = w' := by
  unfold infOf
  by_cases h : 0 ≤ s
  · rw [if_pos h]
    go_enter Tryz.func128, Tryz.ntmps128
    go_wp2
    go_ret
    exact ⟨rfl, rfl⟩
  · rw [if_neg h]
    go_enter Tryz.func128, Tryz.ntmps128
    go_wp2
    go_ret
    exact ⟨rfl, rfl⟩

theorem nan_w (w : World) :
    Calls Tryz.prog 129 #[] w fun e w' => e = .returned (.float .f64 9221120237041090561) ∧ w = w' := by
  go_enter Tryz.func129, Tryz.ntmps129
  go_wp2
  go_ret
  exact ⟨rfl, rfl⟩

theorem fits_top : Pl.Fits 9223372036854775808 := by unfold Pl.Fits; omega
theorem fits_zero : Pl.Fits 0 := by unfold Pl.Fits; omega
theorem fits_inf (s : Int) : Pl.Fits (infOf s) := by unfold infOf Pl.Fits; split <;> omega
theorem fits_nan : Pl.Fits 9221120237041090561 := by unfold Pl.Fits; omega

end Go.Proofs.YtcamhlnkcoicpaaGreat
