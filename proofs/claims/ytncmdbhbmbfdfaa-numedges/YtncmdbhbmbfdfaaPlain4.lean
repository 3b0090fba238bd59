/-
  Plain facts on sums of words, without any program: a sum does not hang on which of two comes first; a number and its negative are +0 if they are finite, and no number else. Condition: the words fit 64 bits.
-/
import Derived.Test.YtncmdbhbmbfdfaaPlain3
namespace Go.Proofs.Ytncmdbhbmbfdfaa.Pl
open Ieee

theorem datum_sum_comm (x y : Datum) : x.sum y = y.sum x := by
  cases x with
  | nan s t => cases y <;> rfl
  | infinity s =>
    cases y with
    | nan t u => rfl
    | infinity t =>
      show (if s = t then some (Datum.infinity s) else none) = (if t = s then some (Datum.infinity t) else none)
      by_cases h : s = t
      · subst h; rfl
      · rw [if_neg h, if_neg (fun e => h e.symm)]
    | number t n j => rfl
  | number s m i =>
    cases y with
    | nan t u => rfl
    | infinity t => rfl
    | number t n j =>
      show some (Datum.number (if signed s m (i - min i j).toNat + signed t n (j - min i j).toNat = 0 then s && t else decide (signed s m (i - min i j).toNat + signed t n (j - min i j).toNat < 0)) (signed s m (i - min i j).toNat + signed t n (j - min i j).toNat).natAbs (min i j))
        = some (Datum.number (if signed t n (j - min j i).toNat + signed s m (i - min j i).toNat = 0 then t && s else decide (signed t n (j - min j i).toNat + signed s m (i - min j i).toNat < 0)) (signed t n (j - min j i).toNat + signed s m (i - min j i).toNat).natAbs (min j i))
      rw [Int.min_comm j i, Int.add_comm (signed t n _), Bool.and_comm t s]

theorem add_comm (a b : Nat) : double.add a b = double.add b a := by
  unfold Format.add; rw [datum_sum_comm]

theorem sum_comm (a b : Nat) : sum a b = sum b a := by
  unfold sum; rw [add_comm]

/-- What a sign and a rung stand for. -/
def readOf (neg : Bool) (r : Nat) : Datum :=
  if r < double.binade then .number neg r double.leastPlace
  else if r < double.infRung then .number neg (double.binade + r % double.binade) (double.leastPlace + (r / double.binade - 1 : Nat))
  else if r = double.infRung then .infinity neg
  else .nan neg (r - double.infRung)

theorem read_eq (b : Nat) : double.read b = readOf (sg b) (rg b) := by
  unfold Format.read
  rw [sw]
  rfl

theorem rg_neg {a : Nat} (h : Fits a) : rg (a ^^^ 9223372036854775808) = rg a := by
  rw [neg_word h]; unfold rg Fits at *; split <;> omega

theorem sg_neg {a : Nat} (h : Fits a) : sg (a ^^^ 9223372036854775808) = !sg a := by
  rw [sg_eq (fits_neg h), sg_eq h, neg_word h]
  unfold Fits at h
  by_cases c : 9223372036854775808 ≤ a
  · rw [if_pos c, decide_eq_true c, decide_eq_false (by omega)]; rfl
  · rw [if_neg c, decide_eq_false c, decide_eq_true (by omega)]; rfl

theorem readOf_neg (s : Bool) (r : Nat) : readOf (!s) r = (readOf s r).opposite := by
  unfold readOf
  split
  · rfl
  · split
    · rfl
    · split <;> rfl

theorem read_neg {a : Nat} (h : Fits a) : double.read (a ^^^ 9223372036854775808) = (double.read a).opposite := by
  rw [read_eq, read_eq, rg_neg h, sg_neg h, readOf_neg]

theorem signed_neg (s : Bool) (m k : Nat) : signed s m k + signed (!s) m k = 0 := by
  cases s <;> simp [signed] <;> omega

theorem sum_neg_fin {a : Nat} (h : Fits a) (hf : rg a < 9218868437227405312) : sum a (a ^^^ 9223372036854775808) = 0 := by
  have e : double.add a (a ^^^ 9223372036854775808) = some 0 := by
    unfold Format.add
    rw [read_neg h]
    rcases read_cases a with ⟨_, m, i, ra, _, _, _⟩ | ⟨a1, ra⟩ | ⟨a1, t, ra⟩
    · rw [ra]
      show Option.map double.write (some (Datum.number (if signed (sg a) m (i - min i i).toNat + signed (!sg a) m (i - min i i).toNat = 0 then sg a && !sg a else decide (signed (sg a) m (i - min i i).toNat + signed (!sg a) m (i - min i i).toNat < 0)) (signed (sg a) m (i - min i i).toNat + signed (!sg a) m (i - min i i).toNat).natAbs (min i i))) = _
      rw [signed_neg, if_pos rfl, Bool.and_not_self]
      rfl
    · omega
    · omega
  unfold sum
  rw [e]
  decide

theorem sum_neg_not {a : Nat} (h : Fits a) (hf : 9218868437227405312 ≤ rg a) : sum a (a ^^^ 9223372036854775808) = 9221120237041090561 := by
  have e : double.add a (a ^^^ 9223372036854775808) = none := by
    unfold Format.add
    rw [read_neg h]
    rcases read_cases a with ⟨_, m, i, ra, _, _, _⟩ | ⟨a1, ra⟩ | ⟨a1, t, ra⟩
    · omega
    · rw [ra]
      cases sg a <;> rfl
    · rw [ra]; rfl
  unfold sum
  rw [e]

/-- The kinds of a word, and of it and its negative added up. -/
theorem kinds {a : Nat} (h : Fits a) :
    (cls (sum a (a ^^^ 9223372036854775808)) = 2 ∧ (cls a = 1 ∨ cls a = 2 ∨ cls a = 3))
    ∨ (cls (sum a (a ^^^ 9223372036854775808)) = 6 ∧ (cls a = 4 ∨ cls a = 5 ∨ cls a = 6)) := by
  by_cases hf : rg a < 9218868437227405312
  · left
    rw [sum_neg_fin h hf]
    refine ⟨by decide, ?_⟩
    have hn : isNan a = false := by
      cases c : isNan a
      · rfl
      · rw [isNan_iff] at c; omega
    unfold cls
    rw [if_neg (by rw [hn]; decide), if_neg (by intro e; subst e; exact absurd hf (by decide)), if_neg (by intro e; subst e; exact absurd hf (by decide))]
    split
    · right; left; rfl
    · split
      · right; right; rfl
      · left; rfl
  · right
    rw [sum_neg_not h (by omega)]
    refine ⟨by decide, ?_⟩
    cases hn : isNan a
    · have hr := not_nan hn
      have hw := word_eq h
      unfold cls
      rw [if_neg (by rw [hn]; decide)]
      cases hs : sg a
      · have : a = 9218868437227405312 := by rw [hs] at hw; simp at hw; omega
        left; rw [if_pos this]
      · have : a = 18442240474082181120 := by rw [hs] at hw; simp at hw; omega
        right; left; rw [if_neg (by omega), if_pos this]
    · right; right; unfold cls; rw [if_pos hn]

end Go.Proofs.Ytncmdbhbmbfdfaa.Pl
