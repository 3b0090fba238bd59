/-
  Plain facts on sums of words at the edges, without any program: a word read and written again is itself; -0 and a number are the number; an infinity stays. Condition: the words fit 64 bits.
-/
import Derived.Test.YtncmdbhbmbfdfaaPlain4
namespace Go.Proofs.Ytncmdbhbmbfdfaa.Pl
open Ieee

theorem even_cut_exact (neg : Bool) (m d : Nat) (hm : 0 < m) : Toward.even.cut neg (m * 2 ^ d) d = m := by
  have hp : 0 < 2 ^ d := Nat.two_pow_pos d
  have hl : d ≤ (m * 2 ^ d).log2 + 2 := by
    have h0 : m * 2 ^ d ≠ 0 := Nat.mul_ne_zero (by omega) (by omega)
    have h1 : 2 ^ d ≤ m * 2 ^ d := Nat.le_mul_of_pos_left _ hm
    have h2 := (Nat.le_log2 h0).2 h1
    omega
  unfold Toward.cut
  rw [Nat.min_eq_left hl, Nat.shiftLeft_eq, Nat.one_mul]
  dsimp only
  rw [Nat.mul_div_cancel _ hp, Nat.mul_mod_left]
  have e1 : decide (2 ^ d < 2 * 0) = false := by simp
  have e2 : (2 ^ d == 2 * 0) = false := by
    simp
  rw [e1, e2]
  simp

theorem log2_scale (m e : Nat) (h1 : 4503599627370496 ≤ m) (h2 : m < 9007199254740992) : (m * 2 ^ e).log2 = 52 + e := by
  have hp : 0 < 2 ^ e := Nat.two_pow_pos e
  have h0 : m * 2 ^ e ≠ 0 := Nat.mul_ne_zero (by omega) (by omega)
  rw [Nat.log2_eq_iff h0]
  constructor
  · rw [Nat.pow_add]; exact Nat.mul_le_mul_right _ h1
  · rw [show 52 + e + 1 = 53 + e by omega, Nat.pow_add]; exact Nat.mul_lt_mul_of_pos_right h2 hp

/-- A magnitude of the format is written as its own rung. -/
theorem nearest_val (s : Bool) (r : Nat) (hr : r < 9218868437227405312) : double.nearest s (val r) (-1074) = double.word s r := by
  unfold Format.nearest
  by_cases h0 : r = 0
  · subst h0; rw [val_zero, if_pos rfl]
  · have hv : 0 < val r := by
      have := val_mono (r := 0) (s := r) (by omega)
      rw [val_zero] at this; exact this
    rw [if_neg (by omega)]
    dsimp only
    rw [lp, bn, ir]
    have f52 : (double.fractionBits : Int) = 52 := rfl
    rw [f52]
    by_cases h1 : r < 4503599627370496
    · have ev : val r = r := by unfold val; rw [if_pos h1]
      rw [ev]
      have hl : r.log2 < 52 := (Nat.log2_lt h0).2 h1
      have em : max (-1074 + (r.log2 : Int) - 52) (-1074) = -1074 := by omega
      rw [em]
      have z1 : (-1074 - -1074 : Int).toNat = 0 := by decide
      rw [z1, Nat.shiftLeft_zero]
      have ec := even_cut_exact s r 0 (by omega)
      rw [Nat.pow_zero, Nat.mul_one] at ec
      rw [ec]
      congr 1
      omega
    · have ev : val r = (4503599627370496 + r % 4503599627370496) * 2 ^ (r / 4503599627370496 - 1) := by unfold val; rw [if_neg h1]
      have hl := log2_scale (4503599627370496 + r % 4503599627370496) (r / 4503599627370496 - 1) (by omega) (by omega)
      rw [ev, hl]
      have em : max (-1074 + ((52 + (r / 4503599627370496 - 1) : Nat) : Int) - 52) (-1074) = -1074 + ((r / 4503599627370496 - 1 : Nat) : Int) := by omega
      rw [em]
      have z1 : (-1074 - (-1074 + ((r / 4503599627370496 - 1 : Nat) : Int))).toNat = 0 := by omega
      have z2 : (-1074 + ((r / 4503599627370496 - 1 : Nat) : Int) - -1074).toNat = r / 4503599627370496 - 1 := by omega
      rw [z1, z2, Nat.shiftLeft_zero, even_cut_exact s _ _ (by omega)]
      congr 1
      omega

theorem word_self {a : Nat} (h : Fits a) : double.word (sg a) (rg a) = a := by
  have hw := word_eq h
  unfold Format.word
  rw [sw]
  cases hs : sg a <;> rw [hs] at hw <;> simp at hw ⊢ <;> omega

/-- A number added to another one of which nothing is left: what is written is the number. -/
theorem add_zero_gen {a : Nat} (t : Bool) (z : Nat) (hz : double.read z = .number t 0 (-1074)) (h : Fits a) (hf : rg a < 9218868437227405312) (ht : t = true ∨ rg a ≠ 0) : double.add z a = some a := by
  unfold Format.add
  rw [hz]
  rcases read_cases a with ⟨_, m, i, ra, hi, hm, _⟩ | ⟨a1, ra⟩ | ⟨a1, u, ra⟩
  · rw [ra]
    have eb : min (-1074 : Int) i = -1074 := by omega
    show Option.map double.write (some (Datum.number (if signed t 0 (-1074 - min (-1074) i).toNat + signed (sg a) m (i - min (-1074) i).toNat = 0 then t && sg a else decide (signed t 0 (-1074 - min (-1074) i).toNat + signed (sg a) m (i - min (-1074) i).toNat < 0)) (signed t 0 (-1074 - min (-1074) i).toNat + signed (sg a) m (i - min (-1074) i).toNat).natAbs (min (-1074) i))) = _
    rw [eb]
    have z1 : signed t 0 (-1074 - -1074 : Int).toNat = 0 := by cases t <;> rfl
    have z2 : (i - -1074).toNat = (i + 1074).toNat := by omega
    rw [z1, z2, signed_eq, hm, Int.zero_add]
    have hs : (if (if sg a = true then -(val (rg a) : Int) else (val (rg a) : Int)) = 0 then t && sg a else decide ((if sg a = true then -(val (rg a) : Int) else (val (rg a) : Int)) < 0)) = sg a := by
      by_cases h0 : rg a = 0
      · have ht' : t = true := by rcases ht with e | e; exact e; exact absurd h0 e
        rw [h0, val_zero, ht']
        cases sg a <;> simp
      · have hv : 0 < val (rg a) := by
          have := val_mono (r := 0) (s := rg a) (by omega)
          rw [val_zero] at this; exact this
        cases sg a
        · show (if (val (rg a) : Int) = 0 then t && false else decide ((val (rg a) : Int) < 0)) = false
          rw [if_neg (by omega), decide_eq_false (by omega)]
        · show (if -(val (rg a) : Int) = 0 then t && true else decide (-(val (rg a) : Int) < 0)) = true
          rw [if_neg (by omega), decide_eq_true (by omega)]
    have hn : (if sg a = true then -(val (rg a) : Int) else (val (rg a) : Int)).natAbs = val (rg a) := by cases sg a <;> simp
    rw [hs, hn]
    show some (double.nearest (sg a) (val (rg a)) (-1074)) = some a
    rw [nearest_val _ _ hf, word_self h]
  · omega
  · omega

theorem read_nzero : double.read 9223372036854775808 = .number true 0 (-1074) := by decide
theorem read_zero : double.read 0 = .number false 0 (-1074) := by decide
theorem read_pinf : double.read 9218868437227405312 = .infinity false := by decide

theorem add_inf_gen {a : Nat} (z : Nat) (t : Bool) (m : Nat) (i : Int) (hz : double.read z = .number t m i) (h : Fits a) (hf : rg a = 9218868437227405312) : double.add z a = some a := by
  unfold Format.add
  rw [hz]
  rcases read_cases a with ⟨a1, m, i, ra, hi, hm, _⟩ | ⟨a1, ra⟩ | ⟨a1, u, ra⟩
  · omega
  · rw [ra]
    show some (double.word (sg a) double.infRung) = some a
    rw [ir, ← hf, word_self h]
  · omega

theorem add_nan {a : Nat} (z : Nat) (hn : isNan a = true) : double.add z a = none := by
  rw [isNan_iff] at hn
  unfold Format.add
  rcases read_cases a with ⟨a1, m, i, ra, hi, hm, _⟩ | ⟨a1, ra⟩ | ⟨a1, u, ra⟩
  · omega
  · omega
  · rw [ra]; cases double.read z <;> rfl

/-- -0 and a word are that word. -/
theorem sum_nzero {a : Nat} (h : Fits a) : sum 9223372036854775808 a = canon a := by
  cases hn : isNan a
  · have hr := not_nan hn
    by_cases hf : rg a = 9218868437227405312
    · unfold sum; rw [add_inf_gen _ _ _ _ read_nzero h hf]
    · unfold sum; rw [add_zero_gen true _ read_nzero h (by omega) (Or.inl rfl)]
  · unfold sum; rw [add_nan _ hn, canon_nan hn]

/-- +0 and a word that is no zero are that word. -/
theorem sum_zero {a : Nat} (h : Fits a) (hz : rg a ≠ 0) : sum a 0 = canon a := by
  rw [sum_comm]
  cases hn : isNan a
  · have hr := not_nan hn
    by_cases hf : rg a = 9218868437227405312
    · unfold sum; rw [add_inf_gen _ _ _ _ read_zero h hf]
    · unfold sum; rw [add_zero_gen false _ read_zero h (by omega) (Or.inr hz)]
  · unfold sum; rw [add_nan _ hn, canon_nan hn]

theorem sum_nan {a b : Nat} (hn : isNan b = true) : sum a b = 9221120237041090561 := by
  unfold sum; rw [add_nan _ hn]

theorem sum_pinf {a : Nat} (hn : isNan a = false) (h : Fits a) (hi : a ≠ 18442240474082181120) : sum a 9218868437227405312 = 9218868437227405312 := by
  have hr := not_nan hn
  have e : double.add a 9218868437227405312 = some 9218868437227405312 := by
    rcases read_cases a with ⟨a1, m, i, ra, hi, hm, _⟩ | ⟨a1, ra⟩ | ⟨a1, u, ra⟩
    · exact add_inf_gen _ _ _ _ ra (by unfold Fits; omega) (by decide)
    · have hs : sg a = false := by
        cases hs : sg a
        · rfl
        · have hw := word_eq h
          rw [hs, a1] at hw
          exact absurd hw hi
      unfold Format.add
      rw [ra, read_pinf, hs]
      decide
    · omega
  unfold sum
  rw [e]
  decide

theorem sum_ninf : sum 18442240474082181120 9218868437227405312 = 9221120237041090561 := by decide

theorem isNan_one : isNan 9221120237041090561 = true := by decide

end Go.Proofs.Ytncmdbhbmbfdfaa.Pl
