/-
  Plain, Bits, Plain2, Plain3, Calls, Calls2, Float, Ref, Floats, WpT: our texts of these names, laid into one.
-/
import Derived.Laws.FloatArith
import Derived.Laws.BitsAllLaws
import Derived.RowKit
import Derived.Test.YtjeancijbogpbaaRows
import Derived.WalkKit
import Derived.WalkSpells
import Derived.WalkLawsBesides
import Derived.Deep.Draws
import Derived.OrdersHeld
import Derived.Deep.RegionHeld
/-
  Plain facts on the words of IEEE 754 doubles (no program in sight): which words are no numbers, what the one word of all of them is, in which order words stand, what a sum is. No condition but that a word fits 64 bits, where it is said.
-/
namespace Go.Proofs.Ytjeancijbogpbaa.Pl
open Ieee

def isNan (b : Nat) : Bool := decide (9218868437227405312 < b % 9223372036854775808)
def canon (b : Nat) : Nat := if isNan b then 9221120237041090561 else b
def rank (b : Nat) : Nat := if 9223372036854775808 ≤ canon b then 18446744073709551615 - canon b else canon b + 9223372036854775808
def cmp (x y : Nat) : Int := if x < y then -1 else if y < x then 1 else 0
def ord (a b : Nat) : Int := cmp (rank a) (rank b)
theorem sw : double.signWeight = 9223372036854775808 := by decide
theorem bn : double.binade = 4503599627370496 := by decide
theorem ir : double.infRung = 9218868437227405312 := by decide
theorem lp : double.leastPlace = -1074 := by decide

/-- The magnitude of a rung, in units of the least place. -/
def val (r : Nat) : Nat := if r < 4503599627370496 then r else (4503599627370496 + r % 4503599627370496) * 2 ^ (r / 4503599627370496 - 1)

/-- The sign and the rung of a word. -/
def sg (b : Nat) : Bool := b / 9223372036854775808 % 2 == 1
def rg (b : Nat) : Nat := b % 9223372036854775808

theorem val_step (r : Nat) : val r < val (r + 1) := by
  unfold val
  by_cases h1 : r + 1 < 4503599627370496
  · rw [if_pos h1, if_pos (by omega)]; omega
  · rw [if_neg h1]
    by_cases h2 : r < 4503599627370496
    · have : r = 4503599627370495 := by omega
      subst this; decide
    · rw [if_neg h2]
      by_cases h3 : (r + 1) % 4503599627370496 = 0
      · have e1 : (r + 1) / 4503599627370496 - 1 = (r / 4503599627370496 - 1) + 1 := by omega
        have e2 : r % 4503599627370496 = 4503599627370495 := by omega
        rw [e1, h3, e2, Nat.pow_succ]
        have : 0 < 2 ^ (r / 4503599627370496 - 1) := Nat.two_pow_pos _
        omega
      · have e1 : (r + 1) / 4503599627370496 = r / 4503599627370496 := by omega
        have e2 : (r + 1) % 4503599627370496 = r % 4503599627370496 + 1 := by omega
        rw [e1, e2]
        exact Nat.mul_lt_mul_of_pos_right (by omega) (Nat.two_pow_pos _)

theorem val_mono {r s : Nat} (h : r < s) : val r < val s := by
  obtain ⟨k, rfl⟩ := Nat.exists_eq_add_of_lt h
  clear h
  induction k with
  | zero => exact val_step r
  | succ n ih => exact Nat.lt_trans ih (val_step _)

theorem val_lt_iff {r s : Nat} : val r < val s ↔ r < s := by
  constructor
  · intro h
    rcases Nat.lt_trichotomy r s with g | g | g
    · exact g
    · subst g; omega
    · have := val_mono g; omega
  · exact val_mono

theorem val_zero : val 0 = 0 := by decide

/-- What a word stands for: four ways. -/
theorem read_cases (b : Nat) :
    (rg b < 9218868437227405312 ∧ ∃ m i, double.read b = .number (sg b) m i ∧ -1074 ≤ i ∧ m <<< (i + 1074).toNat = val (rg b) ∧ m < 9007199254740992)
    ∨ (rg b = 9218868437227405312 ∧ double.read b = .infinity (sg b))
    ∨ (9218868437227405312 < rg b ∧ ∃ t, double.read b = .nan (sg b) t) := by
  have hm : rg b < 9223372036854775808 := Nat.mod_lt _ (by decide)
  unfold Format.read
  rw [sw, bn, ir, lp]
  dsimp only
  by_cases h1 : b % 9223372036854775808 < 4503599627370496
  · left
    refine ⟨by unfold rg; omega, b % 9223372036854775808, -1074, ?_, by omega, ?_, by omega⟩
    · rw [if_pos h1]; rfl
    · unfold val rg; rw [if_pos h1]; simp
  · rw [if_neg h1]
    by_cases h2 : b % 9223372036854775808 < 9218868437227405312
    · left
      refine ⟨h2, 4503599627370496 + b % 9223372036854775808 % 4503599627370496, -1074 + ((b % 9223372036854775808 / 4503599627370496 - 1 : Nat) : Int), ?_, by omega, ?_, by omega⟩
      · rw [if_pos h2]; rfl
      · have e : (-1074 + ((b % 9223372036854775808 / 4503599627370496 - 1 : Nat) : Int) + 1074).toNat = b % 9223372036854775808 / 4503599627370496 - 1 := by omega
        unfold val rg
        rw [if_neg h1, e, Nat.shiftLeft_eq]
    · rw [if_neg h2]
      by_cases h3 : b % 9223372036854775808 = 9218868437227405312
      · right; left
        exact ⟨h3, by rw [if_pos h3]; rfl⟩
      · right; right
        exact ⟨by unfold rg; omega, _, by rw [if_neg h3]; rfl⟩

theorem signed_eq (s : Bool) (m k : Nat) : signed s m k = if s then -((m <<< k : Nat) : Int) else ((m <<< k : Nat) : Int) := by
  cases s <;> simp [signed]

/-- A number in units of the least place, with its sign. -/
def sval (b : Nat) : Int := if sg b then -(val (rg b) : Int) else (val (rg b) : Int)

theorem signed_scale (s : Bool) (m : Nat) (j k : Nat) : signed s m (j + k) = signed s m j * 2 ^ k := by
  rw [signed_eq, signed_eq, Nat.shiftLeft_eq, Nat.shiftLeft_eq, Nat.pow_add, ← Nat.mul_assoc]
  cases s <;> simp [Int.neg_mul]

theorem cmp_lt {x y : Int} (h : x < y) : compare x y = .lt := by simp [compare, compareOfLessAndEq, h]
theorem cmp_gt {x y : Int} (h : y < x) : compare x y = .gt := by
  have h1 : ¬ x < y := by omega
  have h2 : ¬ x = y := by omega
  simp [compare, compareOfLessAndEq, h1, h2]

theorem compare_scale (x y : Int) (k : Nat) : compare (x * 2 ^ k) (y * 2 ^ k) = compare x y := by
  have hp : (0 : Int) < 2 ^ k := Int.pow_pos (by decide)
  rcases Int.lt_trichotomy x y with h | h | h
  · rw [cmp_lt h, cmp_lt (Int.mul_lt_mul_of_pos_right h hp)]
  · subst h; simp
  · rw [cmp_gt h, cmp_gt (Int.mul_lt_mul_of_pos_right h hp)]

/-- How two words stand to each other, by the order of floats. -/
def pos (b : Nat) : Int := if sg b then -(rg b : Int) else (rg b : Int)

theorem compare_sval (a b : Nat) : compare (sval a) (sval b) = compare (pos a) (pos b) := by
  have key : ∀ x y x' y' : Int, (x < y ↔ x' < y') → (y < x ↔ y' < x') → compare x y = compare x' y' := by
    intro x y x' y' h1 h2
    rcases Int.lt_trichotomy x y with h | h | h
    · rw [cmp_lt h, cmp_lt (h1.1 h)]
    · have : x' = y' := by
        rcases Int.lt_trichotomy x' y' with g | g | g
        · have := h1.2 g; omega
        · exact g
        · have := h2.2 g; omega
      subst h; subst this; simp
    · rw [cmp_gt h, cmp_gt (h2.1 h)]
  have z : ∀ r : Nat, (0 < val r ↔ 0 < r) := fun r => by
    have := @val_lt_iff 0 r
    rw [val_zero] at this
    exact this
  have l1 := @val_lt_iff (rg a) (rg b)
  have l2 := @val_lt_iff (rg b) (rg a)
  have z1 := z (rg a)
  have z2 := z (rg b)
  apply key <;> unfold sval pos <;> cases sg a <;> cases sg b <;> simp <;> omega

theorem order_num {a b : Nat} (ha : rg a ≤ 9218868437227405312) (hb : rg b ≤ 9218868437227405312) :
    double.order a b = some (compare (pos a) (pos b)) := by
  unfold Format.order
  rcases read_cases a with ⟨a1, m, i, ra, hi, hm, _⟩ | ⟨a1, ra⟩ | ⟨a1, t, ra⟩
  · rcases read_cases b with ⟨b1, n, j, rb, hj, hn, _⟩ | ⟨b1, rb⟩ | ⟨b1, t, rb⟩
    · rw [ra, rb]
      show some (compare (signed (sg a) m (i - min i j).toNat) (signed (sg b) n (j - min i j).toNat)) = _
      rw [← compare_sval, ← compare_scale _ _ (min i j + 1074).toNat, ← signed_scale, ← signed_scale]
      have e1 : (i - min i j).toNat + (min i j + 1074).toNat = (i + 1074).toNat := by omega
      have e2 : (j - min i j).toNat + (min i j + 1074).toNat = (j + 1074).toNat := by omega
      rw [e1, e2, signed_eq, signed_eq, hm, hn]
      rfl
    · rw [ra, rb]
      show some (if sg b then Ordering.gt else Ordering.lt) = _
      unfold pos
      rw [b1]
      cases sg b
      · rw [cmp_lt]; · rfl
        · cases sg a <;> simp <;> omega
      · rw [cmp_gt]; · rfl
        · cases sg a <;> simp <;> omega
    · omega
  · rcases read_cases b with ⟨b1, n, j, rb, hj, hn, _⟩ | ⟨b1, rb⟩ | ⟨b1, t, rb⟩
    · rw [ra, rb]
      show some (if sg a then Ordering.lt else Ordering.gt) = _
      unfold pos
      rw [a1]
      cases sg a
      · rw [cmp_gt]; · rfl
        · cases sg b <;> simp <;> omega
      · rw [cmp_lt]; · rfl
        · cases sg b <;> simp <;> omega
    · rw [ra, rb]
      show some (compare (sg b).toNat (sg a).toNat) = _
      unfold pos
      rw [a1, b1]
      cases sg a <;> cases sg b <;> decide
    · omega
  · omega

end Go.Proofs.Ytjeancijbogpbaa.Pl
/-
  Plain facts on the bit operations that the num package and the document's own answer use: the sign bit, the exponent's bits, the fraction's bits of a 64-bit word, in plain arithmetic. Condition: the word fits 64 bits.
-/
namespace Go.Proofs.Ytjeancijbogpbaa.Pl

/-- A word fits 64 bits. -/
def Fits (a : Nat) : Prop := a < 18446744073709551616

end Go.Proofs.Ytjeancijbogpbaa.Pl
/-
  More plain facts on words of doubles: how a word stands to zero and to the greatest number, what its negative is, which of the six kinds it is. Condition: the word fits 64 bits.
-/
namespace Go.Proofs.Ytjeancijbogpbaa.Pl
open Ieee

theorem is_gt (x y : Int) : (some (compare x y) == some Ordering.gt) = decide (y < x) := by
  rcases Int.lt_trichotomy x y with h | h | h
  · rw [cmp_lt h, decide_eq_false (by omega)]; rfl
  · subst h; simp
  · rw [cmp_gt h, decide_eq_true h]; rfl

theorem xor_low {a : Nat} (h : a < 9223372036854775808) : a ^^^ 9223372036854775808 = a + 9223372036854775808 := by
  have e2 := Nat.two_pow_add_eq_or_of_lt (i := 63) (b := a) h 1
  have e3 : a + 9223372036854775808 = 2 ^ 63 ||| a := by
    rw [Nat.add_comm]
    exact e2
  rw [e3]
  apply Nat.eq_of_testBit_eq
  intro i
  have e4 : (9223372036854775808 : Nat) = 2 ^ 63 := by decide
  rw [e4, Nat.testBit_xor, Nat.testBit_or, Nat.testBit_two_pow]
  by_cases c : 63 = i
  · subst c
    rw [Nat.testBit_lt_two_pow h]
    rfl
  · simp [c]

theorem neg_word {a : Nat} (h : Fits a) : a ^^^ 9223372036854775808 = if 9223372036854775808 ≤ a then a - 9223372036854775808 else a + 9223372036854775808 := by
  unfold Fits at h
  split
  · rename_i c
    have e := xor_low (a := a - 9223372036854775808) (by omega)
    have e2 : a - 9223372036854775808 + 9223372036854775808 = a := by omega
    rw [e2] at e
    have e3 : (a - 9223372036854775808 ^^^ 9223372036854775808) ^^^ 9223372036854775808 = a - 9223372036854775808 := by
      rw [Nat.xor_assoc, Nat.xor_self, Nat.xor_zero]
    rw [e] at e3
    exact e3
  · exact xor_low (by omega)

theorem fits_neg {a : Nat} (h : Fits a) : Fits (a ^^^ 9223372036854775808) := by
  rw [neg_word h]; unfold Fits at *; split <;> omega

theorem sg_eq {a : Nat} (h : Fits a) : sg a = decide (9223372036854775808 ≤ a) := by
  unfold sg Fits at *
  by_cases c : 9223372036854775808 ≤ a
  · have : a / 9223372036854775808 % 2 = 1 := by omega
    rw [this]; simp [c]
  · have : a / 9223372036854775808 % 2 = 0 := by omega
    rw [this]; simp [c]

theorem not_nan {a : Nat} (h : isNan a = false) : rg a ≤ 9218868437227405312 := by
  unfold isNan at h
  have := of_decide_eq_false h
  unfold rg; omega

theorem pos_maxf : pos 9218868437227405311 = 9218868437227405311 := by decide
theorem rg_maxf : rg 9218868437227405311 ≤ 9218868437227405312 := by decide
theorem order_maxf {a : Nat} (hf : Fits a) (h : isNan a = false) : (double.order a 9218868437227405311 == some .gt) = decide (a = 9218868437227405312) := by
  have hr := not_nan h
  rw [order_num hr rg_maxf, is_gt, pos_maxf]
  congr 1
  apply propext
  unfold pos
  rw [sg_eq hf]
  unfold rg Fits at *
  by_cases c : 9223372036854775808 ≤ a <;> simp [c] <;> omega

theorem isNan_neg {a : Nat} (hf : Fits a) : isNan (a ^^^ 9223372036854775808) = isNan a := by
  rw [neg_word hf]; unfold Fits at hf
  have key : ∀ b : Nat, b % 9223372036854775808 = a % 9223372036854775808 → isNan b = isNan a := fun b h => by unfold isNan; rw [h]
  split <;> apply key <;> omega

end Go.Proofs.Ytjeancijbogpbaa.Pl
/-
  The order of words is an order, without any program: of two words one is below or they are one; what is below what is below is below; it agrees with the order of floats where both are numbers. Condition: the words fit 64 bits.
-/
namespace Go.Proofs.Ytjeancijbogpbaa.Pl
open Ieee Go.RowKit

end Go.Proofs.Ytjeancijbogpbaa.Pl
/-
  What each function of package num that takes floats alone does, as plain arithmetic on words: for every word of 64 bits the call returns, and leaves memory as it was.
-/
namespace Go.Proofs.Ytjeancijbogpbaa
open Go.RowKit

@[go_sem] theorem run_negfloat (n : Nat) (w : World) : (Op.unary .neg (.float .f64 n)).run Try.prog w = .ok (.float .f64 (n ^^^ 9223372036854775808)) w := rfl

/-- The world is as it was, but for how many answers the tape has given. -/
def Still (w w' : World) : Prop := ∃ m, w' = w.drewN m
theorem Still.refl (w : World) : Still w w := ⟨0, rfl⟩
theorem Still.trans {a b c : World} (h : Still a b) (k : Still b c) : Still a c := by
  obtain ⟨n, rfl⟩ := h; obtain ⟨m, rfl⟩ := k; exact ⟨n + m, World.drewN_drewN _ _ _⟩
theorem Still.drew (w : World) : Still w w.drew := ⟨1, rfl⟩
theorem Still.cell {w w' : World} (h : Still w w') (a : Addr) : w'.cell? a = w.cell? a := by
  obtain ⟨n, rfl⟩ := h; rfl

end Go.Proofs.Ytjeancijbogpbaa
/-
  What Class, math's constants, the law's own 'known' and the drawn float do: for every word of 64 bits the call returns, and leaves memory as it was.
-/
namespace Go.Proofs.Ytjeancijbogpbaa
open Go.RowKit

theorem c1 {a : Nat} (ha : Pl.Fits a) (hn : Pl.isNan a = false) : (FloatKind.f64.format.order a 9218868437227405311 == some .gt) = decide (a = 9218868437227405312) := Pl.order_maxf ha hn
theorem c2 {a : Nat} (ha : Pl.Fits a) (hn : Pl.isNan a = false) : (FloatKind.f64.format.order (a ^^^ 9223372036854775808) 9218868437227405311 == some .gt) = decide (a = 18442240474082181120) := by
  have e : (FloatKind.f64.format.order (a ^^^ 9223372036854775808) 9218868437227405311 == some .gt) = decide (a ^^^ 9223372036854775808 = 9218868437227405312) :=
    Pl.order_maxf (Pl.fits_neg ha) (by rw [Pl.isNan_neg ha]; exact hn)
  rw [e, Pl.neg_word ha]
  congr 1
  apply propext
  unfold Pl.Fits at ha
  split <;> omega
/-- The word of an infinity, by a sign. -/
def infOf (s : Int) : Nat := if 0 ≤ s then 9218868437227405312 else 18442240474082181120

theorem k1 : (Pl.ord 9223372036854775808 0 == -1) = true := by decide +kernel
theorem k2 : (Pl.ord (infOf 1) 9221120237041090561 == -1) = true := by decide +kernel
end Go.Proofs.Ytjeancijbogpbaa
/-
  The drawn float: for every number and every word of 64 bits the call returns a word of 64 bits, and leaves memory as it was.
-/
namespace Go.Proofs.Ytjeancijbogpbaa
open Go.RowKit

end Go.Proofs.Ytjeancijbogpbaa
/-
  What the document's own answer (the reference of layer 1) does: for every word of 64 bits it returns what package num's functions are proved to return, and leaves memory as it was.
-/
namespace Go.Proofs.Ytjeancijbogpbaa
open Go.RowKit

namespace Pl
/-- A word's place in the document's order. -/
def place (a : Nat) : Nat := if isNan a then 18446744073709551615 else rank a

end Pl

end Go.Proofs.Ytjeancijbogpbaa
/-
  What each function on floats that the layers above call does: one text to import.
-/
/-
  One operation of a drawn region that only reads, in few words.
-/
namespace Go.Proofs.Ytjeancijbogpbaa
open Go.RowKit

theorem sp1 {α : Type} {l : List α} {i : Nat} {a : α} : l.toArray.setIfInBounds i a = (l.set i a).toArray := List.setIfInBounds_toArray ..
theorem sp2 {α : Type} {x : α} {xs : List α} {a : α} : (x :: xs).set 0 a = a :: xs := List.set_cons_zero
theorem sp3 {α : Type} {x : α} {xs : List α} {i : Nat} {a : α} : (x :: xs).set (i + 1) a = x :: xs.set i a := List.set_cons_succ
theorem wpT {P : Program} {ops : Array Oper} {Q : Exit → Act → World → Prop} {md : Region.Mode} {S : World → Prop} (i : Nat) (oi : Oper) {v : Value} {fuel : Nat} {listed : Array Bool} {a a2 : Act} {w : World}
    (h : wpAnyH P md ops Q S fuel (listed.setIfInBounds i true) a2 w) (hi : ops[i]? = some oi := by rfl) (hs : Region.noSelect ops = true := by kernel_rfl) (hf : Region.free md ops listed i = true := by kernel_rfl) (hr : (Region.ready md ops listed).contains i = true := by kernel_rfl)
    (hQ : ∀ c a w, Q (.panic c) (a.put oi.dst v) w → Q (.panic c) a w := by exact fun _ _ _ h => h) (hw : Region.wanted oi (yielded ops a.tmps) = true := by rfl)
    (hy : ∀ w, S w → (execOp a.eval oi).run P w = .ok (.value v) w := by (intro w hSw; (try dsimp only at hSw); go_simp; try (with_reducible rfl))) (ha : a.put oi.dst v = a2 := by (first | (simp only [Act.put, sp1, sp2, sp3]; done) | (simp only [Act.put, sp1, sp2, sp3]; exact rfl) | exact rfl)) (hS : S w := by assumption) : wpAnyH P md ops Q S (fuel + 1) listed a w :=
  wpAnyH_take hi hs hf hr hQ (.inl ⟨hw, hy⟩) hS (ha ▸ h)
theorem wpU {P : Program} {ops : Array Oper} {Q : Exit → Act → World → Prop} {md : Region.Mode} {S : World → Prop} (i : Nat) (oi : Oper) {fuel : Nat} {listed : Array Bool} {a a2 : Act} {w : World}
    (h : wpAnyH P md ops Q S fuel (listed.setIfInBounds i true) a2 w) (hi : ops[i]? = some oi := by rfl) (hs : Region.noSelect ops = true := by kernel_rfl) (hf : Region.free md ops listed i = true := by kernel_rfl) (hr : (Region.ready md ops listed).contains i = true := by kernel_rfl)
    (hQ : ∀ c a w, Q (.panic c) (a.put oi.dst undef) w → Q (.panic c) a w := by exact fun _ _ _ h => h) (hw : Region.wanted oi (yielded ops a.tmps) = false := by rfl)
    (ha : a.put oi.dst undef = a2 := by (first | (simp only [Act.put, sp1, sp2, sp3]; done) | (simp only [Act.put, sp1, sp2, sp3]; exact rfl) | exact rfl)) (hS : S w := by assumption) : wpAnyH P md ops Q S (fuel + 1) listed a w :=
  wpAnyH_take hi hs hf hr hQ (.inr ⟨hw, rfl⟩) hS (ha ▸ h)
theorem wpR {P : Program} {ops : Array Oper} {Q : Exit → Act → World → Prop} {md : Region.Mode} {S : World → Prop} (i : Nat) (o : Oper) {fuel : Nat} {listed : Array Bool} {a : Act} {w : World}
    (h : ∀ K : Act → World → Prop, Shut (∀ a w, S w → (S w → wpAnyH P md ops Q S fuel (listed.setIfInBounds i true) a w) → K a w) → if Region.wanted o (yielded ops a.tmps) = true then Oper.wp P o a w K Q else K (a.put o.dst undef) w)
    (hr : Region.ready md ops listed = [i] := by kernel_rfl) (ho : ops[i]? = some o := by rfl) : wpAnyH P md ops Q S (fuel + 1) listed a w :=
  wpAnyH_ready hr (by simp) (AllReadyH.cons ho h AllReadyH.nil)
end Go.Proofs.Ytjeancijbogpbaa
