/- ours -/
import Derived.Laws.FloatArith
import Derived.Laws.BitsAllLaws
import Derived.RowKit
import Derived.Test.YtilbbnmhnacnlaaGreatRows
import Derived.WalkKit
import Derived.WalkSpells
import Derived.WalkLawsBesides
import Derived.Deep.Draws
import Derived.OrdersHeld
import Derived.Deep.RegionHeld
import Derived.Maps.AppendAt
import Derived.Laws.AppendOwnNone
import Derived.Laws.CopyOwn
/-
  Plain facts on the words of IEEE 754 doubles (no program in sight): which words are no numbers, what the one word of all of them is, in which order words stand, what a sum is. No condition but that a word fits 64 bits, where it is said.
-/
namespace Go.Proofs.YtilbbnmhnacnlaaGreat.Pl
open Ieee

def isNan (b : Nat) : Bool := decide (9218868437227405312 < b % 9223372036854775808)
def canon (b : Nat) : Nat := if isNan b then 9221120237041090561 else b
theorem sw : double.signWeight = 9223372036854775808 := by decide
theorem bn : double.binade = 4503599627370496 := by decide
theorem ir : double.infRung = 9218868437227405312 := by decide
theorem lp : double.leastPlace = -1074 := by decide

def val (r : Nat) : Nat := if r < 4503599627370496 then r else (4503599627370496 + r % 4503599627370496) * 2 ^ (r / 4503599627370496 - 1)

def sg (b : Nat) : Bool := b / 9223372036854775808 % 2 == 1
def rg (b : Nat) : Nat := b % 9223372036854775808

theorem val_step (r : Nat) : val r < val (r + 1) := by
  unfold val
  by_cases h1 : r + 1 < 4503599627370496
  · rw [if_pos h1, if_pos (by omega)]; omega
  · rw [if_neg h1]
    by_cases h2 : r < 4503599627370496
    · have : r = 4503599627370495 := by omega
      subst this; decide
    · rw [if_neg h2]
      by_cases h3 : (r + 1) % 4503599627370496 = 0
      · have e1 : (r + 1) / 4503599627370496 - 1 = (r / 4503599627370496 - 1) + 1 := by omega
        have e2 : r % 4503599627370496 = 4503599627370495 := by omega
        rw [e1, h3, e2, Nat.pow_succ]
        have : 0 < 2 ^ (r / 4503599627370496 - 1) := Nat.two_pow_pos _
        omega
      · have e1 : (r + 1) / 4503599627370496 = r / 4503599627370496 := by omega
        have e2 : (r + 1) % 4503599627370496 = r % 4503599627370496 + 1 := by omega
        rw [e1, e2]
        exact Nat.mul_lt_mul_of_pos_right (by omega) (Nat.two_pow_pos _)

theorem val_mono {r s : Nat} (h : r < s) : val r < val s := by
  obtain ⟨k, rfl⟩ := Nat.exists_eq_add_of_lt h
  clear h
  induction k with
  | zero => exact val_step r
  | succ n ih => exact Nat.lt_trans ih (val_step _)

theorem val_lt_iff {r s : Nat} : val r < val s ↔ r < s := by
  constructor
  · intro h
    rcases Nat.lt_trichotomy r s with g | g | g
    · exact g
    · subst g; omega
    · have := val_mono g; omega
  · exact val_mono

theorem val_zero : val 0 = 0 := by decide

theorem read_cases (b : Nat) :
    (rg b < 9218868437227405312 ∧ ∃ m i, double.read b = .number (sg b) m i ∧ -1074 ≤ i ∧ m <<< (i + 1074).toNat = val (rg b) ∧ m < 9007199254740992)
    ∨ (rg b = 9218868437227405312 ∧ double.read b = .infinity (sg b))
    ∨ (9218868437227405312 < rg b ∧ ∃ t, double.read b = .nan (sg b) t) := by
  have hm : rg b < 9223372036854775808 := Nat.mod_lt _ (by decide)
  unfold Format.read
  rw [sw, bn, ir, lp]
  dsimp only
  by_cases h1 : b % 9223372036854775808 < 4503599627370496
  · left
    refine ⟨by unfold rg; omega, b % 9223372036854775808, -1074, ?_, by omega, ?_, by omega⟩
    · rw [if_pos h1]; rfl
    · unfold val rg; rw [if_pos h1]; simp
  · rw [if_neg h1]
    by_cases h2 : b % 9223372036854775808 < 9218868437227405312
    · left
      refine ⟨h2, 4503599627370496 + b % 9223372036854775808 % 4503599627370496, -1074 + ((b % 9223372036854775808 / 4503599627370496 - 1 : Nat) : Int), ?_, by omega, ?_, by omega⟩
      · rw [if_pos h2]; rfl
      · have e : (-1074 + ((b % 9223372036854775808 / 4503599627370496 - 1 : Nat) : Int) + 1074).toNat = b % 9223372036854775808 / 4503599627370496 - 1 := by omega
        unfold val rg
        rw [if_neg h1, e, Nat.shiftLeft_eq]
    · rw [if_neg h2]
      by_cases h3 : b % 9223372036854775808 = 9218868437227405312
      · right; left
        exact ⟨h3, by rw [if_pos h3]; rfl⟩
      · right; right
        exact ⟨by unfold rg; omega, _, by rw [if_neg h3]; rfl⟩

theorem isNan_iff (b : Nat) : isNan b = true ↔ 9218868437227405312 < rg b := by simp [isNan, rg]

theorem signed_eq (s : Bool) (m k : Nat) : signed s m k = if s then -((m <<< k : Nat) : Int) else ((m <<< k : Nat) : Int) := by
  cases s <;> simp [signed]

def sval (b : Nat) : Int := if sg b then -(val (rg b) : Int) else (val (rg b) : Int)

theorem signed_scale (s : Bool) (m : Nat) (j k : Nat) : signed s m (j + k) = signed s m j * 2 ^ k := by
  rw [signed_eq, signed_eq, Nat.shiftLeft_eq, Nat.shiftLeft_eq, Nat.pow_add, ← Nat.mul_assoc]
  cases s <;> simp [Int.neg_mul]

theorem cmp_lt {x y : Int} (h : x < y) : compare x y = .lt := by simp [compare, compareOfLessAndEq, h]
theorem cmp_gt {x y : Int} (h : y < x) : compare x y = .gt := by
  have h1 : ¬ x < y := by omega
  have h2 : ¬ x = y := by omega
  simp [compare, compareOfLessAndEq, h1, h2]

theorem compare_scale (x y : Int) (k : Nat) : compare (x * 2 ^ k) (y * 2 ^ k) = compare x y := by
  have hp : (0 : Int) < 2 ^ k := Int.pow_pos (by decide)
  rcases Int.lt_trichotomy x y with h | h | h
  · rw [cmp_lt h, cmp_lt (Int.mul_lt_mul_of_pos_right h hp)]
  · subst h; simp
  · rw [cmp_gt h, cmp_gt (Int.mul_lt_mul_of_pos_right h hp)]

def pos (b : Nat) : Int := if sg b then -(rg b : Int) else (rg b : Int)

theorem compare_sval (a b : Nat) : compare (sval a) (sval b) = compare (pos a) (pos b) := by
  have key : ∀ x y x' y' : Int, (x < y ↔ x' < y') → (y < x ↔ y' < x') → compare x y = compare x' y' := by
    intro x y x' y' h1 h2
    rcases Int.lt_trichotomy x y with h | h | h
    · rw [cmp_lt h, cmp_lt (h1.1 h)]
    · have : x' = y' := by
        rcases Int.lt_trichotomy x' y' with g | g | g
        · have := h1.2 g; omega
        · exact g
        · have := h2.2 g; omega
      subst h; subst this; simp
    · rw [cmp_gt h, cmp_gt (h2.1 h)]
  have z : ∀ r : Nat, (0 < val r ↔ 0 < r) := fun r => by
    have := @val_lt_iff 0 r
    rw [val_zero] at this
    exact this
  have l1 := @val_lt_iff (rg a) (rg b)
  have l2 := @val_lt_iff (rg b) (rg a)
  have z1 := z (rg a)
  have z2 := z (rg b)
  apply key <;> unfold sval pos <;> cases sg a <;> cases sg b <;> simp <;> omega

theorem order_num {a b : Nat} (ha : rg a ≤ 9218868437227405312) (hb : rg b ≤ 9218868437227405312) :
    double.order a b = some (compare (pos a) (pos b)) := by
  unfold Format.order
  rcases read_cases a with ⟨a1, m, i, ra, hi, hm, _⟩ | ⟨a1, ra⟩ | ⟨a1, t, ra⟩
  · rcases read_cases b with ⟨b1, n, j, rb, hj, hn, _⟩ | ⟨b1, rb⟩ | ⟨b1, t, rb⟩
    · rw [ra, rb]
      show some (compare (signed (sg a) m (i - min i j).toNat) (signed (sg b) n (j - min i j).toNat)) = _
      rw [← compare_sval, ← compare_scale _ _ (min i j + 1074).toNat, ← signed_scale, ← signed_scale]
      have e1 : (i - min i j).toNat + (min i j + 1074).toNat = (i + 1074).toNat := by omega
      have e2 : (j - min i j).toNat + (min i j + 1074).toNat = (j + 1074).toNat := by omega
      rw [e1, e2, signed_eq, signed_eq, hm, hn]
      rfl
    · rw [ra, rb]
      show some (if sg b then Ordering.gt else Ordering.lt) = _
      unfold pos
      rw [b1]
      cases sg b
      · rw [cmp_lt]; · rfl
        · cases sg a <;> simp <;> omega
      · rw [cmp_gt]; · rfl
        · cases sg a <;> simp <;> omega
    · omega
  · rcases read_cases b with ⟨b1, n, j, rb, hj, hn, _⟩ | ⟨b1, rb⟩ | ⟨b1, t, rb⟩
    · rw [ra, rb]
      show some (if sg a then Ordering.lt else Ordering.gt) = _
      unfold pos
      rw [a1]
      cases sg a
      · rw [cmp_gt]; · rfl
        · cases sg b <;> simp <;> omega
      · rw [cmp_lt]; · rfl
        · cases sg b <;> simp <;> omega
    · rw [ra, rb]
      show some (compare (sg b).toNat (sg a).toNat) = _
      unfold pos
      rw [a1, b1]
      cases sg a <;> cases sg b <;> decide
    · omega
  · omega

theorem order_nan_left {a b : Nat} (ha : isNan a = true) : double.order a b = none := by
  rw [isNan_iff] at ha
  unfold Format.order
  rcases read_cases a with ⟨a1, m, i, ra, hi, hm, _⟩ | ⟨a1, ra⟩ | ⟨a1, t, ra⟩
  · omega
  · omega
  · rw [ra]; rfl

theorem order_self (b : Nat) : (double.order b b != some .eq) = isNan b := by
  by_cases h : isNan b = true
  · rw [order_nan_left h, h]; rfl
  · have h' := h
    rw [isNan_iff] at h
    rw [order_num (by omega) (by omega)]
    simp at h'
    rw [h']
    simp

end Go.Proofs.YtilbbnmhnacnlaaGreat.Pl
/-
  Plain facts on the bit operations that the num package and the document's own answer use: the sign bit, the exponent's bits, the fraction's bits of a 64-bit word, in plain arithmetic. Condition: the word fits 64 bits.
-/
namespace Go.Proofs.YtilbbnmhnacnlaaGreat.Pl

def Fits (a : Nat) : Prop := a < 18446744073709551616

theorem fits_of_wf {b : Nat} (h : (Lit.float .f64 b).wf = true) : Fits b := by
  have : b < 2 ^ 64 := by simpa [Lit.wf] using h
  exact this

theorem fits_canon {a : Nat} (h : Fits a) : Fits (canon a) := by
  unfold canon Fits at *; split <;> omega

end Go.Proofs.YtilbbnmhnacnlaaGreat.Pl
/-
  More plain facts on words of doubles: how a word stands to zero and to the greatest number, what its negative is, which of the six kinds it is. Condition: the word fits 64 bits.
-/
namespace Go.Proofs.YtilbbnmhnacnlaaGreat.Pl
open Ieee

end Go.Proofs.YtilbbnmhnacnlaaGreat.Pl
/-
  The order of words is an order, without any program: of two words one is below or they are one; what is below what is below is below; it agrees with the order of floats where both are numbers. Condition: the words fit 64 bits.
-/
namespace Go.Proofs.YtilbbnmhnacnlaaGreat.Pl
open Ieee Go.RowKit

theorem canon_fits_lt {a : Nat} (h : Fits a) : canon a < 18446744073709551616 := fits_canon h

theorem canon_num {a : Nat} (h : isNan a = false) : canon a = a := by simp [canon, h]
theorem canon_nan {a : Nat} (h : isNan a = true) : canon a = 9221120237041090561 := by simp [canon, h]
theorem canon_canon (a : Nat) : canon (canon a) = canon a := by
  cases h : isNan a
  · rw [canon_num h, canon_num h]
  · rw [canon_nan h]; decide

end Go.Proofs.YtilbbnmhnacnlaaGreat.Pl
/-
  Plain facts on sums of words, without any program: a sum does not hang on which of two comes first; a number and its negative are +0 if they are finite, and no number else. Condition: the words fit 64 bits.
-/
namespace Go.Proofs.YtilbbnmhnacnlaaGreat.Pl
open Ieee

end Go.Proofs.YtilbbnmhnacnlaaGreat.Pl
/-
  Plain facts on sums of words at the edges, without any program: a word read and written again is itself; -0 and a number are the number; an infinity stays. Condition: the words fit 64 bits.
-/
namespace Go.Proofs.YtilbbnmhnacnlaaGreat.Pl
open Ieee

end Go.Proofs.YtilbbnmhnacnlaaGreat.Pl
/-
  What each function of package num that takes floats alone does, as plain arithmetic on words: for every word of 64 bits the call returns, and leaves memory as it was.
-/
namespace Go.Proofs.YtilbbnmhnacnlaaGreat
open Go.RowKit

@[go_sem] theorem run_frombits (n : Int) (w : World) : (callFunc 190 #[.int .u64 n]).run Tryz.prog w = .ok (.value (.float .f64 n.toNat)) w := by kernel_rfl
@[go_sem] theorem run_tobits (n : Nat) (w : World) : (callFunc 191 #[.float .f64 n]).run Tryz.prog w = .ok (.value (.int .u64 n)) w := by kernel_rfl
@[go_sem] theorem run_negfloat (n : Nat) (w : World) : (Op.unary .neg (.float .f64 n)).run Tryz.prog w = .ok (.float .f64 (n ^^^ 9223372036854775808)) w := rfl

theorem isNaN_w (a : Nat) (w : World) :
    Calls Tryz.prog 223 #[.float .f64 a] w fun e w' => e = .returned (.bool (Pl.isNan a)) ∧ w = w' := by
  go_enter Tryz.func223, Tryz.ntmps223
  go_wp2
  go_ret
  exact ⟨by rw [← Pl.order_self]; rfl, rfl⟩

theorem canon_w (a : Nat) (w : World) :
    Calls Tryz.prog 222 #[.float .f64 a] w fun e w' => e = .returned (.float .f64 (Pl.canon a)) ∧ w = w' := by
  cases h : Pl.isNan a
  · have e : Pl.canon a = a := by simp [Pl.canon, h]
    rw [e]
    go_enter Tryz.func222, Tryz.ntmps222
    go_wp2_with (go_at_call 223; refine (isNaN_w _ _).mono ?_; rintro _ _ ⟨rfl, rfl⟩)
    all_goals (go_ret; exact ⟨rfl, rfl⟩)
  · have e : Pl.canon a = 9221120237041090561 := by simp [Pl.canon, h]
    rw [e]
    clear e
    go_enter Tryz.func222, Tryz.ntmps222
    go_wp2_with (go_at_call 223; refine (isNaN_w _ _).mono ?_; rintro _ _ ⟨rfl, rfl⟩)
    all_goals (go_ret; exact ⟨rfl, rfl⟩)

theorem numBits_w (a : Nat) (w : World) :
    Calls Tryz.prog 217 #[.float .f64 a] w fun e w' => e = .returned (.int .u64 (Pl.canon a)) ∧ w = w' := by
  go_enter Tryz.func217, Tryz.ntmps217
  go_wp2_with (go_at_call 222; refine (canon_w _ _).mono ?_; rintro _ _ ⟨rfl, rfl⟩)
  go_ret
  exact ⟨rfl, rfl⟩

theorem numFrom_w (a : Nat) (w : World) :
    Calls Tryz.prog 216 #[.int .u64 a] w fun e w' => e = .returned (.float .f64 (Pl.canon a)) ∧ w = w' := by
  go_enter Tryz.func216, Tryz.ntmps216
  go_wp2_with (go_at_call 222; refine (canon_w _ _).mono ?_; rintro _ _ ⟨rfl, rfl⟩)
  go_ret
  exact ⟨rfl, rfl⟩

end Go.Proofs.YtilbbnmhnacnlaaGreat
/-
  What Class, math's constants, the law's own 'known' and the drawn float do: for every word of 64 bits the call returns, and leaves memory as it was.
-/
namespace Go.Proofs.YtilbbnmhnacnlaaGreat
open Go.RowKit

theorem fits_zero : Pl.Fits 0 := by unfold Pl.Fits; omega
end Go.Proofs.YtilbbnmhnacnlaaGreat
/-
  The drawn float: for every number and every word of 64 bits the call returns a word of 64 bits, and leaves memory as it was.
-/
namespace Go.Proofs.YtilbbnmhnacnlaaGreat
open Go.RowKit

theorem tmod_bounds (n : Int) : -1048577 < n.tmod 1048577 ∧ n.tmod 1048577 < 1048577 := by
  rcases Int.le_total 0 n with h | h
  · rw [Int.tmod_eq_emod_of_nonneg h]; omega
  · have e : n.tmod 1048577 = -((-n).tmod 1048577) := by rw [Int.neg_tmod, Int.neg_neg]
    rw [e, Int.tmod_eq_emod_of_nonneg (by omega)]; omega

end Go.Proofs.YtilbbnmhnacnlaaGreat
/-
  What the document's own answer (the reference of layer 1) does: for every word of 64 bits it returns what package num's functions are proved to return, and leaves memory as it was.
-/
namespace Go.Proofs.YtilbbnmhnacnlaaGreat
open Go.RowKit

namespace Pl
end Pl

end Go.Proofs.YtilbbnmhnacnlaaGreat
/-
  What each function on floats that the layers above call does: one text to import.
-/
/-
  One operation of a drawn region that only reads, in few words.
-/
namespace Go.Proofs.YtilbbnmhnacnlaaGreat
open Go.RowKit

theorem sp1 {α : Type} {l : List α} {i : Nat} {a : α} : l.toArray.setIfInBounds i a = (l.set i a).toArray := List.setIfInBounds_toArray ..
theorem sp2 {α : Type} {x : α} {xs : List α} {a : α} : (x :: xs).set 0 a = a :: xs := List.set_cons_zero
theorem sp3 {α : Type} {x : α} {xs : List α} {i : Nat} {a : α} : (x :: xs).set (i + 1) a = x :: xs.set i a := List.set_cons_succ
theorem wpT {P : Program} {ops : Array Oper} {Q : Exit → Act → World → Prop} {md : Region.Mode} {S : World → Prop} (i : Nat) (oi : Oper) {v : Value} {fuel : Nat} {listed : Array Bool} {a a2 : Act} {w : World}
    (h : wpAnyH P md ops Q S fuel (listed.setIfInBounds i true) a2 w) (hi : ops[i]? = some oi := by rfl) (hs : Region.noSelect ops = true := by kernel_rfl) (hf : Region.free md ops listed i = true := by kernel_rfl) (hr : (Region.ready md ops listed).contains i = true := by kernel_rfl)
    (hQ : ∀ c a w, Q (.panic c) (a.put oi.dst v) w → Q (.panic c) a w := by exact fun _ _ _ h => h) (hw : Region.wanted oi (yielded ops a.tmps) = true := by rfl)
    (hy : ∀ w, S w → (execOp a.eval oi).run P w = .ok (.value v) w := by (intro w hSw; (try dsimp only at hSw); go_simp; try (with_reducible rfl))) (ha : a.put oi.dst v = a2 := by (first | (simp only [Act.put, sp1, sp2, sp3]; done) | (simp only [Act.put, sp1, sp2, sp3]; exact rfl) | exact rfl)) (hS : S w := by assumption) : wpAnyH P md ops Q S (fuel + 1) listed a w :=
  wpAnyH_take hi hs hf hr hQ (.inl ⟨hw, hy⟩) hS (ha ▸ h)
theorem wpU {P : Program} {ops : Array Oper} {Q : Exit → Act → World → Prop} {md : Region.Mode} {S : World → Prop} (i : Nat) (oi : Oper) {fuel : Nat} {listed : Array Bool} {a a2 : Act} {w : World}
    (h : wpAnyH P md ops Q S fuel (listed.setIfInBounds i true) a2 w) (hi : ops[i]? = some oi := by rfl) (hs : Region.noSelect ops = true := by kernel_rfl) (hf : Region.free md ops listed i = true := by kernel_rfl) (hr : (Region.ready md ops listed).contains i = true := by kernel_rfl)
    (hQ : ∀ c a w, Q (.panic c) (a.put oi.dst undef) w → Q (.panic c) a w := by exact fun _ _ _ h => h) (hw : Region.wanted oi (yielded ops a.tmps) = false := by rfl)
    (ha : a.put oi.dst undef = a2 := by (first | (simp only [Act.put, sp1, sp2, sp3]; done) | (simp only [Act.put, sp1, sp2, sp3]; exact rfl) | exact rfl)) (hS : S w := by assumption) : wpAnyH P md ops Q S (fuel + 1) listed a w :=
  wpAnyH_take hi hs hf hr hQ (.inr ⟨hw, rfl⟩) hS (ha ▸ h)
theorem wpR {P : Program} {ops : Array Oper} {Q : Exit → Act → World → Prop} {md : Region.Mode} {S : World → Prop} (i : Nat) (o : Oper) {fuel : Nat} {listed : Array Bool} {a : Act} {w : World}
    (h : ∀ K : Act → World → Prop, Shut (∀ a w, S w → (S w → wpAnyH P md ops Q S fuel (listed.setIfInBounds i true) a w) → K a w) → if Region.wanted o (yielded ops a.tmps) = true then Oper.wp P o a w K Q else K (a.put o.dst undef) w)
    (hr : Region.ready md ops listed = [i] := by kernel_rfl) (ho : ops[i]? = some o := by rfl) : wpAnyH P md ops Q S (fuel + 1) listed a w :=
  wpAnyH_ready hr (by simp) (AllReadyH.cons ho h AllReadyH.nil)
end Go.Proofs.YtilbbnmhnacnlaaGreat
/-
  Memory that a call moves: which blocks it may have written, and rows of bytes that lie in memory: nil, empty, an argument's, or the call's own. Plain facts, no program in sight but for the numbers of its types.
-/
namespace Go.Proofs.YtilbbnmhnacnlaaGreat
open Go.RowKit

structure Moves (S : List Nat) (w w' : World) : Prop where
  os : w'.os = w.os
  tape : w'.tape = w.tape
  output : w'.output = w.output
  size : w.heap.size ≤ w'.heap.size
  block : ∀ k, k < w.heap.size → k ∉ S → w'.heap[k]? = w.heap[k]?

theorem Moves.refl (S : List Nat) (w : World) : Moves S w w := ⟨rfl, rfl, rfl, Nat.le_refl _, fun _ _ _ => rfl⟩
theorem Moves.trans {S T : List Nat} {a b c : World} (h : Moves S a b) (k : Moves T b c) (hT : ∀ x ∈ T, x ∈ S ∨ a.heap.size ≤ x) : Moves S a c :=
  ⟨k.os.trans h.os, k.tape.trans h.tape, k.output.trans h.output, Nat.le_trans h.size k.size, fun i hi hn =>
    (k.block i (Nat.lt_of_lt_of_le hi h.size) (fun hx => by rcases hT i hx with h1 | h1; exact hn h1; omega)).trans (h.block i hi hn)⟩
theorem Moves.then {S : List Nat} {a b c : World} (h : Moves S a b) (k : Moves S b c) : Moves S a c := h.trans k fun _ hx => .inl hx
theorem Moves.mono {S T : List Nat} {a b : World} (h : Moves S a b) (hT : ∀ x ∈ S, x ∈ T) : Moves T a b :=
  ⟨h.os, h.tape, h.output, h.size, fun i hi hn => h.block i hi fun hx => hn (hT i hx)⟩
theorem Moves.at {S : List Nat} {w w' : World} {k : Nat} {o : Obj} (h : Moves S w w') (hk : w.heap[k]? = some o) (hn : k ∉ S) : w'.heap[k]? = some o :=
  (h.block k (lt_of_block hk) hn).trans hk
theorem Moves.drew {S : List Nat} {a w : World} (h : Moves S a w) : Moves S a w.drew := ⟨h.os, h.tape, h.output, h.size, h.block⟩
theorem Moves.alloc {S : List Nat} {a w : World} (h : Moves S a w) (o : Obj) : Moves S a (w.alloc o) :=
  h.trans (T := []) ⟨rfl, rfl, rfl, by simp, fun k hk _ => Below.heap_alloc _ _ _ hk⟩ (fun _ hx => by simp at hx)
theorem Moves.setCell {S : List Nat} {a w : World} (h : Moves S a w) {p : Addr} (hp : p.block ∈ S ∨ a.heap.size ≤ p.block) (u : Value) : Moves S a (w.setCell p u) :=
  h.trans (T := [p.block]) ⟨rfl, rfl, rfl, by simp [World.setCell], fun k _ hn => Below.heap_setCell _ _ _ _ (by simpa using hn)⟩ (fun _ hx => by simp at hx; subst hx; exact hp)
theorem Moves.grown {S : List Nat} {a w w' : World} {row : Option Nat} (h : Moves S a w) (hg : w.grownBy w' row) (hr : ∀ k, row = some k → k ∈ S ∨ a.heap.size ≤ k) : Moves S a w' :=
  h.trans (T := row.toList) ⟨hg.os, hg.tape, hg.output, hg.size, fun k hk hn => hg.block k hk (by cases row <;> simp_all)⟩ (fun x hx => hr x (by cases row <;> simp_all))
theorem Moves.below {S : List Nat} {w w' : World} {B : Nat} (h : Moves S w w') (hS : ∀ k ∈ S, B ≤ k) (hB : B ≤ w.heap.size) : Below B w w' :=
  ⟨h.os, h.tape, h.output, h.size, fun k hk => h.block k (by omega) fun hx => by have := hS k hx; omega⟩

def u8s (bs : List Nat) : List Value := bs.map fun b : Nat => Value.int .u8 (b : Int)
theorem u8s_length (bs : List Nat) : (u8s bs).length = bs.length := by simp [u8s]
theorem u8s_append (a b : List Nat) : u8s (a ++ b) = u8s a ++ u8s b := by simp [u8s]
theorem u8s_get {bs : List Nat} {j : Nat} {u : Value} (h : (u8s bs)[j]? = some u) : ∃ b, bs[j]? = some b ∧ u = .int .u8 (b : Int) := by
  simp only [u8s, List.getElem?_map, Option.map_eq_some_iff] at h
  obtain ⟨b, h1, h2⟩ := h
  exact ⟨b, h1, h2.symm⟩
theorem u8s_one (bs : List Nat) : ∀ u ∈ u8s bs, u.oneCell' = true := by
  intro u hu
  simp only [u8s, List.mem_map] at hu
  obtain ⟨b, _, rfl⟩ := hu
  rfl

def Has (w : World) (g : Nat) (ad : Option Addr) (bs : List Nat) : Prop :=
  bs = [] ∨ ∃ off, ad = some ⟨g, off, none⟩ ∧ ∀ (j b : Nat), bs[j]? = some b → w.cell? ⟨g, off + j, none⟩ = some (.int .u8 (b : Int))

theorem lt_of_cell {w : World} {a : Addr} {v : Value} (h : w.cell? a = some v) : a.block < w.heap.size := by
  refine Nat.lt_of_not_le fun hle => ?_
  have : w.heap[a.block]? = none := Array.getElem?_eq_none hle
  simp [World.cell?, this] at h
theorem Has.moves {w w' : World} {g : Nat} {ad : Option Addr} {bs : List Nat} {S : List Nat} (h : Has w g ad bs) (m : Moves S w w') (hg : g ∉ S) : Has w' g ad bs := by
  rcases h with h | ⟨off, h1, h2⟩
  · exact .inl h
  · refine .inr ⟨off, h1, fun j b hj => ?_⟩
    have hc := h2 j b hj
    have hlt := lt_of_cell hc
    exact (World.cell?_of_block (w := w) (m.block g hlt hg)).trans hc

def IsB (w : World) (g : Nat) (v : Value) (bs : List Nat) : Prop :=
  ∃ ad n cap, v = .slice ad n cap ∧ bs.length = n ∧ n ≤ cap ∧ (ad = none → cap = 0) ∧ Has w g ad bs
theorem IsB.moves {w w' : World} {g : Nat} {v : Value} {bs : List Nat} {S : List Nat} (h : IsB w g v bs) (m : Moves S w w') (hg : g ∉ S) : IsB w' g v bs := by
  obtain ⟨ad, n, cap, h1, h2, h3, h4, h5⟩ := h
  exact ⟨ad, n, cap, h1, h2, h3, h4, h5.moves m hg⟩

def Own (w : World) (v : Value) (bs : List Nat) : Prop := w.ownsRow 0 5 1 v bs.length (u8s bs)
theorem Own.nil (w : World) : Own w (.slice none 0 0) [] := by unfold Own; exact World.ownsRow_nil _ _ _ _
theorem Own.moves {w w' : World} {v : Value} {bs : List Nat} {S : List Nat} (h : Own w v bs) (m : Moves S w w') (hg : ∀ k, v.ownBlock = some k → k ∉ S) : Own w' v bs := by
  refine ⟨h.1, ?_⟩
  rcases h.2 with hn | ⟨g, cap, cur, rfl, hb, hgg, rest⟩
  · exact .inl hn
  · exact .inr ⟨g, cap, cur, rfl, hb, m.at hgg (hg g rfl), rest⟩
theorem Own.isB {w : World} {v : Value} {bs : List Nat} (h : Own w v bs) : IsB w (v.ownBlock.getD 0) v bs := by
  rcases h.2 with ⟨rfl, h0⟩ | ⟨g, cap, cur, rfl, hb, hgg, h1, h2, h3, h4⟩
  · refine ⟨none, 0, 0, rfl, h0, Nat.le_refl _, fun _ => rfl, .inl (List.eq_nil_of_length_eq_zero h0)⟩
  · refine ⟨some ⟨g, 0, none⟩, bs.length, cap, rfl, rfl, h1, fun h => by simp at h, .inr ⟨0, rfl, fun j b hj => ?_⟩⟩
    have hlt := (List.getElem?_eq_some_iff.1 hj).1
    have e : (cur.toList.take (bs.length * 1))[j]? = some (.int .u8 (b : Int)) := by rw [h4]; simp [u8s, hj]
    rw [List.getElem?_take, if_pos (by omega)] at e
    simp only [Value.ownBlock, Option.getD, World.cell?, hgg, Nat.zero_add]
    simpa using e
theorem Own.cap {w : World} {v : Value} {bs : List Nat} (h : Own w v bs) (hpos : 0 < bs.length) : ∃ g n cap, v = .slice (some ⟨g, 0, none⟩) n cap := by
  rcases h.2 with ⟨_, h0⟩ | ⟨g, cap, _, h1, _⟩
  · omega
  · exact ⟨g, _, cap, h1⟩
theorem Own.lt {w : World} {v : Value} {bs : List Nat} (h : Own w v bs) {k : Nat} (hk : v.ownBlock = some k) : k < w.heap.size := (World.ownsRow.lt h k hk).2
theorem Own.ne {w : World} {v : Value} {bs : List Nat} (h : Own w v bs) {p : Nat} {c : Array Value} {t : TypeId} {fz : Nat × Nat} (hp : w.heap[p]? = some (.cells c t fz)) (ht : t ≠ 5) : v.ownBlock ≠ some p := by
  intro hk
  rcases h.2 with ⟨rfl, _⟩ | ⟨g, cap, cur, rfl, hb, hgg, _⟩
  · simp [Value.ownBlock] at hk
  · simp [Value.ownBlock] at hk
    subst hk
    rw [hgg] at hp
    simp at hp
    exact ht hp.2.1.symm

def Fresh (w : World) (v : Value) : Prop := ∀ k, v.ownBlock = some k → w.heap.size ≤ k
theorem Fresh.nil (w : World) : Fresh w (.slice none 0 0) := fun k h => by simp [Value.ownBlock] at h

theorem Tryz.info5 : (Tryz.prog.info? 5).map (fun i => (i.zero, i.size, i.bytes)) = some (some (.int .u8 0), 1, 1) := by kernel_rfl

theorem wpList_wanted {P : Program} {w : World} {ops : Array Oper} {rest : List Oper} {o : Oper} {a : Act} {Q : Exit → Act → World → Prop}
    (hw : Region.wanted o (yielded ops a.tmps) = true) (h : wpList P ops Q ({ o with guard := none } :: rest) a w) : wpList P ops Q (o :: rest) a w := by
  unfold wpList at h ⊢
  rw [if_pos hw]
  rw [if_pos (by simp [Region.wanted])] at h
  exact h

def Lain (w : World) (v v' : Value) : Prop := v'.ownBlock = v.ownBlock ∨ v'.ownBlock = some w.heap.size

theorem append_law {ops : Array Oper} {rest : List Oper} {o : Oper} {a : Act} {Q : Exit → Act → World → Prop} {w : World} (s x : Operand)
    (ho : o.op = .call { callee := .builtin .append, args := #[s, x], argTypes := #[27, 27] })
    (v xv : Value) (bs cs : List Nat) (g : Nat) (hs : a.eval s = v) (hx : a.eval x = xv) (hw : Region.wanted o (yielded ops a.tmps) = true)
    (hv : Own w v bs) (hc : IsB w g xv cs) (hb : bs.length + cs.length ≤ 1099511627776)
    (h : ∀ v' w', Own w' v' (bs ++ cs) → Moves v.ownBlock.toList w w' → Lain w v v' → wpList Tryz.prog ops Q rest (a.put o.dst v') w') :
    wpList Tryz.prog ops Q (o :: rest) a w := by
  refine wpList_wanted hw ?_
  obtain ⟨i0, hi, hz0, hz1, hz2⟩ := info_parts Tryz.info5
  obtain ⟨ad, n, cap, rfl, rfl, hle, hnil, hhas⟩ := hc
  have fin : ∀ v' w', w'.ownsRow 0 5 1 v' (bs.length + cs.length) (u8s bs ++ u8s cs) → w.grownBy w' v.ownBlock → Lain w v v' → wpList Tryz.prog ops Q rest (a.put o.dst v') w' := by
    intro v' w' h1 h2 h3
    refine h v' w' ?_ ?_ h3
    · unfold Own; rw [u8s_append, List.length_append]; exact h1
    · exact (Moves.refl _ _).grown h2 (fun k hk => .inl (by rw [hk]; simp))
  cases ad with
  | none =>
    obtain rfl : cap = 0 := hnil rfl
    have h0 : cs.length = 0 := by omega
    obtain rfl : cs = [] := List.eq_nil_of_length_eq_zero h0
    refine wpList_append_own_none rfl s x 27 ho 0 5 i0 1 Tryz.underlying27 hi v bs.length (u8s bs) hs hv hx ?_
    exact fin v w (by simpa [u8s, Own] using hv) (World.grownBy.refl _ _) (.inl rfl)
  | some y =>
    refine wpList_append_own_at _ rfl s x 27 ho 0 5 i0 (.int .u8 0) 1 1 Tryz.underlying27 hi hz0 hz1 hz2 rfl (by decide) v bs.length (u8s bs) hs hv y cs.length cap (u8s cs) hx (by simp [u8s]) ?_ (u8s_one cs) (by unfold maxLen; omega) (by omega) (by simp) ?_
    · intro j u hj
      obtain ⟨b, hjb, rfl⟩ := u8s_get hj
      rcases hhas with rfl | ⟨off, hy, hcell⟩
      · simp at hjb
      · simp only [Option.some.injEq] at hy
        subst hy
        have := hcell j b hjb
        have e : (⟨g, off, none⟩ : Addr).add j = ⟨g, off + j, none⟩ := by unfold Addr.add; split <;> simp_all
        rw [e]; exact this
    · intro v' w' h1 h2 _ h4
      exact fin v' w' h1 h2 h4

end Go.Proofs.YtilbbnmhnacnlaaGreat
