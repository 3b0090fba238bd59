/-
  Plain facts for totals: the least of a row is not above the most of it; what appending one word to a row makes of it. Condition: the words fit 64 bits.
-/
import Derived.Test.YtncmdbhbmbfdfaaAppend
namespace Go.Proofs.Ytncmdbhbmbfdfaa
open Go.RowKit

theorem rank_canon (a : Nat) : Pl.rank (Pl.canon a) = Pl.rank a := by unfold Pl.rank; rw [Pl.canon_canon]
theorem ord_canon (a b : Nat) : Pl.ord (Pl.canon a) (Pl.canon b) = Pl.ord a b := by unfold Pl.ord; rw [rank_canon, rank_canon]

theorem far_low_le (zs : List Nat) (n : Nat) : Pl.rank (far (-1) zs n) ≤ Pl.rank (nth zs 0) := by
  induction n with
  | zero => exact Nat.le_refl _
  | succ n ih =>
    unfold far
    split
    · rename_i h
      rw [Pl.ord_lt] at h
      have := of_decide_eq_true h
      omega
    · exact ih

theorem far_top_le (zs : List Nat) (n : Nat) : Pl.rank (nth zs 0) ≤ Pl.rank (far 1 zs n) := by
  induction n with
  | zero => exact Nat.le_refl _
  | succ n ih =>
    unfold far
    split
    · rename_i h
      have h1 : Pl.ord (nth zs (n + 1)) (far 1 zs n) = 1 := eq_of_beq h
      have h2 : ¬ Pl.ord (nth zs (n + 1)) (far 1 zs n) ≤ 0 := by omega
      rw [Pl.ord_le] at h2
      omega
    · exact ih

theorem low_top (zs : List Nat) (n : Nat) : Pl.ord (Pl.canon (far (-1) zs n)) (Pl.canon (far 1 zs n)) ≤ 0 := by
  rw [ord_canon, Pl.ord_le]
  have := far_low_le zs n
  have := far_top_le zs n
  omega

theorem vals_snoc (zs : List Nat) (p k : Nat) (h : zs.length = k) : vals zs k ++ [.float .f64 p] = vals (zs ++ [p]) (k + 1) := by
  apply List.ext_getElem?
  intro i
  by_cases hi : i < k
  · have h1 : i < k + 1 := by omega
    have h2 : i < zs.length := by omega
    rw [List.getElem?_append_left (by rw [vals_length]; exact hi)]
    simp [vals, hi, h1, nth, List.getElem?_append_left h2]
  · by_cases hj : i = k
    · subst hj
      rw [List.getElem?_append_right (by rw [vals_length]; omega), vals_length]
      simp [vals, nth, ← h]
    · have h1 : ¬ i < k + 1 := by omega
      rw [List.getElem?_eq_none (by simp [vals_length]; omega)]
      simp [vals, h1]

theorem fits_snoc {zs : List Nat} {p : Nat} (h : AllFit zs) (hp : Pl.Fits p) : AllFit (zs ++ [p]) := fun i => by
  by_cases hi : i < zs.length
  · have : nth (zs ++ [p]) i = nth zs i := by simp [nth, List.getElem?_append_left hi]
    rw [this]; exact h i
  · by_cases hj : i = zs.length
    · have : nth (zs ++ [p]) i = p := by subst hj; simp [nth]
      rw [this]; exact hp
    · have : nth (zs ++ [p]) i = 0 := by
        unfold nth
        rw [List.getD_eq_getElem?_getD, List.getElem?_eq_none (by simp; omega)]
        rfl
      rw [this]; exact fits_zero

end Go.Proofs.Ytncmdbhbmbfdfaa
