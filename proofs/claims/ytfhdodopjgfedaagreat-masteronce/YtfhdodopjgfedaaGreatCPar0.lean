/-
  Readers of bytes as plain functions: a number, one behind another; what is read of a beginning is read of the whole.
-/
import Derived.Test.YtfhdodopjgfedaaGreatCLi0
namespace Go.Proofs.YtfhdodopjgfedaaGreat
open Go.RowKit

def dNum (n : Nat) (bs : List Nat) : Option (Nat × List Nat) := if n ≤ bs.length then some (val (bs.take n), bs.drop n) else none
theorem dNum_one (c : Nat) (r : List Nat) : dNum 1 ([c] ++ r) = some (c, r) := by
  unfold dNum
  rw [if_pos (by simp)]
  simp [val]
theorem dNum_be {n : Nat} (h : n < 4294967296) (r : List Nat) : dNum 4 (be 4 n ++ r) = some (n, r) := by
  obtain ⟨u1, u2, u3⟩ := take_of (bs := be 4 n ++ r) (hd := be 4 n) (rest := r) (n := 4) rfl (be_length _ _)
  unfold dNum
  rw [if_pos u3, u1, u2, val_be (by omega)]
theorem dNum_some {n : Nat} {bs r : List Nat} {v : Nat} (h : dNum n bs = some (v, r)) : n ≤ bs.length ∧ val (bs.take n) = v ∧ bs.drop n = r := by
  unfold dNum at h
  by_cases hn : n ≤ bs.length
  · rw [if_pos hn] at h
    simp at h
    exact ⟨hn, h.1, h.2⟩
  · rw [if_neg hn] at h
    simp at h
theorem dNum_none {n : Nat} {bs : List Nat} (h : dNum n bs = none) : bs.length < n := by
  unfold dNum at h
  by_cases hn : n ≤ bs.length
  · rw [if_pos hn] at h
    simp at h
  · omega
theorem zbs_strOf {bs : List Nat} (h : ∀ b ∈ bs, b < 256) : zbs (strOf bs) = bs := by
  unfold zbs strOf
  simp only [List.map_map]
  conv => rhs; rw [← List.map_id bs]
  exact List.map_congr_left fun b hb => UInt8.toNat_ofNat_of_lt (h b hb)
/-- One behind another. -/
def pbn {α β : Type} (p : List Nat → Option (α × List Nat)) (q : α → List Nat → Option (β × List Nat)) (bs : List Nat) : Option (β × List Nat) := match p bs with
  | none => none
  | some (x, r) => q x r
theorem pbn_none {α β : Type} {p : List Nat → Option (α × List Nat)} {q : α → List Nat → Option (β × List Nat)} {bs : List Nat} (h : p bs = none) : pbn p q bs = none := by
  unfold pbn
  rw [h]
theorem pbn_some {α β : Type} {p : List Nat → Option (α × List Nat)} {q : α → List Nat → Option (β × List Nat)} {bs r : List Nat} {x : α} (h : p bs = some (x, r)) : pbn p q bs = q x r := by
  unfold pbn
  rw [h]
end Go.Proofs.YtfhdodopjgfedaaGreat
