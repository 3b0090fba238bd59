/-
  Tables as bytes: what is written.
-/
import Derived.Test.YtfhdodopjgfedaaGreatCBaseO
import Derived.Test.YtfhdodopjgfedaaGreatCBaseY
import Derived.Test.YtfhdodopjgfedaaGreatCRw4
namespace Go.Proofs.YtfhdodopjgfedaaGreat
open Go.RowKit

def encN (x : Pnam) : List Nat := be 4 x.name.size ++ sbs x.name ++ pencR x.r
def encNs (xs : List Pnam) : List Nat := (xs.map encN).flatten
theorem encNs_step {l : List Pnam} {j : Nat} {x : Pnam} (h : l[j]? = some x) : encNs (l.take (j + 1)) = encNs (l.take j) ++ encN x := by
  rw [List.take_add_one, h]
  simp [encNs]
theorem pname_size {s : ByteArray} (h : pname s = true) : s.size ≤ 16 := by unfold pname at h; simp only [Bool.and_eq_true, decide_eq_true_eq] at h; exact h.2
theorem encN_len {x : Pnam} (h1 : pname x.name = true) (h2 : pright x.r = true) : (encN x).length ≤ 337 := by
  have a := pname_size h1
  have b := (pencR_len h2).2
  unfold encN
  simp only [List.length_append, be_length, sbs_length]
  omega
theorem encNs_len {xs : List Pnam} (h : ∀ x ∈ xs, pname x.name = true ∧ pright x.r = true) : (encNs xs).length ≤ xs.length * 337 := by
  induction xs with
  | nil => simp [encNs]
  | cons x l ih =>
    have h1 := ih (fun y hy => h y (List.mem_cons_of_mem _ hy))
    have h2 := encN_len (h x List.mem_cons_self).1 (h x List.mem_cons_self).2
    have e : encNs (x :: l) = encN x ++ encNs l := by simp [encNs]
    rw [e, List.length_append, List.length_cons]
    omega
end Go.Proofs.YtfhdodopjgfedaaGreat
