/-
  Rows as bytes, as plain data: what is written of a row, and what is read of bytes, with what must be so of a time or without. Plain facts, no program in sight.
-/
import Derived.Test.YtbeobeedgeohlaaCBaseJ
namespace Go.Proofs.Ytbeobeedgeohlaa
open Go.RowKit

/-- What is left is no more than there was, and octets. -/
def OctN (N : Nat) (bs : List Nat) : Prop := bs.length ≤ N ∧ ∀ z ∈ bs, z < 256
theorem OctN.drop {N : Nat} {bs : List Nat} (h : OctN N bs) (n : Nat) : OctN N (bs.drop n) :=
  ⟨by have := h.1; rw [List.length_drop]; omega, fun z hz => h.2 z (List.mem_of_mem_drop hz)⟩

end Go.Proofs.Ytbeobeedgeohlaa
