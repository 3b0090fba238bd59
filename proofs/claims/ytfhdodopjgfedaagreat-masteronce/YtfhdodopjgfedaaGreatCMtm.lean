/-
  Package meta: Write of a table that may be; Take of what was written.
-/
import Derived.Test.YtfhdodopjgfedaaGreatCMtk
import Derived.Test.YtfhdodopjgfedaaGreatCSp12
namespace Go.Proofs.YtfhdodopjgfedaaGreat
open Go.RowKit

/-- A table all of whose lists lie behind B. -/
def MtB (B : Nat) (w : World) (p : Nat) (xs : List Ptb) : Prop := ∃ v, w.heap[p]? = some (.cells #[v] 105 (0, 0)) ∧ MsAt B w v (fours xs)
theorem MtB.weak {B B' : Nat} {w : World} {p : Nat} {xs : List Ptb} (h : MtB B w p xs) (hb : B' ≤ B) : MtB B' w p xs := by
  obtain ⟨v, h1, h2⟩ := h
  exact ⟨v, h1, h2.weak hb⟩
end Go.Proofs.YtfhdodopjgfedaaGreat
