/-
  The document's own Right of rows: of a row that may be the call tells so, and writes nothing that was there.
-/
import Derived.Test.YtbeobeedgeohlaaCRfRight
namespace Go.Proofs.Ytbeobeedgeohlaa
open Go.RowKit

theorem refRight_yes (W w : World) (v : Value) (xs : List Pcol) (h : RowAt W v xs) (m : Moves [] W w) (hr : pright xs = true) :
    Calls Try.prog 43 #[v] w fun e w' => e = .returned (.bool true) ∧ Moves [] w w' := by
  have := refRight_w W w v xs h m
  rw [hr] at this
  exact this
end Go.Proofs.Ytbeobeedgeohlaa
