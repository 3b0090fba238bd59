/-
  law7's some; SpanNumbers' walk.
-/
import Derived.Test.YtgeadpmnnjfkkaaCSp10
import Derived.Test.YtgeadpmnnjfkkaaCBaseR
namespace Go.Proofs.Ytgeadpmnnjfkkaa
open Go.RowKit

theorem SpsAt.take {w : World} {ad : Option Addr} {xs : List Psp} (h : SpsAt w ad xs) (i : Nat) : SpsAt w ad (xs.take i) := fun k s hs => h k s (by
  rw [List.getElem?_take] at hs
  split at hs
  · exact hs
  · simp at hs)
end Go.Proofs.Ytgeadpmnnjfkkaa
