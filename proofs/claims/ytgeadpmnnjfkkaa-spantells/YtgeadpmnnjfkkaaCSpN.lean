/-
  law7's some; SpanNumbers' walk.
-/
import Derived.Test.YtgeadpmnnjfkkaaCSp10
import Derived.Test.YtgeadpmnnjfkkaaCOpen0
namespace Go.Proofs.Ytgeadpmnnjfkkaa
open Go.RowKit

theorem lists2_w (w : World) (g : Nat) (a b c d : ByteArray) (hb : w.heap[g]? = some (.cells #[.string a, .string b, .string c, .string d] 27 (0, 0))) : Calls Try.prog 10 #[.slice (some ⟨g, 0, none⟩) 2 2] w fun e w' => e = .returned (.bool true) ∧ Moves [] w w' :=
  lists7_w w _ 2 2 [⟨a, b⟩, ⟨c, d⟩] (SpsAt.block hb) rfl (by omega) (by omega)
theorem SpsAt.take {w : World} {ad : Option Addr} {xs : List Psp} (h : SpsAt w ad xs) (i : Nat) : SpsAt w ad (xs.take i) := fun k s hs => h k s (by
  rw [List.getElem?_take] at hs
  split at hs
  · exact hs
  · simp at hs)
end Go.Proofs.Ytgeadpmnnjfkkaa
