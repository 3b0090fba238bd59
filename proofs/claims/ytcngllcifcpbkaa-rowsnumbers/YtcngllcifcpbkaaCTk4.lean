/-
  row.Take: of any bytes the call takes a row where the chapter lets it, and else leaves by the Reader's own panic; nothing else that was there is written.
-/
import Derived.Test.YtcngllcifcpbkaaCBaseY
import Derived.Test.YtcngllcifcpbkaaCPeel
import Derived.Test.YtcngllcifcpbkaaCRef4
namespace Go.Proofs.Ytcngllcifcpbkaa
open Go.RowKit

/-- A list that grows in a call that writes to a block that was there. -/
def cutTo (W w : World) : World := { w with heap := w.heap.extract 0 W.heap.size }
theorem cutTo_size {W w : World} (h : W.heap.size ≤ w.heap.size) : (cutTo W w).heap.size = W.heap.size := by
  simp [cutTo]
  omega
theorem cutTo_moves {W w : World} (h : W.heap.size ≤ w.heap.size) : Moves [] (cutTo W w) w := by
  refine ⟨rfl, rfl, rfl, by rw [cutTo_size h]; exact h, fun k hk _ => ?_⟩
  rw [cutTo_size h] at hk
  show _ = (w.heap.extract 0 W.heap.size)[k]?
  rw [Array.getElem?_extract]
  simp
  omega
end Go.Proofs.Ytcngllcifcpbkaa
