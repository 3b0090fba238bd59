/-
  What package value's Get does while Read runs: it takes a value where the document lets it, and else leaves by the Reader's own panic; no other memory is written.
-/
import Derived.Test.YtdngndkdkbggkaaCVal8
namespace Go.Proofs.Ytdngndkdkbggkaa
open Go.RowKit

theorem RdIs.ltp {w : World} {p g : Nat} {bs : List Nat} {fl : Bool} (h : RdIs w p g bs fl) : p < w.heap.size := by
  obtain ⟨v, hp, _⟩ := h
  exact lt_of_block hp

end Go.Proofs.Ytdngndkdkbggkaa
