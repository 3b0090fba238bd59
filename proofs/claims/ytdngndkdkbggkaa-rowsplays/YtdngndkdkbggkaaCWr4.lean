/-
  row.Write: for every row what is written behind what was written is the row's bytes, as the chapter gives them, of a row that may not be those of an empty one; nothing else is written.
-/
import Derived.Test.YtdngndkdkbggkaaCDec4
namespace Go.Proofs.Ytdngndkdkbggkaa
open Go.RowKit

/-- A Writer that was made since W. -/
structure WrS (W w : World) (p : Nat) (a : Option Nat) (bs : List Nat) : Prop where
  wr : Wr w p a bs
  moves : Moves [] W w
  newp : W.heap.size ≤ p
  newa : ∀ k, a = some k → W.heap.size ≤ k
theorem WrS.after {W w w' : World} {p : Nat} {a : Option Nat} {bs : List Nat} (h : WrS W w p a bs) (m : Moves [] w w') : WrS W w' p a bs := ⟨h.wr.moves m (by simp) (by simp), h.moves.then m, h.newp, h.newa⟩
end Go.Proofs.Ytdngndkdkbggkaa
