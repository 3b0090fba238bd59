/-
  What ValueBack hands to Read does: of two values that were written it takes both, all of them, and nothing is left.
-/
import Derived.Test.YtbeobeedgeohlaaCVal9
namespace Go.Proofs.Ytbeobeedgeohlaa
open Go.RowKit

/-- The number that is read of what was written. -/
def cn (A : Vm) : Nat := if A.kind = 2 then Pl.canon A.n else 0

/-- In that box lies such a value, its bytes in memory that is younger than w0. -/
def BoxHas (w0 w : World) (q : Nat) (k : Int) (tx : List Nat) (n : Nat) : Prop :=
  ∃ ad len cap, w.heap[q]? = some (.cells #[.int .i64 k, .slice ad len cap, .float .f64 n] 49 (0, 0)) ∧ Own w (.slice ad len cap) tx ∧ Fresh w0 (.slice ad len cap)
theorem BoxHas.moves {w0 w w' : World} {q : Nat} {k : Int} {tx : List Nat} {n : Nat} {S : List Nat} (h : BoxHas w0 w q k tx n) (m : Moves S w w') (hq : q ∉ S) (hS : ∀ x ∈ S, x < w0.heap.size) : BoxHas w0 w' q k tx n := by
  obtain ⟨ad, len, cap, h1, h2, h3⟩ := h
  refine ⟨ad, len, cap, m.at h1 hq, h2.moves m (fun j hj hx => ?_), h3⟩
  have := hS j hx
  have := h3 j hj
  omega

theorem BoxHas.elder {w0 w1 w : World} {q : Nat} {k : Int} {tx : List Nat} {n : Nat} (h : BoxHas w1 w q k tx n) (hle : w0.heap.size ≤ w1.heap.size) : BoxHas w0 w q k tx n := by
  obtain ⟨ad, len, cap, h1, h2, h3⟩ := h
  exact ⟨ad, len, cap, h1, h2, fun j hj => Nat.le_trans hle (h3 j hj)⟩

end Go.Proofs.Ytbeobeedgeohlaa
