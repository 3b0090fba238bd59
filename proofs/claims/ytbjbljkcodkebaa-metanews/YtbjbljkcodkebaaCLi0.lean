/-
  Lists of one's own, of elements of any size: how they lie, how they grow; what stays; texts as bytes. Plain laws, no program in sight but for the numbers of its types.
-/
import Derived.Test.YtbjbljkcodkebaaCBaseD
import Derived.Sort.Walk0
import Derived.Laws.CopyRow
import Derived.Lib.ConvBytes
namespace Go.Proofs.Ytbjbljkcodkebaa
open Go.RowKit

theorem one_cell {w : World} {p : Nat} {a : Value} {t : TypeId} (h : w.heap[p]? = some (.cells #[a] t (0, 0))) : w.cell? ⟨p, 0, none⟩ = some a ∧ w.frozen? ⟨p, 0, none⟩ = false := by
  simp [World.cell?, World.frozen?, h]
theorem set_one {w : World} {p : Nat} {a : Value} {t : TypeId} (h : w.heap[p]? = some (.cells #[a] t (0, 0))) (u : Value) : (w.setCell ⟨p, 0, none⟩ u).heap[p]? = some (.cells #[u] t (0, 0)) := heap_set (i := 0) h u
/-- What a piece of code leaves, told by the slots that it may have written: the rest is walked once. -/
theorem wp_some7 {P : Program} {c : Code} {Q : Exit → Act → World → Prop} {a0 : Act} {w0 : World} (sl : List Nat) (H : (Nat → Value) → World → Prop)
    (h1 : c.wp P (fun e a w => e = .normal ∧ a = { tmps := sl.foldl (fun t s => t.setIfInBounds s (a.tmps.getD s undef)) a0.tmps, defers := a0.defers } ∧ H (fun s => a.tmps.getD s undef) w) a0 w0)
    (h2 : ∀ (u : Nat → Value) w, H u w → Q .normal { tmps := sl.foldl (fun t s => t.setIfInBounds s (u s)) a0.tmps, defers := a0.defers } w) : c.wp P Q a0 w0 :=
  Code.wp_mono (fun e a w ⟨he, ha, hH⟩ => by subst he; rw [ha]; exact h2 _ w hH) h1

end Go.Proofs.Ytbjbljkcodkebaa
