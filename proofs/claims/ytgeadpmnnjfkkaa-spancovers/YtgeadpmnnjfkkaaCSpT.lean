/-
  SpanTells' walk.
-/
import Derived.Test.YtgeadpmnnjfkkaaCSpN
import Derived.Test.YtgeadpmnnjfkkaaCPeel
import Derived.Test.YtgeadpmnnjfkkaaCSp11
namespace Go.Proofs.Ytgeadpmnnjfkkaa
open Go.RowKit

/-- What a piece of code leaves, told by the slots that it may have written: the rest is walked once. -/
theorem wp_some7 {P : Program} {c : Code} {Q : Exit → Act → World → Prop} {a0 : Act} {w0 : World} (sl : List Nat) (H : (Nat → Value) → World → Prop)
    (h1 : c.wp P (fun e a w => e = .normal ∧ a = { tmps := sl.foldl (fun t s => t.setIfInBounds s (a.tmps.getD s undef)) a0.tmps, defers := a0.defers } ∧ H (fun s => a.tmps.getD s undef) w) a0 w0)
    (h2 : ∀ (u : Nat → Value) w, H u w → Q .normal { tmps := sl.foldl (fun t s => t.setIfInBounds s (u s)) a0.tmps, defers := a0.defers } w) : c.wp P Q a0 w0 :=
  Code.wp_mono (fun e a w ⟨he, ha, hH⟩ => by subst he; rw [ha]; exact h2 _ w hH) h1

end Go.Proofs.Ytgeadpmnnjfkkaa
