/-
  A drawn region each of whose operations writes a slot of its own, with guards: an operation that its guard lets by leaves its value, one that it does not leaves none. Plain laws, no program in sight.
-/
import Derived.Test.YtbjbljkcodkebaaCBaseH
namespace Go.Proofs.Ytbjbljkcodkebaa
open Go.RowKit

theorem wp_value {P : Program} {o : Oper} {a : Act} {w w' : World} {K : Act → World → Prop} {Q : Exit → Act → World → Prop} {v : Value} (hr : (execOp a.eval o).run P w = .ok (.value v) w') (h : K (a.put o.dst v) w') : o.wp P a w K Q := by
  unfold Oper.wp
  rw [hr]
  exact h
theorem wpOp_val {P : Program} {ops : Array Oper} {Q : Exit → Act → World → Prop} {i : Nat} {o : Oper} {a : Act} {w : World} {K : Act → World → Prop} {v : Value} (hi : ops[i]? = some o) (hg : o.guard = none) (hr : (execOp a.eval o).run P w = .ok (.value v) w) (h : K (a.put o.dst v) w) : wpOp P ops Q i K a w :=
  wpOp_of_wp hi hg (wp_value hr h)
end Go.Proofs.Ytbjbljkcodkebaa
