/-
  A drawn region each of whose operations writes a slot of its own, with guards: an operation that its guard lets by leaves its value, one that it does not leaves none. Plain laws, no program in sight.
-/
import Derived.Test.YtcngllcifcpbkaaCBaseH
namespace Go.Proofs.Ytcngllcifcpbkaa
open Go.RowKit

theorem wp_value {P : Program} {o : Oper} {a : Act} {w w' : World} {K : Act → World → Prop} {Q : Exit → Act → World → Prop} {v : Value} (hr : (execOp a.eval o).run P w = .ok (.value v) w') (h : K (a.put o.dst v) w') : o.wp P a w K Q := by
  unfold Oper.wp
  rw [hr]
  exact h
theorem wpOp_val {P : Program} {ops : Array Oper} {Q : Exit → Act → World → Prop} {i : Nat} {o : Oper} {a : Act} {w : World} {K : Act → World → Prop} {v : Value} (hi : ops[i]? = some o) (hg : o.guard = none) (hr : (execOp a.eval o).run P w = .ok (.value v) w) (h : K (a.put o.dst v) w) : wpOp P ops Q i K a w :=
  wpOp_of_wp hi hg (wp_value hr h)
theorem yielded_at {ops : Array Oper} {tmps : Array Value} {j s : Nat} {o : Oper} (hj : ops[j]? = some o) (hd : o.dst = some s) (hs : s < tmps.size) {C B : Bool} (hv : tmps.getD s undef = if C then .bool B else undef) : yielded ops tmps j = if C then some B else none := by
  unfold yielded
  rw [hj]
  simp only [Option.bind_some, hd]
  have e : tmps[s]? = some (tmps.getD s undef) := by
    rw [Array.getD_eq_getD_getElem?, Array.getElem?_eq_getElem hs]
    rfl
  rw [e, hv]
  cases C <;> rfl
/-- One with a guard. -/
theorem wpOp_on {P : Program} {ops : Array Oper} {Q : Exit → Act → World → Prop} {i j s : Nat} {o oj : Oper} {want : Bool} {a : Act} {w : World} {K : Act → World → Prop} (hi : ops[i]? = some o) (hg : o.guard = some (j, want)) (hj : ops[j]? = some oj) (hd : oj.dst = some s) (hs : s < a.tmps.size) {C B : Bool} (hv : a.tmps.getD s undef = if C then .bool B else undef)
    (hyes : (C && (B == want)) = true → o.wp P a w K Q) (hno : (C && (B == want)) = false → K (a.put o.dst undef) w) : wpOp P ops Q i K a w := by
  have hy := yielded_at hj hd hs hv
  have hw : Region.wanted o (yielded ops a.tmps) = (C && (B == want)) := by
    unfold Region.wanted
    rw [hg]
    simp only [hy]
    cases C <;> cases B <;> cases want <;> rfl
  unfold wpOp
  simp only [hi]
  rw [hw]
  cases hb : (C && (B == want)) with
  | true => exact .inl (hyes hb)
  | false => exact hno hb
theorem wpOp_onval {P : Program} {ops : Array Oper} {Q : Exit → Act → World → Prop} {i j s : Nat} {o oj : Oper} {want : Bool} {a : Act} {w : World} {K : Act → World → Prop} {v : Value} (hi : ops[i]? = some o) (hg : o.guard = some (j, want)) (hj : ops[j]? = some oj) (hd : oj.dst = some s) (hs : s < a.tmps.size) {C B : Bool} (hv : a.tmps.getD s undef = if C then .bool B else undef)
    (hyes : (C && (B == want)) = true → (execOp a.eval o).run P w = .ok (.value v) w) (h : ∀ v', v' = (if (C && (B == want)) then v else undef) → K (a.put o.dst v') w) : wpOp P ops Q i K a w :=
  wpOp_on hi hg hj hd hs hv (fun e => wp_value (hyes e) (h v (by rw [e]; rfl))) (fun e => h undef (by rw [e]; rfl))
end Go.Proofs.Ytcngllcifcpbkaa
