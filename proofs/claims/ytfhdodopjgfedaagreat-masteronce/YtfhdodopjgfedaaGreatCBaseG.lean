/-
  Any, Any2, Val7, Par3: our texts of these names, laid into one.
-/
import Derived.Test.YtfhdodopjgfedaaGreatCBaseF
import Derived.Orders
import Derived.Laws.Tables
import Derived.Deep.Slices
import Derived.Deep.Fields
/-
  A region that draws its order, by one condition that every operation keeps, whichever comes up: plain laws over the guide's own, no program in sight.
-/
namespace Go.Proofs.YtfhdodopjgfedaaGreat
open Go.RowKit

theorem ready_un {ops : Array Oper} {l : Array Bool} {i : Nat} (h : i ∈ Region.ready .any ops l) : l[i]? = some false := by
  have h1 := (mem_ready.1 h).1
  rw [Array.getD_eq_getD_getElem?] at h1
  cases hq : l[i]? with
  | none => rw [hq] at h1; simp at h1
  | some b => rw [hq] at h1; simp at h1; rw [h1]

/-- That one has come up. -/
def up (l : Array Bool) (i : Nat) : Prop := l[i]? = some true
/-- All have come up where nothing may. -/
def follows_ok (ops : Array Oper) : Bool := (List.range ops.size).all fun i => ((ops[i]?).map fun o => o.after.all fun e => !Region.binds .any e || decide (e.on < i)).getD false

theorem all_up {ops : Array Oper} {l : Array Bool} (hok : follows_ok ops = true) (hl : l.size = ops.size) (hr : Region.ready .any ops l = []) : ∀ i, i < ops.size → up l i := by
  intro i
  induction i using Nat.strongRecOn with
  | _ i ih =>
    intro hi
    unfold up
    have hlt : i < l.size := by omega
    rw [Array.getElem?_eq_getElem hlt]
    cases hq : l[i] with
    | true => rfl
    | false =>
      exfalso
      have h1 := List.all_eq_true.1 hok i (List.mem_range.2 hi)
      obtain ⟨o, ho⟩ : ∃ o, ops[i]? = some o := ⟨ops[i], Array.getElem?_eq_getElem hi⟩
      rw [ho] at h1
      simp only [Option.map_some, Option.getD_some] at h1
      have : i ∈ Region.ready .any ops l := by
        refine mem_ready.2 ⟨by rw [Array.getD_eq_getD_getElem?, Array.getElem?_eq_getElem hlt, hq]; rfl, o, ho, fun e he hbd => ?_⟩
        have h2 := Array.all_eq_true_iff_forall_mem.1 h1 e he
        rw [hbd, Bool.not_true, Bool.false_or] at h2
        have h3 := of_decide_eq_true h2
        have h4 := ih e.on h3 (by omega)
        unfold up at h4
        rw [Array.getD_eq_getD_getElem?, h4]
        rfl
      rw [hr] at this
      simp at this

section
variable {P : Program} {ops : Array Oper} {Q : Exit → Act → World → Prop} {a0 : Act} {W : World} {n : Nat} {L C D : Nat → Nat} {T : TypeId} {Z : Array Value} {src : Nat → Value} {Res : Nat → Value → Array Value → Prop}

end
end Go.Proofs.YtfhdodopjgfedaaGreat
/-
  The operations of 'x1, .., xn := f1(y1), .., fn(yn)' over boxed values, each by what it does to a state and a world.
-/
namespace Go.Proofs.YtfhdodopjgfedaaGreat
open Go.RowKit

theorem wpOp_of_wp {P : Program} {ops : Array Oper} {Q : Exit → Act → World → Prop} {i : Nat} {o : Oper} {a : Act} {w : World} {K : Act → World → Prop} (hi : ops[i]? = some o) (hg : o.guard = none) (h : o.wp P a w K Q) : wpOp P ops Q i K a w := by
  unfold wpOp
  simp only [hi]
  rw [if_pos (by simp [Region.wanted, hg])]
  exact .inl h

end Go.Proofs.YtfhdodopjgfedaaGreat
/-
  Arguments opened: a value, and a value as it is drawn, as the rows' reading finds them in memory.
-/
namespace Go.Proofs.YtfhdodopjgfedaaGreat
open Go.RowKit
open Go.ChangeShapes Go.WideShapes

end Go.Proofs.YtfhdodopjgfedaaGreat
/-
  What several statements share: drawn values in boxes of their own.
-/
namespace Go.Proofs.YtfhdodopjgfedaaGreat
open Go.RowKit

end Go.Proofs.YtfhdodopjgfedaaGreat
