/- ours -/
import Derived.Test.YtcngllcifcpbkaaGreatCBaseP
import Derived.Test.YtcngllcifcpbkaaGreatCBaseV
import Derived.Test.YtcngllcifcpbkaaGreatCBaseG
/-
 What the law's own 'writes' and 'reads' do: for every value, and for any bytes, they return true, and write nothing that was there.
-/
namespace Go.Proofs.YtcngllcifcpbkaaGreat
open Go.RowKit

theorem rPut_v (v : Value) (g : Nat) (bs es : List Nat) (va : Value) (A : Vm) (w : World) (hva : va = A.val) (hb : IsB w g v bs) (ha : A.In w) (hn : bs.length + 2000010 ≤ 1099511627776) (hl : A.bs.length ≤ 1048576) (he : bs ++ venc A = es) :
  Calls Tryz.prog 72 #[v, va] w fun e w' => ∃ v', e = .returned v' ∧ Own w' v' es ∧ Moves [] w w' ∧ Fresh w v' := by
 subst hva he
 exact rPut_w v g bs A w hb ha hn hl

theorem rf_new {w : World} {g : Nat} {v : Value} {bs : List Nat} (h : IsB w g v bs) (hg : g ≠ w.heap.size) : RfIs (w.alloc (.cells #[v, .bool false] 93)) w.heap.size g bs false :=
 ⟨v, heap_alloc_new _ _, h.moves ((Moves.refl [] _).alloc _) (by simp), hg⟩

theorem rsame_b (W w : World) (va vb : Value) (A B : Vm) (ha : VIs W va A) (hb : VIs W vb B) (m : Moves [] W w) :
  Calls Tryz.prog 65 #[va, vb] w fun e w' => e = .returned (.bool (vord A B == 0)) ∧ Moves [] W w' := by
 obtain ⟨rfl, ha⟩ := ha
 obtain ⟨rfl, hb⟩ := hb
 exact (rSame_w A B w (ha.moves m (by simp)) (hb.moves m (by simp))).mono fun e w' h => ⟨h.1, m.then h.2⟩

end Go.Proofs.YtcngllcifcpbkaaGreat
/-
 'x1, .., xn := f1(y1), .., fn(yn)' over boxes once more, where what is handed back lies in new memory: what is said of it is said of the world.
-/
namespace Go.Proofs.YtcngllcifcpbkaaGreat
open Go.RowKit

section
variable {P : Program} {ops : Array Oper} {Q : Exit → Act → World → Prop} {a0 : Act} {W : World} {n : Nat} {L C D : Nat → Nat} {T : TypeId} {Z : Array Value} {src : Nat → Value} {Res : World → Nat → Value → Array Value → Prop}

end
end Go.Proofs.YtcngllcifcpbkaaGreat
