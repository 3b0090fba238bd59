/-
  Law3, Any3: our texts of these names, laid into one.
-/
import Derived.Test.YtcngllcifcpbkaaCBaseP
import Derived.Test.YtcngllcifcpbkaaCBaseV
import Derived.Test.YtcngllcifcpbkaaCBaseG
/-
  What the law's own 'writes' and 'reads' do: for every value, and for any bytes, they return true, and write nothing that was there.
-/
namespace Go.Proofs.Ytcngllcifcpbkaa
open Go.RowKit

theorem rsame_b (W w : World) (va vb : Value) (A B : Vm) (ha : VIs W va A) (hb : VIs W vb B) (m : Moves [] W w) :
    Calls Try.prog 45 #[va, vb] w fun e w' => e = .returned (.bool (vord A B == 0)) ∧ Moves [] W w' := by
  obtain ⟨rfl, ha⟩ := ha
  obtain ⟨rfl, hb⟩ := hb
  exact (rSame_w A B w (ha.moves m (by simp)) (hb.moves m (by simp))).mono fun e w' h => ⟨h.1, m.then h.2⟩

end Go.Proofs.Ytcngllcifcpbkaa
/-
  'x1, .., xn := f1(y1), .., fn(yn)' over boxes once more, where what is handed back lies in new memory: what is said of it is said of the world.
-/
namespace Go.Proofs.Ytcngllcifcpbkaa
open Go.RowKit

section
variable {P : Program} {ops : Array Oper} {Q : Exit → Act → World → Prop} {a0 : Act} {W : World} {n : Nat} {L C D : Nat → Nat} {T : TypeId} {Z : Array Value} {src : Nat → Value} {Res : World → Nat → Value → Array Value → Prop}

end
end Go.Proofs.Ytcngllcifcpbkaa
