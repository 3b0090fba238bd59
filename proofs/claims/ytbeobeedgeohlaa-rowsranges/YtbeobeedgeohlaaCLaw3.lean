/-
  What the law's own 'writes' and 'reads' do: for every value, and for any bytes, they return true, and write nothing that was there.
-/
import Derived.Test.YtbeobeedgeohlaaCBaseP
import Derived.Test.YtbeobeedgeohlaaCBack3
namespace Go.Proofs.Ytbeobeedgeohlaa
open Go.RowKit

theorem rsame_b (W w : World) (va vb : Value) (A B : Vm) (ha : VIs W va A) (hb : VIs W vb B) (m : Moves [] W w) :
    Calls Try.prog 46 #[va, vb] w fun e w' => e = .returned (.bool (vord A B == 0)) ∧ Moves [] W w' := by
  obtain ⟨rfl, ha⟩ := ha
  obtain ⟨rfl, hb⟩ := hb
  exact (rSame_w A B w (ha.moves m (by simp)) (hb.moves m (by simp))).mono fun e w' h => ⟨h.1, m.then h.2⟩

end Go.Proofs.Ytbeobeedgeohlaa
