/-
  The program's own Same of rows that are the same.
-/
import Derived.Test.YtfegflimnngfaabCRow12
namespace Go.Proofs.Ytfegflimnngfaab
open Go.RowKit

theorem same_p (W w : World) (k l : Int) (ad ad' : Option Addr) (n n' cap cap' x y : Nat) (p q : Pv) (ha : VA W [.int .i64 k, .slice ad n cap, .float .f64 x] p) (hb : VA W [.int .i64 l, .slice ad' n' cap', .float .f64 y] q) (m : Moves [] W w) :
    Calls Try.prog 37 #[.agg #[.int .i64 k, .slice ad n cap, .float .f64 x], .agg #[.int .i64 l, .slice ad' n' cap', .float .f64 y]] w fun e w' => e = .returned (.bool (psame p q)) ∧ Moves [] w w' := by
  obtain ⟨g, hV, _⟩ := ha.vis
  obtain ⟨g', hV', _⟩ := hb.vis
  refine (same_b w w _ _ _ _ (hV.moves m) (hV'.moves m) (Moves.refl _ _)).mono ?_
  rintro e w' ⟨rfl, m2⟩
  exact ⟨rfl, m2⟩

end Go.Proofs.Ytfegflimnngfaab
