/-
  Values held against one another, as plain data; a value that is drawn.
-/
import Derived.Test.YtfegflimnngfaabCRow10
import Derived.Test.YtfegflimnngfaabCBaseG
namespace Go.Proofs.Ytfegflimnngfaab
open Go.RowKit

def psame (p q : Pv) : Bool := vord (p.vm (.slice none 0 0) 0) (q.vm (.slice none 0 0) 0) == 0
theorem psame_self (p : Pv) : psame p p = true := by unfold psame; rw [vord_self]; rfl
theorem psame_canon (p : Pv) : psame (pcanon p) p = true := by
  unfold psame vord Pv.vm pcanon
  simp only [kd_kd]
  rcases kd_cases p.kind with ⟨_, e⟩ | ⟨_, e⟩ | ⟨_, _, e⟩ <;> rw [e] <;> simp [icmp]
  · exact bcmp_self _
  · unfold Pl.ord Pl.rank
    rw [Pl.canon_canon]
    simp [Pl.cmp]

theorem rsame_p (W w : World) (k l : Int) (ad ad' : Option Addr) (n n' cap cap' x y : Nat) (p q : Pv) (ha : VA W [.int .i64 k, .slice ad n cap, .float .f64 x] p) (hb : VA W [.int .i64 l, .slice ad' n' cap', .float .f64 y] q) (m : Moves [] W w) :
    Calls Try.prog 16 #[.agg #[.int .i64 k, .slice ad n cap, .float .f64 x], .agg #[.int .i64 l, .slice ad' n' cap', .float .f64 y]] w fun e w' => e = .returned (.bool (psame p q)) ∧ Moves [] w w' := by
  obtain ⟨g, hV, _⟩ := ha.vis
  obtain ⟨g', hV', _⟩ := hb.vis
  refine (rsame_b w w _ _ _ _ (hV.moves m) (hV'.moves m) (Moves.refl _ _)).mono ?_
  rintro e w' ⟨rfl, m2⟩
  exact ⟨rfl, m2⟩

/-- The plain part of a value. -/
def Vm.pv (a : Vm) : Pv := ⟨a.kind, a.bs, a.n⟩
theorem VIs.va {W : World} {A : Vm} {ad : Option Addr} {n cap : Nat} (h : VIs W (.agg #[.int .i64 A.kind, .slice ad n cap, .float .f64 A.n]) A) (hl : A.bs.length ≤ 1048576) : VA W [.int .i64 A.kind, .slice ad n cap, .float .f64 A.n] A.pv := by
  have hv := h.val
  simp [Vm.val] at hv
  refine ⟨ad, n, cap, A.g, rfl, ?_, h.isIn.fits, h.isIn.oct, hl⟩
  rw [hv]
  exact h.isIn.isB
theorem VWays.right {A : Vm} (h : VWays A) : pvr A.pv = true := by
  unfold pvr vright Pv.vm Vm.pv
  rcases h with ⟨h1, _, h2⟩ | ⟨h1, h2⟩
  · simp [h1, h2]
  · simp [h1]

end Go.Proofs.Ytfegflimnngfaab
