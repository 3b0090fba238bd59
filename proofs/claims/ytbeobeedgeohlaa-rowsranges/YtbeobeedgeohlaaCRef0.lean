/-
  The document's own Name, and its Right of a value that lies in a row.
-/
import Derived.Test.YtbeobeedgeohlaaCBaseJ
namespace Go.Proofs.Ytbeobeedgeohlaa
open Go.RowKit

theorem refName_w (s : ByteArray) (w : World) : Calls Try.prog 33 #[.string s] w fun e w' => e = .returned (.bool (pname s)) ∧ w = w' := by
  unfold pname
  go_enter Try.func33, Try.ntmps33
  go_wp2
  · rename_i h
    have h1 : decide (1 ≤ s.size) = true := decide_eq_true (by omega)
    have h2 : decide ((s.size : Int) ≤ 16) = decide (s.size ≤ 16) := by rw [decide_eq_decide]; omega
    go_ret
    exact ⟨by rw [h1, Bool.true_and, ← h2]; rfl, rfl⟩
  · rename_i h
    have h1 : decide (1 ≤ s.size) = false := decide_eq_false (by omega)
    go_ret
    exact ⟨by rw [h1, Bool.false_and]; rfl, rfl⟩
theorem rright4_w (W w : World) (k : Int) (ad : Option Addr) (len cap n : Nat) (p : Pv) (h : VA W [.int .i64 k, .slice ad len cap, .float .f64 n] p) (m : Moves [] W w) :
    Calls Try.prog 34 #[.agg #[.int .i64 k, .slice ad len cap, .float .f64 n]] w fun e w' => e = .returned (.bool (pvr p)) ∧ Moves [] w w' := by
  obtain ⟨g, hV, hl⟩ := h.vis
  obtain ⟨e0, hI⟩ := hV.moves m
  have h1 := rRight_w _ w hI
  rw [← e0] at h1
  refine h1.mono ?_
  rintro e w' ⟨rfl, m2⟩
  exact ⟨by rw [pvr_vm], m2⟩
end Go.Proofs.Ytbeobeedgeohlaa
