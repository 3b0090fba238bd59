/-
  The document's own Right, Has, Meet of spans.
-/
import Derived.Test.YtbjbljkcodkebaaCSp1
namespace Go.Proofs.Ytbjbljkcodkebaa
open Go.RowKit

set_option maxRecDepth 100000 in
set_option maxHeartbeats 1000000 in
theorem rfRight7_w (lo hi : ByteArray) (w : World) : Calls Try.prog 29 #[.agg #[.string lo, .string hi]] w fun e w' => e = .returned (.bool (spR ⟨lo, hi⟩)) ∧ Moves [] w w' := by
  have m1 : Moves [] w (w.alloc (.cells #[.string lo, .string hi] 23)) := (Moves.refl _ _).alloc _
  have e1 : spE lo = decide ((lo.size : Int) ≤ 16) := by unfold spE; congr 1; simp; omega
  have e2 : spE hi = decide ((hi.size : Int) ≤ 16) := by unfold spE; congr 1; simp; omega
  unfold spR spB bz zlt
  dsimp only
  rw [e1, e2]
  clear e1 e2
  by_cases h1 : (lo.size : Int) ≤ 16 <;> by_cases h2 : (hi.size : Int) ≤ 16 <;> cases h3 : hi.toList.isEmpty
  all_goals simp only [h1, h2, decide_true, decide_false]
  all_goals go_enter Try.func29, Try.ntmps29
  all_goals go_wp2_with fail
  all_goals go_ret
  all_goals exact ⟨rfl, m1⟩

set_option maxRecDepth 100000 in
set_option maxHeartbeats 1000000 in
theorem rfHas7_w (lo hi n : ByteArray) (w : World) : Calls Try.prog 24 #[.agg #[.string lo, .string hi], .string n] w fun e w' => e = .returned (.bool (spH ⟨lo, hi⟩ n)) ∧ Moves [] w w' := by
  have m1 : Moves [] w (w.alloc (.cells #[.string lo, .string hi] 23)) := (Moves.refl _ _).alloc _
  unfold spH spB bz zlt
  dsimp only
  cases h1 : Op.bytesLess n.toList lo.toList <;> cases h3 : hi.toList.isEmpty
  all_goals go_enter Try.func24, Try.ntmps24
  all_goals go_wp2_with fail
  all_goals go_ret
  all_goals exact ⟨rfl, m1⟩

end Go.Proofs.Ytbjbljkcodkebaa
