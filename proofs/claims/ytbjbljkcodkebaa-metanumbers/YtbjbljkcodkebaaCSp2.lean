/-
  The document's own Right, Has, Meet of spans.
-/
import Derived.Test.YtbjbljkcodkebaaCSp1
namespace Go.Proofs.Ytbjbljkcodkebaa
open Go.RowKit

set_option maxRecDepth 100000 in
set_option maxHeartbeats 1000000 in
theorem rfRight7_w (lo hi : ByteArray) (w : World) : Calls Try.prog 29 #[.agg #[.string lo, .string hi]] w fun e w' => e = .returned (.bool (spR ⟨lo, hi⟩)) ∧ Moves [] w w' := by
  have m1 : Moves [] w (w.alloc (.cells #[.string lo, .string hi] 23)) := (Moves.refl _ _).alloc _
  have e1 : spE lo = decide ((lo.size : Int) ≤ 16) := by unfold spE; congr 1; simp; omega
  have e2 : spE hi = decide ((hi.size : Int) ≤ 16) := by unfold spE; congr 1; simp; omega
  unfold spR spB bz zlt
  dsimp only
  rw [e1, e2]
  clear e1 e2
  by_cases h1 : (lo.size : Int) ≤ 16 <;> by_cases h2 : (hi.size : Int) ≤ 16 <;> cases h3 : hi.toList.isEmpty
  all_goals simp only [h1, h2, decide_true, decide_false]
  all_goals go_enter Try.func29, Try.ntmps29
  all_goals go_wp2_with fail
  all_goals go_ret
  all_goals exact ⟨rfl, m1⟩

set_option maxRecDepth 100000 in
set_option maxHeartbeats 1000000 in
theorem rfHas7_w (lo hi n : ByteArray) (w : World) : Calls Try.prog 24 #[.agg #[.string lo, .string hi], .string n] w fun e w' => e = .returned (.bool (spH ⟨lo, hi⟩ n)) ∧ Moves [] w w' := by
  have m1 : Moves [] w (w.alloc (.cells #[.string lo, .string hi] 23)) := (Moves.refl _ _).alloc _
  unfold spH spB bz zlt
  dsimp only
  cases h1 : Op.bytesLess n.toList lo.toList <;> cases h3 : hi.toList.isEmpty
  all_goals go_enter Try.func24, Try.ntmps24
  all_goals go_wp2_with fail
  all_goals go_ret
  all_goals exact ⟨rfl, m1⟩

set_option maxRecDepth 100000 in
set_option maxHeartbeats 2000000 in
theorem rfMeet7_w (la ha lb hb : ByteArray) (w : World) : Calls Try.prog 61 #[.agg #[.string la, .string ha], .agg #[.string lb, .string hb]] w fun e w' => e = .returned (.bool (spM ⟨la, ha⟩ ⟨lb, hb⟩)) ∧ Moves [] w w' := by
  obtain ⟨m1, b0, b1⟩ := spBoxes2 w #[.string la, .string ha] #[.string lb, .string hb] 23
  have key := spM_eq ⟨la, ha⟩ ⟨lb, hb⟩
  have HK : Hid (spR ⟨la, ha⟩ = true → spR ⟨lb, hb⟩ = true → (spH ⟨la, ha⟩ lb || spH ⟨lb, hb⟩ la) = ((ha.toList.isEmpty || Op.bytesLess lb.toList ha.toList) && (hb.toList.isEmpty || Op.bytesLess la.toList hb.toList))) := key
  clear key
  obtain ⟨q, hq⟩ : ∃ q, Hid (spM ⟨la, ha⟩ ⟨lb, hb⟩ = q) := ⟨_, rfl⟩
  rw [hq.out]
  cases h1 : spR ⟨la, ha⟩ <;> cases h2 : spR ⟨lb, hb⟩ <;> cases h3 : ha.toList.isEmpty <;> cases h4 : hb.toList.isEmpty
  all_goals cases h5 : Op.bytesLess lb.toList ha.toList
  all_goals go_enter Try.func61, Try.ntmps61
  all_goals go_wp2_with (first | (go_at_call 29; (revert m2; intro m2); refine (rfRight7_w _ _ _).mono ?_; rintro _ w3 ⟨rfl, m3⟩; simp only [h2]; obtain ⟨c0, c1, _, _⟩ := sp_cells ((m2.then m3).at b0 (by simp)); obtain ⟨d0, d1, _, _⟩ := sp_cells ((m2.then m3).at b1 (by simp))) | (go_at_call 29; refine (rfRight7_w _ _ _).mono ?_; rintro _ w2 ⟨rfl, m2⟩; simp only [h1]; obtain ⟨c0, c1, _, _⟩ := sp_cells (m2.at b0 (by simp)); obtain ⟨d0, d1, _, _⟩ := sp_cells (m2.at b1 (by simp))))
  all_goals go_ret
  all_goals refine ⟨?_, by first | exact (m1.then m2).then m3 | exact m1.then m2⟩
  all_goals rw [← hq.out]
  all_goals unfold spM
  all_goals (try rw [h1])
  all_goals (try rw [h2])
  all_goals (try rfl)
  all_goals (try (rw [Bool.true_and, Bool.true_and, HK.out h1 h2, h3, h4]))
  all_goals (try rw [h5])
  all_goals rfl
end Go.Proofs.Ytbjbljkcodkebaa
