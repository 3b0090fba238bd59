/-
  Join of spans, the program's and the document's own.
-/
import Derived.Test.YtfhdodopjgfedaaGreatCSp3
namespace Go.Proofs.YtfhdodopjgfedaaGreat
open Go.RowKit

theorem spStored1 {w : World} {p : Nat} {x0 x1 a b : Value} {t : TypeId} (hp : w.heap[p]? = some (.cells #[x0, x1] t (0, 0))) :
    ((w.setCell ⟨p, 0, none⟩ a).setCell ⟨p, 1, none⟩ b).heap[p]? = some (.cells #[a, b] t (0, 0)) ∧ Moves [p] w ((w.setCell ⟨p, 0, none⟩ a).setCell ⟨p, 1, none⟩ b) :=
  ⟨heap_set (i := 1) (heap_set (i := 0) hp a) b, (((Moves.refl [p] w).setCell (p := ⟨p, 0, none⟩) (.inl (by simp)) a).setCell (p := ⟨p, 1, none⟩) (.inl (by simp)) b)⟩

set_option maxRecDepth 100000 in
set_option maxHeartbeats 2000000 in
theorem spJoin_no (la ha lb hb : ByteArray) (w : World) (hc : spJ ⟨la, ha⟩ ⟨lb, hb⟩ = false) : Calls Tryz.prog 114 #[.agg #[.string la, .string ha], .agg #[.string lb, .string hb]] w fun e w' => e = .returned (.tuple #[.agg #[.string ⟨#[]⟩, .string ⟨#[]⟩], .bool false]) ∧ Moves [] w w' := by
  obtain ⟨m1, b0, b1, b2⟩ := spBoxes3 w #[.string la, .string ha] #[.string lb, .string hb] #[.string ⟨#[]⟩, .string ⟨#[]⟩] 37
  unfold spJ bz zeq at hc
  dsimp only at hc
  cases h1 : spR ⟨la, ha⟩ <;> cases h2 : spR ⟨lb, hb⟩ <;> cases h3 : ha.toList.isEmpty <;> cases h4 : (ha.toList == lb.toList)
  all_goals rw [h1, h2, h3, h4] at hc
  all_goals (first | (exact absurd hc (by decide)) | skip)
  all_goals clear hc
  all_goals go_enter Tryz.func114, Tryz.ntmps114
  all_goals go_wp2_with (first | (go_at_call 124; (revert m2; intro m2); refine (spRight_w _ _ _).mono ?_; rintro _ w3 ⟨rfl, m3⟩; simp only [h2]; replace b0 := m3.at b0 (by simp); replace b1 := m3.at b1 (by simp); replace b2 := m3.at b2 (by simp); clear c0 c1 d0 d1 e0 e1; clear g0 g1; obtain ⟨c0, c1, _, _⟩ := sp_cells b0; obtain ⟨d0, d1, _, _⟩ := sp_cells b1; obtain ⟨e0, e1, g0, g1⟩ := sp_cells b2) | (go_at_call 124; refine (spRight_w _ _ _).mono ?_; rintro _ w2 ⟨rfl, m2⟩; simp only [h1]; replace b0 := m2.at b0 (by simp); replace b1 := m2.at b1 (by simp); replace b2 := m2.at b2 (by simp); obtain ⟨c0, c1, _, _⟩ := sp_cells b0; obtain ⟨d0, d1, _, _⟩ := sp_cells b1; obtain ⟨e0, e1, g0, g1⟩ := sp_cells b2))
  all_goals try simp only [Exit.inBlock, Exit.then]
  all_goals refine bodyPost_ret (ret_span1 rfl _ _ _ _ _ rfl (spStored1 b2).1) rfl ⟨rfl, ?_⟩
  all_goals exact (by first | exact (m1.then m2).then m3 | exact m1.then m2 : Moves [] w _).trans (spStored1 b2).2 (fun x hx => .inr (by simp at hx; omega))

set_option maxRecDepth 100000 in
set_option maxHeartbeats 2000000 in
theorem spJoin_yes (la ha lb hb : ByteArray) (w : World) (hc : spJ ⟨la, ha⟩ ⟨lb, hb⟩ = true) : Calls Tryz.prog 114 #[.agg #[.string la, .string ha], .agg #[.string lb, .string hb]] w fun e w' => e = .returned (.tuple #[.agg #[.string la, .string hb], .bool true]) ∧ Moves [] w w' := by
  obtain ⟨m1, b0, b1, b2⟩ := spBoxes3 w #[.string la, .string ha] #[.string lb, .string hb] #[.string ⟨#[]⟩, .string ⟨#[]⟩] 37
  unfold spJ bz zeq at hc
  simp only [Bool.and_eq_true, Bool.not_eq_true'] at hc
  obtain ⟨⟨⟨h1, h2⟩, h3⟩, h4⟩ := hc
  go_enter Tryz.func114, Tryz.ntmps114
  go_wp2_with (first | (go_at_call 124; (revert m2; intro m2); refine (spRight_w _ _ _).mono ?_; rintro _ w3 ⟨rfl, m3⟩; simp only [h2]; replace b0 := m3.at b0 (by simp); replace b1 := m3.at b1 (by simp); replace b2 := m3.at b2 (by simp); clear c0 c1 d0 d1 e0 e1; clear g0 g1; obtain ⟨c0, c1, _, _⟩ := sp_cells b0; obtain ⟨d0, d1, _, _⟩ := sp_cells b1; obtain ⟨e0, e1, g0, g1⟩ := sp_cells b2) | (go_at_call 124; refine (spRight_w _ _ _).mono ?_; rintro _ w2 ⟨rfl, m2⟩; simp only [h1]; replace b0 := m2.at b0 (by simp); replace b1 := m2.at b1 (by simp); replace b2 := m2.at b2 (by simp); obtain ⟨c0, c1, _, _⟩ := sp_cells b0; obtain ⟨d0, d1, _, _⟩ := sp_cells b1; obtain ⟨e0, e1, g0, g1⟩ := sp_cells b2))
  try simp only [Exit.inBlock, Exit.then]
  refine bodyPost_ret (ret_span1 rfl _ _ _ _ _ rfl (spStored1 b2).1) rfl ⟨rfl, ?_⟩
  exact ((m1.then m2).then m3).trans (spStored1 b2).2 (fun x hx => .inr (by simp at hx; omega))

end Go.Proofs.YtfhdodopjgfedaaGreat
