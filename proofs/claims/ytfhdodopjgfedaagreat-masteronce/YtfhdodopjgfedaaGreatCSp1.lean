/-
  Package span, and the document's own: Right, Has, Meet: for every two texts the call returns, and writes nothing that was there.
-/
import Derived.Test.YtfhdodopjgfedaaGreatCSp0
import Derived.Test.YtfhdodopjgfedaaGreatCBaseR
namespace Go.Proofs.YtfhdodopjgfedaaGreat
open Go.RowKit

theorem sp_cells {w : World} {p : Nat} {a b : Value} {t : TypeId} (h : w.heap[p]? = some (.cells #[a, b] t (0, 0))) : w.cell? ⟨p, 0, none⟩ = some a ∧ w.cell? ⟨p, 1, none⟩ = some b ∧ w.frozen? ⟨p, 0, none⟩ = false ∧ w.frozen? ⟨p, 1, none⟩ = false := by
  simp [World.cell?, World.frozen?, h]

theorem spMay_w (a : ByteArray) (w : World) : Calls Tryz.prog 153 #[.string a] w fun e w' => e = .returned (.bool (spE a)) ∧ w = w' := by
  unfold spE
  go_enter Tryz.func153, Tryz.ntmps153
  go_wp2
  go_ret
  refine ⟨?_, rfl⟩
  congr 2
  simp
  omega

set_option maxRecDepth 100000 in
theorem spEnds_w (lo hi n : ByteArray) (w : World) : Calls Tryz.prog 161 #[.agg #[.string lo, .string hi], .string n] w fun e w' => e = .returned (.bool (spB ⟨lo, hi⟩ n)) ∧ Moves [] w w' := by
  have m1 : Moves [] w (w.alloc (.cells #[.string lo, .string hi] 37)) := (Moves.refl _ _).alloc _
  unfold spB bz zlt
  cases h1 : hi.toList.isEmpty
  all_goals go_enter Tryz.func161, Tryz.ntmps161
  all_goals go_wp2_with fail
  all_goals go_ret
  all_goals exact ⟨rfl, m1⟩

set_option maxRecDepth 100000 in
theorem spRight_w (lo hi : ByteArray) (w : World) : Calls Tryz.prog 124 #[.agg #[.string lo, .string hi]] w fun e w' => e = .returned (.bool (spR ⟨lo, hi⟩)) ∧ Moves [] w w' := by
  have m1 : Moves [] w (w.alloc (.cells #[.string lo, .string hi] 37)) := (Moves.refl _ _).alloc _
  unfold spR
  cases h1 : spE lo <;> cases h2 : spE hi
  all_goals go_enter Tryz.func124, Tryz.ntmps124
  all_goals go_wp2_with (first | (go_at_call 153; refine (spMay_w _ _).mono ?_; rintro _ _ ⟨rfl, rfl⟩; simp only [h1, h2]) | (go_at_call 161; refine (spEnds_w _ _ _ _).mono ?_; rintro _ w2 ⟨rfl, m2⟩))
  all_goals go_ret
  all_goals exact ⟨rfl, by first | exact m1.then m2 | exact m1⟩

set_option maxRecDepth 100000 in
theorem spHas_w (lo hi n : ByteArray) (w : World) : Calls Tryz.prog 154 #[.agg #[.string lo, .string hi], .string n] w fun e w' => e = .returned (.bool (spH ⟨lo, hi⟩ n)) ∧ Moves [] w w' := by
  have m1 : Moves [] w (w.alloc (.cells #[.string lo, .string hi] 37)) := (Moves.refl _ _).alloc _
  have e0 : (Op.bytesLess lo.toList n.toList || lo.toList == n.toList) = !zlt n lo := by
    show (zlt lo n || zeq lo n) = !zlt n lo
    cases h1 : zlt lo n with
    | true => rw [zlt_asymm h1]; rfl
    | false =>
      cases h2 : zlt n lo with
      | true =>
        cases h3 : zeq lo n with
        | false => rfl
        | true => rw [zeq_iff.1 h3, zlt_self] at h2; simp at h2
      | false => rw [zeq_iff.2 (zlt_total h1 h2)]; rfl
  unfold spH
  cases h1 : zlt n lo
  all_goals (rw [h1] at e0; simp only [Bool.not_false, Bool.not_true] at e0)
  all_goals go_enter Tryz.func154, Tryz.ntmps154
  all_goals go_wp2_with (go_at_call 161; refine (spEnds_w _ _ _ _).mono ?_; rintro _ w2 ⟨rfl, m2⟩)
  all_goals go_ret
  all_goals exact ⟨rfl, by first | exact m1.then m2 | exact m1⟩

theorem spBoxes2 (w : World) (a b : Array Value) (t : TypeId) : Moves [] w ((w.alloc (.cells a t)).alloc (.cells b t)) ∧ ((w.alloc (.cells a t)).alloc (.cells b t)).heap[w.heap.size]? = some (.cells a t (0, 0)) ∧ ((w.alloc (.cells a t)).alloc (.cells b t)).heap[w.heap.size + 1]? = some (.cells b t (0, 0)) := by
  refine ⟨((Moves.refl _ _).alloc _).alloc _, ((Moves.refl [] _).alloc _).at (heap_alloc_new w _) (by simp), ?_⟩
  have h := heap_alloc_new (w.alloc (.cells a t)) (.cells b t)
  rwa [show (w.alloc (.cells a t)).heap.size = w.heap.size + 1 from by simp] at h

set_option maxRecDepth 100000 in
set_option maxHeartbeats 1000000 in
theorem spShare_w (la ha lb hb : ByteArray) (w : World) : Calls Tryz.prog 205 #[.agg #[.string la, .string ha], .agg #[.string lb, .string hb]] w fun e w' => e = .returned (.bool (spH ⟨la, ha⟩ lb || spH ⟨lb, hb⟩ la)) ∧ Moves [] w w' := by
  obtain ⟨m1, b0, b1⟩ := spBoxes2 w #[.string la, .string ha] #[.string lb, .string hb] 37
  cases h1 : spH ⟨la, ha⟩ lb
  all_goals go_enter Tryz.func205, Tryz.ntmps205
  all_goals go_wp2_with (first | (go_at_call 154; (revert m2; intro m2); refine (spHas_w _ _ _ _).mono ?_; rintro _ w3 ⟨rfl, m3⟩) | (go_at_call 154; refine (spHas_w _ _ _ _).mono ?_; rintro _ w2 ⟨rfl, m2⟩; simp only [h1]; obtain ⟨c0, c1, _, _⟩ := sp_cells (m2.at b0 (by simp)); obtain ⟨d0, d1, _, _⟩ := sp_cells (m2.at b1 (by simp))))
  all_goals go_ret
  all_goals exact ⟨rfl, by first | exact (m1.then m2).then m3 | exact m1.then m2⟩

set_option maxRecDepth 100000 in
set_option maxHeartbeats 1000000 in
theorem spMeet_w (la ha lb hb : ByteArray) (w : World) : Calls Tryz.prog 187 #[.agg #[.string la, .string ha], .agg #[.string lb, .string hb]] w fun e w' => e = .returned (.bool (spM ⟨la, ha⟩ ⟨lb, hb⟩)) ∧ Moves [] w w' := by
  obtain ⟨m1, b0, b1⟩ := spBoxes2 w #[.string la, .string ha] #[.string lb, .string hb] 37
  unfold spM
  cases h1 : spR ⟨la, ha⟩ <;> cases h2 : spR ⟨lb, hb⟩
  all_goals go_enter Tryz.func187, Tryz.ntmps187
  all_goals go_wp2_with (first | (go_at_call 124; (revert m2; intro m2); refine (spRight_w _ _ _).mono ?_; rintro _ w3 ⟨rfl, m3⟩; simp only [h2]; obtain ⟨c0, c1, _, _⟩ := sp_cells ((m2.then m3).at b0 (by simp)); obtain ⟨d0, d1, _, _⟩ := sp_cells ((m2.then m3).at b1 (by simp))) | (go_at_call 124; refine (spRight_w _ _ _).mono ?_; rintro _ w2 ⟨rfl, m2⟩; simp only [h1]; obtain ⟨c0, c1, _, _⟩ := sp_cells (m2.at b0 (by simp)); obtain ⟨d0, d1, _, _⟩ := sp_cells (m2.at b1 (by simp))) | (go_at_call 205; refine (spShare_w _ _ _ _ _).mono ?_; rintro _ w4 ⟨rfl, m4⟩))
  all_goals go_ret
  all_goals exact ⟨rfl, by first | exact ((m1.then m2).then m3).then m4 | exact (m1.then m2).then m3 | exact m1.then m2⟩
end Go.Proofs.YtfhdodopjgfedaaGreat
