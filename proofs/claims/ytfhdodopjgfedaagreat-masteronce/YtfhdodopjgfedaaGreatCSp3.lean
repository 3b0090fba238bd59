/-
  Split and Join of spans, the program's and the document's own.
-/
import Derived.Test.YtfhdodopjgfedaaGreatCSp2
import Derived.Test.YtfhdodopjgfedaaGreatCBaseD
namespace Go.Proofs.YtfhdodopjgfedaaGreat
open Go.RowKit

theorem Tryz.size37 : (Tryz.prog.info? 37).map (·.size) = some 2 := by kernel_rfl
theorem ret_spans {fn : Func} {p q u : Tmp} (h : fn.results = #[.cell p 37, .cell q 37, .tmp u]) (tmps : Array Value) (w : World) (g k : Nat) (x y x2 y2 : Value) (hp : tmps.getD p undef = .pointer (some ⟨g, 0, none⟩)) (hg : w.heap[g]? = some (.cells #[x, y] 37 (0, 0))) (hq : tmps.getD q undef = .pointer (some ⟨k, 0, none⟩)) (hk : w.heap[k]? = some (.cells #[x2, y2] 37 (0, 0))) :
    (results fn tmps).run Tryz.prog w = .ok (.tuple #[.agg #[x, y], .agg #[x2, y2], tmps.getD u undef]) w := by
  have hl := run_loadVar_row (P := Tryz.prog) w g 37 37 _ (0, 0) _ hg Tryz.underlying37 rfl Tryz.size37
  have hl2 := run_loadVar_row (P := Tryz.prog) w k 37 37 _ (0, 0) _ hk Tryz.underlying37 rfl Tryz.size37
  have hp' : tmps[p]?.getD undef = .pointer (some ⟨g, 0, none⟩) := by simpa using hp
  have hq' : tmps[q]?.getD undef = .pointer (some ⟨k, 0, none⟩) := by simpa using hq
  simp only [results, h]
  simp [Sem.run_bind, Result.andThen, hp', hq', asAddr, hl, hl2]
theorem ret_span1 {fn : Func} {p u : Tmp} (h : fn.results = #[.cell p 37, .tmp u]) (tmps : Array Value) (w : World) (g : Nat) (x y : Value) (hp : tmps.getD p undef = .pointer (some ⟨g, 0, none⟩)) (hg : w.heap[g]? = some (.cells #[x, y] 37 (0, 0))) :
    (results fn tmps).run Tryz.prog w = .ok (.tuple #[.agg #[x, y], tmps.getD u undef]) w := by
  have hl := run_loadVar_row (P := Tryz.prog) w g 37 37 _ (0, 0) _ hg Tryz.underlying37 rfl Tryz.size37
  rw [results_cell_tmp h, hp]
  simp only [asAddr, Sem.run_pure, Result.andThen, hl]

/-- A box of a span, and two more for what comes of it. -/
theorem spBoxes3 (w : World) (a b c : Array Value) (t : TypeId) : Moves [] w (((w.alloc (.cells a t)).alloc (.cells b t)).alloc (.cells c t)) ∧ (((w.alloc (.cells a t)).alloc (.cells b t)).alloc (.cells c t)).heap[w.heap.size]? = some (.cells a t (0, 0)) ∧ (((w.alloc (.cells a t)).alloc (.cells b t)).alloc (.cells c t)).heap[w.heap.size + 1]? = some (.cells b t (0, 0)) ∧ (((w.alloc (.cells a t)).alloc (.cells b t)).alloc (.cells c t)).heap[w.heap.size + 1 + 1]? = some (.cells c t (0, 0)) := by
  obtain ⟨m, h1, h2⟩ := spBoxes2 w a b t
  refine ⟨m.alloc _, ((Moves.refl [] _).alloc _).at h1 (by simp), ((Moves.refl [] _).alloc _).at h2 (by simp), ?_⟩
  have h := heap_alloc_new ((w.alloc (.cells a t)).alloc (.cells b t)) (.cells c t)
  rwa [show ((w.alloc (.cells a t)).alloc (.cells b t)).heap.size = w.heap.size + 1 + 1 from by simp] at h

/-- Two boxes, each stored into. -/
theorem spStored {w : World} {p q : Nat} {x0 x1 y0 y1 a b c d : Value} {t : TypeId} (hp : w.heap[p]? = some (.cells #[x0, x1] t (0, 0))) (hq : w.heap[q]? = some (.cells #[y0, y1] t (0, 0))) (hne : p ≠ q) :
    ((((w.setCell ⟨p, 0, none⟩ a).setCell ⟨p, 1, none⟩ b).setCell ⟨q, 0, none⟩ c).setCell ⟨q, 1, none⟩ d).heap[p]? = some (.cells #[a, b] t (0, 0)) ∧ ((((w.setCell ⟨p, 0, none⟩ a).setCell ⟨p, 1, none⟩ b).setCell ⟨q, 0, none⟩ c).setCell ⟨q, 1, none⟩ d).heap[q]? = some (.cells #[c, d] t (0, 0)) ∧ Moves [p, q] w ((((w.setCell ⟨p, 0, none⟩ a).setCell ⟨p, 1, none⟩ b).setCell ⟨q, 0, none⟩ c).setCell ⟨q, 1, none⟩ d) := by
  have m1 : Moves [p] w ((w.setCell ⟨p, 0, none⟩ a).setCell ⟨p, 1, none⟩ b) := (((Moves.refl [p] w).setCell (p := ⟨p, 0, none⟩) (.inl (by simp)) a).setCell (p := ⟨p, 1, none⟩) (.inl (by simp)) b)
  have h1 : ((w.setCell ⟨p, 0, none⟩ a).setCell ⟨p, 1, none⟩ b).heap[p]? = some (.cells #[a, b] t (0, 0)) := heap_set (i := 1) (heap_set (i := 0) hp a) b
  have h2 := m1.at hq (by simpa using Ne.symm hne)
  generalize (w.setCell ⟨p, 0, none⟩ a).setCell ⟨p, 1, none⟩ b = w1 at *
  have m2 : Moves [q] w1 ((w1.setCell ⟨q, 0, none⟩ c).setCell ⟨q, 1, none⟩ d) := (((Moves.refl [q] w1).setCell (p := ⟨q, 0, none⟩) (.inl (by simp)) c).setCell (p := ⟨q, 1, none⟩) (.inl (by simp)) d)
  exact ⟨m2.at h1 (by simpa using hne), heap_set (i := 1) (heap_set (i := 0) h2 c) d, (m1.mono (by simp)).then (m2.mono (by simp))⟩

set_option maxRecDepth 100000 in
set_option maxHeartbeats 1000000 in
theorem spSplit_no (lo hi t : ByteArray) (w : World) (hc : spC ⟨lo, hi⟩ t = false) : Calls Tryz.prog 111 #[.agg #[.string lo, .string hi], .string t] w fun e w' => e = .returned (.tuple #[.agg #[.string ⟨#[]⟩, .string ⟨#[]⟩], .agg #[.string ⟨#[]⟩, .string ⟨#[]⟩], .bool false]) ∧ Moves [] w w' := by
  obtain ⟨m1, b0, b1, b2⟩ := spBoxes3 w #[.string lo, .string hi] #[.string ⟨#[]⟩, .string ⟨#[]⟩] #[.string ⟨#[]⟩, .string ⟨#[]⟩] 37
  unfold spC zeq at hc
  cases h1 : spR ⟨lo, hi⟩ <;> cases h2 : spE t <;> cases h3 : (t.toList == lo.toList) <;> cases h4 : spH ⟨lo, hi⟩ t
  all_goals rw [h1, h2, h3, h4] at hc
  all_goals (first | (exact absurd hc (by decide)) | skip)
  all_goals clear hc
  all_goals go_enter Tryz.func111, Tryz.ntmps111
  all_goals go_wp2_with (first | (go_at_call 124; refine (spRight_w _ _ _).mono ?_; rintro _ w2 ⟨rfl, m2⟩; simp only [h1]; replace b0 := m2.at b0 (by simp); replace b1 := m2.at b1 (by simp); replace b2 := m2.at b2 (by simp); obtain ⟨c0, c1, _, _⟩ := sp_cells b0; obtain ⟨d0, d1, f0, f1⟩ := sp_cells b1; obtain ⟨e0, e1, g0, g1⟩ := sp_cells b2) | (go_at_call 153; refine (spMay_w _ _).mono ?_; rintro _ _ ⟨rfl, rfl⟩; simp only [h2]) | (go_at_call 154; refine (spHas_w _ _ _ _).mono ?_; rintro _ w3 ⟨rfl, m3⟩; simp only [h4]; replace b0 := m3.at b0 (by simp); replace b1 := m3.at b1 (by simp); replace b2 := m3.at b2 (by simp); clear c0 c1 d0 d1 e0 e1; clear f0 f1 g0 g1; obtain ⟨c0, c1, _, _⟩ := sp_cells b0; obtain ⟨d0, d1, f0, f1⟩ := sp_cells b1; obtain ⟨e0, e1, g0, g1⟩ := sp_cells b2))
  all_goals try simp only [Exit.inBlock, Exit.then]
  all_goals refine bodyPost_ret (ret_spans rfl _ _ _ _ _ _ _ _ rfl (spStored b1 b2 (by simp)).1 rfl (spStored b1 b2 (by simp)).2.1) rfl ⟨rfl, ?_⟩
  all_goals exact (by first | exact (m1.then m2).then m3 | exact m1.then m2 : Moves [] w _).trans (spStored b1 b2 (by simp)).2.2 (fun x hx => .inr (by simp at hx; omega))

set_option maxRecDepth 100000 in
set_option maxHeartbeats 1000000 in
theorem spSplit_yes (lo hi t : ByteArray) (w : World) (hc : spC ⟨lo, hi⟩ t = true) : Calls Tryz.prog 111 #[.agg #[.string lo, .string hi], .string t] w fun e w' => e = .returned (.tuple #[.agg #[.string lo, .string t], .agg #[.string t, .string hi], .bool true]) ∧ Moves [] w w' := by
  obtain ⟨m1, b0, b1, b2⟩ := spBoxes3 w #[.string lo, .string hi] #[.string ⟨#[]⟩, .string ⟨#[]⟩] #[.string ⟨#[]⟩, .string ⟨#[]⟩] 37
  unfold spC zeq at hc
  simp only [Bool.and_eq_true, Bool.not_eq_true'] at hc
  obtain ⟨⟨⟨h1, h2⟩, h3⟩, h4⟩ := hc
  go_enter Tryz.func111, Tryz.ntmps111
  go_wp2_with (first | (go_at_call 124; refine (spRight_w _ _ _).mono ?_; rintro _ w2 ⟨rfl, m2⟩; simp only [h1]; replace b0 := m2.at b0 (by simp); replace b1 := m2.at b1 (by simp); replace b2 := m2.at b2 (by simp); obtain ⟨c0, c1, _, _⟩ := sp_cells b0; obtain ⟨d0, d1, f0, f1⟩ := sp_cells b1; obtain ⟨e0, e1, g0, g1⟩ := sp_cells b2) | (go_at_call 153; refine (spMay_w _ _).mono ?_; rintro _ _ ⟨rfl, rfl⟩; simp only [h2]) | (go_at_call 154; refine (spHas_w _ _ _ _).mono ?_; rintro _ w3 ⟨rfl, m3⟩; simp only [h4]; replace b0 := m3.at b0 (by simp); replace b1 := m3.at b1 (by simp); replace b2 := m3.at b2 (by simp); clear c0 c1 d0 d1 e0 e1; clear f0 f1 g0 g1; obtain ⟨c0, c1, _, _⟩ := sp_cells b0; obtain ⟨d0, d1, f0, f1⟩ := sp_cells b1; obtain ⟨e0, e1, g0, g1⟩ := sp_cells b2))
  go_region
  go_wp2_with fail
  try simp only [Exit.inBlock, Exit.then]
  refine bodyPost_ret (ret_spans rfl _ _ _ _ _ _ _ _ rfl (spStored b1 b2 (by simp)).1 rfl (spStored b1 b2 (by simp)).2.1) rfl ⟨rfl, ?_⟩
  exact (((m1.then m2).then m3).trans (spStored b1 b2 (by simp)).2.2 (fun x hx => .inr (by simp at hx; omega))).drew

end Go.Proofs.YtfhdodopjgfedaaGreat
