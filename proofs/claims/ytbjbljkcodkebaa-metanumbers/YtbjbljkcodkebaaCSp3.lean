/-
  Split and Join of spans, the program's and the document's own.
-/
import Derived.Test.YtbjbljkcodkebaaCSp2
import Derived.Test.YtbjbljkcodkebaaCBaseD
namespace Go.Proofs.Ytbjbljkcodkebaa
open Go.RowKit

theorem Try.size23 : (Try.prog.info? 23).map (·.size) = some 2 := by kernel_rfl
theorem ret_spans {fn : Func} {p q u : Tmp} (h : fn.results = #[.cell p 23, .cell q 23, .tmp u]) (tmps : Array Value) (w : World) (g k : Nat) (x y x2 y2 : Value) (hp : tmps.getD p undef = .pointer (some ⟨g, 0, none⟩)) (hg : w.heap[g]? = some (.cells #[x, y] 23 (0, 0))) (hq : tmps.getD q undef = .pointer (some ⟨k, 0, none⟩)) (hk : w.heap[k]? = some (.cells #[x2, y2] 23 (0, 0))) :
    (results fn tmps).run Try.prog w = .ok (.tuple #[.agg #[x, y], .agg #[x2, y2], tmps.getD u undef]) w := by
  have hl := run_loadVar_row (P := Try.prog) w g 23 23 _ (0, 0) _ hg Try.underlying23 rfl Try.size23
  have hl2 := run_loadVar_row (P := Try.prog) w k 23 23 _ (0, 0) _ hk Try.underlying23 rfl Try.size23
  have hp' : tmps[p]?.getD undef = .pointer (some ⟨g, 0, none⟩) := by simpa using hp
  have hq' : tmps[q]?.getD undef = .pointer (some ⟨k, 0, none⟩) := by simpa using hq
  simp only [results, h]
  simp [Sem.run_bind, Result.andThen, hp', hq', asAddr, hl, hl2]
theorem ret_span1 {fn : Func} {p u : Tmp} (h : fn.results = #[.cell p 23, .tmp u]) (tmps : Array Value) (w : World) (g : Nat) (x y : Value) (hp : tmps.getD p undef = .pointer (some ⟨g, 0, none⟩)) (hg : w.heap[g]? = some (.cells #[x, y] 23 (0, 0))) :
    (results fn tmps).run Try.prog w = .ok (.tuple #[.agg #[x, y], tmps.getD u undef]) w := by
  have hl := run_loadVar_row (P := Try.prog) w g 23 23 _ (0, 0) _ hg Try.underlying23 rfl Try.size23
  rw [results_cell_tmp h, hp]
  simp only [asAddr, Sem.run_pure, Result.andThen, hl]

theorem zle_not (a b : ByteArray) : (Op.bytesLess a.toList b.toList || a.toList == b.toList) = !zlt b a := by
  show (zlt a b || zeq a b) = !zlt b a
  cases h1 : zlt a b with
  | true => rw [zlt_asymm h1]; rfl
  | false =>
    cases h2 : zlt b a with
    | true =>
      cases h3 : zeq a b with
      | false => rfl
      | true => rw [zeq_iff.1 h3, zlt_self] at h2; simp at h2
    | false => rw [zeq_iff.2 (zlt_total h1 h2)]; rfl
/-- A box of a span, and two more for what comes of it. -/
theorem spBoxes3 (w : World) (a b c : Array Value) (t : TypeId) : Moves [] w (((w.alloc (.cells a t)).alloc (.cells b t)).alloc (.cells c t)) ∧ (((w.alloc (.cells a t)).alloc (.cells b t)).alloc (.cells c t)).heap[w.heap.size]? = some (.cells a t (0, 0)) ∧ (((w.alloc (.cells a t)).alloc (.cells b t)).alloc (.cells c t)).heap[w.heap.size + 1]? = some (.cells b t (0, 0)) ∧ (((w.alloc (.cells a t)).alloc (.cells b t)).alloc (.cells c t)).heap[w.heap.size + 1 + 1]? = some (.cells c t (0, 0)) := by
  obtain ⟨m, h1, h2⟩ := spBoxes2 w a b t
  refine ⟨m.alloc _, ((Moves.refl [] _).alloc _).at h1 (by simp), ((Moves.refl [] _).alloc _).at h2 (by simp), ?_⟩
  have h := heap_alloc_new ((w.alloc (.cells a t)).alloc (.cells b t)) (.cells c t)
  rwa [show ((w.alloc (.cells a t)).alloc (.cells b t)).heap.size = w.heap.size + 1 + 1 from by simp] at h

/-- Two boxes, each stored into. -/
theorem spStored {w : World} {p q : Nat} {x0 x1 y0 y1 a b c d : Value} {t : TypeId} (hp : w.heap[p]? = some (.cells #[x0, x1] t (0, 0))) (hq : w.heap[q]? = some (.cells #[y0, y1] t (0, 0))) (hne : p ≠ q) :
    ((((w.setCell ⟨p, 0, none⟩ a).setCell ⟨p, 1, none⟩ b).setCell ⟨q, 0, none⟩ c).setCell ⟨q, 1, none⟩ d).heap[p]? = some (.cells #[a, b] t (0, 0)) ∧ ((((w.setCell ⟨p, 0, none⟩ a).setCell ⟨p, 1, none⟩ b).setCell ⟨q, 0, none⟩ c).setCell ⟨q, 1, none⟩ d).heap[q]? = some (.cells #[c, d] t (0, 0)) ∧ Moves [p, q] w ((((w.setCell ⟨p, 0, none⟩ a).setCell ⟨p, 1, none⟩ b).setCell ⟨q, 0, none⟩ c).setCell ⟨q, 1, none⟩ d) := by
  have m1 : Moves [p] w ((w.setCell ⟨p, 0, none⟩ a).setCell ⟨p, 1, none⟩ b) := (((Moves.refl [p] w).setCell (p := ⟨p, 0, none⟩) (.inl (by simp)) a).setCell (p := ⟨p, 1, none⟩) (.inl (by simp)) b)
  have h1 : ((w.setCell ⟨p, 0, none⟩ a).setCell ⟨p, 1, none⟩ b).heap[p]? = some (.cells #[a, b] t (0, 0)) := heap_set (i := 1) (heap_set (i := 0) hp a) b
  have h2 := m1.at hq (by simpa using Ne.symm hne)
  generalize (w.setCell ⟨p, 0, none⟩ a).setCell ⟨p, 1, none⟩ b = w1 at *
  have m2 : Moves [q] w1 ((w1.setCell ⟨q, 0, none⟩ c).setCell ⟨q, 1, none⟩ d) := (((Moves.refl [q] w1).setCell (p := ⟨q, 0, none⟩) (.inl (by simp)) c).setCell (p := ⟨q, 1, none⟩) (.inl (by simp)) d)
  exact ⟨m2.at h1 (by simpa using hne), heap_set (i := 1) (heap_set (i := 0) h2 c) d, (m1.mono (by simp)).then (m2.mono (by simp))⟩

set_option maxRecDepth 100000 in
set_option maxHeartbeats 2000000 in
theorem rfSplit7_no (lo hi t : ByteArray) (w : World) (hc : spC ⟨lo, hi⟩ t = false) : Calls Try.prog 9 #[.agg #[.string lo, .string hi], .string t] w fun e w' => e = .returned (.tuple #[.agg #[.string ⟨#[]⟩, .string ⟨#[]⟩], .agg #[.string ⟨#[]⟩, .string ⟨#[]⟩], .bool false]) ∧ Moves [] w w' := by
  obtain ⟨m1, b0, b1, b2⟩ := spBoxes3 w #[.string lo, .string hi] #[.string ⟨#[]⟩, .string ⟨#[]⟩] #[.string ⟨#[]⟩, .string ⟨#[]⟩] 23
  rw [spC_iff] at hc
  have e1 : spE t = !decide ((16 : Int) < t.size) := by
    unfold spE
    by_cases h : (16 : Int) < t.size
    · rw [decide_eq_true h, decide_eq_false (by omega)]; rfl
    · rw [decide_eq_false h, decide_eq_true (by omega)]; rfl
  have e2 : (Op.bytesLess t.toList lo.toList || t.toList == lo.toList) = !zlt lo t := zle_not t lo
  have e3 : spB ⟨lo, hi⟩ t = (hi.toList.isEmpty || Op.bytesLess t.toList hi.toList) := rfl
  rw [e1, e3] at hc
  clear e1 e3
  cases h1 : spR ⟨lo, hi⟩ <;> by_cases h2 : (16 : Int) < t.size <;> cases h3 : zlt lo t <;> cases h4 : hi.toList.isEmpty <;> cases h5 : Op.bytesLess t.toList hi.toList
  all_goals rw [h1, h3, h4, h5] at hc
  all_goals simp only [h2, decide_true, decide_false] at hc
  all_goals (first | (exact absurd hc (by decide)) | skip)
  all_goals clear hc
  all_goals (rw [h3] at e2; simp only [Bool.not_false, Bool.not_true] at e2)
  all_goals go_enter Try.func9, Try.ntmps9
  all_goals go_wp2_with (go_at_call 29; refine (rfRight7_w _ _ _).mono ?_; rintro _ w2 ⟨rfl, m2⟩; simp only [h1]; replace b0 := m2.at b0 (by simp); replace b1 := m2.at b1 (by simp); replace b2 := m2.at b2 (by simp); obtain ⟨c0, c1, _, _⟩ := sp_cells b0; obtain ⟨d0, d1, f0, f1⟩ := sp_cells b1; obtain ⟨e0, e1, g0, g1⟩ := sp_cells b2)
  all_goals try simp only [Exit.inBlock, Exit.then]
  all_goals refine bodyPost_ret (ret_spans rfl _ _ _ _ _ _ _ _ rfl (spStored b1 b2 (by simp)).1 rfl (spStored b1 b2 (by simp)).2.1) rfl ⟨rfl, ?_⟩
  all_goals exact (m1.then m2).trans (spStored b1 b2 (by simp)).2.2 (fun x hx => .inr (by simp at hx; omega))

set_option maxRecDepth 100000 in
set_option maxHeartbeats 2000000 in
theorem rfSplit7_yes (lo hi t : ByteArray) (w : World) (hc : spC ⟨lo, hi⟩ t = true) : Calls Try.prog 9 #[.agg #[.string lo, .string hi], .string t] w fun e w' => e = .returned (.tuple #[.agg #[.string lo, .string t], .agg #[.string t, .string hi], .bool true]) ∧ Moves [] w w' := by
  obtain ⟨m1, b0, b1, b2⟩ := spBoxes3 w #[.string lo, .string hi] #[.string ⟨#[]⟩, .string ⟨#[]⟩] #[.string ⟨#[]⟩, .string ⟨#[]⟩] 23
  obtain ⟨h1, h2, h3, h4, _⟩ := spC_split hc
  have e1 : ¬ (t.size : Int) > 16 := by unfold spE at h2; simp at h2; omega
  have e2 : (Op.bytesLess t.toList lo.toList || t.toList == lo.toList) = false := by
    have := zle_not t lo
    rw [h3] at this
    exact this
  have e3 : (hi.toList.isEmpty || Op.bytesLess t.toList hi.toList) = true := h4
  clear hc h2 h3 h4
  cases h4 : hi.toList.isEmpty
  all_goals rw [h4] at e3
  all_goals (try simp only [Bool.false_or] at e3)
  all_goals go_enter Try.func9, Try.ntmps9
  all_goals go_wp2_with (go_at_call 29; refine (rfRight7_w _ _ _).mono ?_; rintro _ w2 ⟨rfl, m2⟩; simp only [h1]; replace b0 := m2.at b0 (by simp); replace b1 := m2.at b1 (by simp); replace b2 := m2.at b2 (by simp); obtain ⟨c0, c1, _, _⟩ := sp_cells b0; obtain ⟨d0, d1, f0, f1⟩ := sp_cells b1; obtain ⟨e0, e1, g0, g1⟩ := sp_cells b2)
  all_goals go_region
  all_goals go_wp2_with fail
  all_goals try simp only [Exit.inBlock, Exit.then]
  all_goals refine bodyPost_ret (ret_spans rfl _ _ _ _ _ _ _ _ rfl (spStored b1 b2 (by simp)).1 rfl (spStored b1 b2 (by simp)).2.1) rfl ⟨rfl, ?_⟩
  all_goals exact ((m1.then m2).trans (spStored b1 b2 (by simp)).2.2 (fun x hx => .inr (by simp at hx; omega))).drew
end Go.Proofs.Ytbjbljkcodkebaa
