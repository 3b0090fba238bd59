/- ours -/
import Derived.Test.YtilbbnmhnacnlaaGreatCB10
import Derived.Test.YtilbbnmhnacnlaaGreatCB02
/-
  Package span, and the document's own: Right, Has, Meet: for every two texts the call returns, and writes nothing that was there.
-/
namespace Go.Proofs.YtilbbnmhnacnlaaGreat
open Go.RowKit

theorem sp_cells {w : World} {p : Nat} {a b : Value} {t : TypeId} (h : w.heap[p]? = some (.cells #[a, b] t (0, 0))) : w.cell? ⟨p, 0, none⟩ = some a ∧ w.cell? ⟨p, 1, none⟩ = some b ∧ w.frozen? ⟨p, 0, none⟩ = false ∧ w.frozen? ⟨p, 1, none⟩ = false := by
  simp [World.cell?, World.frozen?, h]

theorem spMay_w (a : ByteArray) (w : World) : Calls Tryz.prog 153 #[.string a] w fun e w' => e = .returned (.bool (spE a)) ∧ w = w' := by
  unfold spE
  go_enter Tryz.func153, Tryz.ntmps153
  go_wp2
  go_ret
  refine ⟨?_, rfl⟩
  congr 2
  simp
  omega

set_option maxRecDepth 100000 in
theorem spEnds_w (lo hi n : ByteArray) (w : World) : Calls Tryz.prog 161 #[.agg #[.string lo, .string hi], .string n] w fun e w' => e = .returned (.bool (spB ⟨lo, hi⟩ n)) ∧ Moves [] w w' := by
  have m1 : Moves [] w (w.alloc (.cells #[.string lo, .string hi] 37)) := (Moves.refl _ _).alloc _
  unfold spB bz zlt
  cases h1 : hi.toList.isEmpty
  all_goals go_enter Tryz.func161, Tryz.ntmps161
  all_goals go_wp2_with fail
  all_goals go_ret
  all_goals exact ⟨rfl, m1⟩

set_option maxRecDepth 100000 in
theorem spRight_w (lo hi : ByteArray) (w : World) : Calls Tryz.prog 124 #[.agg #[.string lo, .string hi]] w fun e w' => e = .returned (.bool (spR ⟨lo, hi⟩)) ∧ Moves [] w w' := by
  have m1 : Moves [] w (w.alloc (.cells #[.string lo, .string hi] 37)) := (Moves.refl _ _).alloc _
  unfold spR
  cases h1 : spE lo <;> cases h2 : spE hi
  all_goals go_enter Tryz.func124, Tryz.ntmps124
  all_goals go_wp2_with (first | (go_at_call 153; refine (spMay_w _ _).mono ?_; rintro _ _ ⟨rfl, rfl⟩; simp only [h1, h2]) | (go_at_call 161; refine (spEnds_w _ _ _ _).mono ?_; rintro _ w2 ⟨rfl, m2⟩))
  all_goals go_ret
  all_goals exact ⟨rfl, by first | exact m1.then m2 | exact m1⟩

set_option maxRecDepth 100000 in
theorem spHas_w (lo hi n : ByteArray) (w : World) : Calls Tryz.prog 154 #[.agg #[.string lo, .string hi], .string n] w fun e w' => e = .returned (.bool (spH ⟨lo, hi⟩ n)) ∧ Moves [] w w' := by
  have m1 : Moves [] w (w.alloc (.cells #[.string lo, .string hi] 37)) := (Moves.refl _ _).alloc _
  have e0 : (Op.bytesLess lo.toList n.toList || lo.toList == n.toList) = !zlt n lo := by
    show (zlt lo n || zeq lo n) = !zlt n lo
    cases h1 : zlt lo n with
    | true => rw [zlt_asymm h1]; rfl
    | false =>
      cases h2 : zlt n lo with
      | true =>
        cases h3 : zeq lo n with
        | false => rfl
        | true => rw [zeq_iff.1 h3, zlt_self] at h2; simp at h2
      | false => rw [zeq_iff.2 (zlt_total h1 h2)]; rfl
  unfold spH
  cases h1 : zlt n lo
  all_goals (rw [h1] at e0; simp only [Bool.not_false, Bool.not_true] at e0)
  all_goals go_enter Tryz.func154, Tryz.ntmps154
  all_goals go_wp2_with (go_at_call 161; refine (spEnds_w _ _ _ _).mono ?_; rintro _ w2 ⟨rfl, m2⟩)
  all_goals go_ret
  all_goals exact ⟨rfl, by first | exact m1.then m2 | exact m1⟩

theorem spBoxes2 (w : World) (a b : Array Value) (t : TypeId) : Moves [] w ((w.alloc (.cells a t)).alloc (.cells b t)) ∧ ((w.alloc (.cells a t)).alloc (.cells b t)).heap[w.heap.size]? = some (.cells a t (0, 0)) ∧ ((w.alloc (.cells a t)).alloc (.cells b t)).heap[w.heap.size + 1]? = some (.cells b t (0, 0)) := by
  refine ⟨((Moves.refl _ _).alloc _).alloc _, ((Moves.refl [] _).alloc _).at (heap_alloc_new w _) (by simp), ?_⟩
  have h := heap_alloc_new (w.alloc (.cells a t)) (.cells b t)
  rwa [show (w.alloc (.cells a t)).heap.size = w.heap.size + 1 from by simp] at h

set_option maxRecDepth 100000 in
set_option maxHeartbeats 1000000 in
theorem spShare_w (la ha lb hb : ByteArray) (w : World) : Calls Tryz.prog 205 #[.agg #[.string la, .string ha], .agg #[.string lb, .string hb]] w fun e w' => e = .returned (.bool (spH ⟨la, ha⟩ lb || spH ⟨lb, hb⟩ la)) ∧ Moves [] w w' := by
  obtain ⟨m1, b0, b1⟩ := spBoxes2 w #[.string la, .string ha] #[.string lb, .string hb] 37
  cases h1 : spH ⟨la, ha⟩ lb
  all_goals go_enter Tryz.func205, Tryz.ntmps205
  all_goals go_wp2_with (first | (go_at_call 154; (revert m2; intro m2); refine (spHas_w _ _ _ _).mono ?_; rintro _ w3 ⟨rfl, m3⟩) | (go_at_call 154; refine (spHas_w _ _ _ _).mono ?_; rintro _ w2 ⟨rfl, m2⟩; simp only [h1]; obtain ⟨c0, c1, _, _⟩ := sp_cells (m2.at b0 (by simp)); obtain ⟨d0, d1, _, _⟩ := sp_cells (m2.at b1 (by simp))))
  all_goals go_ret
  all_goals exact ⟨rfl, by first | exact (m1.then m2).then m3 | exact m1.then m2⟩

set_option maxRecDepth 100000 in
set_option maxHeartbeats 1000000 in
theorem spMeet_w (la ha lb hb : ByteArray) (w : World) : Calls Tryz.prog 187 #[.agg #[.string la, .string ha], .agg #[.string lb, .string hb]] w fun e w' => e = .returned (.bool (spM ⟨la, ha⟩ ⟨lb, hb⟩)) ∧ Moves [] w w' := by
  obtain ⟨m1, b0, b1⟩ := spBoxes2 w #[.string la, .string ha] #[.string lb, .string hb] 37
  unfold spM
  cases h1 : spR ⟨la, ha⟩ <;> cases h2 : spR ⟨lb, hb⟩
  all_goals go_enter Tryz.func187, Tryz.ntmps187
  all_goals go_wp2_with (first | (go_at_call 124; (revert m2; intro m2); refine (spRight_w _ _ _).mono ?_; rintro _ w3 ⟨rfl, m3⟩; simp only [h2]; obtain ⟨c0, c1, _, _⟩ := sp_cells ((m2.then m3).at b0 (by simp)); obtain ⟨d0, d1, _, _⟩ := sp_cells ((m2.then m3).at b1 (by simp))) | (go_at_call 124; refine (spRight_w _ _ _).mono ?_; rintro _ w2 ⟨rfl, m2⟩; simp only [h1]; obtain ⟨c0, c1, _, _⟩ := sp_cells (m2.at b0 (by simp)); obtain ⟨d0, d1, _, _⟩ := sp_cells (m2.at b1 (by simp))) | (go_at_call 205; refine (spShare_w _ _ _ _ _).mono ?_; rintro _ w4 ⟨rfl, m4⟩))
  all_goals go_ret
  all_goals exact ⟨rfl, by first | exact ((m1.then m2).then m3).then m4 | exact (m1.then m2).then m3 | exact m1.then m2⟩
end Go.Proofs.YtilbbnmhnacnlaaGreat
/-
  The document's own Right, Has, Meet of spans.
-/
namespace Go.Proofs.YtilbbnmhnacnlaaGreat
open Go.RowKit

set_option maxRecDepth 100000 in
set_option maxHeartbeats 1000000 in
theorem rfRight7_w (lo hi : ByteArray) (w : World) : Calls Tryz.prog 40 #[.agg #[.string lo, .string hi]] w fun e w' => e = .returned (.bool (spR ⟨lo, hi⟩)) ∧ Moves [] w w' := by
  have m1 : Moves [] w (w.alloc (.cells #[.string lo, .string hi] 37)) := (Moves.refl _ _).alloc _
  have e1 : spE lo = decide ((lo.size : Int) ≤ 16) := by unfold spE; congr 1; simp; omega
  have e2 : spE hi = decide ((hi.size : Int) ≤ 16) := by unfold spE; congr 1; simp; omega
  unfold spR spB bz zlt
  dsimp only
  rw [e1, e2]
  clear e1 e2
  by_cases h1 : (lo.size : Int) ≤ 16 <;> by_cases h2 : (hi.size : Int) ≤ 16 <;> cases h3 : hi.toList.isEmpty
  all_goals simp only [h1, h2, decide_true, decide_false]
  all_goals go_enter Tryz.func40, Tryz.ntmps40
  all_goals go_wp2_with fail
  all_goals go_ret
  all_goals exact ⟨rfl, m1⟩

set_option maxRecDepth 100000 in
set_option maxHeartbeats 1000000 in
theorem rfHas7_w (lo hi n : ByteArray) (w : World) : Calls Tryz.prog 49 #[.agg #[.string lo, .string hi], .string n] w fun e w' => e = .returned (.bool (spH ⟨lo, hi⟩ n)) ∧ Moves [] w w' := by
  have m1 : Moves [] w (w.alloc (.cells #[.string lo, .string hi] 37)) := (Moves.refl _ _).alloc _
  unfold spH spB bz zlt
  dsimp only
  cases h1 : Op.bytesLess n.toList lo.toList <;> cases h3 : hi.toList.isEmpty
  all_goals go_enter Tryz.func49, Tryz.ntmps49
  all_goals go_wp2_with fail
  all_goals go_ret
  all_goals exact ⟨rfl, m1⟩

set_option maxRecDepth 100000 in
set_option maxHeartbeats 2000000 in
theorem rfMeet7_w (la ha lb hb : ByteArray) (w : World) : Calls Tryz.prog 17 #[.agg #[.string la, .string ha], .agg #[.string lb, .string hb]] w fun e w' => e = .returned (.bool (spM ⟨la, ha⟩ ⟨lb, hb⟩)) ∧ Moves [] w w' := by
  obtain ⟨m1, b0, b1⟩ := spBoxes2 w #[.string la, .string ha] #[.string lb, .string hb] 37
  have key := spM_eq ⟨la, ha⟩ ⟨lb, hb⟩
  have HK : Hid (spR ⟨la, ha⟩ = true → spR ⟨lb, hb⟩ = true → (spH ⟨la, ha⟩ lb || spH ⟨lb, hb⟩ la) = ((ha.toList.isEmpty || Op.bytesLess lb.toList ha.toList) && (hb.toList.isEmpty || Op.bytesLess la.toList hb.toList))) := key
  clear key
  obtain ⟨q, hq⟩ : ∃ q, Hid (spM ⟨la, ha⟩ ⟨lb, hb⟩ = q) := ⟨_, rfl⟩
  rw [hq.out]
  cases h1 : spR ⟨la, ha⟩ <;> cases h2 : spR ⟨lb, hb⟩ <;> cases h3 : ha.toList.isEmpty <;> cases h4 : hb.toList.isEmpty
  all_goals cases h5 : Op.bytesLess lb.toList ha.toList
  all_goals go_enter Tryz.func17, Tryz.ntmps17
  all_goals go_wp2_with (first | (go_at_call 40; (revert m2; intro m2); refine (rfRight7_w _ _ _).mono ?_; rintro _ w3 ⟨rfl, m3⟩; simp only [h2]; obtain ⟨c0, c1, _, _⟩ := sp_cells ((m2.then m3).at b0 (by simp)); obtain ⟨d0, d1, _, _⟩ := sp_cells ((m2.then m3).at b1 (by simp))) | (go_at_call 40; refine (rfRight7_w _ _ _).mono ?_; rintro _ w2 ⟨rfl, m2⟩; simp only [h1]; obtain ⟨c0, c1, _, _⟩ := sp_cells (m2.at b0 (by simp)); obtain ⟨d0, d1, _, _⟩ := sp_cells (m2.at b1 (by simp))))
  all_goals go_ret
  all_goals refine ⟨?_, by first | exact (m1.then m2).then m3 | exact m1.then m2⟩
  all_goals rw [← hq.out]
  all_goals unfold spM
  all_goals (try rw [h1])
  all_goals (try rw [h2])
  all_goals (try rfl)
  all_goals (try (rw [Bool.true_and, Bool.true_and, HK.out h1 h2, h3, h4]))
  all_goals (try rw [h5])
  all_goals rfl
end Go.Proofs.YtilbbnmhnacnlaaGreat
/-
  Split and Join of spans, the program's and the document's own.
-/
namespace Go.Proofs.YtilbbnmhnacnlaaGreat
open Go.RowKit

theorem Tryz.size37 : (Tryz.prog.info? 37).map (·.size) = some 2 := by kernel_rfl
theorem ret_spans {fn : Func} {p q u : Tmp} (h : fn.results = #[.cell p 37, .cell q 37, .tmp u]) (tmps : Array Value) (w : World) (g k : Nat) (x y x2 y2 : Value) (hp : tmps.getD p undef = .pointer (some ⟨g, 0, none⟩)) (hg : w.heap[g]? = some (.cells #[x, y] 37 (0, 0))) (hq : tmps.getD q undef = .pointer (some ⟨k, 0, none⟩)) (hk : w.heap[k]? = some (.cells #[x2, y2] 37 (0, 0))) :
    (results fn tmps).run Tryz.prog w = .ok (.tuple #[.agg #[x, y], .agg #[x2, y2], tmps.getD u undef]) w := by
  have hl := run_loadVar_row (P := Tryz.prog) w g 37 37 _ (0, 0) _ hg Tryz.underlying37 rfl Tryz.size37
  have hl2 := run_loadVar_row (P := Tryz.prog) w k 37 37 _ (0, 0) _ hk Tryz.underlying37 rfl Tryz.size37
  have hp' : tmps[p]?.getD undef = .pointer (some ⟨g, 0, none⟩) := by simpa using hp
  have hq' : tmps[q]?.getD undef = .pointer (some ⟨k, 0, none⟩) := by simpa using hq
  simp only [results, h]
  simp [Sem.run_bind, Result.andThen, hp', hq', asAddr, hl, hl2]
theorem ret_span1 {fn : Func} {p u : Tmp} (h : fn.results = #[.cell p 37, .tmp u]) (tmps : Array Value) (w : World) (g : Nat) (x y : Value) (hp : tmps.getD p undef = .pointer (some ⟨g, 0, none⟩)) (hg : w.heap[g]? = some (.cells #[x, y] 37 (0, 0))) :
    (results fn tmps).run Tryz.prog w = .ok (.tuple #[.agg #[x, y], tmps.getD u undef]) w := by
  have hl := run_loadVar_row (P := Tryz.prog) w g 37 37 _ (0, 0) _ hg Tryz.underlying37 rfl Tryz.size37
  rw [results_cell_tmp h, hp]
  simp only [asAddr, Sem.run_pure, Result.andThen, hl]

theorem zle_not (a b : ByteArray) : (Op.bytesLess a.toList b.toList || a.toList == b.toList) = !zlt b a := by
  show (zlt a b || zeq a b) = !zlt b a
  cases h1 : zlt a b with
  | true => rw [zlt_asymm h1]; rfl
  | false =>
    cases h2 : zlt b a with
    | true =>
      cases h3 : zeq a b with
      | false => rfl
      | true => rw [zeq_iff.1 h3, zlt_self] at h2; simp at h2
    | false => rw [zeq_iff.2 (zlt_total h1 h2)]; rfl
theorem spBoxes3 (w : World) (a b c : Array Value) (t : TypeId) : Moves [] w (((w.alloc (.cells a t)).alloc (.cells b t)).alloc (.cells c t)) ∧ (((w.alloc (.cells a t)).alloc (.cells b t)).alloc (.cells c t)).heap[w.heap.size]? = some (.cells a t (0, 0)) ∧ (((w.alloc (.cells a t)).alloc (.cells b t)).alloc (.cells c t)).heap[w.heap.size + 1]? = some (.cells b t (0, 0)) ∧ (((w.alloc (.cells a t)).alloc (.cells b t)).alloc (.cells c t)).heap[w.heap.size + 1 + 1]? = some (.cells c t (0, 0)) := by
  obtain ⟨m, h1, h2⟩ := spBoxes2 w a b t
  refine ⟨m.alloc _, ((Moves.refl [] _).alloc _).at h1 (by simp), ((Moves.refl [] _).alloc _).at h2 (by simp), ?_⟩
  have h := heap_alloc_new ((w.alloc (.cells a t)).alloc (.cells b t)) (.cells c t)
  rwa [show ((w.alloc (.cells a t)).alloc (.cells b t)).heap.size = w.heap.size + 1 + 1 from by simp] at h

theorem spStored {w : World} {p q : Nat} {x0 x1 y0 y1 a b c d : Value} {t : TypeId} (hp : w.heap[p]? = some (.cells #[x0, x1] t (0, 0))) (hq : w.heap[q]? = some (.cells #[y0, y1] t (0, 0))) (hne : p ≠ q) :
    ((((w.setCell ⟨p, 0, none⟩ a).setCell ⟨p, 1, none⟩ b).setCell ⟨q, 0, none⟩ c).setCell ⟨q, 1, none⟩ d).heap[p]? = some (.cells #[a, b] t (0, 0)) ∧ ((((w.setCell ⟨p, 0, none⟩ a).setCell ⟨p, 1, none⟩ b).setCell ⟨q, 0, none⟩ c).setCell ⟨q, 1, none⟩ d).heap[q]? = some (.cells #[c, d] t (0, 0)) ∧ Moves [p, q] w ((((w.setCell ⟨p, 0, none⟩ a).setCell ⟨p, 1, none⟩ b).setCell ⟨q, 0, none⟩ c).setCell ⟨q, 1, none⟩ d) := by
  have m1 : Moves [p] w ((w.setCell ⟨p, 0, none⟩ a).setCell ⟨p, 1, none⟩ b) := (((Moves.refl [p] w).setCell (p := ⟨p, 0, none⟩) (.inl (by simp)) a).setCell (p := ⟨p, 1, none⟩) (.inl (by simp)) b)
  have h1 : ((w.setCell ⟨p, 0, none⟩ a).setCell ⟨p, 1, none⟩ b).heap[p]? = some (.cells #[a, b] t (0, 0)) := heap_set (i := 1) (heap_set (i := 0) hp a) b
  have h2 := m1.at hq (by simpa using Ne.symm hne)
  generalize (w.setCell ⟨p, 0, none⟩ a).setCell ⟨p, 1, none⟩ b = w1 at *
  have m2 : Moves [q] w1 ((w1.setCell ⟨q, 0, none⟩ c).setCell ⟨q, 1, none⟩ d) := (((Moves.refl [q] w1).setCell (p := ⟨q, 0, none⟩) (.inl (by simp)) c).setCell (p := ⟨q, 1, none⟩) (.inl (by simp)) d)
  exact ⟨m2.at h1 (by simpa using hne), heap_set (i := 1) (heap_set (i := 0) h2 c) d, (m1.mono (by simp)).then (m2.mono (by simp))⟩

set_option maxRecDepth 100000 in
set_option maxHeartbeats 1000000 in
theorem spSplit_no (lo hi t : ByteArray) (w : World) (hc : spC ⟨lo, hi⟩ t = false) : Calls Tryz.prog 111 #[.agg #[.string lo, .string hi], .string t] w fun e w' => e = .returned (.tuple #[.agg #[.string ⟨#[]⟩, .string ⟨#[]⟩], .agg #[.string ⟨#[]⟩, .string ⟨#[]⟩], .bool false]) ∧ Moves [] w w' := by
  obtain ⟨m1, b0, b1, b2⟩ := spBoxes3 w #[.string lo, .string hi] #[.string ⟨#[]⟩, .string ⟨#[]⟩] #[.string ⟨#[]⟩, .string ⟨#[]⟩] 37
  unfold spC zeq at hc
  cases h1 : spR ⟨lo, hi⟩ <;> cases h2 : spE t <;> cases h3 : (t.toList == lo.toList) <;> cases h4 : spH ⟨lo, hi⟩ t
  all_goals rw [h1, h2, h3, h4] at hc
  all_goals (first | (exact absurd hc (by decide)) | skip)
  all_goals clear hc
  all_goals go_enter Tryz.func111, Tryz.ntmps111
  all_goals go_wp2_with (first | (go_at_call 124; refine (spRight_w _ _ _).mono ?_; rintro _ w2 ⟨rfl, m2⟩; simp only [h1]; replace b0 := m2.at b0 (by simp); replace b1 := m2.at b1 (by simp); replace b2 := m2.at b2 (by simp); obtain ⟨c0, c1, _, _⟩ := sp_cells b0; obtain ⟨d0, d1, f0, f1⟩ := sp_cells b1; obtain ⟨e0, e1, g0, g1⟩ := sp_cells b2) | (go_at_call 153; refine (spMay_w _ _).mono ?_; rintro _ _ ⟨rfl, rfl⟩; simp only [h2]) | (go_at_call 154; refine (spHas_w _ _ _ _).mono ?_; rintro _ w3 ⟨rfl, m3⟩; simp only [h4]; replace b0 := m3.at b0 (by simp); replace b1 := m3.at b1 (by simp); replace b2 := m3.at b2 (by simp); clear c0 c1 d0 d1 e0 e1; clear f0 f1 g0 g1; obtain ⟨c0, c1, _, _⟩ := sp_cells b0; obtain ⟨d0, d1, f0, f1⟩ := sp_cells b1; obtain ⟨e0, e1, g0, g1⟩ := sp_cells b2))
  all_goals try simp only [Exit.inBlock, Exit.then]
  all_goals refine bodyPost_ret (ret_spans rfl _ _ _ _ _ _ _ _ rfl (spStored b1 b2 (by simp)).1 rfl (spStored b1 b2 (by simp)).2.1) rfl ⟨rfl, ?_⟩
  all_goals exact (by first | exact (m1.then m2).then m3 | exact m1.then m2 : Moves [] w _).trans (spStored b1 b2 (by simp)).2.2 (fun x hx => .inr (by simp at hx; omega))

set_option maxRecDepth 100000 in
set_option maxHeartbeats 1000000 in
theorem spSplit_yes (lo hi t : ByteArray) (w : World) (hc : spC ⟨lo, hi⟩ t = true) : Calls Tryz.prog 111 #[.agg #[.string lo, .string hi], .string t] w fun e w' => e = .returned (.tuple #[.agg #[.string lo, .string t], .agg #[.string t, .string hi], .bool true]) ∧ Moves [] w w' := by
  obtain ⟨m1, b0, b1, b2⟩ := spBoxes3 w #[.string lo, .string hi] #[.string ⟨#[]⟩, .string ⟨#[]⟩] #[.string ⟨#[]⟩, .string ⟨#[]⟩] 37
  unfold spC zeq at hc
  simp only [Bool.and_eq_true, Bool.not_eq_true'] at hc
  obtain ⟨⟨⟨h1, h2⟩, h3⟩, h4⟩ := hc
  go_enter Tryz.func111, Tryz.ntmps111
  go_wp2_with (first | (go_at_call 124; refine (spRight_w _ _ _).mono ?_; rintro _ w2 ⟨rfl, m2⟩; simp only [h1]; replace b0 := m2.at b0 (by simp); replace b1 := m2.at b1 (by simp); replace b2 := m2.at b2 (by simp); obtain ⟨c0, c1, _, _⟩ := sp_cells b0; obtain ⟨d0, d1, f0, f1⟩ := sp_cells b1; obtain ⟨e0, e1, g0, g1⟩ := sp_cells b2) | (go_at_call 153; refine (spMay_w _ _).mono ?_; rintro _ _ ⟨rfl, rfl⟩; simp only [h2]) | (go_at_call 154; refine (spHas_w _ _ _ _).mono ?_; rintro _ w3 ⟨rfl, m3⟩; simp only [h4]; replace b0 := m3.at b0 (by simp); replace b1 := m3.at b1 (by simp); replace b2 := m3.at b2 (by simp); clear c0 c1 d0 d1 e0 e1; clear f0 f1 g0 g1; obtain ⟨c0, c1, _, _⟩ := sp_cells b0; obtain ⟨d0, d1, f0, f1⟩ := sp_cells b1; obtain ⟨e0, e1, g0, g1⟩ := sp_cells b2))
  go_region
  go_wp2_with fail
  try simp only [Exit.inBlock, Exit.then]
  refine bodyPost_ret (ret_spans rfl _ _ _ _ _ _ _ _ rfl (spStored b1 b2 (by simp)).1 rfl (spStored b1 b2 (by simp)).2.1) rfl ⟨rfl, ?_⟩
  exact (((m1.then m2).then m3).trans (spStored b1 b2 (by simp)).2.2 (fun x hx => .inr (by simp at hx; omega))).drew

set_option maxRecDepth 100000 in
set_option maxHeartbeats 2000000 in
theorem rfSplit7_no (lo hi t : ByteArray) (w : World) (hc : spC ⟨lo, hi⟩ t = false) : Calls Tryz.prog 48 #[.agg #[.string lo, .string hi], .string t] w fun e w' => e = .returned (.tuple #[.agg #[.string ⟨#[]⟩, .string ⟨#[]⟩], .agg #[.string ⟨#[]⟩, .string ⟨#[]⟩], .bool false]) ∧ Moves [] w w' := by
  obtain ⟨m1, b0, b1, b2⟩ := spBoxes3 w #[.string lo, .string hi] #[.string ⟨#[]⟩, .string ⟨#[]⟩] #[.string ⟨#[]⟩, .string ⟨#[]⟩] 37
  rw [spC_iff] at hc
  have e1 : spE t = !decide ((16 : Int) < t.size) := by
    unfold spE
    by_cases h : (16 : Int) < t.size
    · rw [decide_eq_true h, decide_eq_false (by omega)]; rfl
    · rw [decide_eq_false h, decide_eq_true (by omega)]; rfl
  have e2 : (Op.bytesLess t.toList lo.toList || t.toList == lo.toList) = !zlt lo t := zle_not t lo
  have e3 : spB ⟨lo, hi⟩ t = (hi.toList.isEmpty || Op.bytesLess t.toList hi.toList) := rfl
  rw [e1, e3] at hc
  clear e1 e3
  cases h1 : spR ⟨lo, hi⟩ <;> by_cases h2 : (16 : Int) < t.size <;> cases h3 : zlt lo t <;> cases h4 : hi.toList.isEmpty <;> cases h5 : Op.bytesLess t.toList hi.toList
  all_goals rw [h1, h3, h4, h5] at hc
  all_goals simp only [h2, decide_true, decide_false] at hc
  all_goals (first | (exact absurd hc (by decide)) | skip)
  all_goals clear hc
  all_goals (rw [h3] at e2; simp only [Bool.not_false, Bool.not_true] at e2)
  all_goals go_enter Tryz.func48, Tryz.ntmps48
  all_goals go_wp2_with (go_at_call 40; refine (rfRight7_w _ _ _).mono ?_; rintro _ w2 ⟨rfl, m2⟩; simp only [h1]; replace b0 := m2.at b0 (by simp); replace b1 := m2.at b1 (by simp); replace b2 := m2.at b2 (by simp); obtain ⟨c0, c1, _, _⟩ := sp_cells b0; obtain ⟨d0, d1, f0, f1⟩ := sp_cells b1; obtain ⟨e0, e1, g0, g1⟩ := sp_cells b2)
  all_goals try simp only [Exit.inBlock, Exit.then]
  all_goals refine bodyPost_ret (ret_spans rfl _ _ _ _ _ _ _ _ rfl (spStored b1 b2 (by simp)).1 rfl (spStored b1 b2 (by simp)).2.1) rfl ⟨rfl, ?_⟩
  all_goals exact (m1.then m2).trans (spStored b1 b2 (by simp)).2.2 (fun x hx => .inr (by simp at hx; omega))

set_option maxRecDepth 100000 in
set_option maxHeartbeats 2000000 in
theorem rfSplit7_yes (lo hi t : ByteArray) (w : World) (hc : spC ⟨lo, hi⟩ t = true) : Calls Tryz.prog 48 #[.agg #[.string lo, .string hi], .string t] w fun e w' => e = .returned (.tuple #[.agg #[.string lo, .string t], .agg #[.string t, .string hi], .bool true]) ∧ Moves [] w w' := by
  obtain ⟨m1, b0, b1, b2⟩ := spBoxes3 w #[.string lo, .string hi] #[.string ⟨#[]⟩, .string ⟨#[]⟩] #[.string ⟨#[]⟩, .string ⟨#[]⟩] 37
  obtain ⟨h1, h2, h3, h4, _⟩ := spC_split hc
  have e1 : ¬ (t.size : Int) > 16 := by unfold spE at h2; simp at h2; omega
  have e2 : (Op.bytesLess t.toList lo.toList || t.toList == lo.toList) = false := by
    have := zle_not t lo
    rw [h3] at this
    exact this
  have e3 : (hi.toList.isEmpty || Op.bytesLess t.toList hi.toList) = true := h4
  clear hc h2 h3 h4
  cases h4 : hi.toList.isEmpty
  all_goals rw [h4] at e3
  all_goals (try simp only [Bool.false_or] at e3)
  all_goals go_enter Tryz.func48, Tryz.ntmps48
  all_goals go_wp2_with (go_at_call 40; refine (rfRight7_w _ _ _).mono ?_; rintro _ w2 ⟨rfl, m2⟩; simp only [h1]; replace b0 := m2.at b0 (by simp); replace b1 := m2.at b1 (by simp); replace b2 := m2.at b2 (by simp); obtain ⟨c0, c1, _, _⟩ := sp_cells b0; obtain ⟨d0, d1, f0, f1⟩ := sp_cells b1; obtain ⟨e0, e1, g0, g1⟩ := sp_cells b2)
  all_goals go_region
  all_goals go_wp2_with fail
  all_goals try simp only [Exit.inBlock, Exit.then]
  all_goals refine bodyPost_ret (ret_spans rfl _ _ _ _ _ _ _ _ rfl (spStored b1 b2 (by simp)).1 rfl (spStored b1 b2 (by simp)).2.1) rfl ⟨rfl, ?_⟩
  all_goals exact ((m1.then m2).trans (spStored b1 b2 (by simp)).2.2 (fun x hx => .inr (by simp at hx; omega))).drew
end Go.Proofs.YtilbbnmhnacnlaaGreat
/-
  Join of spans, the program's and the document's own.
-/
namespace Go.Proofs.YtilbbnmhnacnlaaGreat
open Go.RowKit

theorem spStored1 {w : World} {p : Nat} {x0 x1 a b : Value} {t : TypeId} (hp : w.heap[p]? = some (.cells #[x0, x1] t (0, 0))) :
    ((w.setCell ⟨p, 0, none⟩ a).setCell ⟨p, 1, none⟩ b).heap[p]? = some (.cells #[a, b] t (0, 0)) ∧ Moves [p] w ((w.setCell ⟨p, 0, none⟩ a).setCell ⟨p, 1, none⟩ b) :=
  ⟨heap_set (i := 1) (heap_set (i := 0) hp a) b, (((Moves.refl [p] w).setCell (p := ⟨p, 0, none⟩) (.inl (by simp)) a).setCell (p := ⟨p, 1, none⟩) (.inl (by simp)) b)⟩

set_option maxRecDepth 100000 in
set_option maxHeartbeats 2000000 in
theorem spJoin_no (la ha lb hb : ByteArray) (w : World) (hc : spJ ⟨la, ha⟩ ⟨lb, hb⟩ = false) : Calls Tryz.prog 114 #[.agg #[.string la, .string ha], .agg #[.string lb, .string hb]] w fun e w' => e = .returned (.tuple #[.agg #[.string ⟨#[]⟩, .string ⟨#[]⟩], .bool false]) ∧ Moves [] w w' := by
  obtain ⟨m1, b0, b1, b2⟩ := spBoxes3 w #[.string la, .string ha] #[.string lb, .string hb] #[.string ⟨#[]⟩, .string ⟨#[]⟩] 37
  unfold spJ bz zeq at hc
  dsimp only at hc
  cases h1 : spR ⟨la, ha⟩ <;> cases h2 : spR ⟨lb, hb⟩ <;> cases h3 : ha.toList.isEmpty <;> cases h4 : (ha.toList == lb.toList)
  all_goals rw [h1, h2, h3, h4] at hc
  all_goals (first | (exact absurd hc (by decide)) | skip)
  all_goals clear hc
  all_goals go_enter Tryz.func114, Tryz.ntmps114
  all_goals go_wp2_with (first | (go_at_call 124; (revert m2; intro m2); refine (spRight_w _ _ _).mono ?_; rintro _ w3 ⟨rfl, m3⟩; simp only [h2]; replace b0 := m3.at b0 (by simp); replace b1 := m3.at b1 (by simp); replace b2 := m3.at b2 (by simp); clear c0 c1 d0 d1 e0 e1; clear g0 g1; obtain ⟨c0, c1, _, _⟩ := sp_cells b0; obtain ⟨d0, d1, _, _⟩ := sp_cells b1; obtain ⟨e0, e1, g0, g1⟩ := sp_cells b2) | (go_at_call 124; refine (spRight_w _ _ _).mono ?_; rintro _ w2 ⟨rfl, m2⟩; simp only [h1]; replace b0 := m2.at b0 (by simp); replace b1 := m2.at b1 (by simp); replace b2 := m2.at b2 (by simp); obtain ⟨c0, c1, _, _⟩ := sp_cells b0; obtain ⟨d0, d1, _, _⟩ := sp_cells b1; obtain ⟨e0, e1, g0, g1⟩ := sp_cells b2))
  all_goals try simp only [Exit.inBlock, Exit.then]
  all_goals refine bodyPost_ret (ret_span1 rfl _ _ _ _ _ rfl (spStored1 b2).1) rfl ⟨rfl, ?_⟩
  all_goals exact (by first | exact (m1.then m2).then m3 | exact m1.then m2 : Moves [] w _).trans (spStored1 b2).2 (fun x hx => .inr (by simp at hx; omega))

set_option maxRecDepth 100000 in
set_option maxHeartbeats 2000000 in
theorem spJoin_yes (la ha lb hb : ByteArray) (w : World) (hc : spJ ⟨la, ha⟩ ⟨lb, hb⟩ = true) : Calls Tryz.prog 114 #[.agg #[.string la, .string ha], .agg #[.string lb, .string hb]] w fun e w' => e = .returned (.tuple #[.agg #[.string la, .string hb], .bool true]) ∧ Moves [] w w' := by
  obtain ⟨m1, b0, b1, b2⟩ := spBoxes3 w #[.string la, .string ha] #[.string lb, .string hb] #[.string ⟨#[]⟩, .string ⟨#[]⟩] 37
  unfold spJ bz zeq at hc
  simp only [Bool.and_eq_true, Bool.not_eq_true'] at hc
  obtain ⟨⟨⟨h1, h2⟩, h3⟩, h4⟩ := hc
  go_enter Tryz.func114, Tryz.ntmps114
  go_wp2_with (first | (go_at_call 124; (revert m2; intro m2); refine (spRight_w _ _ _).mono ?_; rintro _ w3 ⟨rfl, m3⟩; simp only [h2]; replace b0 := m3.at b0 (by simp); replace b1 := m3.at b1 (by simp); replace b2 := m3.at b2 (by simp); clear c0 c1 d0 d1 e0 e1; clear g0 g1; obtain ⟨c0, c1, _, _⟩ := sp_cells b0; obtain ⟨d0, d1, _, _⟩ := sp_cells b1; obtain ⟨e0, e1, g0, g1⟩ := sp_cells b2) | (go_at_call 124; refine (spRight_w _ _ _).mono ?_; rintro _ w2 ⟨rfl, m2⟩; simp only [h1]; replace b0 := m2.at b0 (by simp); replace b1 := m2.at b1 (by simp); replace b2 := m2.at b2 (by simp); obtain ⟨c0, c1, _, _⟩ := sp_cells b0; obtain ⟨d0, d1, _, _⟩ := sp_cells b1; obtain ⟨e0, e1, g0, g1⟩ := sp_cells b2))
  try simp only [Exit.inBlock, Exit.then]
  refine bodyPost_ret (ret_span1 rfl _ _ _ _ _ rfl (spStored1 b2).1) rfl ⟨rfl, ?_⟩
  exact ((m1.then m2).then m3).trans (spStored1 b2).2 (fun x hx => .inr (by simp at hx; omega))

end Go.Proofs.YtilbbnmhnacnlaaGreat
