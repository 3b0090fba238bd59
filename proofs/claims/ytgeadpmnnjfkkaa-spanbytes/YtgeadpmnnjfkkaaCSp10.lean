/-
  law7's two and made.
-/
import Derived.Test.YtgeadpmnnjfkkaaCSp9
namespace Go.Proofs.Ytgeadpmnnjfkkaa
open Go.RowKit

theorem ret_span {fn : Func} {p : Tmp} (h : fn.results = #[.cell p 27]) (tmps : Array Value) (w : World) (g : Nat) (x y : Value) (hp : tmps.getD p undef = .pointer (some ⟨g, 0, none⟩)) (hg : w.heap[g]? = some (.cells #[x, y] 27 (0, 0))) :
    (results fn tmps).run Try.prog w = .ok (.agg #[x, y]) w :=
  results_cell_row h tmps w g 27 _ (0, 0) _ hp hg Try.underlying27 rfl Try.size27

set_option maxRecDepth 100000 in
set_option maxHeartbeats 2000000 in
theorem made7_w (a b : Int) : ∃ lo hi, spE lo = true ∧ spE hi = true ∧ ∀ w, Calls Try.prog 13 #[.int .i64 a, .int .i64 b] w fun e w' => e = .returned (.agg #[.string lo, .string hi]) ∧ Moves [] w w' := by
  obtain ⟨sa, ha, hra⟩ := row_ds a
  obtain ⟨sb, hb, hrb⟩ := row_ds b
  have eA : spE sa = true := decide_eq_true (by omega)
  have eB : spE sb = true := decide_eq_true (by omega)
  have e0 : spE ⟨#[]⟩ = true := decide_eq_true (by decide)
  clear ha hb
  refine ⟨if (a.tmod 5 == 0) = true then ⟨#[]⟩ else sa, if (b.tmod 5 == 0) = true then ⟨#[]⟩ else sb, by split <;> assumption, by split <;> assumption, fun w => ?_⟩
  clear eA eB e0
  have b4 := heap_alloc_new w (.cells #[.string ⟨#[]⟩, .string ⟨#[]⟩] 27)
  have m4 : Moves [] w (w.alloc (.cells #[.string ⟨#[]⟩, .string ⟨#[]⟩] 27)) := (Moves.refl _ _).alloc _
  obtain ⟨P, hP⟩ : ∃ P, w.heap.size = P := ⟨_, rfl⟩
  rw [hP] at b4
  have hPw : w.heap.size ≤ P := by omega
  cases h1 : (a.tmod 5 == 0) <;> cases h2 : (b.tmod 5 == 0)
  all_goals simp only [if_true, Bool.false_eq_true, if_false]
  all_goals go_enter Try.func13, Try.ntmps13
  all_goals go_wp2_with (first | (go_at_call 14; refine (hra _).mono ?_; rintro _ w2 ⟨rfl, m2⟩; clear hra; replace m4 := m4.then m2; replace b4 := m2.at b4 (by simp)) | (go_at_call 14; refine (hrb _).mono ?_; rintro _ w3 ⟨rfl, m3⟩; clear hrb; replace m4 := m4.then m3; replace b4 := m3.at b4 (by simp); have b5 := (fun o => ((Moves.refl [] w3).alloc o).at b4 (by simp)); have c0 := (fun o => (sp_cells (b5 o)).1); have c1 := (fun o => (sp_cells (b5 o)).2.1); have f0 := (fun o => (sp_cells (b5 o)).2.2.1); have f1 := (fun o => (sp_cells (b5 o)).2.2.2)))
  all_goals try simp only [Exit.inBlock, Exit.then]
  all_goals refine bodyPost_ret (ret_span rfl _ _ _ _ _ rfl (spStored1 (b5 _)).1) rfl ⟨rfl, ?_⟩
  all_goals exact ((m4.alloc _).trans (spStored1 (b5 _)).2 (fun x hx => .inr (by simp at hx; omega)))
end Go.Proofs.Ytgeadpmnnjfkkaa
