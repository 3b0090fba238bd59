/-
  Split and Join of spans, the program's and the document's own.
-/
import Derived.Test.YtbjbljkcodkebaaCSp2
import Derived.Test.YtbjbljkcodkebaaCBaseD
namespace Go.Proofs.Ytbjbljkcodkebaa
open Go.RowKit

theorem Try.size23 : (Try.prog.info? 23).map (·.size) = some 2 := by kernel_rfl
theorem ret_span1 {fn : Func} {p u : Tmp} (h : fn.results = #[.cell p 23, .tmp u]) (tmps : Array Value) (w : World) (g : Nat) (x y : Value) (hp : tmps.getD p undef = .pointer (some ⟨g, 0, none⟩)) (hg : w.heap[g]? = some (.cells #[x, y] 23 (0, 0))) :
    (results fn tmps).run Try.prog w = .ok (.tuple #[.agg #[x, y], tmps.getD u undef]) w := by
  have hl := run_loadVar_row (P := Try.prog) w g 23 23 _ (0, 0) _ hg Try.underlying23 rfl Try.size23
  rw [results_cell_tmp h, hp]
  simp only [asAddr, Sem.run_pure, Result.andThen, hl]

/-- A box of a span, and two more for what comes of it. -/
theorem spBoxes3 (w : World) (a b c : Array Value) (t : TypeId) : Moves [] w (((w.alloc (.cells a t)).alloc (.cells b t)).alloc (.cells c t)) ∧ (((w.alloc (.cells a t)).alloc (.cells b t)).alloc (.cells c t)).heap[w.heap.size]? = some (.cells a t (0, 0)) ∧ (((w.alloc (.cells a t)).alloc (.cells b t)).alloc (.cells c t)).heap[w.heap.size + 1]? = some (.cells b t (0, 0)) ∧ (((w.alloc (.cells a t)).alloc (.cells b t)).alloc (.cells c t)).heap[w.heap.size + 1 + 1]? = some (.cells c t (0, 0)) := by
  obtain ⟨m, h1, h2⟩ := spBoxes2 w a b t
  refine ⟨m.alloc _, ((Moves.refl [] _).alloc _).at h1 (by simp), ((Moves.refl [] _).alloc _).at h2 (by simp), ?_⟩
  have h := heap_alloc_new ((w.alloc (.cells a t)).alloc (.cells b t)) (.cells c t)
  rwa [show ((w.alloc (.cells a t)).alloc (.cells b t)).heap.size = w.heap.size + 1 + 1 from by simp] at h

end Go.Proofs.Ytbjbljkcodkebaa
