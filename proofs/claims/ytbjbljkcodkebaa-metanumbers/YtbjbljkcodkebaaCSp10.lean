/-
  law7's two and made.
-/
import Derived.Test.YtbjbljkcodkebaaCSp9
namespace Go.Proofs.Ytbjbljkcodkebaa
open Go.RowKit

theorem ret_span {fn : Func} {p : Tmp} (h : fn.results = #[.cell p 23]) (tmps : Array Value) (w : World) (g : Nat) (x y : Value) (hp : tmps.getD p undef = .pointer (some ⟨g, 0, none⟩)) (hg : w.heap[g]? = some (.cells #[x, y] 23 (0, 0))) :
    (results fn tmps).run Try.prog w = .ok (.agg #[x, y]) w :=
  results_cell_row h tmps w g 23 _ (0, 0) _ hp hg Try.underlying23 rfl Try.size23

end Go.Proofs.Ytbjbljkcodkebaa
