/-
  law7's two and made.
-/
import Derived.Test.YtfhdodopjgfedaaGreatCSp9
namespace Go.Proofs.YtfhdodopjgfedaaGreat
open Go.RowKit

theorem ret_span {fn : Func} {p : Tmp} (h : fn.results = #[.cell p 37]) (tmps : Array Value) (w : World) (g : Nat) (x y : Value) (hp : tmps.getD p undef = .pointer (some ⟨g, 0, none⟩)) (hg : w.heap[g]? = some (.cells #[x, y] 37 (0, 0))) :
    (results fn tmps).run Tryz.prog w = .ok (.agg #[x, y]) w :=
  results_cell_row h tmps w g 37 _ (0, 0) _ hp hg Tryz.underlying37 rfl Tryz.size37

end Go.Proofs.YtfhdodopjgfedaaGreat
