/-
  cmd.take of any bytes.
-/
import Derived.Test.YtfhdodopjgfedaaGreatCTo8
namespace Go.Proofs.YtfhdodopjgfedaaGreat
open Go.RowKit

theorem stopLoad {ops : Array Oper} {rest : List Oper} {op : Oper} {a : Act} {w : World} {Q : Exit → Act → World → Prop} (x : Operand) (_ : op.op = .load 39 x) (h : Hid (wpList Tryz.prog ops Q (op :: rest) a w)) : wpList Tryz.prog ops Q (op :: rest) a w := h.out
theorem ret_cmd {fn : Func} {p : Tmp} (h : fn.results = #[.cell p 39]) (tmps : Array Value) (w : World) (g : Nat) (cs : Array Value) (hn : cs.size = 19) (hp : tmps.getD p undef = .pointer (some ⟨g, 0, none⟩)) (hg : w.heap[g]? = some (.cells cs 39 (0, 0))) :
    (results fn tmps).run Tryz.prog w = .ok (.agg cs) w :=
  results_cell_row h tmps w g 39 _ (0, 0) _ hp hg Tryz.underlying39 rfl (by rw [hn]; exact Tryz.size39)

def opz : Pop := ⟨0, ⟨#[]⟩, ⟨#[]⟩, cdz, [], 0⟩
end Go.Proofs.YtfhdodopjgfedaaGreat
