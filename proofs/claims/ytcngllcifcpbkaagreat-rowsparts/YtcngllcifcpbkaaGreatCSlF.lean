/-
  's[i:]' and 's[:i]' of a list of rows by names, as one operation of a drawn region.
-/
import Derived.Test.YtcngllcifcpbkaaGreatCBaseL
import Derived.Test.YtcngllcifcpbkaaGreatCSsaG
import Derived.Test.YtcngllcifcpbkaaGreatCBaseH
namespace Go.Proofs.YtcngllcifcpbkaaGreat
open Go.RowKit

set_option maxHeartbeats 1000000 in
theorem slice_from {o : Oper} {a : Act} {w : World} {ad : Option Addr} {n cap i : Nat} (s t : Nat) (ho : o.op = .slice 24 (.tmp s) (some (.tmp t)) none none) (hs : a.tmps.getD s undef = .slice ad n cap) (ht : a.tmps.getD t undef = .int .i64 (i : Nat)) (hin : i ≤ n) (hic : n ≤ cap) :
    (execOp a.eval o).run Tryz.prog w = .ok (.value (.slice (if cap = i then ad else ad.map (·.add (i * 2))) (n - i) (cap - i))) w := by
  have e1 : a.eval (.tmp s) = .slice ad n cap := hs
  have e2 : a.eval (.tmp t) = .int .i64 (i : Nat) := ht
  have h1 : (i : Int) ≤ n := by omega
  have h2 : (i : Int) ≤ cap := by omega
  have h3 : (n : Int) ≤ cap := by omega
  unfold execOp
  rw [ho]
  simp only [Option.map_some, Option.map_none, e1, e2]
  by_cases hci : cap = i
  · rw [if_pos hci]
    cases ad with
    | none => go_simp
    | some x => go_simp
  · rw [if_neg hci]
    cases ad with
    | none => go_simp
    | some x => go_simp
theorem wp_box1 {o : Oper} {a : Act} {w : World} {K : Act → World → Prop} {Q : Exit → Act → World → Prop} (t : TypeId) (s : Nat) (ho : o.op = .box t (.tmp s)) (v : Value) (hs : a.tmps.getD s undef = v) (h : K (a.put o.dst (.pointer (some ⟨w.heap.size, 0, none⟩))) (w.alloc (.cells v.cells t))) : o.wp Tryz.prog a w K Q := by
  unfold Oper.wp execOp
  have e : a.eval (.tmp s) = v := hs
  simp only [ho, e]
  exact h
theorem nams_info : (Tryz.prog.info? 24).map (fun i => (i.zero, i.size, i.bytes)) = some (some (.slice none 0 0), 1, 24) := by kernel_rfl
end Go.Proofs.YtcngllcifcpbkaaGreat
