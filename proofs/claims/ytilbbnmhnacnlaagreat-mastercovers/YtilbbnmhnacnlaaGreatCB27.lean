/- ours -/
import Derived.Test.YtilbbnmhnacnlaaGreatCB26
import Derived.Test.YtilbbnmhnacnlaaGreatCB22
/-
  Commands a master is asked: cmd.Right of kinds 7 to 10 looks at no operation and no state, so nothing need be known of these.
-/
namespace Go.Proofs.YtilbbnmhnacnlaaGreat
open Go.RowKit

def CmdW (_w : World) (c : List Value) (p : Pcmd) : Prop := ∃ ca cn cc la ln lc sa sn sc, c = [.int .i64 p.kind, .int .i64 p.op.kind, .string p.op.row, .string p.op.hi, .bool p.op.cd.has, .bool p.op.cd.want, .string p.op.cd.col, .int .i64 p.op.cd.v.kind, .slice ca cn cc, .float .f64 p.op.cd.v.n, .slice la ln lc, .int .i64 p.op.most, .string p.lo, .string p.hi, .int .i64 p.gen, .string p.at', .int .i64 p.to, .int .i64 p.act, .slice sa sn sc]
theorem CmdW.moves {w w' : World} {S : List Nat} {c : List Value} {p : Pcmd} (h : CmdW w c p) (_ : Moves S w w') : CmdW w' c p := h
set_option maxRecDepth 100000 in
set_option maxHeartbeats 8000000 in
theorem crightM_w (w : World) (p : Pcmd) (ca : Option Addr) (cn cc : Nat) (la : Option Addr) (ln lc : Nat) (sa : Option Addr) (sn sc : Nat) (hk : p.kind = 7 ∨ p.kind = 8 ∨ p.kind = 9 ∨ p.kind = 10) :
    Calls Tryz.prog 62 #[.agg #[.int .i64 p.kind, .int .i64 p.op.kind, .string p.op.row, .string p.op.hi, .bool p.op.cd.has, .bool p.op.cd.want, .string p.op.cd.col, .int .i64 p.op.cd.v.kind, .slice ca cn cc, .float .f64 p.op.cd.v.n, .slice la ln lc, .int .i64 p.op.most, .string p.lo, .string p.hi, .int .i64 p.gen, .string p.at', .int .i64 p.to, .int .i64 p.act, .slice sa sn sc]] w fun e w' => e = .returned (.bool (rCmd p)) ∧ Moves [] w w' := by
  have hA := heap_alloc_new w (.cells #[.int .i64 p.kind, .int .i64 p.op.kind, .string p.op.row, .string p.op.hi, .bool p.op.cd.has, .bool p.op.cd.want, .string p.op.cd.col, .int .i64 p.op.cd.v.kind, .slice ca cn cc, .float .f64 p.op.cd.v.n, .slice la ln lc, .int .i64 p.op.most, .string p.lo, .string p.hi, .int .i64 p.gen, .string p.at', .int .i64 p.to, .int .i64 p.act, .slice sa sn sc] 39)
  have mb : Moves [] w (w.alloc (.cells #[.int .i64 p.kind, .int .i64 p.op.kind, .string p.op.row, .string p.op.hi, .bool p.op.cd.has, .bool p.op.cd.want, .string p.op.cd.col, .int .i64 p.op.cd.v.kind, .slice ca cn cc, .float .f64 p.op.cd.v.n, .slice la ln lc, .int .i64 p.op.most, .string p.lo, .string p.hi, .int .i64 p.gen, .string p.at', .int .i64 p.to, .int .i64 p.act, .slice sa sn sc] 39)) := (Moves.refl _ _).alloc _
  obtain ⟨b0, b1, b2, b3, b4, b5, b6, b7, b8, b9, b10, b11, b12, b13, b14, b15, b16, b17, b18⟩ := c19 hA
  obtain ⟨B, hB⟩ : ∃ B, w.heap.size = B := ⟨_, rfl⟩
  rw [hB] at b0 b1 b2 b3 b4 b5 b6 b7 b8 b9 b10 b11 b12 b13 b14 b15 b16 b17 b18
  obtain ⟨v1, hv1⟩ : ∃ v1, w.alloc (.cells #[.int .i64 p.kind, .int .i64 p.op.kind, .string p.op.row, .string p.op.hi, .bool p.op.cd.has, .bool p.op.cd.want, .string p.op.cd.col, .int .i64 p.op.cd.v.kind, .slice ca cn cc, .float .f64 p.op.cd.v.n, .slice la ln lc, .int .i64 p.op.most, .string p.lo, .string p.hi, .int .i64 p.gen, .string p.at', .int .i64 p.to, .int .i64 p.act, .slice sa sn sc] 39) = v1 := ⟨_, rfl⟩
  rw [hv1] at b0 b1 b2 b3 b4 b5 b6 b7 b8 b9 b10 b11 b12 b13 b14 b15 b16 b17 b18 mb
  have HMB : Hid (Moves [] w v1) := mb
  rw [hB, hv1] at hA
  have hpl := cplace_w p.at'
  have hgn := crightGen_w p.gen
  have HA : Hid _ := hA
  clear hA mb
  unfold rCmd
  rw [if_neg (by omega), if_neg (by omega), if_neg (by omega), if_neg (by omega)]
  by_cases k7 : p.kind = 7
  · rw [if_pos k7]
    rw [k7] at b0 hv1 HA ⊢
    clear k7
    obtain ⟨E, hE⟩ : ∃ E, rPlace p.at' = E := ⟨_, rfl⟩
    rw [hE] at hpl ⊢
    go_enter Tryz.func62, Tryz.ntmps62
    go_wp2_with fail
    refine (hpl _).mono ?_
    rintro _ _ ⟨rfl, rfl⟩
    go_wp2_with fail
    go_ret
    exact ⟨rfl, HMB.out⟩
  · rw [if_neg k7]
    by_cases k8 : p.kind = 8
    · rw [if_pos k8]
      rw [k8] at b0 hv1 HA ⊢
      clear k7 k8
      unfold rPlan
      have hw1 := cwithin_w p.act 1 3
      have hw2 := cwithin_w p.to 0 255
      by_cases ha : p.act = 0
      · rw [decide_eq_true ha]
        rw [ha] at b17 hv1 HA ⊢
        clear ha
        go_enter Tryz.func62, Tryz.ntmps62
        go_wp2_with fail
        go_ret
        exact ⟨rfl, HMB.out⟩
      · rw [decide_eq_false ha]
        have ha2 : (p.act == 0) = false := beq_eq_false_iff_ne.2 ha
        clear ha
        cases h1 : wi p.act 1 3 with
        | false =>
          rw [h1] at hw1
          go_enter Tryz.func62, Tryz.ntmps62
          go_wp2_with fail
          refine (hw1 _).mono ?_
          rintro _ _ ⟨rfl, rfl⟩
          go_wp2_with fail
          go_ret
          exact ⟨rfl, HMB.out⟩
        | true =>
          rw [h1] at hw1
          cases h2 : rPlace p.at' with
          | false =>
            rw [h2] at hpl
            go_enter Tryz.func62, Tryz.ntmps62
            go_wp2_with fail
            refine (hw1 _).mono ?_
            rintro _ _ ⟨rfl, rfl⟩
            go_wp2_with fail
            refine (hpl _).mono ?_
            rintro _ _ ⟨rfl, rfl⟩
            go_wp2_with fail
            go_ret
            exact ⟨rfl, HMB.out⟩
          | true =>
            rw [h2] at hpl
            obtain ⟨E, hE⟩ : ∃ E, wi p.to 0 255 = E := ⟨_, rfl⟩
            rw [hE] at hw2 ⊢
            go_enter Tryz.func62, Tryz.ntmps62
            go_wp2_with fail
            refine (hw1 _).mono ?_
            rintro _ _ ⟨rfl, rfl⟩
            go_wp2_with fail
            refine (hpl _).mono ?_
            rintro _ _ ⟨rfl, rfl⟩
            go_wp2_with fail
            refine (hw2 _).mono ?_
            rintro _ _ ⟨rfl, rfl⟩
            go_wp2_with fail
            go_ret
            exact ⟨by cases E <;> rfl, HMB.out⟩
    · rw [if_neg k8]
      by_cases k9 : p.kind = 9
      · rw [if_pos k9]
        rw [k9] at b0 hv1 HA ⊢
        clear k7 k8 k9
        unfold rPub
        cases h1 : wi p.gen 1 1073741824 with
        | false =>
          rw [h1] at hgn
          go_enter Tryz.func62, Tryz.ntmps62
          go_wp2_with fail
          refine (hgn _).mono ?_
          rintro _ _ ⟨rfl, rfl⟩
          go_wp2_with fail
          go_ret
          exact ⟨rfl, HMB.out⟩
        | true =>
          rw [h1] at hgn
          by_cases ha : p.to = 0
          · rw [decide_eq_true ha]
            rw [ha] at b16 hv1 HA ⊢
            clear ha
            go_enter Tryz.func62, Tryz.ntmps62
            go_wp2_with fail
            refine (hgn _).mono ?_
            rintro _ _ ⟨rfl, rfl⟩
            go_wp2_with fail
            go_ret
            exact ⟨rfl, HMB.out⟩
          · rw [decide_eq_false ha]
            have ha2 : (p.to == 0) = false := beq_eq_false_iff_ne.2 ha
            by_cases hb : p.to = -1
            · rw [decide_eq_true hb]
              rw [hb] at b16 hv1 HA ⊢
              clear hb ha ha2
              go_enter Tryz.func62, Tryz.ntmps62
              go_wp2_with fail
              refine (hgn _).mono ?_
              rintro _ _ ⟨rfl, rfl⟩
              go_wp2_with fail
              go_ret
              exact ⟨rfl, HMB.out⟩
            · rw [decide_eq_false hb]
              have hb2 : (p.to == -1) = false := beq_eq_false_iff_ne.2 hb
              clear ha hb
              go_enter Tryz.func62, Tryz.ntmps62
              go_wp2_with fail
              refine (hgn _).mono ?_
              rintro _ _ ⟨rfl, rfl⟩
              go_wp2_with fail
              go_ret
              exact ⟨rfl, HMB.out⟩
      · rw [if_neg k9]
        by_cases k10 : p.kind = 10
        · rw [decide_eq_true k10]
          rw [k10] at b0 hv1 HA ⊢
          clear k7 k8 k9 k10
          go_enter Tryz.func62, Tryz.ntmps62
          go_wp2_with fail
          go_ret
          exact ⟨rfl, HMB.out⟩
        · exact absurd hk (by omega)
end Go.Proofs.YtilbbnmhnacnlaaGreat
/-
  cmd.takeTablet, takePlan of any bytes.
-/
namespace Go.Proofs.YtilbbnmhnacnlaaGreat
open Go.RowKit

end Go.Proofs.YtilbbnmhnacnlaaGreat
/-
  cmd.takeOp of any bytes.
-/
namespace Go.Proofs.YtilbbnmhnacnlaaGreat
open Go.RowKit

end Go.Proofs.YtilbbnmhnacnlaaGreat
/-
  cmd.take of any bytes.
-/
namespace Go.Proofs.YtilbbnmhnacnlaaGreat
open Go.RowKit

theorem wpList_storeCmd {ops : Array Oper} {rest : List Oper} {op : Oper} {a : Act} {w : World} {Q : Exit → Act → World → Prop} (hgd : op.guard = none) (x y : Operand) (ho : op.op = .store 39 x y) (b : Nat) (cells : Array Value) (hx : a.eval x = .pointer (some ⟨b, 0, none⟩)) (hy : a.eval y = .agg cells) {old : Array Value} {t : TypeId} (hg : w.heap[b]? = some (.cells old t (0, 0))) (hn : cells.size = 19) (hn2 : old.size = 19) (h1 : cells.all (·.oneCell') = true)
    (h : ∀ w', w'.heap[b]? = some (.cells cells t (0, 0)) → Moves [b] w w' → wpList Tryz.prog ops Q rest (a.put op.dst undef) w') : wpList Tryz.prog ops Q (op :: rest) a w :=
  wpList_plain hgd fun _ hK => by
    have := run_storeVar_row (P := Tryz.prog) w b t 39 old cells hg (by rw [hn]; exact Tryz.size39) (by rw [hn, hn2]) h1
    unfold Oper.wp execOp
    simp only [ho, hx, hy, Instr.storeAt, Instr.sureAddr, Sem.run_bind, Sem.run_pure, Result.andThen_ok, this]
    exact hK _ _ (h _ (setRow_heap w b old cells t (0, 0) hg) (moves_row _ _ _))
theorem stopStore {ops : Array Oper} {rest : List Oper} {op : Oper} {a : Act} {w : World} {Q : Exit → Act → World → Prop} (x y : Operand) (_ : op.op = .store 39 x y) (h : Hid (wpList Tryz.prog ops Q (op :: rest) a w)) : wpList Tryz.prog ops Q (op :: rest) a w := h.out
theorem stopLoad {ops : Array Oper} {rest : List Oper} {op : Oper} {a : Act} {w : World} {Q : Exit → Act → World → Prop} (x : Operand) (_ : op.op = .load 39 x) (h : Hid (wpList Tryz.prog ops Q (op :: rest) a w)) : wpList Tryz.prog ops Q (op :: rest) a w := h.out
theorem ret_cmd {fn : Func} {p : Tmp} (h : fn.results = #[.cell p 39]) (tmps : Array Value) (w : World) (g : Nat) (cs : Array Value) (hn : cs.size = 19) (hp : tmps.getD p undef = .pointer (some ⟨g, 0, none⟩)) (hg : w.heap[g]? = some (.cells cs 39 (0, 0))) :
    (results fn tmps).run Tryz.prog w = .ok (.agg cs) w :=
  results_cell_row h tmps w g 39 _ (0, 0) _ hp hg Tryz.underlying39 rfl (by rw [hn]; exact Tryz.size39)

def opz : Pop := ⟨0, ⟨#[]⟩, ⟨#[]⟩, cdz, [], 0⟩
end Go.Proofs.YtilbbnmhnacnlaaGreat
