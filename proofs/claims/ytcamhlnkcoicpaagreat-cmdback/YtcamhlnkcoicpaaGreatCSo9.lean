/-
  ref8's SameCommand where it says yes.
-/
import Derived.Test.YtcamhlnkcoicpaaGreatCSo8
import Derived.Test.YtcamhlnkcoicpaaGreatCTk8
namespace Go.Proofs.YtcamhlnkcoicpaaGreat
open Go.RowKit

theorem span_same (a b : ByteArray) (w : World) : (binOp .eql 34 (.agg #[.string a, .string b]) (.agg #[.string a, .string b])).run Tryz.prog w = .ok (.bool true) w := by
  rw [run_eql_struct, run_equalIn_agg (d := 9999) w 34 _ _ (by kernel_rfl) (by kernel_rfl)]
  unfold Program.fieldsOf
  rw [Tryz.underlying34]
  simp [go_sem]
theorem range_tail8 {w : World} {b : Nat} {xs ys : List Value} {t : TypeId} {fz : Nat × Nat} (h : w.heap[b]? = some (.cells (xs ++ ys).toArray t fz)) : w.rangeAt b xs.length ys := fun j v hj => by
  have e : (xs ++ ys)[xs.length + j]? = some v := by rw [List.getElem?_append_right (by omega), Nat.add_sub_cancel_left]; exact hj
  simp only [World.cell?, h]
  simpa using e
theorem stopLdO {ops : Array Oper} {rest : List Oper} {op : Oper} {a : Act} {w : World} {Q : Exit → Act → World → Prop} (x : Operand) (_ : op.op = .load 32 x) (h : Hid (wpList Tryz.prog ops Q (op :: rest) a w)) : wpList Tryz.prog ops Q (op :: rest) a w := h.out
theorem wpList_loadOpAt {ops : Array Oper} {rest : List Oper} {op : Oper} {a : Act} {w : World} {Q : Exit → Act → World → Prop} (hgd : op.guard = none) (x : Operand) (ho : op.op = .load 32 x) (b k : Nat) (hx : a.eval x = .pointer (some ⟨b, k, none⟩)) (cs : List Value) (hc : w.rangeAt b k cs) (hn : cs.length = 11)
    (h : wpList Tryz.prog ops Q rest (a.put op.dst (.agg cs.toArray)) w) : wpList Tryz.prog ops Q (op :: rest) a w :=
  wpList_plain hgd fun _ hK => by
    have := run_loadVar_mid (P := Tryz.prog) w b k 32 cs _ hc Tryz.underlying32 rfl (by rw [hn]; exact Tryz.size32)
    unfold Oper.wp execOp
    simp only [ho, hx, Instr.loadAt, Instr.sureAddr, Sem.run_bind, Sem.run_pure, Result.andThen_ok, this]
    exact hK _ _ h
/-- Commands that are the same by what is asked. -/
def RelM (P Q : Pcmd) : Prop := Q.kind = P.kind ∧ (P.kind = 1 → RelO P.op Q.op) ∧ (P.kind = 2 ∨ P.kind = 3 ∨ P.kind = 4 ∨ P.kind = 5 ∨ P.kind = 6 → Q.lo = P.lo ∧ Q.hi = P.hi ∧ Q.gen = P.gen) ∧ (P.kind = 3 → Q.st = P.st) ∧ (P.kind = 5 ∨ P.kind = 6 ∨ P.kind = 7 → Q.at' = P.at') ∧ (P.kind = 8 → Q.act = P.act ∧ (P.act ≠ 0 → Q.at' = P.at' ∧ Q.to = P.to)) ∧ (P.kind = 9 → Q.gen = P.gen ∧ Q.to = P.to)
set_option maxRecDepth 100000 in
set_option maxHeartbeats 16000000 in
theorem rsameM_w (W w : World) (cs ds : List Value) (P Q : Pcmd) (h : CmdC W cs P) (h' : CmdC W ds Q) (m : Moves [] W w) (hl : P.op.l.length ≤ 1000) (hr : RelM P Q) :
    Calls Tryz.prog 18 #[.agg cs.toArray, .agg ds.toArray] w fun e w' => e = .returned (.bool true) ∧ Moves [] w w' := by
  obtain ⟨ca, cn, cc, la, ln, lc, sa, sn, sc, gs, rfl, hV, hL, hln, hS, hz⟩ := h
  obtain ⟨ca', cn', cc', la', ln', lc', sa', sn', sc', gs', rfl, hV', hL', hln', hS', hz'⟩ := h'
  have HOP : Hid (OpC W [.int .i64 P.op.kind, .string P.op.row, .string P.op.hi, .bool P.op.cd.has, .bool P.op.cd.want, .string P.op.cd.col, .int .i64 P.op.cd.v.kind, .slice ca cn cc, .float .f64 P.op.cd.v.n, .slice la ln lc, .int .i64 P.op.most] P.op ∧ OpC W [.int .i64 Q.op.kind, .string Q.op.row, .string Q.op.hi, .bool Q.op.cd.has, .bool Q.op.cd.want, .string Q.op.cd.col, .int .i64 Q.op.cd.v.kind, .slice ca' cn' cc', .float .f64 Q.op.cd.v.n, .slice la' ln' lc', .int .i64 Q.op.most] Q.op) := ⟨⟨ca, cn, cc, la, ln, lc, rfl, hV, hL, hln⟩, ⟨ca', cn', cc', la', ln', lc', rfl, hV', hL', hln'⟩⟩
  have hA := heap_alloc_new w (.cells #[.int .i64 P.kind, .int .i64 P.op.kind, .string P.op.row, .string P.op.hi, .bool P.op.cd.has, .bool P.op.cd.want, .string P.op.cd.col, .int .i64 P.op.cd.v.kind, .slice ca cn cc, .float .f64 P.op.cd.v.n, .slice la ln lc, .int .i64 P.op.most, .string P.lo, .string P.hi, .int .i64 P.gen, .string P.at', .int .i64 P.to, .int .i64 P.act, .slice sa sn sc] 36)
  have mA : Moves [] w (w.alloc (.cells #[.int .i64 P.kind, .int .i64 P.op.kind, .string P.op.row, .string P.op.hi, .bool P.op.cd.has, .bool P.op.cd.want, .string P.op.cd.col, .int .i64 P.op.cd.v.kind, .slice ca cn cc, .float .f64 P.op.cd.v.n, .slice la ln lc, .int .i64 P.op.most, .string P.lo, .string P.hi, .int .i64 P.gen, .string P.at', .int .i64 P.to, .int .i64 P.act, .slice sa sn sc] 36)) := (Moves.refl _ _).alloc _
  obtain ⟨v1, hv1⟩ : ∃ v1, w.alloc (.cells #[.int .i64 P.kind, .int .i64 P.op.kind, .string P.op.row, .string P.op.hi, .bool P.op.cd.has, .bool P.op.cd.want, .string P.op.cd.col, .int .i64 P.op.cd.v.kind, .slice ca cn cc, .float .f64 P.op.cd.v.n, .slice la ln lc, .int .i64 P.op.most, .string P.lo, .string P.hi, .int .i64 P.gen, .string P.at', .int .i64 P.to, .int .i64 P.act, .slice sa sn sc] 36) = v1 := ⟨_, rfl⟩
  have s1 : v1.heap.size = w.heap.size + 1 := by rw [← hv1]; simp
  rw [hv1] at hA mA
  have hB := heap_alloc_new v1 (.cells #[.int .i64 Q.kind, .int .i64 Q.op.kind, .string Q.op.row, .string Q.op.hi, .bool Q.op.cd.has, .bool Q.op.cd.want, .string Q.op.cd.col, .int .i64 Q.op.cd.v.kind, .slice ca' cn' cc', .float .f64 Q.op.cd.v.n, .slice la' ln' lc', .int .i64 Q.op.most, .string Q.lo, .string Q.hi, .int .i64 Q.gen, .string Q.at', .int .i64 Q.to, .int .i64 Q.act, .slice sa' sn' sc'] 36)
  have mB : Moves [] v1 (v1.alloc (.cells #[.int .i64 Q.kind, .int .i64 Q.op.kind, .string Q.op.row, .string Q.op.hi, .bool Q.op.cd.has, .bool Q.op.cd.want, .string Q.op.cd.col, .int .i64 Q.op.cd.v.kind, .slice ca' cn' cc', .float .f64 Q.op.cd.v.n, .slice la' ln' lc', .int .i64 Q.op.most, .string Q.lo, .string Q.hi, .int .i64 Q.gen, .string Q.at', .int .i64 Q.to, .int .i64 Q.act, .slice sa' sn' sc'] 36)) := (Moves.refl _ _).alloc _
  obtain ⟨v2, hv2⟩ : ∃ v2, v1.alloc (.cells #[.int .i64 Q.kind, .int .i64 Q.op.kind, .string Q.op.row, .string Q.op.hi, .bool Q.op.cd.has, .bool Q.op.cd.want, .string Q.op.cd.col, .int .i64 Q.op.cd.v.kind, .slice ca' cn' cc', .float .f64 Q.op.cd.v.n, .slice la' ln' lc', .int .i64 Q.op.most, .string Q.lo, .string Q.hi, .int .i64 Q.gen, .string Q.at', .int .i64 Q.to, .int .i64 Q.act, .slice sa' sn' sc'] 36) = v2 := ⟨_, rfl⟩
  rw [hv2] at hB mB
  rw [s1] at hB
  replace hA := mB.at hA (by simp)
  obtain ⟨D, hD⟩ : ∃ D, w.heap.size = D := ⟨_, rfl⟩
  rw [hD] at hA hB
  obtain ⟨E, hE⟩ : ∃ E, D + 1 = E := ⟨_, rfl⟩
  rw [hE] at hB
  have HRA : Hid (v2.rangeAt D 1 [.int .i64 P.op.kind, .string P.op.row, .string P.op.hi, .bool P.op.cd.has, .bool P.op.cd.want, .string P.op.cd.col, .int .i64 P.op.cd.v.kind, .slice ca cn cc, .float .f64 P.op.cd.v.n, .slice la ln lc, .int .i64 P.op.most]) := by
    intro j u hj
    have := (show v2.rangeAt D 1 ([.int .i64 P.op.kind, .string P.op.row, .string P.op.hi, .bool P.op.cd.has, .bool P.op.cd.want, .string P.op.cd.col, .int .i64 P.op.cd.v.kind, .slice ca cn cc, .float .f64 P.op.cd.v.n, .slice la ln lc, .int .i64 P.op.most] ++ [.string P.lo, .string P.hi, .int .i64 P.gen, .string P.at', .int .i64 P.to, .int .i64 P.act, .slice sa sn sc]) from range_tail8 (xs := [.int .i64 P.kind]) hA) j u (by rw [List.getElem?_append_left (List.getElem?_eq_some_iff.1 hj).1]; exact hj)
    exact this
  have HRB : Hid (v2.rangeAt E 1 [.int .i64 Q.op.kind, .string Q.op.row, .string Q.op.hi, .bool Q.op.cd.has, .bool Q.op.cd.want, .string Q.op.cd.col, .int .i64 Q.op.cd.v.kind, .slice ca' cn' cc', .float .f64 Q.op.cd.v.n, .slice la' ln' lc', .int .i64 Q.op.most]) := by
    intro j u hj
    have := (show v2.rangeAt E 1 ([.int .i64 Q.op.kind, .string Q.op.row, .string Q.op.hi, .bool Q.op.cd.has, .bool Q.op.cd.want, .string Q.op.cd.col, .int .i64 Q.op.cd.v.kind, .slice ca' cn' cc', .float .f64 Q.op.cd.v.n, .slice la' ln' lc', .int .i64 Q.op.most] ++ [.string Q.lo, .string Q.hi, .int .i64 Q.gen, .string Q.at', .int .i64 Q.to, .int .i64 Q.act, .slice sa' sn' sc']) from range_tail8 (xs := [.int .i64 Q.kind]) hB) j u (by rw [List.getElem?_append_left (List.getElem?_eq_some_iff.1 hj).1]; exact hj)
    exact this
  obtain ⟨b0, b1, b2, b3, b4, b5, b6, b7, b8, b9, b10, b11, b12, b13, b14, b15, b16, b17, b18⟩ := c19 hA
  obtain ⟨e0, e1, e2, e3, e4, e5, e6, e7, e8, e9, e10, e11, e12, e13, e14, e15, e16, e17, e18⟩ := c19 hB
  have HMB : Hid (Moves [] w v2) := mA.then mB
  have HM1 : Hid (Moves [] W v2) := m.then (mA.then mB)
  have r1 := run_str (hS.moves (m.then (mA.then mB)) (by simp)) hz
  have r2 := run_str (hS'.moves (m.then (mA.then mB)) (by simp)) hz'
  have hsp := span_same P.lo P.hi
  obtain ⟨q0, q1, q2, q3, q5, q8, q9⟩ := hr
  rw [q0] at e0
  clear q0
  have HS : Hid _ := hS
  clear hA hB mA mB m hV hL hln hV' hL' hln' hS hS' hz hz'
  have hk : P.kind = 1 ∨ P.kind = 2 ∨ P.kind = 3 ∨ P.kind = 4 ∨ P.kind = 5 ∨ P.kind = 6 ∨ P.kind = 7 ∨ P.kind = 8 ∨ P.kind = 9 ∨ (P.kind ≠ 1 ∧ P.kind ≠ 2 ∧ P.kind ≠ 3 ∧ P.kind ≠ 4 ∧ P.kind ≠ 5 ∧ P.kind ≠ 6 ∧ P.kind ≠ 7 ∧ P.kind ≠ 8 ∧ P.kind ≠ 9) := by omega
  rcases hk with hk | hk | hk | hk | hk | hk | hk | hk | hk | hk
  · -- 1
    have hop := rsameOp_w W v2 _ _ P.op Q.op HOP.out.1 HOP.out.2 HM1.out hl (q1 hk)
    clear HOP
    rw [hk] at b0 e0
    clear b1 b2 b3 b4 b5 b6 b7 b8 b9 b10 b11 b12 b13 b14 b15 b16 b17 b18 e1 e2 e3 e4 e5 e6 e7 e8 e9 e10 e11 e12 e13 e14 e15 e16 e17 e18 hk q1 q2 q3 q5 q8 q9 r1 r2 hsp
    go_enter Tryz.func18, Tryz.ntmps18
    go_wp2_with (with_reducible refine stopLdO _ rfl ?_)
    unfold Hid
    refine wpList_loadOpAt rfl _ rfl D 1 rfl _ HRA.out rfl ?_
    go_wp2_with (with_reducible refine stopLdO _ rfl ?_)
    unfold Hid
    refine wpList_loadOpAt rfl _ rfl E 1 rfl _ HRB.out rfl ?_
    go_wp2_with fail
    refine hop.mono ?_
    rintro _ w5 ⟨rfl, m5⟩
    have HM5 : Hid _ := m5
    clear m5
    go_wp2_with fail
    go_ret
    exact ⟨rfl, HMB.out.then HM5.out⟩
  · -- 2
    obtain ⟨y1, y2, y3⟩ := q2 (by omega)
    rw [y1] at e12
    rw [y2] at e13
    rw [y3] at e14
    clear y1 y2 y3
    clear HRA HRB HOP
    rw [hk] at b0 e0
    clear b1 b2 b3 b4 b5 b6 b7 b8 b9 b10 b11 b15 b16 b17 b18 e1 e2 e3 e4 e5 e6 e7 e8 e9 e10 e11 e15 e16 e17 e18 hk q1 q2 q3 q5 q8 q9 r1 r2
    go_enter Tryz.func18, Tryz.ntmps18
    go_wp2_with fail
    try rw [hv1]
    try rw [s1]
    try rw [hv2]
    try rw [hD]
    try rw [hE]
    go_wp2_with fail
    go_ret
    exact ⟨by simp, HMB.out⟩
  · -- 3
    obtain ⟨y1, y2, y3⟩ := q2 (by omega)
    rw [y1] at e12
    rw [y2] at e13
    rw [y3] at e14
    clear y1 y2 y3
    have ys := q3 hk
    rw [ys] at r2
    clear ys
    clear HRA HRB HOP
    rw [hk] at b0 e0
    clear b1 b2 b3 b4 b5 b6 b7 b8 b9 b10 b11 b15 b16 b17 e1 e2 e3 e4 e5 e6 e7 e8 e9 e10 e11 e15 e16 e17 hk q1 q2 q3 q5 q8 q9 
    go_enter Tryz.func18, Tryz.ntmps18
    go_wp2_with fail
    try rw [hv1]
    try rw [s1]
    try rw [hv2]
    try rw [hD]
    try rw [hE]
    go_wp2_with fail
    go_ret
    exact ⟨by simp, HMB.out⟩
  · -- 4
    obtain ⟨y1, y2, y3⟩ := q2 (by omega)
    rw [y1] at e12
    rw [y2] at e13
    rw [y3] at e14
    clear y1 y2 y3
    clear HRA HRB HOP
    rw [hk] at b0 e0
    clear b1 b2 b3 b4 b5 b6 b7 b8 b9 b10 b11 b15 b16 b17 b18 e1 e2 e3 e4 e5 e6 e7 e8 e9 e10 e11 e15 e16 e17 e18 hk q1 q2 q3 q5 q8 q9 r1 r2
    go_enter Tryz.func18, Tryz.ntmps18
    go_wp2_with fail
    try rw [hv1]
    try rw [s1]
    try rw [hv2]
    try rw [hD]
    try rw [hE]
    go_wp2_with fail
    go_ret
    exact ⟨by simp, HMB.out⟩
  · -- 5
    obtain ⟨y1, y2, y3⟩ := q2 (by omega)
    rw [y1] at e12
    rw [y2] at e13
    rw [y3] at e14
    clear y1 y2 y3
    have ya := q5 (by omega)
    rw [ya] at e15
    clear ya
    clear HRA HRB HOP
    rw [hk] at b0 e0
    clear b1 b2 b3 b4 b5 b6 b7 b8 b9 b10 b11 b16 b17 b18 e1 e2 e3 e4 e5 e6 e7 e8 e9 e10 e11 e16 e17 e18 hk q1 q2 q3 q5 q8 q9 r1 r2
    go_enter Tryz.func18, Tryz.ntmps18
    go_wp2_with fail
    try rw [hv1]
    try rw [s1]
    try rw [hv2]
    try rw [hD]
    try rw [hE]
    go_wp2_with fail
    go_ret
    exact ⟨by simp, HMB.out⟩
  · -- 6
    obtain ⟨y1, y2, y3⟩ := q2 (by omega)
    rw [y1] at e12
    rw [y2] at e13
    rw [y3] at e14
    clear y1 y2 y3
    have ya := q5 (by omega)
    rw [ya] at e15
    clear ya
    clear HRA HRB HOP
    rw [hk] at b0 e0
    clear b1 b2 b3 b4 b5 b6 b7 b8 b9 b10 b11 b16 b17 b18 e1 e2 e3 e4 e5 e6 e7 e8 e9 e10 e11 e16 e17 e18 hk q1 q2 q3 q5 q8 q9 r1 r2
    go_enter Tryz.func18, Tryz.ntmps18
    go_wp2_with fail
    try rw [hv1]
    try rw [s1]
    try rw [hv2]
    try rw [hD]
    try rw [hE]
    go_wp2_with fail
    go_ret
    exact ⟨by simp, HMB.out⟩
  · -- 7
    have ya := q5 (by omega)
    rw [ya] at e15
    clear ya
    clear HRA HRB HOP
    rw [hk] at b0 e0
    clear b1 b2 b3 b4 b5 b6 b7 b8 b9 b10 b11 b12 b13 b14 b16 b17 b18 e1 e2 e3 e4 e5 e6 e7 e8 e9 e10 e11 e12 e13 e14 e16 e17 e18 hk q1 q2 q3 q5 q8 q9 r1 r2 hsp
    go_enter Tryz.func18, Tryz.ntmps18
    go_wp2_with fail
    try rw [hv1]
    try rw [s1]
    try rw [hv2]
    try rw [hD]
    try rw [hE]
    go_wp2_with fail
    go_ret
    exact ⟨by simp, HMB.out⟩
  · -- 8
    obtain ⟨ya, yb⟩ := q8 hk
    rw [ya] at e17
    clear HRA HRB HOP
    rw [hk] at b0 e0
    by_cases ha : P.act = 0
    · rw [ha] at b17 e17
      clear b1 b2 b3 b4 b5 b6 b7 b8 b9 b10 b11 b12 b13 b14 b15 b16 b18 e1 e2 e3 e4 e5 e6 e7 e8 e9 e10 e11 e12 e13 e14 e15 e16 e18 hk q1 q2 q3 q5 q8 q9 r1 r2 hsp ya yb ha
      go_enter Tryz.func18, Tryz.ntmps18
      go_wp2_with fail
      try rw [hv1]
      try rw [s1]
      try rw [hv2]
      try rw [hD]
      try rw [hE]
      go_wp2_with fail
      go_ret
      exact ⟨by simp, HMB.out⟩
    · obtain ⟨yc, yd⟩ := yb ha
      rw [yc] at e15
      rw [yd] at e16
      have ha2 : (P.act == 0) = false := beq_eq_false_iff_ne.2 ha
      clear b1 b2 b3 b4 b5 b6 b7 b8 b9 b10 b11 b12 b13 b14 b18 e1 e2 e3 e4 e5 e6 e7 e8 e9 e10 e11 e12 e13 e14 e18 hk q1 q2 q3 q5 q8 q9 r1 r2 hsp ya yb yc yd
      go_enter Tryz.func18, Tryz.ntmps18
      go_wp2_with fail
      try rw [hv1]
      try rw [s1]
      try rw [hv2]
      try rw [hD]
      try rw [hE]
      go_wp2_with fail
      go_ret
      exact ⟨by simp, HMB.out⟩
  · -- 9
    obtain ⟨ya, yb⟩ := q9 hk
    rw [ya] at e14
    rw [yb] at e16
    clear ya yb
    clear HRA HRB HOP
    rw [hk] at b0 e0
    clear b1 b2 b3 b4 b5 b6 b7 b8 b9 b10 b11 b12 b13 b15 b17 b18 e1 e2 e3 e4 e5 e6 e7 e8 e9 e10 e11 e12 e13 e15 e17 e18 hk q1 q2 q3 q5 q8 q9 r1 r2 hsp
    go_enter Tryz.func18, Tryz.ntmps18
    go_wp2_with fail
    try rw [hv1]
    try rw [s1]
    try rw [hv2]
    try rw [hD]
    try rw [hE]
    go_wp2_with fail
    go_ret
    exact ⟨by simp, HMB.out⟩
  · obtain ⟨h1, h2, h3, h4, h5, h6, h7, h8, h9⟩ := hk
    have n1 : (P.kind == 1) = false := beq_eq_false_iff_ne.2 h1
    have n2 : (P.kind == 2) = false := beq_eq_false_iff_ne.2 h2
    have n3 : (P.kind == 3) = false := beq_eq_false_iff_ne.2 h3
    have n4 : (P.kind == 4) = false := beq_eq_false_iff_ne.2 h4
    have n5 : (P.kind == 5) = false := beq_eq_false_iff_ne.2 h5
    have n6 : (P.kind == 6) = false := beq_eq_false_iff_ne.2 h6
    have n7 : (P.kind == 7) = false := beq_eq_false_iff_ne.2 h7
    have n8 : (P.kind == 8) = false := beq_eq_false_iff_ne.2 h8
    have n9 : (P.kind == 9) = false := beq_eq_false_iff_ne.2 h9
    clear HRA HRB HOP
    clear b1 b2 b3 b4 b5 b6 b7 b8 b9 b10 b11 b12 b13 b14 b15 b16 b17 b18 e1 e2 e3 e4 e5 e6 e7 e8 e9 e10 e11 e12 e13 e14 e15 e16 e17 e18 q1 q2 q3 q5 q8 q9 r1 r2 hsp
    go_enter Tryz.func18, Tryz.ntmps18
    go_wp2_with fail
    try rw [hv1]
    try rw [s1]
    try rw [hv2]
    try rw [hD]
    try rw [hE]
    go_wp2_with fail
    go_ret
    exact ⟨rfl, HMB.out⟩
end Go.Proofs.YtcamhlnkcoicpaaGreat
