/-
  Commands as plain data, how they lie in memory; may they be asked: cmd's Right and what it asks.
-/
import Derived.Test.YtcamhlnkcoicpaaGreatCTd5
import Derived.Test.YtcamhlnkcoicpaaGreatCB19
import Derived.Test.YtcamhlnkcoicpaaGreatCB09
import Derived.Deep.WholeRow
import Derived.Deep.MidRow
namespace Go.Proofs.YtcamhlnkcoicpaaGreat
open Go.RowKit

structure Pop where
  kind : Int
  row : ByteArray
  hi : ByteArray
  cd : Pcd
  l : List Pchg
  most : Int
structure Pcmd where
  kind : Int
  op : Pop
  lo : ByteArray
  hi : ByteArray
  gen : Int
  at' : ByteArray
  to : Int
  act : Int
  st : List Nat
/-- The cells of an operation. -/
def OpC (w : World) (c : List Value) (p : Pop) : Prop := ∃ ca cn cc la ln lc, c = [.int .i64 p.kind, .string p.row, .string p.hi, .bool p.cd.has, .bool p.cd.want, .string p.cd.col, .int .i64 p.cd.v.kind, .slice ca cn cc, .float .f64 p.cd.v.n, .slice la ln lc, .int .i64 p.most] ∧ VA w [.int .i64 p.cd.v.kind, .slice ca cn cc, .float .f64 p.cd.v.n] p.cd.v ∧ ChgsAt w la p.l ∧ ln = p.l.length
/-- The cells of a command. -/
def CmdC (w : World) (c : List Value) (p : Pcmd) : Prop := ∃ ca cn cc la ln lc sa sn sc gs, c = [.int .i64 p.kind, .int .i64 p.op.kind, .string p.op.row, .string p.op.hi, .bool p.op.cd.has, .bool p.op.cd.want, .string p.op.cd.col, .int .i64 p.op.cd.v.kind, .slice ca cn cc, .float .f64 p.op.cd.v.n, .slice la ln lc, .int .i64 p.op.most, .string p.lo, .string p.hi, .int .i64 p.gen, .string p.at', .int .i64 p.to, .int .i64 p.act, .slice sa sn sc] ∧ VA w [.int .i64 p.op.cd.v.kind, .slice ca cn cc, .float .f64 p.op.cd.v.n] p.op.cd.v ∧ ChgsAt w la p.op.l ∧ ln = p.op.l.length ∧ IsB w gs (.slice sa sn sc) p.st ∧ (∀ z ∈ p.st, z < 256)
theorem CmdC.moves {w w' : World} {c : List Value} {p : Pcmd} (h : CmdC w c p) (m : Moves [] w w') : CmdC w' c p := by
  obtain ⟨ca, cn, cc, la, ln, lc, sa, sn, sc, gs, e, h1, h2, h3, h4, h5⟩ := h
  exact ⟨ca, cn, cc, la, ln, lc, sa, sn, sc, gs, e, h1.moves m, h2.moves m, h3, h4.moves m (by simp), h5⟩
theorem Tryz.size36 : (Tryz.prog.info? 36).map (·.size) = some 19 := by kernel_rfl
theorem wpList_loadCmd {ops : Array Oper} {rest : List Oper} {op : Oper} {a : Act} {w : World} {Q : Exit → Act → World → Prop} (hgd : op.guard = none) (x : Operand) (ho : op.op = .load 36 x) (b : Nat) (hx : a.eval x = .pointer (some ⟨b, 0, none⟩)) (cs : Array Value) {t : TypeId} {fz : Nat × Nat} (hg : w.heap[b]? = some (.cells cs t fz)) (hn : cs.size = 19)
    (h : wpList Tryz.prog ops Q rest (a.put op.dst (.agg cs)) w) : wpList Tryz.prog ops Q (op :: rest) a w :=
  wpList_plain hgd fun _ hK => by
    have := run_loadVar_row (P := Tryz.prog) w b t 36 cs fz _ hg Tryz.underlying36 rfl (by rw [hn]; exact Tryz.size36)
    unfold Oper.wp execOp
    simp only [ho, hx, Instr.loadAt, Instr.sureAddr, Sem.run_bind, Sem.run_pure, Result.andThen_ok, this]
    exact hK _ _ h
theorem c19 {w : World} {p : Nat} {x0 x1 x2 x3 x4 x5 x6 x7 x8 x9 x10 x11 x12 x13 x14 x15 x16 x17 x18 : Value} {t : TypeId} (h : w.heap[p]? = some (.cells #[x0, x1, x2, x3, x4, x5, x6, x7, x8, x9, x10, x11, x12, x13, x14, x15, x16, x17, x18] t (0, 0))) : w.cell? ⟨p, 0, none⟩ = some x0 ∧ w.cell? ⟨p, 1, none⟩ = some x1 ∧ w.cell? ⟨p, 2, none⟩ = some x2 ∧ w.cell? ⟨p, 3, none⟩ = some x3 ∧ w.cell? ⟨p, 4, none⟩ = some x4 ∧ w.cell? ⟨p, 5, none⟩ = some x5 ∧ w.cell? ⟨p, 6, none⟩ = some x6 ∧ w.cell? ⟨p, 7, none⟩ = some x7 ∧ w.cell? ⟨p, 8, none⟩ = some x8 ∧ w.cell? ⟨p, 9, none⟩ = some x9 ∧ w.cell? ⟨p, 10, none⟩ = some x10 ∧ w.cell? ⟨p, 11, none⟩ = some x11 ∧ w.cell? ⟨p, 12, none⟩ = some x12 ∧ w.cell? ⟨p, 13, none⟩ = some x13 ∧ w.cell? ⟨p, 14, none⟩ = some x14 ∧ w.cell? ⟨p, 15, none⟩ = some x15 ∧ w.cell? ⟨p, 16, none⟩ = some x16 ∧ w.cell? ⟨p, 17, none⟩ = some x17 ∧ w.cell? ⟨p, 18, none⟩ = some x18 := by
  simp [World.cell?, h]
theorem c19z {w : World} {p : Nat} {x0 x1 x2 x3 x4 x5 x6 x7 x8 x9 x10 x11 x12 x13 x14 x15 x16 x17 x18 : Value} {t : TypeId} (h : w.heap[p]? = some (.cells #[x0, x1, x2, x3, x4, x5, x6, x7, x8, x9, x10, x11, x12, x13, x14, x15, x16, x17, x18] t (0, 0))) : ∀ i, w.frozen? ⟨p, i, none⟩ = false := by
  intro i
  simp [World.frozen?, h]

def rCd (c : Pcd) : Bool := !c.has || (pname c.col && (!c.want || pvr c.v))
def rCh (c : Pchg) : Bool := decide (cRight c = 0)
def rChs (l : List Pchg) : Bool := wi (l.length : Int) 1 8 && l.all rCh
def rOp (o : Pop) : Bool := if o.kind = 1 then pname o.row else if o.kind = 2 then (pname o.row && rCd o.cd) && rChs o.l else if o.kind = 3 then spR ⟨o.row, o.hi⟩ && wi o.most 1 16 else false
def rTab (p : Pcmd) : Bool := spR ⟨p.lo, p.hi⟩ && wi p.gen 1 1073741824
def rPlan (p : Pcmd) : Bool := decide (p.act = 0) || ((wi p.act 1 3 && rPlace p.at') && wi p.to 0 255)
def rPub (p : Pcmd) : Bool := wi p.gen 1 1073741824 && (decide (p.to = 0) || decide (p.to = -1))
/-- May it be asked? -/
def rCmd (p : Pcmd) : Bool := if p.kind = 1 then rOp p.op else if p.kind = 2 ∨ p.kind = 4 then rTab p else if p.kind = 3 then rTab p && decide (p.st.length ≤ 1048576) else if p.kind = 5 ∨ p.kind = 6 then rTab p && spC ⟨p.lo, p.hi⟩ p.at' else if p.kind = 7 then rPlace p.at' else if p.kind = 8 then rPlan p else if p.kind = 9 then rPub p else decide (p.kind = 10)

set_option maxRecDepth 100000 in
theorem crightGen_w (n : Int) (w : World) : Calls Tryz.prog 52 #[.int .i64 n] w fun e w' => e = .returned (.bool (wi n 1 1073741824)) ∧ w = w' := by
  have hq := cwithin_w n 1 1073741824 w
  obtain ⟨b, hb⟩ : ∃ b, wi n 1 1073741824 = b := ⟨_, rfl⟩
  rw [hb] at hq ⊢
  go_enter Tryz.func52, Tryz.ntmps52
  go_wp2_with fail
  refine hq.mono ?_
  rintro _ _ ⟨rfl, rfl⟩
  go_wp2_with fail
  go_ret
  exact ⟨rfl, rfl⟩
set_option maxRecDepth 100000 in
theorem cparts_w (lo hi t : ByteArray) (w : World) : Calls Tryz.prog 49 #[.agg #[.string lo, .string hi], .string t] w fun e w' => e = .returned (.bool (spC ⟨lo, hi⟩ t)) ∧ Moves [] w w' := by
  have ma : Moves [] w (w.alloc (.cells #[.string lo, .string hi] 34)) := (Moves.refl _ _).alloc _
  cases hc : spC ⟨lo, hi⟩ t with
  | true =>
    have hq := spSplit_yes lo hi t (w.alloc (.cells #[.string lo, .string hi] 34)) hc
    have HM : Hid _ := ma
    clear ma
    go_enter Tryz.func49, Tryz.ntmps49
    go_wp2_with fail
    refine hq.mono ?_
    rintro _ w2 ⟨rfl, m2⟩
    clear hq
    go_wp2_with fail
    go_ret
    exact ⟨rfl, ((HM.out.then m2).alloc _).alloc _⟩
  | false =>
    have hq := spSplit_no lo hi t (w.alloc (.cells #[.string lo, .string hi] 34)) hc
    have HM : Hid _ := ma
    clear ma
    go_enter Tryz.func49, Tryz.ntmps49
    go_wp2_with fail
    refine hq.mono ?_
    rintro _ w2 ⟨rfl, m2⟩
    clear hq
    go_wp2_with fail
    go_ret
    exact ⟨rfl, ((HM.out.then m2).alloc _).alloc _⟩
set_option maxRecDepth 100000 in
set_option maxHeartbeats 2000000 in
theorem crightCond_w (W w : World) (c : Pcd) (a : Option Addr) (n cap : Nat) (hv : VA W [.int .i64 c.v.kind, .slice a n cap, .float .f64 c.v.n] c.v) (m : Moves [] W w) :
    Calls Tryz.prog 68 #[.agg #[.bool c.has, .bool c.want, .string c.col, .int .i64 c.v.kind, .slice a n cap, .float .f64 c.v.n]] w fun e w' => e = .returned (.bool (rCd c)) ∧ Moves [] w w' := by
  obtain ⟨has, want, col, v⟩ := c
  have hA := heap_alloc_new w (.cells #[.bool has, .bool want, .string col, .int .i64 v.kind, .slice a n cap, .float .f64 v.n] 30)
  have mb : Moves [] w (w.alloc (.cells #[.bool has, .bool want, .string col, .int .i64 v.kind, .slice a n cap, .float .f64 v.n] 30)) := (Moves.refl _ _).alloc _
  obtain ⟨b0, b1, b2, b3, b4, b5⟩ := six_cells hA
  simp only at hv
  have hq := right4_w (w.alloc (.cells #[.bool has, .bool want, .string col, .int .i64 v.kind, .slice a n cap, .float .f64 v.n] 30)) _ v.kind a n cap v.n v (hv.moves (m.then mb)) (Moves.refl _ _)
  have HMB : Hid _ := mb
  unfold rCd
  simp only
  have hna := name_w col
  clear hA mb m hv
  cases has with
  | false =>
    go_enter Tryz.func68, Tryz.ntmps68
    go_wp2_with fail
    go_ret
    exact ⟨rfl, HMB.out⟩
  | true =>
    cases hn : pname col with
    | false =>
      rw [hn] at hna
      go_enter Tryz.func68, Tryz.ntmps68
      go_wp2_with (go_at_call 67; refine (hna _).mono ?_; rintro _ _ ⟨rfl, rfl⟩)
      go_ret
      exact ⟨rfl, HMB.out⟩
    | true =>
      rw [hn] at hna
      cases want with
      | false =>
        go_enter Tryz.func68, Tryz.ntmps68
        go_wp2_with (go_at_call 67; refine (hna _).mono ?_; rintro _ _ ⟨rfl, rfl⟩)
        go_ret
        exact ⟨rfl, HMB.out⟩
      | true =>
        obtain ⟨E, hE⟩ : ∃ E, pvr v = E := ⟨_, rfl⟩
        rw [hE] at hq ⊢
        go_enter Tryz.func68, Tryz.ntmps68
        go_wp2_with (first | (go_at_call 67; refine (hna _).mono ?_; rintro _ _ ⟨rfl, rfl⟩) | (go_at_call 118; refine hq.mono ?_; rintro _ w5 ⟨rfl, m5⟩))
        go_ret
        exact ⟨by cases E <;> rfl, HMB.out.then m5⟩
theorem chs_step {xs : List Pchg} {k : Nat} {x : Pchg} (h : xs[k]? = some x) : (xs.take (k + 1)).all rCh = ((xs.take k).all rCh && rCh x) := by
  rw [List.take_add_one, h]
  simp
theorem chs_no {xs : List Pchg} {k : Nat} {x : Pchg} (h : xs[k]? = some x) (hx : rCh x = false) : xs.all rCh = false := by
  rw [List.all_eq_false]
  exact ⟨x, List.mem_of_getElem? h, by rw [hx]; simp⟩
set_option maxRecDepth 100000 in
set_option maxHeartbeats 8000000 in
theorem crightChs_w (W w : World) (ad : Option Addr) (n cap : Nat) (xs : List Pchg) (h : ChgsAt W ad xs) (hn : n = xs.length) (m : Moves [] W w) :
    Calls Tryz.prog 69 #[.slice ad n cap] w fun e w' => e = .returned (.bool (rChs xs)) ∧ Moves [] w w' := by
  have HN : Hid (n = xs.length) := hn
  have HA : Hid (ChgsAt W ad xs) := h
  have HM : Hid (Moves [] W w) := m
  have hwi := cwithin_w (n : Int) 1 8 w
  unfold rChs
  rw [← hn]
  clear h m hn
  cases hw : wi (n : Int) 1 8 with
  | true =>
    rw [hw] at hwi
    rw [Bool.true_and]
    have hn8 : n ≤ 8 := by have := wi_iff.1 hw; omega
    clear hw
    go_enter Tryz.func69, Tryz.ntmps69
    go_wp2_with fail
    refine hwi.mono ?_
    rintro _ _ ⟨rfl, rfl⟩
    go_wp2_with fail
    go_loopw [11] (fun iv wr => ∃ k : Nat, k ≤ n ∧ iv = .int .i64 (k : Int) ∧ (xs.take k).all rCh = true ∧ Moves [] w wr) (fun iv _ => (n - intOf iv).toNat)
    case atStart => exact ⟨0, Nat.zero_le _, rfl, by simp, Moves.refl _ _⟩
    case round =>
      obtain ⟨k, hk, rfl, hall, mr⟩ := hrel
      have HALL : Hid ((xs.take k).all rCh = true) := hall
      clear hall
      by_cases hkn : k < n
      · have hkn' : (k : Int) < (n : Int) := by omega
        obtain ⟨x, hx⟩ : ∃ x, xs[k]? = some x := ⟨_, List.getElem?_eq_getElem (by have := HN.out; omega)⟩
        obtain ⟨g, off, a2, n2, c2, rfl, y0, y1, y2, y3, y4, y5, hV⟩ := HA.out k x hx
        have M := HM.out.then mr
        have z0 := M.cell y0
        have z1 := M.cell y1
        have z2 := M.cell y2
        have z3 := M.cell y3
        have z4 := M.cell y4
        have z5 := M.cell y5
        have HX : Hid (xs[k]? = some x) := hx
        have ma : Moves [] wr (wr.alloc (.cells #[.int .i64 x.kind, .string x.col, .int .i64 x.t, .int .i64 x.v.kind, .slice a2 n2 c2, .float .f64 x.v.n] 27)) := (Moves.refl [] wr).alloc _
        have hrt := cRight_w W (wr.alloc (.cells #[.int .i64 x.kind, .string x.col, .int .i64 x.t, .int .i64 x.v.kind, .slice a2 n2 c2, .float .f64 x.v.n] 27)) x a2 n2 c2 hV (M.then ma)
        obtain ⟨E, hE⟩ : ∃ E, cRight x = E := ⟨_, rfl⟩
        rw [hE] at hrt
        clear y0 y1 y2 y3 y4 y5 hx hV M
        by_cases hE0 : E = 0
        · have HF : Hid ((xs.take (k + 1)).all rCh = true) := by
            unfold Hid
            rw [chs_step HX.out, HALL.out]
            unfold rCh
            rw [hE, hE0]
            rfl
          subst hE0
          go_wp2_with (go_at_call 119; refine hrt.mono ?_; rintro _ w5 ⟨rfl, m5⟩)
          go_roundw
          case rel => exact ⟨k + 1, by omega, by go_num, HF.out, (mr.then ma).then m5⟩
          case measure => simp [intOf]; omega
        · have HF : Hid (xs.all rCh = false) := chs_no HX.out (by unfold rCh; rw [hE]; exact decide_eq_false hE0)
          go_wp2_with (go_at_call 119; refine hrt.mono ?_; rintro _ w5 ⟨rfl, m5⟩)
          go_ret
          exact ⟨by rw [HF.out]; rfl, (mr.then ma).then m5⟩
      · have hkn' : ¬ (k : Int) < (n : Int) := by omega
        have HF : Hid (xs.all rCh = true) := by
          have e : xs.take k = xs := List.take_of_length_le (by have := HN.out; omega)
          have := HALL.out
          rw [e] at this
          exact this
        go_wp2_with fail
        go_ret
        exact ⟨by rw [HF.out]; rfl, mr⟩
  | false =>
    rw [hw] at hwi
    rw [Bool.false_and]
    go_enter Tryz.func69, Tryz.ntmps69
    go_wp2_with fail
    refine hwi.mono ?_
    rintro _ _ ⟨rfl, rfl⟩
    go_wp2_with fail
    go_ret
    exact ⟨rfl, Moves.refl _ _⟩
set_option maxRecDepth 100000 in
set_option maxHeartbeats 8000000 in
theorem crightOp_w (W w : World) (c : List Value) (p : Pop) (h : OpC W c p) (m : Moves [] W w) :
    Calls Tryz.prog 24 #[.agg c.toArray] w fun e w' => e = .returned (.bool (rOp p)) ∧ Moves [] w w' := by
  obtain ⟨ca, cn, cc, la, ln, lc, rfl, hV, hL, hln⟩ := h
  have hA := heap_alloc_new w (.cells #[.int .i64 p.kind, .string p.row, .string p.hi, .bool p.cd.has, .bool p.cd.want, .string p.cd.col, .int .i64 p.cd.v.kind, .slice ca cn cc, .float .f64 p.cd.v.n, .slice la ln lc, .int .i64 p.most] 32)
  have mb : Moves [] w (w.alloc (.cells #[.int .i64 p.kind, .string p.row, .string p.hi, .bool p.cd.has, .bool p.cd.want, .string p.cd.col, .int .i64 p.cd.v.kind, .slice ca cn cc, .float .f64 p.cd.v.n, .slice la ln lc, .int .i64 p.most] 32)) := (Moves.refl _ _).alloc _
  obtain ⟨b0, b1, b2, b3, b4, b5, b6, b7, b8, b9, b10⟩ := eleven_cells hA
  obtain ⟨B, hB⟩ : ∃ B, w.heap.size = B := ⟨_, rfl⟩
  rw [hB] at b0 b1 b2 b3 b4 b5 b6 b7 b8 b9 b10
  obtain ⟨v1, hv1⟩ : ∃ v1, w.alloc (.cells #[.int .i64 p.kind, .string p.row, .string p.hi, .bool p.cd.has, .bool p.cd.want, .string p.cd.col, .int .i64 p.cd.v.kind, .slice ca cn cc, .float .f64 p.cd.v.n, .slice la ln lc, .int .i64 p.most] 32) = v1 := ⟨_, rfl⟩
  rw [hv1] at b0 b1 b2 b3 b4 b5 b6 b7 b8 b9 b10 mb
  have HMB : Hid (Moves [] w v1) := mb
  have HM1 : Hid (Moves [] W v1) := m.then mb
  have HV : Hid _ := hV
  have HL : Hid _ := hL
  have HLN : Hid _ := hln
  have hna := name_w p.row
  clear hA mb m hV hL hln
  unfold rOp
  by_cases k1 : p.kind = 1
  · rw [if_pos k1]
    rw [k1] at b0 hv1 ⊢
    clear k1
    obtain ⟨E, hE⟩ : ∃ E, pname p.row = E := ⟨_, rfl⟩
    rw [hE] at hna ⊢
    go_enter Tryz.func24, Tryz.ntmps24
    go_wp2_with (go_at_call 67; refine (hna _).mono ?_; rintro _ _ ⟨rfl, rfl⟩)
    go_ret
    exact ⟨rfl, HMB.out⟩
  · rw [if_neg k1]
    by_cases k2 : p.kind = 2
    · rw [if_pos k2]
      rw [k2] at b0 hv1 ⊢
      clear k1 k2
      have hq := fun w1 (m1 : Moves [] W w1) => crightCond_w W w1 p.cd ca cn cc HV.out m1
      have hr := fun w1 (m1 : Moves [] W w1) => crightChs_w W w1 la ln lc p.l HL.out HLN.out m1
      cases hn : pname p.row with
      | false =>
        rw [hn] at hna
        go_enter Tryz.func24, Tryz.ntmps24
        go_wp2_with (go_at_call 67; refine (hna _).mono ?_; rintro _ _ ⟨rfl, rfl⟩)
        go_ret
        exact ⟨rfl, HMB.out⟩
      | true =>
        rw [hn] at hna
        cases hc : rCd p.cd with
        | false =>
          rw [hc] at hq
          go_enter Tryz.func24, Tryz.ntmps24
          go_wp2_with (first | (go_at_call 67; refine (hna _).mono ?_; rintro _ _ ⟨rfl, rfl⟩) | (go_at_call 68; refine (hq _ HM1.out).mono ?_; rintro _ w5 ⟨rfl, m5⟩))
          go_ret
          exact ⟨rfl, HMB.out.then m5⟩
        | true =>
          rw [hc] at hq
          obtain ⟨E, hE⟩ : ∃ E, rChs p.l = E := ⟨_, rfl⟩
          rw [hE] at hr ⊢
          go_enter Tryz.func24, Tryz.ntmps24
          go_wp2_with (first | (go_at_call 67; refine (hna _).mono ?_; rintro _ _ ⟨rfl, rfl⟩) | (go_at_call 68; refine (hq _ HM1.out).mono ?_; rintro _ w5 ⟨rfl, m5⟩; have e9 := m5.cell b9; have HM5 : Hid _ := m5) | (go_at_call 69; refine (hr _ (HM1.out.then HM5.out)).mono ?_; rintro _ w6 ⟨rfl, m6⟩))
          go_ret
          exact ⟨by cases E <;> rfl, (HMB.out.then HM5.out).then m6⟩
    · rw [if_neg k2]
      by_cases k3 : p.kind = 3
      · rw [if_pos k3]
        rw [k3] at b0 hv1 ⊢
        clear k1 k2 k3
        have hs := spRight_w p.row p.hi v1
        have hwi := cwithin_w p.most 1 16
        cases hsp : spR ⟨p.row, p.hi⟩ with
        | false =>
          rw [hsp] at hs
          go_enter Tryz.func24, Tryz.ntmps24
          go_wp2_with (go_at_call 70; refine hs.mono ?_; rintro _ w5 ⟨rfl, m5⟩)
          go_ret
          exact ⟨rfl, HMB.out.then m5⟩
        | true =>
          rw [hsp] at hs
          obtain ⟨E, hE⟩ : ∃ E, wi p.most 1 16 = E := ⟨_, rfl⟩
          rw [hE] at hwi ⊢
          go_enter Tryz.func24, Tryz.ntmps24
          go_wp2_with (first | (go_at_call 70; refine hs.mono ?_; rintro _ w5 ⟨rfl, m5⟩; have e10 := m5.cell b10; have HM5 : Hid _ := m5) | (go_at_call 51; refine (hwi _).mono ?_; rintro _ _ ⟨rfl, rfl⟩))
          go_ret
          exact ⟨by cases E <;> rfl, HMB.out.then HM5.out⟩
      · rw [if_neg k3]
        go_enter Tryz.func24, Tryz.ntmps24
        go_wp2_with fail
        go_ret
        exact ⟨rfl, HMB.out⟩

set_option maxRecDepth 100000 in
set_option maxHeartbeats 8000000 in
theorem crightTab_w (W w : World) (c : List Value) (p : Pcmd) (h : CmdC W c p) (m : Moves [] W w) :
    Calls Tryz.prog 48 #[.agg c.toArray] w fun e w' => e = .returned (.bool (rTab p)) ∧ Moves [] w w' := by
  obtain ⟨ca, cn, cc, la, ln, lc, sa, sn, sc, gs, rfl, hV, hL, hln, hS, hz⟩ := h
  have hA := heap_alloc_new w (.cells #[.int .i64 p.kind, .int .i64 p.op.kind, .string p.op.row, .string p.op.hi, .bool p.op.cd.has, .bool p.op.cd.want, .string p.op.cd.col, .int .i64 p.op.cd.v.kind, .slice ca cn cc, .float .f64 p.op.cd.v.n, .slice la ln lc, .int .i64 p.op.most, .string p.lo, .string p.hi, .int .i64 p.gen, .string p.at', .int .i64 p.to, .int .i64 p.act, .slice sa sn sc] 36)
  have mb : Moves [] w (w.alloc (.cells #[.int .i64 p.kind, .int .i64 p.op.kind, .string p.op.row, .string p.op.hi, .bool p.op.cd.has, .bool p.op.cd.want, .string p.op.cd.col, .int .i64 p.op.cd.v.kind, .slice ca cn cc, .float .f64 p.op.cd.v.n, .slice la ln lc, .int .i64 p.op.most, .string p.lo, .string p.hi, .int .i64 p.gen, .string p.at', .int .i64 p.to, .int .i64 p.act, .slice sa sn sc] 36)) := (Moves.refl _ _).alloc _
  obtain ⟨b0, b1, b2, b3, b4, b5, b6, b7, b8, b9, b10, b11, b12, b13, b14, b15, b16, b17, b18⟩ := c19 hA
  obtain ⟨B, hB⟩ : ∃ B, w.heap.size = B := ⟨_, rfl⟩
  rw [hB] at b0 b1 b2 b3 b4 b5 b6 b7 b8 b9 b10 b11 b12 b13 b14 b15 b16 b17 b18
  obtain ⟨v1, hv1⟩ : ∃ v1, w.alloc (.cells #[.int .i64 p.kind, .int .i64 p.op.kind, .string p.op.row, .string p.op.hi, .bool p.op.cd.has, .bool p.op.cd.want, .string p.op.cd.col, .int .i64 p.op.cd.v.kind, .slice ca cn cc, .float .f64 p.op.cd.v.n, .slice la ln lc, .int .i64 p.op.most, .string p.lo, .string p.hi, .int .i64 p.gen, .string p.at', .int .i64 p.to, .int .i64 p.act, .slice sa sn sc] 36) = v1 := ⟨_, rfl⟩
  rw [hv1] at b0 b1 b2 b3 b4 b5 b6 b7 b8 b9 b10 b11 b12 b13 b14 b15 b16 b17 b18 mb
  have HMB : Hid (Moves [] w v1) := mb
  have HM1 : Hid (Moves [] W v1) := m.then mb
  rw [hB, hv1] at hA
  have hs := spRight_w p.lo p.hi v1
  have hgn := crightGen_w p.gen
  clear hA mb m hV hL hln hS hz b0 b1 b2 b3 b4 b5 b6 b7 b8 b9 b10 b11 b15 b16 b17 b18
  unfold rTab
  cases hsp : spR ⟨p.lo, p.hi⟩ with
  | false =>
    rw [hsp] at hs
    go_enter Tryz.func48, Tryz.ntmps48
    go_wp2_with (go_at_call 70; refine hs.mono ?_; rintro _ w5 ⟨rfl, m5⟩)
    go_ret
    exact ⟨rfl, HMB.out.then m5⟩
  | true =>
    rw [hsp] at hs
    obtain ⟨E, hE⟩ : ∃ E, wi p.gen 1 1073741824 = E := ⟨_, rfl⟩
    rw [hE] at hgn ⊢
    go_enter Tryz.func48, Tryz.ntmps48
    go_wp2_with (first | (go_at_call 70; refine hs.mono ?_; rintro _ w5 ⟨rfl, m5⟩; have e14 := m5.cell b14; have HM5 : Hid _ := m5) | (go_at_call 52; refine (hgn _).mono ?_; rintro _ _ ⟨rfl, rfl⟩))
    go_ret
    exact ⟨by cases E <;> rfl, HMB.out.then HM5.out⟩
set_option maxRecDepth 100000 in
set_option maxHeartbeats 16000000 in
theorem cright_w (W w : World) (c : List Value) (p : Pcmd) (h : CmdC W c p) (m : Moves [] W w) :
    Calls Tryz.prog 15 #[.agg c.toArray] w fun e w' => e = .returned (.bool (rCmd p)) ∧ Moves [] w w' := by
  have HC : Hid (CmdC W c p) := h
  obtain ⟨ca, cn, cc, la, ln, lc, sa, sn, sc, gs, rfl, hV, hL, hln, hS, hz⟩ := h
  have hA := heap_alloc_new w (.cells #[.int .i64 p.kind, .int .i64 p.op.kind, .string p.op.row, .string p.op.hi, .bool p.op.cd.has, .bool p.op.cd.want, .string p.op.cd.col, .int .i64 p.op.cd.v.kind, .slice ca cn cc, .float .f64 p.op.cd.v.n, .slice la ln lc, .int .i64 p.op.most, .string p.lo, .string p.hi, .int .i64 p.gen, .string p.at', .int .i64 p.to, .int .i64 p.act, .slice sa sn sc] 36)
  have mb : Moves [] w (w.alloc (.cells #[.int .i64 p.kind, .int .i64 p.op.kind, .string p.op.row, .string p.op.hi, .bool p.op.cd.has, .bool p.op.cd.want, .string p.op.cd.col, .int .i64 p.op.cd.v.kind, .slice ca cn cc, .float .f64 p.op.cd.v.n, .slice la ln lc, .int .i64 p.op.most, .string p.lo, .string p.hi, .int .i64 p.gen, .string p.at', .int .i64 p.to, .int .i64 p.act, .slice sa sn sc] 36)) := (Moves.refl _ _).alloc _
  obtain ⟨b0, b1, b2, b3, b4, b5, b6, b7, b8, b9, b10, b11, b12, b13, b14, b15, b16, b17, b18⟩ := c19 hA
  obtain ⟨B, hB⟩ : ∃ B, w.heap.size = B := ⟨_, rfl⟩
  rw [hB] at b0 b1 b2 b3 b4 b5 b6 b7 b8 b9 b10 b11 b12 b13 b14 b15 b16 b17 b18
  obtain ⟨v1, hv1⟩ : ∃ v1, w.alloc (.cells #[.int .i64 p.kind, .int .i64 p.op.kind, .string p.op.row, .string p.op.hi, .bool p.op.cd.has, .bool p.op.cd.want, .string p.op.cd.col, .int .i64 p.op.cd.v.kind, .slice ca cn cc, .float .f64 p.op.cd.v.n, .slice la ln lc, .int .i64 p.op.most, .string p.lo, .string p.hi, .int .i64 p.gen, .string p.at', .int .i64 p.to, .int .i64 p.act, .slice sa sn sc] 36) = v1 := ⟨_, rfl⟩
  rw [hv1] at b0 b1 b2 b3 b4 b5 b6 b7 b8 b9 b10 b11 b12 b13 b14 b15 b16 b17 b18 mb
  have HMB : Hid (Moves [] w v1) := mb
  have HM1 : Hid (Moves [] W v1) := m.then mb
  rw [hB, hv1] at hA
  have hop := crightOp_w W v1 [.int .i64 p.op.kind, .string p.op.row, .string p.op.hi, .bool p.op.cd.has, .bool p.op.cd.want, .string p.op.cd.col, .int .i64 p.op.cd.v.kind, .slice ca cn cc, .float .f64 p.op.cd.v.n, .slice la ln lc, .int .i64 p.op.most] p.op ⟨ca, cn, cc, la, ln, lc, rfl, hV, hL, hln⟩ HM1.out
  have htb := crightTab_w W v1 [.int .i64 p.kind, .int .i64 p.op.kind, .string p.op.row, .string p.op.hi, .bool p.op.cd.has, .bool p.op.cd.want, .string p.op.cd.col, .int .i64 p.op.cd.v.kind, .slice ca cn cc, .float .f64 p.op.cd.v.n, .slice la ln lc, .int .i64 p.op.most, .string p.lo, .string p.hi, .int .i64 p.gen, .string p.at', .int .i64 p.to, .int .i64 p.act, .slice sa sn sc] p HC.out HM1.out
  have hpl := cplace_w p.at'
  have hgn := crightGen_w p.gen
  have hsn : sn = p.st.length := by obtain ⟨_, _, _, e, e2, _⟩ := hS; simp at e; omega
  have hpt := fun w1 => cparts_w p.lo p.hi p.at' w1
  have HSN : Hid (sn = p.st.length) := hsn
  have HA : Hid _ := hA
  clear hA mb m hV hL hln hS hz HC hsn
  unfold rCmd
  by_cases k1 : p.kind = 1
  · rw [if_pos k1]
    rw [k1] at b0 hv1 htb HA ⊢
    clear k1
    obtain ⟨E, hE⟩ : ∃ E, rOp p.op = E := ⟨_, rfl⟩
    rw [hE] at hop ⊢
    go_enter Tryz.func15, Tryz.ntmps15
    go_wp2_with fail
    refine hop.mono ?_
    rintro _ w5 ⟨rfl, m5⟩
    have HM5 : Hid _ := m5
    clear m5
    go_wp2_with fail
    go_ret
    exact ⟨rfl, HMB.out.then HM5.out⟩
  · rw [if_neg k1]
    by_cases k24 : p.kind = 2 ∨ p.kind = 4
    · rw [if_pos k24]
      obtain ⟨E, hE⟩ : ∃ E, rTab p = E := ⟨_, rfl⟩
      rw [hE] at htb ⊢
      rcases k24 with k24 | k24
      · skip
        rw [k24] at b0 hv1 htb HA ⊢
        clear k1 k24
        go_enter Tryz.func15, Tryz.ntmps15
        go_wp2_with (refine wpList_loadCmd rfl _ rfl B rfl _ HA.out rfl ?_)
        refine htb.mono ?_
        rintro _ w5 ⟨rfl, m5⟩
        have HM5 : Hid _ := m5
        clear m5
        go_wp2_with fail
        go_ret
        exact ⟨rfl, HMB.out.then HM5.out⟩
      · skip
        rw [k24] at b0 hv1 htb HA ⊢
        clear k1 k24
        go_enter Tryz.func15, Tryz.ntmps15
        go_wp2_with (refine wpList_loadCmd rfl _ rfl B rfl _ HA.out rfl ?_)
        refine htb.mono ?_
        rintro _ w5 ⟨rfl, m5⟩
        have HM5 : Hid _ := m5
        clear m5
        go_wp2_with fail
        go_ret
        exact ⟨rfl, HMB.out.then HM5.out⟩
    · rw [if_neg k24]
      have k2 : ¬ p.kind = 2 := fun e => k24 (.inl e)
      have k4 : ¬ p.kind = 4 := fun e => k24 (.inr e)
      clear k24
      by_cases k3 : p.kind = 3
      · rw [if_pos k3]
        rw [k3] at b0 hv1 htb HA ⊢
        clear k1 k2 k4 k3
        cases hT : rTab p with
        | false =>
          rw [hT] at htb
          go_enter Tryz.func15, Tryz.ntmps15
          go_wp2_with (refine wpList_loadCmd rfl _ rfl B rfl _ HA.out rfl ?_)
          refine htb.mono ?_
          rintro _ w5 ⟨rfl, m5⟩
          have HM5 : Hid _ := m5
          clear m5
          go_wp2_with fail
          go_ret
          exact ⟨rfl, HMB.out.then HM5.out⟩
        | true =>
          rw [hT] at htb
          have hle : decide (p.st.length ≤ 1048576) = decide ((sn : Int) ≤ 1048576) := by rw [HSN.out]; simp; omega
          rw [hle]
          go_enter Tryz.func15, Tryz.ntmps15
          go_wp2_with (refine wpList_loadCmd rfl _ rfl B rfl _ HA.out rfl ?_)
          refine htb.mono ?_
          rintro _ w5 ⟨rfl, m5⟩
          have e18 := m5.cell b18
          have HM5 : Hid _ := m5
          clear m5
          go_wp2_with fail
          go_ret
          exact ⟨by simp, HMB.out.then HM5.out⟩
      · rw [if_neg k3]
        by_cases k56 : p.kind = 5 ∨ p.kind = 6
        · rw [if_pos k56]
          cases hT : rTab p with
          | false =>
            rw [hT] at htb
            rcases k56 with k56 | k56
            · skip
              rw [k56] at b0 hv1 htb HA ⊢
              clear k1 k2 k4 k3 k56
              go_enter Tryz.func15, Tryz.ntmps15
              go_wp2_with (refine wpList_loadCmd rfl _ rfl B rfl _ HA.out rfl ?_)
              refine htb.mono ?_
              rintro _ w5 ⟨rfl, m5⟩
              have HM5 : Hid _ := m5
              clear m5
              go_wp2_with fail
              go_ret
              exact ⟨rfl, HMB.out.then HM5.out⟩
            · skip
              rw [k56] at b0 hv1 htb HA ⊢
              clear k1 k2 k4 k3 k56
              go_enter Tryz.func15, Tryz.ntmps15
              go_wp2_with (refine wpList_loadCmd rfl _ rfl B rfl _ HA.out rfl ?_)
              refine htb.mono ?_
              rintro _ w5 ⟨rfl, m5⟩
              have HM5 : Hid _ := m5
              clear m5
              go_wp2_with fail
              go_ret
              exact ⟨rfl, HMB.out.then HM5.out⟩
          | true =>
            rw [hT] at htb
            obtain ⟨E, hE⟩ : ∃ E, spC ⟨p.lo, p.hi⟩ p.at' = E := ⟨_, rfl⟩
            rw [hE] at hpt ⊢
            rcases k56 with k56 | k56
            · skip
              rw [k56] at b0 hv1 htb HA ⊢
              clear k1 k2 k4 k3 k56
              go_enter Tryz.func15, Tryz.ntmps15
              go_wp2_with (refine wpList_loadCmd rfl _ rfl B rfl _ HA.out rfl ?_)
              refine htb.mono ?_
              rintro _ w5 ⟨rfl, m5⟩
              have e12 := m5.cell b12
              have e13 := m5.cell b13
              have e15 := m5.cell b15
              have HM5 : Hid _ := m5
              clear m5
              go_wp2_with fail
              refine (hpt _).mono ?_
              rintro _ w6 ⟨rfl, m6⟩
              have HM6 : Hid _ := m6
              clear m6
              go_wp2_with fail
              go_ret
              exact ⟨by cases E <;> rfl, (HMB.out.then HM5.out).then HM6.out⟩
            · skip
              rw [k56] at b0 hv1 htb HA ⊢
              clear k1 k2 k4 k3 k56
              go_enter Tryz.func15, Tryz.ntmps15
              go_wp2_with (refine wpList_loadCmd rfl _ rfl B rfl _ HA.out rfl ?_)
              refine htb.mono ?_
              rintro _ w5 ⟨rfl, m5⟩
              have e12 := m5.cell b12
              have e13 := m5.cell b13
              have e15 := m5.cell b15
              have HM5 : Hid _ := m5
              clear m5
              go_wp2_with fail
              refine (hpt _).mono ?_
              rintro _ w6 ⟨rfl, m6⟩
              have HM6 : Hid _ := m6
              clear m6
              go_wp2_with fail
              go_ret
              exact ⟨by cases E <;> rfl, (HMB.out.then HM5.out).then HM6.out⟩
        · rw [if_neg k56]
          have k5 : ¬ p.kind = 5 := fun e => k56 (.inl e)
          have k6 : ¬ p.kind = 6 := fun e => k56 (.inr e)
          clear k56
          by_cases k7 : p.kind = 7
          · rw [if_pos k7]
            rw [k7] at b0 hv1 htb HA ⊢
            clear k1 k2 k4 k3 k5 k6 k7
            obtain ⟨E, hE⟩ : ∃ E, rPlace p.at' = E := ⟨_, rfl⟩
            rw [hE] at hpl ⊢
            go_enter Tryz.func15, Tryz.ntmps15
            go_wp2_with fail
            refine (hpl _).mono ?_
            rintro _ _ ⟨rfl, rfl⟩
            go_wp2_with fail
            go_ret
            exact ⟨rfl, HMB.out⟩
          · rw [if_neg k7]
            by_cases k8 : p.kind = 8
            · rw [if_pos k8]
              rw [k8] at b0 hv1 htb HA ⊢
              clear k1 k2 k4 k3 k5 k6 k7 k8
              unfold rPlan
              have hw1 := cwithin_w p.act 1 3
              have hw2 := cwithin_w p.to 0 255
              by_cases ha : p.act = 0
              · rw [decide_eq_true ha]
                rw [ha] at b17 hv1 HA ⊢
                clear ha
                go_enter Tryz.func15, Tryz.ntmps15
                go_wp2_with fail
                go_ret
                exact ⟨rfl, HMB.out⟩
              · rw [decide_eq_false ha]
                have ha2 : (p.act == 0) = false := beq_eq_false_iff_ne.2 ha
                clear ha
                cases h1 : wi p.act 1 3 with
                | false =>
                  rw [h1] at hw1
                  go_enter Tryz.func15, Tryz.ntmps15
                  go_wp2_with fail
                  refine (hw1 _).mono ?_
                  rintro _ _ ⟨rfl, rfl⟩
                  go_wp2_with fail
                  go_ret
                  exact ⟨rfl, HMB.out⟩
                | true =>
                  rw [h1] at hw1
                  cases h2 : rPlace p.at' with
                  | false =>
                    rw [h2] at hpl
                    go_enter Tryz.func15, Tryz.ntmps15
                    go_wp2_with fail
                    refine (hw1 _).mono ?_
                    rintro _ _ ⟨rfl, rfl⟩
                    go_wp2_with fail
                    refine (hpl _).mono ?_
                    rintro _ _ ⟨rfl, rfl⟩
                    go_wp2_with fail
                    go_ret
                    exact ⟨rfl, HMB.out⟩
                  | true =>
                    rw [h2] at hpl
                    obtain ⟨E, hE⟩ : ∃ E, wi p.to 0 255 = E := ⟨_, rfl⟩
                    rw [hE] at hw2 ⊢
                    go_enter Tryz.func15, Tryz.ntmps15
                    go_wp2_with fail
                    refine (hw1 _).mono ?_
                    rintro _ _ ⟨rfl, rfl⟩
                    go_wp2_with fail
                    refine (hpl _).mono ?_
                    rintro _ _ ⟨rfl, rfl⟩
                    go_wp2_with fail
                    refine (hw2 _).mono ?_
                    rintro _ _ ⟨rfl, rfl⟩
                    go_wp2_with fail
                    go_ret
                    exact ⟨by cases E <;> rfl, HMB.out⟩
            · rw [if_neg k8]
              by_cases k9 : p.kind = 9
              · rw [if_pos k9]
                rw [k9] at b0 hv1 htb HA ⊢
                clear k1 k2 k4 k3 k5 k6 k7 k8 k9
                unfold rPub
                cases h1 : wi p.gen 1 1073741824 with
                | false =>
                  rw [h1] at hgn
                  go_enter Tryz.func15, Tryz.ntmps15
                  go_wp2_with fail
                  refine (hgn _).mono ?_
                  rintro _ _ ⟨rfl, rfl⟩
                  go_wp2_with fail
                  go_ret
                  exact ⟨rfl, HMB.out⟩
                | true =>
                  rw [h1] at hgn
                  by_cases ha : p.to = 0
                  · rw [decide_eq_true ha]
                    rw [ha] at b16 hv1 HA ⊢
                    clear ha
                    go_enter Tryz.func15, Tryz.ntmps15
                    go_wp2_with fail
                    refine (hgn _).mono ?_
                    rintro _ _ ⟨rfl, rfl⟩
                    go_wp2_with fail
                    go_ret
                    exact ⟨rfl, HMB.out⟩
                  · rw [decide_eq_false ha]
                    have ha2 : (p.to == 0) = false := beq_eq_false_iff_ne.2 ha
                    by_cases hb : p.to = -1
                    · rw [decide_eq_true hb]
                      rw [hb] at b16 hv1 HA ⊢
                      clear hb ha ha2
                      go_enter Tryz.func15, Tryz.ntmps15
                      go_wp2_with fail
                      refine (hgn _).mono ?_
                      rintro _ _ ⟨rfl, rfl⟩
                      go_wp2_with fail
                      go_ret
                      exact ⟨rfl, HMB.out⟩
                    · rw [decide_eq_false hb]
                      have hb2 : (p.to == -1) = false := beq_eq_false_iff_ne.2 hb
                      clear ha hb
                      go_enter Tryz.func15, Tryz.ntmps15
                      go_wp2_with fail
                      refine (hgn _).mono ?_
                      rintro _ _ ⟨rfl, rfl⟩
                      go_wp2_with fail
                      go_ret
                      exact ⟨rfl, HMB.out⟩
              · rw [if_neg k9]
                by_cases k10 : p.kind = 10
                · rw [decide_eq_true k10]
                  rw [k10] at b0 hv1 htb HA ⊢
                  clear k1 k2 k4 k3 k5 k6 k7 k8 k9 k10
                  go_enter Tryz.func15, Tryz.ntmps15
                  go_wp2_with fail
                  go_ret
                  exact ⟨rfl, HMB.out⟩
                · rw [decide_eq_false k10]
                  go_enter Tryz.func15, Tryz.ntmps15
                  go_wp2_with fail
                  go_ret
                  exact ⟨rfl, HMB.out⟩

end Go.Proofs.YtcamhlnkcoicpaaGreat
