/-
  cmd.take of any bytes.
-/
import Derived.Test.YtcamhlnkcoicpaaGreatCTo8
namespace Go.Proofs.YtcamhlnkcoicpaaGreat
open Go.RowKit

theorem wpList_storeCmd {ops : Array Oper} {rest : List Oper} {op : Oper} {a : Act} {w : World} {Q : Exit → Act → World → Prop} (hgd : op.guard = none) (x y : Operand) (ho : op.op = .store 36 x y) (b : Nat) (cells : Array Value) (hx : a.eval x = .pointer (some ⟨b, 0, none⟩)) (hy : a.eval y = .agg cells) {old : Array Value} {t : TypeId} (hg : w.heap[b]? = some (.cells old t (0, 0))) (hn : cells.size = 19) (hn2 : old.size = 19) (h1 : cells.all (·.oneCell') = true)
    (h : ∀ w', w'.heap[b]? = some (.cells cells t (0, 0)) → Moves [b] w w' → wpList Tryz.prog ops Q rest (a.put op.dst undef) w') : wpList Tryz.prog ops Q (op :: rest) a w :=
  wpList_plain hgd fun _ hK => by
    have := run_storeVar_row (P := Tryz.prog) w b t 36 old cells hg (by rw [hn]; exact Tryz.size36) (by rw [hn, hn2]) h1
    unfold Oper.wp execOp
    simp only [ho, hx, hy, Instr.storeAt, Instr.sureAddr, Sem.run_bind, Sem.run_pure, Result.andThen_ok, this]
    exact hK _ _ (h _ (setRow_heap w b old cells t (0, 0) hg) (moves_row _ _ _))
/-- The walk stands at such a store, at such a load. -/
theorem stopStore {ops : Array Oper} {rest : List Oper} {op : Oper} {a : Act} {w : World} {Q : Exit → Act → World → Prop} (x y : Operand) (_ : op.op = .store 36 x y) (h : Hid (wpList Tryz.prog ops Q (op :: rest) a w)) : wpList Tryz.prog ops Q (op :: rest) a w := h.out
theorem stopLoad {ops : Array Oper} {rest : List Oper} {op : Oper} {a : Act} {w : World} {Q : Exit → Act → World → Prop} (x : Operand) (_ : op.op = .load 36 x) (h : Hid (wpList Tryz.prog ops Q (op :: rest) a w)) : wpList Tryz.prog ops Q (op :: rest) a w := h.out
theorem ret_cmd {fn : Func} {p : Tmp} (h : fn.results = #[.cell p 36]) (tmps : Array Value) (w : World) (g : Nat) (cs : Array Value) (hn : cs.size = 19) (hp : tmps.getD p undef = .pointer (some ⟨g, 0, none⟩)) (hg : w.heap[g]? = some (.cells cs 36 (0, 0))) :
    (results fn tmps).run Tryz.prog w = .ok (.agg cs) w :=
  results_cell_row h tmps w g 36 _ (0, 0) _ hp hg Tryz.underlying36 rfl (by rw [hn]; exact Tryz.size36)

def opz : Pop := ⟨0, ⟨#[]⟩, ⟨#[]⟩, cdz, [], 0⟩
def cmdGuard (c : Pcmd) (bs : List Nat) : Option (Pcmd × List Nat) := if rCmd c then some (c, bs) else none
theorem cmdGuard_yes {c : Pcmd} (h : rCmd c = true) (bs : List Nat) : cmdGuard c bs = some (c, bs) := if_pos h
theorem cmdGuard_no {c : Pcmd} (h : rCmd c = false) (bs : List Nat) : cmdGuard c bs = none := by unfold cmdGuard; rw [h]; rfl
def dCmdK (k : Nat) : List Nat → Option (Pcmd × List Nat) :=
  if k = 1 then pbn dOp fun o => cmdGuard ⟨(k : Int), o, ⟨#[]⟩, ⟨#[]⟩, 0, ⟨#[]⟩, 0, 0, []⟩
  else if k = 2 ∨ k = 4 then pbn dTbl fun y => cmdGuard ⟨(k : Int), opz, y.1.lo, y.1.hi, (y.2 : Int), ⟨#[]⟩, 0, 0, []⟩
  else if k = 3 then pbn dTbl fun y => pbn (dText 1048576) fun st => cmdGuard ⟨(k : Int), opz, y.1.lo, y.1.hi, (y.2 : Int), ⟨#[]⟩, 0, 0, st⟩
  else if k = 5 ∨ k = 6 then pbn dTbl fun y => pbn (dText 16) fun tx => cmdGuard ⟨(k : Int), opz, y.1.lo, y.1.hi, (y.2 : Int), strOf tx, 0, 0, []⟩
  else if k = 7 then pbn (dText 16) fun tx => cmdGuard ⟨(k : Int), opz, ⟨#[]⟩, ⟨#[]⟩, 0, strOf tx, 0, 0, []⟩
  else if k = 8 then pbn dPlan fun y => cmdGuard ⟨(k : Int), opz, ⟨#[]⟩, ⟨#[]⟩, 0, y.2.1, (y.2.2 : Int), (y.1 : Int), []⟩
  else if k = 9 then pbn (dNum 4) fun n => pbn (dNum 1) fun to => cmdGuard ⟨(k : Int), opz, ⟨#[]⟩, ⟨#[]⟩, (n : Int), ⟨#[]⟩, -(to : Int), 0, []⟩
  else cmdGuard ⟨(k : Int), opz, ⟨#[]⟩, ⟨#[]⟩, 0, ⟨#[]⟩, 0, 0, []⟩
theorem dCmdK1 {k : Nat} (h : k = 1) : dCmdK k = pbn dOp fun o => cmdGuard ⟨(k : Int), o, ⟨#[]⟩, ⟨#[]⟩, 0, ⟨#[]⟩, 0, 0, []⟩ := if_pos h
theorem dCmdK2 {k : Nat} (h : k = 2 ∨ k = 4) : dCmdK k = pbn dTbl fun y => cmdGuard ⟨(k : Int), opz, y.1.lo, y.1.hi, (y.2 : Int), ⟨#[]⟩, 0, 0, []⟩ := by unfold dCmdK; rw [if_neg (by omega), if_pos h]
theorem dCmdK3 {k : Nat} (h : k = 3) : dCmdK k = pbn dTbl fun y => pbn (dText 1048576) fun st => cmdGuard ⟨(k : Int), opz, y.1.lo, y.1.hi, (y.2 : Int), ⟨#[]⟩, 0, 0, st⟩ := by unfold dCmdK; rw [if_neg (by omega), if_neg (by omega), if_pos h]
theorem dCmdK5 {k : Nat} (h : k = 5 ∨ k = 6) : dCmdK k = pbn dTbl fun y => pbn (dText 16) fun tx => cmdGuard ⟨(k : Int), opz, y.1.lo, y.1.hi, (y.2 : Int), strOf tx, 0, 0, []⟩ := by unfold dCmdK; rw [if_neg (by omega), if_neg (by omega), if_neg (by omega), if_pos h]
theorem dCmdK7 {k : Nat} (h : k = 7) : dCmdK k = pbn (dText 16) fun tx => cmdGuard ⟨(k : Int), opz, ⟨#[]⟩, ⟨#[]⟩, 0, strOf tx, 0, 0, []⟩ := by unfold dCmdK; rw [if_neg (by omega), if_neg (by omega), if_neg (by omega), if_neg (by omega), if_pos h]
theorem dCmdK8 {k : Nat} (h : k = 8) : dCmdK k = pbn dPlan fun y => cmdGuard ⟨(k : Int), opz, ⟨#[]⟩, ⟨#[]⟩, 0, y.2.1, (y.2.2 : Int), (y.1 : Int), []⟩ := by unfold dCmdK; rw [if_neg (by omega), if_neg (by omega), if_neg (by omega), if_neg (by omega), if_neg (by omega), if_pos h]
theorem dCmdK9 {k : Nat} (h : k = 9) : dCmdK k = pbn (dNum 4) fun n => pbn (dNum 1) fun to => cmdGuard ⟨(k : Int), opz, ⟨#[]⟩, ⟨#[]⟩, (n : Int), ⟨#[]⟩, -(to : Int), 0, []⟩ := by unfold dCmdK; rw [if_neg (by omega), if_neg (by omega), if_neg (by omega), if_neg (by omega), if_neg (by omega), if_neg (by omega), if_pos h]
theorem dCmdK0 {k : Nat} (h : ¬ (1 ≤ k ∧ k ≤ 9)) : dCmdK k = cmdGuard ⟨(k : Int), opz, ⟨#[]⟩, ⟨#[]⟩, 0, ⟨#[]⟩, 0, 0, []⟩ := by unfold dCmdK; rw [if_neg (by omega), if_neg (by omega), if_neg (by omega), if_neg (by omega), if_neg (by omega), if_neg (by omega), if_neg (by omega)]
/-- What cmd.take reads. -/
def dCmd : List Nat → Option (Pcmd × List Nat) := pbn (dNum 1) dCmdK
/-- A command in memory of one's own. -/
def CmdD (W w : World) (c : List Value) (p : Pcmd) : Prop := ∃ ca cn cc la ln lc sa sn sc gs, c = [.int .i64 p.kind, .int .i64 p.op.kind, .string p.op.row, .string p.op.hi, .bool p.op.cd.has, .bool p.op.cd.want, .string p.op.cd.col, .int .i64 p.op.cd.v.kind, .slice ca cn cc, .float .f64 p.op.cd.v.n, .slice la ln lc, .int .i64 p.op.most, .string p.lo, .string p.hi, .int .i64 p.gen, .string p.at', .int .i64 p.to, .int .i64 p.act, .slice sa sn sc] ∧ VC w [.int .i64 p.op.cd.v.kind, .slice ca cn cc, .float .f64 p.op.cd.v.n] p.op.cd.v ∧ GrowD W w (.slice la ln lc) p.op.l ∧ IsB w gs (.slice sa sn sc) p.st ∧ U8 w gs p.st ∧ (∀ z ∈ p.st, z < 256)
theorem CmdD.cmd {W w : World} {c : List Value} {p : Pcmd} (h : CmdD W w c p) : CmdC w c p := by
  obtain ⟨ca, cn, cc, la, ln, lc, sa, sn, sc, gs, e, h1, h2, h3, _, h5⟩ := h
  obtain ⟨k1, k2⟩ := h2.chgs
  exact ⟨ca, cn, cc, la, ln, lc, sa, sn, sc, gs, e, h1.va, k1, k2, h3, h5⟩
theorem CmdD.box {W w w' : World} {c : List Value} {p : Pcmd} {b : Nat} {cb : Array Value} {t : TypeId} {fz : Nat × Nat} (h : CmdD W w c p) (m : Moves [b] w w') (hb : w.heap[b]? = some (.cells cb t fz)) (h1 : t ≠ 5) (h2 : t ≠ 27) : CmdD W w' c p := by
  obtain ⟨ca, cn, cc, la, ln, lc, sa, sn, sc, gs, e, k1, k2, k3, k4, k5⟩ := h
  have st : Stay (· = 5) w w' := Stay.ofMovesS m (fun k hk c' t' fz' hc he => by
    simp at hk
    subst hk
    rw [hb] at hc
    simp at hc
    exact h1 (hc.2.1.trans he))
  obtain ⟨q1, q2⟩ := k3.stay st rfl k4
  exact ⟨ca, cn, cc, la, ln, lc, sa, sn, sc, gs, e, k1.box m hb h1, k2.box m hb h1 h2, q1, q2, k5⟩
theorem CmdD.moves0 {W w w' : World} {c : List Value} {p : Pcmd} (h : CmdD W w c p) (m : Moves [] w w') : CmdD W w' c p := by
  obtain ⟨ca, cn, cc, la, ln, lc, sa, sn, sc, gs, e, k1, k2, k3, k4, k5⟩ := h
  obtain ⟨q1, q2⟩ := k3.stay (T := (· = 5)) (Stay.ofMoves m) rfl k4
  exact ⟨ca, cn, cc, la, ln, lc, sa, sn, sc, gs, e, k1.moves0 m, k2.moves0 m, q1, q2, k5⟩
/-- One that has no operation, no state. -/
theorem CmdD.plain (W w : World) (k gen to act : Int) (lo hi at' : ByteArray) : CmdD W w [.int .i64 k, .int .i64 0, .string ⟨#[]⟩, .string ⟨#[]⟩, .bool false, .bool false, .string ⟨#[]⟩, .int .i64 0, .slice none 0 0, .float .f64 0, .slice none 0 0, .int .i64 0, .string lo, .string hi, .int .i64 gen, .string at', .int .i64 to, .int .i64 act, .slice none 0 0] ⟨k, opz, lo, hi, gen, at', to, act, []⟩ :=
  ⟨none, 0, 0, none, 0, 0, none, 0, 0, 0, rfl, vc_pz _, GrowD.nil _ _, isB_nil _ _, .inl rfl, by simp⟩
def TookM (w0 : World) (r g : Nat) (o : Option (Pcmd × List Nat)) (e : Ending) (w' : World) : Prop := match o with
  | some (p, rest) => ∃ c, e = .returned (.agg c.toArray) ∧ CmdD w0 w' c p ∧ RdIs w' r g rest false ∧ Moves [r] w0 w'
  | none => e = .panicked (stop r) ∧ (∃ bs', RdIs w' r g bs' true) ∧ Moves [r] w0 w'
/-- A box is read into. -/
theorem TkB.readX {N : Nat} {w0 w w' : World} {r g : Nat} {bs bs' : List Nat} {R P : Nat} {Zr c c' : Array Value} {t : TypeId} (h : TkB N w0 w r g bs [(R, Zr, t), (P, c, t)]) (hb : w'.heap[P]? = some (.cells c' t (0, 0))) (hr : RdIs w' r g bs' false) (m : Moves [r, P] w w') (ho : OctN N bs') : TkB N w0 w' r g bs' [(R, Zr, t), (P, c', t)] := by
  have k1 := h.hr
  have g0 := h.ge 0 rfl
  have g1 := h.ge 1 rfl
  have hn := h.nd
  simp at hn
  refine ⟨hr, fun x hx => ?_, by simpa using hn, h.mv.trans m (fun x hx => ?_), h.hr, h.hg, ho⟩
  · simp at hx
    rcases hx with rfl | rfl
    · exact ⟨m.at (h.at 0 rfl) (by simp; omega), g0⟩
    · exact ⟨hb, g1⟩
  · simp at hx
    rcases hx with rfl | rfl
    · exact .inl (by simp)
    · exact .inr g1

theorem stored11at1 {w : World} {p : Nat} {a0 a1 a2 a3 a4 a5 a6 a7 a8 a9 a10 a11 a12 a13 a14 a15 a16 a17 a18 : Value} {t : TypeId} (hp : w.heap[p]? = some (.cells #[a0, a1, a2, a3, a4, a5, a6, a7, a8, a9, a10, a11, a12, a13, a14, a15, a16, a17, a18] t (0, 0))) (x1 x2 x3 x4 x5 x6 x7 x8 x9 x10 x11 : Value) :
    ((((((((((((w).setCell ⟨p, 1, none⟩ x1).setCell ⟨p, 2, none⟩ x2).setCell ⟨p, 3, none⟩ x3).setCell ⟨p, 4, none⟩ x4).setCell ⟨p, 5, none⟩ x5).setCell ⟨p, 6, none⟩ x6).setCell ⟨p, 7, none⟩ x7).setCell ⟨p, 8, none⟩ x8).setCell ⟨p, 9, none⟩ x9).setCell ⟨p, 10, none⟩ x10).setCell ⟨p, 11, none⟩ x11).heap[p]? = some (.cells #[a0, x1, x2, x3, x4, x5, x6, x7, x8, x9, x10, x11, a12, a13, a14, a15, a16, a17, a18] t (0, 0)) ∧ Moves [p] w ((((((((((((w).setCell ⟨p, 1, none⟩ x1).setCell ⟨p, 2, none⟩ x2).setCell ⟨p, 3, none⟩ x3).setCell ⟨p, 4, none⟩ x4).setCell ⟨p, 5, none⟩ x5).setCell ⟨p, 6, none⟩ x6).setCell ⟨p, 7, none⟩ x7).setCell ⟨p, 8, none⟩ x8).setCell ⟨p, 9, none⟩ x9).setCell ⟨p, 10, none⟩ x10).setCell ⟨p, 11, none⟩ x11) := by
  have h1 : (w.setCell ⟨p, 1, none⟩ x1).heap[p]? = some (.cells #[a0, x1, a2, a3, a4, a5, a6, a7, a8, a9, a10, a11, a12, a13, a14, a15, a16, a17, a18] t (0, 0)) := heap_set (i := 1) hp x1
  have n1 : Moves [p] w (w.setCell ⟨p, 1, none⟩ x1) := moves_set _ _ _ _
  generalize w.setCell ⟨p, 1, none⟩ x1 = w1 at h1 n1 ⊢
  have h2 : (w1.setCell ⟨p, 2, none⟩ x2).heap[p]? = some (.cells #[a0, x1, x2, a3, a4, a5, a6, a7, a8, a9, a10, a11, a12, a13, a14, a15, a16, a17, a18] t (0, 0)) := heap_set (i := 2) h1 x2
  have n2 : Moves [p] w (w1.setCell ⟨p, 2, none⟩ x2) := n1.then (moves_set _ _ _ _)
  generalize w1.setCell ⟨p, 2, none⟩ x2 = w2 at h2 n2 ⊢
  have h3 : (w2.setCell ⟨p, 3, none⟩ x3).heap[p]? = some (.cells #[a0, x1, x2, x3, a4, a5, a6, a7, a8, a9, a10, a11, a12, a13, a14, a15, a16, a17, a18] t (0, 0)) := heap_set (i := 3) h2 x3
  have n3 : Moves [p] w (w2.setCell ⟨p, 3, none⟩ x3) := n2.then (moves_set _ _ _ _)
  generalize w2.setCell ⟨p, 3, none⟩ x3 = w3 at h3 n3 ⊢
  have h4 : (w3.setCell ⟨p, 4, none⟩ x4).heap[p]? = some (.cells #[a0, x1, x2, x3, x4, a5, a6, a7, a8, a9, a10, a11, a12, a13, a14, a15, a16, a17, a18] t (0, 0)) := heap_set (i := 4) h3 x4
  have n4 : Moves [p] w (w3.setCell ⟨p, 4, none⟩ x4) := n3.then (moves_set _ _ _ _)
  generalize w3.setCell ⟨p, 4, none⟩ x4 = w4 at h4 n4 ⊢
  have h5 : (w4.setCell ⟨p, 5, none⟩ x5).heap[p]? = some (.cells #[a0, x1, x2, x3, x4, x5, a6, a7, a8, a9, a10, a11, a12, a13, a14, a15, a16, a17, a18] t (0, 0)) := heap_set (i := 5) h4 x5
  have n5 : Moves [p] w (w4.setCell ⟨p, 5, none⟩ x5) := n4.then (moves_set _ _ _ _)
  generalize w4.setCell ⟨p, 5, none⟩ x5 = w5 at h5 n5 ⊢
  have h6 : (w5.setCell ⟨p, 6, none⟩ x6).heap[p]? = some (.cells #[a0, x1, x2, x3, x4, x5, x6, a7, a8, a9, a10, a11, a12, a13, a14, a15, a16, a17, a18] t (0, 0)) := heap_set (i := 6) h5 x6
  have n6 : Moves [p] w (w5.setCell ⟨p, 6, none⟩ x6) := n5.then (moves_set _ _ _ _)
  generalize w5.setCell ⟨p, 6, none⟩ x6 = w6 at h6 n6 ⊢
  have h7 : (w6.setCell ⟨p, 7, none⟩ x7).heap[p]? = some (.cells #[a0, x1, x2, x3, x4, x5, x6, x7, a8, a9, a10, a11, a12, a13, a14, a15, a16, a17, a18] t (0, 0)) := heap_set (i := 7) h6 x7
  have n7 : Moves [p] w (w6.setCell ⟨p, 7, none⟩ x7) := n6.then (moves_set _ _ _ _)
  generalize w6.setCell ⟨p, 7, none⟩ x7 = w7 at h7 n7 ⊢
  have h8 : (w7.setCell ⟨p, 8, none⟩ x8).heap[p]? = some (.cells #[a0, x1, x2, x3, x4, x5, x6, x7, x8, a9, a10, a11, a12, a13, a14, a15, a16, a17, a18] t (0, 0)) := heap_set (i := 8) h7 x8
  have n8 : Moves [p] w (w7.setCell ⟨p, 8, none⟩ x8) := n7.then (moves_set _ _ _ _)
  generalize w7.setCell ⟨p, 8, none⟩ x8 = w8 at h8 n8 ⊢
  have h9 : (w8.setCell ⟨p, 9, none⟩ x9).heap[p]? = some (.cells #[a0, x1, x2, x3, x4, x5, x6, x7, x8, x9, a10, a11, a12, a13, a14, a15, a16, a17, a18] t (0, 0)) := heap_set (i := 9) h8 x9
  have n9 : Moves [p] w (w8.setCell ⟨p, 9, none⟩ x9) := n8.then (moves_set _ _ _ _)
  generalize w8.setCell ⟨p, 9, none⟩ x9 = w9 at h9 n9 ⊢
  have h10 : (w9.setCell ⟨p, 10, none⟩ x10).heap[p]? = some (.cells #[a0, x1, x2, x3, x4, x5, x6, x7, x8, x9, x10, a11, a12, a13, a14, a15, a16, a17, a18] t (0, 0)) := heap_set (i := 10) h9 x10
  have n10 : Moves [p] w (w9.setCell ⟨p, 10, none⟩ x10) := n9.then (moves_set _ _ _ _)
  generalize w9.setCell ⟨p, 10, none⟩ x10 = w10 at h10 n10 ⊢
  have h11 : (w10.setCell ⟨p, 11, none⟩ x11).heap[p]? = some (.cells #[a0, x1, x2, x3, x4, x5, x6, x7, x8, x9, x10, x11, a12, a13, a14, a15, a16, a17, a18] t (0, 0)) := heap_set (i := 11) h10 x11
  have n11 : Moves [p] w (w10.setCell ⟨p, 11, none⟩ x11) := n10.then (moves_set _ _ _ _)
  exact ⟨h11, n11⟩
theorem dTbl_rest {N : Nat} {bs b : List Nat} {x : Psp × Nat} (h : dTbl bs = some (x, b)) (ho : OctN N bs) : OctN N b := by
  unfold dTbl at h
  cases e1 : dSpan bs with
  | none => rw [pbn_none e1] at h; simp at h
  | some pr =>
    obtain ⟨s, b1⟩ := pr
    rw [pbn_some e1] at h
    have h1 := dSpan_rest e1 ho
    cases e2 : dNum 4 b1 with
    | none => rw [pbn_none e2] at h; simp at h
    | some pr =>
      obtain ⟨n, b2⟩ := pr
      rw [pbn_some e2] at h
      simp at h
      rw [← h.2]
      exact (dNum_oct e2 h1).1
theorem dPlan_rest {N : Nat} {bs b : List Nat} {x : Nat × ByteArray × Nat} (h : dPlan bs = some (x, b)) (ho : OctN N bs) : OctN N b := by
  unfold dPlan at h
  cases e1 : dNum 1 bs with
  | none => rw [pbn_none e1] at h; simp at h
  | some pr =>
    obtain ⟨d, b1⟩ := pr
    rw [pbn_some e1] at h
    have h1 := (dNum_oct e1 ho).1
    by_cases hd : d = 0
    · rw [dPlanK0 hd] at h
      simp at h
      rw [← h.2]
      exact h1
    · rw [dPlanK1 hd] at h
      cases e2 : dText 16 b1 with
      | none => rw [pbn_none e2] at h; simp at h
      | some pr =>
        obtain ⟨tx, b2⟩ := pr
        rw [pbn_some e2] at h
        have h2 := dText_rest e2 h1
        cases e3 : dNum 1 b2 with
        | none => rw [pbn_none e3] at h; simp at h
        | some pr =>
          obtain ⟨to, b3⟩ := pr
          rw [pbn_some e3] at h
          simp at h
          rw [← h.2]
          exact (dNum_oct e3 h2).1
theorem dOp_rest {N : Nat} {bs b : List Nat} {x : Pop} (h : dOp bs = some (x, b)) (ho : OctN N bs) : OctN N b := by
  unfold dOp at h
  cases e1 : dNum 1 bs with
  | none => rw [pbn_none e1] at h; simp at h
  | some pr =>
    obtain ⟨k, b1⟩ := pr
    rw [pbn_some e1] at h
    have h1 := (dNum_oct e1 ho).1
    cases e2 : dText 16 b1 with
    | none => rw [pbn_none e2] at h; simp at h
    | some pr =>
      obtain ⟨tx, b2⟩ := pr
      rw [pbn_some e2] at h
      have h2 := dText_rest e2 h1
      by_cases k2 : k = 2
      · rw [dOpK2 k2] at h
        cases e3 : dCd b2 with
        | none => rw [pbn_none e3] at h; simp at h
        | some pr =>
          obtain ⟨cd, b3⟩ := pr
          rw [pbn_some e3] at h
          have h3 := dCd_rest e3 h2
          cases e4 : dNum 1 b3 with
          | none => rw [pbn_none e4] at h; simp at h
          | some pr =>
            obtain ⟨n, b4⟩ := pr
            rw [pbn_some e4] at h
            have h4 := (dNum_oct e4 h3).1
            cases e5 : iter dChg n b4 with
            | none => rw [pbn_none e5] at h; simp at h
            | some pr =>
              obtain ⟨l, b5⟩ := pr
              rw [pbn_some e5] at h
              simp at h
              rw [← h.2]
              exact iter_rest (P := OctN N) (fun _ _ _ hq hb => dChg_rest hq hb) e5 h4
      · by_cases k3 : k = 3
        · rw [dOpK3 k3] at h
          cases e3 : dText 16 b2 with
          | none => rw [pbn_none e3] at h; simp at h
          | some pr =>
            obtain ⟨hi, b3⟩ := pr
            rw [pbn_some e3] at h
            have h3 := dText_rest e3 h2
            cases e4 : dNum 1 b3 with
            | none => rw [pbn_none e4] at h; simp at h
            | some pr =>
              obtain ⟨m, b4⟩ := pr
              rw [pbn_some e4] at h
              simp at h
              rw [← h.2]
              exact (dNum_oct e4 h3).1
        · rw [dOpK0 ⟨k2, k3⟩] at h
          simp at h
          rw [← h.2]
          exact h2
set_option maxRecDepth 100000 in
set_option maxHeartbeats 32000000 in
theorem ctake_w (N r g : Nat) (bs : List Nat) (w : World) (h : RdIs w r g bs false) (ho : OctN N bs) (hg : g < w.heap.size) :
    Calls Tryz.prog 58 #[.pointer (some ⟨r, 0, none⟩)] w fun e w' => TookM w r g (dCmd bs) e w' := by
  have T0 := (TkB.start h ho hg).new #[.int .i64 0, .int .i64 0, .string ⟨#[]⟩, .string ⟨#[]⟩, .bool false, .bool false, .string ⟨#[]⟩, .int .i64 0, .slice none 0 0, .float .f64 0, .slice none 0 0, .int .i64 0, .string ⟨#[]⟩, .string ⟨#[]⟩, .int .i64 0, .string ⟨#[]⟩, .int .i64 0, .int .i64 0, .slice none 0 0] 36
  obtain ⟨R, hR⟩ : ∃ R, w.heap.size = R := ⟨_, rfl⟩
  rw [hR] at T0
  have hc := rbyteD_w N r g bs _ T0.rd ho
  have D0 : Hid (dCmd bs = pbn (dNum 1) dCmdK bs) := rfl
  have HT0 : Hid _ := T0
  clear T0
  go_enter Tryz.func58, Tryz.ntmps58
  go_wp2_with fail
  cases e1 : dNum 1 bs with
  | none =>
    rw [e1] at hc
    refine hc.mono ?_
    rintro _ w1 ⟨rfl, hr1, m1⟩
    refine ⟨rfl, ?_⟩
    show TookM w r g (dCmd bs) _ _
    rw [D0.out, pbn_none e1]
    exact ⟨rfl, ⟨_, hr1⟩, HT0.out.mv.then m1⟩
  | some pr =>
    obtain ⟨k, b1⟩ := pr
    rw [e1] at hc
    obtain ⟨ho1, hk⟩ := dNum_oct e1 ho
    have D1 : Hid (dCmd bs = dCmdK k b1) := D0.out.trans (pbn_some e1)
    refine hc.mono ?_
    rintro _ w1 ⟨rfl, hr1, m1⟩
    have wc : IntKind.i64.wrap (k : Int) = (k : Int) := by rw [IntWalk.i64_in _ (by omega)]
    have T1 := (HT0.out.read hr1 m1 ho1).new #[.int .i64 0, .int .i64 0, .string ⟨#[]⟩, .string ⟨#[]⟩, .bool false, .bool false, .string ⟨#[]⟩, .int .i64 0, .slice none 0 0, .float .f64 0, .slice none 0 0, .int .i64 0, .string ⟨#[]⟩, .string ⟨#[]⟩, .int .i64 0, .string ⟨#[]⟩, .int .i64 0, .int .i64 0, .slice none 0 0] 36
    have HT1 : Hid _ := T1
    clear T1 hc hr1 m1 HT0 D0 e1
    go_wp2_with (with_reducible refine stopStore _ _ rfl ?_)
    unfold Hid
    refine wpList_storeCmd rfl (.tmp 3) (.tmp 7) rfl w1.heap.size #[.int .i64 (k : Int), .int .i64 0, .string ⟨#[]⟩, .string ⟨#[]⟩, .bool false, .bool false, .string ⟨#[]⟩, .int .i64 0, .slice none 0 0, .float .f64 0, .slice none 0 0, .int .i64 0, .string ⟨#[]⟩, .string ⟨#[]⟩, .int .i64 0, .string ⟨#[]⟩, .int .i64 0, .int .i64 0, .slice none 0 0] rfl rfl (heap_alloc_new w1 _) rfl rfl (by simp [Value.oneCell']) ?_
    intro w2 hb2 m2
    have T1 := HT1.out.set 1 rfl m2 hb2
    clear HT1
    obtain ⟨B, hB⟩ : ∃ B, w1.heap.size = B := ⟨_, rfl⟩
    rw [hB] at T1 ⊢
    have HT1 : Hid (TkB N w w2 r g b1 [(R, #[.int .i64 0, .int .i64 0, .string ⟨#[]⟩, .string ⟨#[]⟩, .bool false, .bool false, .string ⟨#[]⟩, .int .i64 0, .slice none 0 0, .float .f64 0, .slice none 0 0, .int .i64 0, .string ⟨#[]⟩, .string ⟨#[]⟩, .int .i64 0, .string ⟨#[]⟩, .int .i64 0, .int .i64 0, .slice none 0 0], 36), (B, #[.int .i64 (k : Int), .int .i64 0, .string ⟨#[]⟩, .string ⟨#[]⟩, .bool false, .bool false, .string ⟨#[]⟩, .int .i64 0, .slice none 0 0, .float .f64 0, .slice none 0 0, .int .i64 0, .string ⟨#[]⟩, .string ⟨#[]⟩, .int .i64 0, .string ⟨#[]⟩, .int .i64 0, .int .i64 0, .slice none 0 0], 36)]) := T1
    have y0 := (c19 (T1.at 1 rfl)).1
    have hgw : g < w2.heap.size := Nat.lt_of_lt_of_le T1.hg T1.mv.size
    have hBr : B ≠ r := by have := T1.ge 1 rfl; have := T1.hr; omega
    have hBg : B ≠ g := by have := T1.ge 1 rfl; have := T1.hg; omega
    have HBR : Hid (B ≠ r) := hBr
    have HBG : Hid (B ≠ g) := hBg
    have HGW : Hid _ := hgw
    clear T1 hBr hBg hgw hb2 m2 hB
    by_cases hK1 : k = 1
    · have hK := hK1
      have n1 : ((k : Int) == 1) = true := beq_iff_eq.2 (by omega)
      have D3 := D1.out
      rw [dCmdK1 hK] at D3
      have HD3 : Hid (dCmd bs = _) := D3
      clear D3 D1 hK hK1
      have hc := ctakeOp_w N r g b1 w2 HT1.out.rd HT1.out.oct HGW.out
      go_wp2_with fail
      clear n1 y0
      cases e3 : dOp b1 with
      | none =>
        rw [e3] at hc
        refine hc.mono ?_
        rintro _ w3 ⟨rfl, hr, m⟩
        refine ⟨rfl, ?_⟩
        show TookM w r g (dCmd bs) _ _
        rw [HD3.out, pbn_none e3]
        exact ⟨rfl, hr, HT1.out.mv.then m⟩
      | some pr =>
        obtain ⟨o, b3⟩ := pr
        rw [e3] at hc
        have D4 := HD3.out.trans (pbn_some e3)
        refine hc.mono ?_
        rintro _ w3 ⟨c3, rfl, hO, hr3, m3⟩
        obtain ⟨ca, cn, cc, lv, rfl, hvc, hG⟩ := hO
        obtain ⟨la, ln, lc, rfl, -⟩ := hG.open
        have HD4 : Hid (dCmd bs = _) := D4
        have T3 := HT1.out.read hr3 m3 (dOp_rest e3 HT1.out.oct)
        have hG3 : GrowD w w3 (.slice la ln lc) o.l := hG.elder HT1.out.mv.size
        have so := stored11at1 (T3.at 1 rfl) (.int .i64 o.kind) (.string o.row) (.string o.hi) (.bool o.cd.has) (.bool o.cd.want) (.string o.cd.col) (.int .i64 o.cd.v.kind) (.slice ca cn cc) (.float .f64 o.cd.v.n) (.slice la ln lc) (.int .i64 o.most)
        have TT := T3.set 1 rfl so.2 so.1
        have hvc4 := hvc.box so.2 (T3.at 1 rfl) (by decide)
        have hG4 := hG3.box so.2 (T3.at 1 rfl) (by decide) (by decide)
        have Y := c19 (T3.at 1 rfl)
        have fz := c19z (T3.at 1 rfl)
        obtain ⟨v3, hv3⟩ : ∃ v, (((((((((((w3).setCell ⟨B, 1, none⟩ (.int .i64 o.kind)).setCell ⟨B, 2, none⟩ (.string o.row)).setCell ⟨B, 3, none⟩ (.string o.hi)).setCell ⟨B, 4, none⟩ (.bool o.cd.has)).setCell ⟨B, 5, none⟩ (.bool o.cd.want)).setCell ⟨B, 6, none⟩ (.string o.cd.col)).setCell ⟨B, 7, none⟩ (.int .i64 o.cd.v.kind)).setCell ⟨B, 8, none⟩ (.slice ca cn cc)).setCell ⟨B, 9, none⟩ (.float .f64 o.cd.v.n)).setCell ⟨B, 10, none⟩ (.slice la ln lc)).setCell ⟨B, 11, none⟩ (.int .i64 o.most) = v := ⟨_, rfl⟩
        rw [hv3] at TT hvc4 hG4
        have HT3 : Hid (TkB N w v3 r g b3 [(R, #[.int .i64 0, .int .i64 0, .string ⟨#[]⟩, .string ⟨#[]⟩, .bool false, .bool false, .string ⟨#[]⟩, .int .i64 0, .slice none 0 0, .float .f64 0, .slice none 0 0, .int .i64 0, .string ⟨#[]⟩, .string ⟨#[]⟩, .int .i64 0, .string ⟨#[]⟩, .int .i64 0, .int .i64 0, .slice none 0 0], 36), (B, #[.int .i64 (k : Int), .int .i64 o.kind, .string o.row, .string o.hi, .bool o.cd.has, .bool o.cd.want, .string o.cd.col, .int .i64 o.cd.v.kind, .slice ca cn cc, .float .f64 o.cd.v.n, .slice la ln lc, .int .i64 o.most, .string ⟨#[]⟩, .string ⟨#[]⟩, .int .i64 0, .string ⟨#[]⟩, .int .i64 0, .int .i64 0, .slice none 0 0], 36)]) := TT
        have HV3 : Hid (VC v3 [.int .i64 o.cd.v.kind, .slice ca cn cc, .float .f64 o.cd.v.n] o.cd.v) := hvc4
        have HG3 : Hid (GrowD w v3 (.slice la ln lc) o.l) := hG4
        obtain ⟨-, k1, k2, k3, k4, k5, k6, k7, k8, k9, k10, k11, -⟩ := Y
        clear hc hr3 m3 T3 TT D4 so hvc hvc4 hG hG3 hG4 e3
        have hD : CmdD w v3 [.int .i64 (k : Int), .int .i64 o.kind, .string o.row, .string o.hi, .bool o.cd.has, .bool o.cd.want, .string o.cd.col, .int .i64 o.cd.v.kind, .slice ca cn cc, .float .f64 o.cd.v.n, .slice la ln lc, .int .i64 o.most, .string ⟨#[]⟩, .string ⟨#[]⟩, .int .i64 0, .string ⟨#[]⟩, .int .i64 0, .int .i64 0, .slice none 0 0] ⟨(k : Int), o, ⟨#[]⟩, ⟨#[]⟩, 0, ⟨#[]⟩, 0, 0, []⟩ := ⟨ca, cn, cc, la, ln, lc, none, 0, 0, 0, rfl, HV3.out, HG3.out, isB_nil _ _, .inl rfl, by simp⟩
        have hq := cright_w v3 v3 _ _ hD.cmd (Moves.refl _ _)
        obtain ⟨E, hE⟩ : ∃ E, rCmd ⟨(k : Int), o, ⟨#[]⟩, ⟨#[]⟩, 0, ⟨#[]⟩, 0, 0, []⟩ = E := ⟨_, rfl⟩
        rw [hE] at hq
        have hD9 : Hid (dCmd bs = cmdGuard ⟨(k : Int), o, ⟨#[]⟩, ⟨#[]⟩, 0, ⟨#[]⟩, 0, 0, []⟩ b3) := HD4.out
        have HE : Hid (rCmd ⟨(k : Int), o, ⟨#[]⟩, ⟨#[]⟩, 0, ⟨#[]⟩, 0, 0, []⟩ = E) := hE
        have HDD : Hid (CmdD w v3 [.int .i64 (k : Int), .int .i64 o.kind, .string o.row, .string o.hi, .bool o.cd.has, .bool o.cd.want, .string o.cd.col, .int .i64 o.cd.v.kind, .slice ca cn cc, .float .f64 o.cd.v.n, .slice la ln lc, .int .i64 o.most, .string ⟨#[]⟩, .string ⟨#[]⟩, .int .i64 0, .string ⟨#[]⟩, .int .i64 0, .int .i64 0, .slice none 0 0] ⟨(k : Int), o, ⟨#[]⟩, ⟨#[]⟩, 0, ⟨#[]⟩, 0, 0, []⟩) := hD
        clear hE HD4 hD
        go_wp2_with (with_reducible refine stopLoad _ rfl ?_)
        unfold Hid
        
        clear k1 k2 k3 k4 k5 k6 k7 k8 k9 k10 k11 fz hv3
        refine wpList_loadCmd rfl _ rfl B rfl _ (HT3.out.at 1 rfl) rfl ?_
        go_wp2_with fail
        refine hq.mono ?_
        rintro _ w9 ⟨rfl, m9⟩
        have HT9 : Hid (TkB N w w9 r g b3 [(R, #[.int .i64 0, .int .i64 0, .string ⟨#[]⟩, .string ⟨#[]⟩, .bool false, .bool false, .string ⟨#[]⟩, .int .i64 0, .slice none 0 0, .float .f64 0, .slice none 0 0, .int .i64 0, .string ⟨#[]⟩, .string ⟨#[]⟩, .int .i64 0, .string ⟨#[]⟩, .int .i64 0, .int .i64 0, .slice none 0 0], 36), (B, #[.int .i64 (k : Int), .int .i64 o.kind, .string o.row, .string o.hi, .bool o.cd.has, .bool o.cd.want, .string o.cd.col, .int .i64 o.cd.v.kind, .slice ca cn cc, .float .f64 o.cd.v.n, .slice la ln lc, .int .i64 o.most, .string ⟨#[]⟩, .string ⟨#[]⟩, .int .i64 0, .string ⟨#[]⟩, .int .i64 0, .int .i64 0, .slice none 0 0], 36)]) := HT3.out.moves m9
        have HD8 : Hid (CmdD w w9 [.int .i64 (k : Int), .int .i64 o.kind, .string o.row, .string o.hi, .bool o.cd.has, .bool o.cd.want, .string o.cd.col, .int .i64 o.cd.v.kind, .slice ca cn cc, .float .f64 o.cd.v.n, .slice la ln lc, .int .i64 o.most, .string ⟨#[]⟩, .string ⟨#[]⟩, .int .i64 0, .string ⟨#[]⟩, .int .i64 0, .int .i64 0, .slice none 0 0] ⟨(k : Int), o, ⟨#[]⟩, ⟨#[]⟩, 0, ⟨#[]⟩, 0, 0, []⟩) := HDD.out.moves0 m9
        clear hq m9 HDD
        cases E with
        | true =>
          go_wp2_with (with_reducible refine stopLoad _ rfl ?_)
          unfold Hid
          refine wpList_loadCmd rfl _ rfl B rfl _ (HT9.out.at 1 rfl) rfl ?_
          go_wp2_with (with_reducible refine stopStore _ _ rfl ?_)
          unfold Hid
          refine wpList_storeCmd rfl (.tmp 2) (.tmp 60) rfl R _ rfl rfl (HT9.out.at 0 rfl) rfl rfl (by simp [Value.oneCell']) ?_
          intro w10 hb10 m10
          go_wp2_with fail
          have T10 := HT9.out.set 0 rfl m10 hb10
          refine bodyPost_ret (ret_cmd rfl _ _ R _ rfl rfl hb10) rfl ?_
          show TookM w r g (dCmd bs) _ _
          rw [hD9.out, cmdGuard_yes HE.out]
          exact ⟨_, rfl, HD8.out.box m10 (HT9.out.at 0 rfl) (by decide) (by decide), T10.rd, T10.mv⟩
        | false =>
          go_wp2_with fail
          refine (rfail_w r g _ _ HT9.out.rd).mono ?_
          rintro _ w10 ⟨rfl, hr, m⟩
          refine ⟨rfl, ?_⟩
          show TookM w r g (dCmd bs) _ _
          rw [hD9.out, cmdGuard_no HE.out]
          exact ⟨rfl, ⟨_, hr⟩, HT9.out.mv.then m⟩
    · skip
      by_cases hK2 : k = 2
      · have hK := hK2
        have n1 : ((k : Int) == 1) = false := beq_eq_false_iff_ne.2 (by omega)
        have n2 : ((k : Int) == 2) = true := beq_iff_eq.2 (by omega)
        have D3 := D1.out
        rw [dCmdK2 (.inl hK)] at D3
        have HD3 : Hid (dCmd bs = _) := D3
        clear D3 D1 hK hK2
        have hc := ctakeTab_w N r g B b1 w2 HT1.out.rd HT1.out.oct HGW.out (.int .i64 (k : Int)) (.int .i64 0) (.string ⟨#[]⟩) (.string ⟨#[]⟩) (.bool false) (.bool false) (.string ⟨#[]⟩) (.int .i64 0) (.slice none 0 0) (.float .f64 0) (.slice none 0 0) (.int .i64 0) (.string ⟨#[]⟩) (.string ⟨#[]⟩) (.int .i64 0) (.string ⟨#[]⟩) (.int .i64 0) (.int .i64 0) (.slice none 0 0) (HT1.out.at 1 rfl) HBR.out HBG.out
        go_wp2_with fail
        clear n1 n2 y0
        cases e3 : dTbl b1 with
        | none =>
          rw [e3] at hc
          refine hc.mono ?_
          rintro _ w3 ⟨rfl, hr, m⟩
          refine ⟨rfl, ?_⟩
          show TookM w r g (dCmd bs) _ _
          rw [HD3.out, pbn_none e3]
          have hge := HT1.out.ge 1 rfl
          exact ⟨rfl, hr, HT1.out.mv.trans m (fun x hx => by simp at hx; rcases hx with rfl | rfl; exact .inl (by simp); exact .inr hge)⟩
        | some pr =>
          obtain ⟨⟨⟨lo, hi⟩, gn⟩, b3⟩ := pr
          rw [e3] at hc
          have D4 := HD3.out.trans (pbn_some e3)
          refine hc.mono ?_
          rintro _ w3 ⟨rfl, hb3, hr3, m3⟩
          have HD4 : Hid (dCmd bs = _) := D4
          have HT3 : Hid (TkB N w w3 r g b3 [(R, #[.int .i64 0, .int .i64 0, .string ⟨#[]⟩, .string ⟨#[]⟩, .bool false, .bool false, .string ⟨#[]⟩, .int .i64 0, .slice none 0 0, .float .f64 0, .slice none 0 0, .int .i64 0, .string ⟨#[]⟩, .string ⟨#[]⟩, .int .i64 0, .string ⟨#[]⟩, .int .i64 0, .int .i64 0, .slice none 0 0], 36), (B, #[.int .i64 (k : Int), .int .i64 0, .string ⟨#[]⟩, .string ⟨#[]⟩, .bool false, .bool false, .string ⟨#[]⟩, .int .i64 0, .slice none 0 0, .float .f64 0, .slice none 0 0, .int .i64 0, .string lo, .string hi, .int .i64 (gn : Int), .string ⟨#[]⟩, .int .i64 0, .int .i64 0, .slice none 0 0], 36)]) := HT1.out.readX hb3 hr3 m3 (dTbl_rest e3 HT1.out.oct)
          clear hc hb3 hr3 m3 D4 e3
          have hD : CmdD w w3 [.int .i64 (k : Int), .int .i64 0, .string ⟨#[]⟩, .string ⟨#[]⟩, .bool false, .bool false, .string ⟨#[]⟩, .int .i64 0, .slice none 0 0, .float .f64 0, .slice none 0 0, .int .i64 0, .string lo, .string hi, .int .i64 (gn : Int), .string ⟨#[]⟩, .int .i64 0, .int .i64 0, .slice none 0 0] ⟨(k : Int), opz, lo, hi, (gn : Int), ⟨#[]⟩, 0, 0, []⟩ := CmdD.plain _ _ _ _ _ _ _ _ _
          have hq := cright_w w3 w3 _ _ hD.cmd (Moves.refl _ _)
          obtain ⟨E, hE⟩ : ∃ E, rCmd ⟨(k : Int), opz, lo, hi, (gn : Int), ⟨#[]⟩, 0, 0, []⟩ = E := ⟨_, rfl⟩
          rw [hE] at hq
          have hD9 : Hid (dCmd bs = cmdGuard ⟨(k : Int), opz, lo, hi, (gn : Int), ⟨#[]⟩, 0, 0, []⟩ b3) := HD4.out
          have HE : Hid (rCmd ⟨(k : Int), opz, lo, hi, (gn : Int), ⟨#[]⟩, 0, 0, []⟩ = E) := hE
          have HDD : Hid (CmdD w w3 [.int .i64 (k : Int), .int .i64 0, .string ⟨#[]⟩, .string ⟨#[]⟩, .bool false, .bool false, .string ⟨#[]⟩, .int .i64 0, .slice none 0 0, .float .f64 0, .slice none 0 0, .int .i64 0, .string lo, .string hi, .int .i64 (gn : Int), .string ⟨#[]⟩, .int .i64 0, .int .i64 0, .slice none 0 0] ⟨(k : Int), opz, lo, hi, (gn : Int), ⟨#[]⟩, 0, 0, []⟩) := hD
          clear hE HD4 hD
          go_wp2_with (with_reducible refine stopLoad _ rfl ?_)
          unfold Hid
          
          refine wpList_loadCmd rfl _ rfl B rfl _ (HT3.out.at 1 rfl) rfl ?_
          go_wp2_with fail
          refine hq.mono ?_
          rintro _ w9 ⟨rfl, m9⟩
          have HT9 : Hid (TkB N w w9 r g b3 [(R, #[.int .i64 0, .int .i64 0, .string ⟨#[]⟩, .string ⟨#[]⟩, .bool false, .bool false, .string ⟨#[]⟩, .int .i64 0, .slice none 0 0, .float .f64 0, .slice none 0 0, .int .i64 0, .string ⟨#[]⟩, .string ⟨#[]⟩, .int .i64 0, .string ⟨#[]⟩, .int .i64 0, .int .i64 0, .slice none 0 0], 36), (B, #[.int .i64 (k : Int), .int .i64 0, .string ⟨#[]⟩, .string ⟨#[]⟩, .bool false, .bool false, .string ⟨#[]⟩, .int .i64 0, .slice none 0 0, .float .f64 0, .slice none 0 0, .int .i64 0, .string lo, .string hi, .int .i64 (gn : Int), .string ⟨#[]⟩, .int .i64 0, .int .i64 0, .slice none 0 0], 36)]) := HT3.out.moves m9
          have HD8 : Hid (CmdD w w9 [.int .i64 (k : Int), .int .i64 0, .string ⟨#[]⟩, .string ⟨#[]⟩, .bool false, .bool false, .string ⟨#[]⟩, .int .i64 0, .slice none 0 0, .float .f64 0, .slice none 0 0, .int .i64 0, .string lo, .string hi, .int .i64 (gn : Int), .string ⟨#[]⟩, .int .i64 0, .int .i64 0, .slice none 0 0] ⟨(k : Int), opz, lo, hi, (gn : Int), ⟨#[]⟩, 0, 0, []⟩) := HDD.out.moves0 m9
          clear hq m9 HDD
          cases E with
          | true =>
            go_wp2_with (with_reducible refine stopLoad _ rfl ?_)
            unfold Hid
            refine wpList_loadCmd rfl _ rfl B rfl _ (HT9.out.at 1 rfl) rfl ?_
            go_wp2_with (with_reducible refine stopStore _ _ rfl ?_)
            unfold Hid
            refine wpList_storeCmd rfl (.tmp 2) (.tmp 60) rfl R _ rfl rfl (HT9.out.at 0 rfl) rfl rfl (by simp [Value.oneCell']) ?_
            intro w10 hb10 m10
            go_wp2_with fail
            have T10 := HT9.out.set 0 rfl m10 hb10
            refine bodyPost_ret (ret_cmd rfl _ _ R _ rfl rfl hb10) rfl ?_
            show TookM w r g (dCmd bs) _ _
            rw [hD9.out, cmdGuard_yes HE.out]
            exact ⟨_, rfl, HD8.out.box m10 (HT9.out.at 0 rfl) (by decide) (by decide), T10.rd, T10.mv⟩
          | false =>
            go_wp2_with fail
            refine (rfail_w r g _ _ HT9.out.rd).mono ?_
            rintro _ w10 ⟨rfl, hr, m⟩
            refine ⟨rfl, ?_⟩
            show TookM w r g (dCmd bs) _ _
            rw [hD9.out, cmdGuard_no HE.out]
            exact ⟨rfl, ⟨_, hr⟩, HT9.out.mv.then m⟩
      · skip
        by_cases hK4 : k = 4
        · have hK := hK4
          have n1 : ((k : Int) == 1) = false := beq_eq_false_iff_ne.2 (by omega)
          have n2 : ((k : Int) == 2) = false := beq_eq_false_iff_ne.2 (by omega)
          have n4 : ((k : Int) == 4) = true := beq_iff_eq.2 (by omega)
          have D3 := D1.out
          rw [dCmdK2 (.inr hK)] at D3
          have HD3 : Hid (dCmd bs = _) := D3
          clear D3 D1 hK hK4
          have hc := ctakeTab_w N r g B b1 w2 HT1.out.rd HT1.out.oct HGW.out (.int .i64 (k : Int)) (.int .i64 0) (.string ⟨#[]⟩) (.string ⟨#[]⟩) (.bool false) (.bool false) (.string ⟨#[]⟩) (.int .i64 0) (.slice none 0 0) (.float .f64 0) (.slice none 0 0) (.int .i64 0) (.string ⟨#[]⟩) (.string ⟨#[]⟩) (.int .i64 0) (.string ⟨#[]⟩) (.int .i64 0) (.int .i64 0) (.slice none 0 0) (HT1.out.at 1 rfl) HBR.out HBG.out
          go_wp2_with fail
          clear n1 n2 n4 y0
          cases e3 : dTbl b1 with
          | none =>
            rw [e3] at hc
            refine hc.mono ?_
            rintro _ w3 ⟨rfl, hr, m⟩
            refine ⟨rfl, ?_⟩
            show TookM w r g (dCmd bs) _ _
            rw [HD3.out, pbn_none e3]
            have hge := HT1.out.ge 1 rfl
            exact ⟨rfl, hr, HT1.out.mv.trans m (fun x hx => by simp at hx; rcases hx with rfl | rfl; exact .inl (by simp); exact .inr hge)⟩
          | some pr =>
            obtain ⟨⟨⟨lo, hi⟩, gn⟩, b3⟩ := pr
            rw [e3] at hc
            have D4 := HD3.out.trans (pbn_some e3)
            refine hc.mono ?_
            rintro _ w3 ⟨rfl, hb3, hr3, m3⟩
            have HD4 : Hid (dCmd bs = _) := D4
            have HT3 : Hid (TkB N w w3 r g b3 [(R, #[.int .i64 0, .int .i64 0, .string ⟨#[]⟩, .string ⟨#[]⟩, .bool false, .bool false, .string ⟨#[]⟩, .int .i64 0, .slice none 0 0, .float .f64 0, .slice none 0 0, .int .i64 0, .string ⟨#[]⟩, .string ⟨#[]⟩, .int .i64 0, .string ⟨#[]⟩, .int .i64 0, .int .i64 0, .slice none 0 0], 36), (B, #[.int .i64 (k : Int), .int .i64 0, .string ⟨#[]⟩, .string ⟨#[]⟩, .bool false, .bool false, .string ⟨#[]⟩, .int .i64 0, .slice none 0 0, .float .f64 0, .slice none 0 0, .int .i64 0, .string lo, .string hi, .int .i64 (gn : Int), .string ⟨#[]⟩, .int .i64 0, .int .i64 0, .slice none 0 0], 36)]) := HT1.out.readX hb3 hr3 m3 (dTbl_rest e3 HT1.out.oct)
            clear hc hb3 hr3 m3 D4 e3
            have hD : CmdD w w3 [.int .i64 (k : Int), .int .i64 0, .string ⟨#[]⟩, .string ⟨#[]⟩, .bool false, .bool false, .string ⟨#[]⟩, .int .i64 0, .slice none 0 0, .float .f64 0, .slice none 0 0, .int .i64 0, .string lo, .string hi, .int .i64 (gn : Int), .string ⟨#[]⟩, .int .i64 0, .int .i64 0, .slice none 0 0] ⟨(k : Int), opz, lo, hi, (gn : Int), ⟨#[]⟩, 0, 0, []⟩ := CmdD.plain _ _ _ _ _ _ _ _ _
            have hq := cright_w w3 w3 _ _ hD.cmd (Moves.refl _ _)
            obtain ⟨E, hE⟩ : ∃ E, rCmd ⟨(k : Int), opz, lo, hi, (gn : Int), ⟨#[]⟩, 0, 0, []⟩ = E := ⟨_, rfl⟩
            rw [hE] at hq
            have hD9 : Hid (dCmd bs = cmdGuard ⟨(k : Int), opz, lo, hi, (gn : Int), ⟨#[]⟩, 0, 0, []⟩ b3) := HD4.out
            have HE : Hid (rCmd ⟨(k : Int), opz, lo, hi, (gn : Int), ⟨#[]⟩, 0, 0, []⟩ = E) := hE
            have HDD : Hid (CmdD w w3 [.int .i64 (k : Int), .int .i64 0, .string ⟨#[]⟩, .string ⟨#[]⟩, .bool false, .bool false, .string ⟨#[]⟩, .int .i64 0, .slice none 0 0, .float .f64 0, .slice none 0 0, .int .i64 0, .string lo, .string hi, .int .i64 (gn : Int), .string ⟨#[]⟩, .int .i64 0, .int .i64 0, .slice none 0 0] ⟨(k : Int), opz, lo, hi, (gn : Int), ⟨#[]⟩, 0, 0, []⟩) := hD
            clear hE HD4 hD
            go_wp2_with (with_reducible refine stopLoad _ rfl ?_)
            unfold Hid
            
            refine wpList_loadCmd rfl _ rfl B rfl _ (HT3.out.at 1 rfl) rfl ?_
            go_wp2_with fail
            refine hq.mono ?_
            rintro _ w9 ⟨rfl, m9⟩
            have HT9 : Hid (TkB N w w9 r g b3 [(R, #[.int .i64 0, .int .i64 0, .string ⟨#[]⟩, .string ⟨#[]⟩, .bool false, .bool false, .string ⟨#[]⟩, .int .i64 0, .slice none 0 0, .float .f64 0, .slice none 0 0, .int .i64 0, .string ⟨#[]⟩, .string ⟨#[]⟩, .int .i64 0, .string ⟨#[]⟩, .int .i64 0, .int .i64 0, .slice none 0 0], 36), (B, #[.int .i64 (k : Int), .int .i64 0, .string ⟨#[]⟩, .string ⟨#[]⟩, .bool false, .bool false, .string ⟨#[]⟩, .int .i64 0, .slice none 0 0, .float .f64 0, .slice none 0 0, .int .i64 0, .string lo, .string hi, .int .i64 (gn : Int), .string ⟨#[]⟩, .int .i64 0, .int .i64 0, .slice none 0 0], 36)]) := HT3.out.moves m9
            have HD8 : Hid (CmdD w w9 [.int .i64 (k : Int), .int .i64 0, .string ⟨#[]⟩, .string ⟨#[]⟩, .bool false, .bool false, .string ⟨#[]⟩, .int .i64 0, .slice none 0 0, .float .f64 0, .slice none 0 0, .int .i64 0, .string lo, .string hi, .int .i64 (gn : Int), .string ⟨#[]⟩, .int .i64 0, .int .i64 0, .slice none 0 0] ⟨(k : Int), opz, lo, hi, (gn : Int), ⟨#[]⟩, 0, 0, []⟩) := HDD.out.moves0 m9
            clear hq m9 HDD
            cases E with
            | true =>
              go_wp2_with (with_reducible refine stopLoad _ rfl ?_)
              unfold Hid
              refine wpList_loadCmd rfl _ rfl B rfl _ (HT9.out.at 1 rfl) rfl ?_
              go_wp2_with (with_reducible refine stopStore _ _ rfl ?_)
              unfold Hid
              refine wpList_storeCmd rfl (.tmp 2) (.tmp 60) rfl R _ rfl rfl (HT9.out.at 0 rfl) rfl rfl (by simp [Value.oneCell']) ?_
              intro w10 hb10 m10
              go_wp2_with fail
              have T10 := HT9.out.set 0 rfl m10 hb10
              refine bodyPost_ret (ret_cmd rfl _ _ R _ rfl rfl hb10) rfl ?_
              show TookM w r g (dCmd bs) _ _
              rw [hD9.out, cmdGuard_yes HE.out]
              exact ⟨_, rfl, HD8.out.box m10 (HT9.out.at 0 rfl) (by decide) (by decide), T10.rd, T10.mv⟩
            | false =>
              go_wp2_with fail
              refine (rfail_w r g _ _ HT9.out.rd).mono ?_
              rintro _ w10 ⟨rfl, hr, m⟩
              refine ⟨rfl, ?_⟩
              show TookM w r g (dCmd bs) _ _
              rw [hD9.out, cmdGuard_no HE.out]
              exact ⟨rfl, ⟨_, hr⟩, HT9.out.mv.then m⟩
        · skip
          by_cases hK3 : k = 3
          · have hK := hK3
            have n1 : ((k : Int) == 1) = false := beq_eq_false_iff_ne.2 (by omega)
            have n2 : ((k : Int) == 2) = false := beq_eq_false_iff_ne.2 (by omega)
            have n4 : ((k : Int) == 4) = false := beq_eq_false_iff_ne.2 (by omega)
            have n3 : ((k : Int) == 3) = true := beq_iff_eq.2 (by omega)
            have D3 := D1.out
            rw [dCmdK3 hK] at D3
            have HD3 : Hid (dCmd bs = _) := D3
            clear D3 D1 hK hK3
            have hc := ctakeTab_w N r g B b1 w2 HT1.out.rd HT1.out.oct HGW.out (.int .i64 (k : Int)) (.int .i64 0) (.string ⟨#[]⟩) (.string ⟨#[]⟩) (.bool false) (.bool false) (.string ⟨#[]⟩) (.int .i64 0) (.slice none 0 0) (.float .f64 0) (.slice none 0 0) (.int .i64 0) (.string ⟨#[]⟩) (.string ⟨#[]⟩) (.int .i64 0) (.string ⟨#[]⟩) (.int .i64 0) (.int .i64 0) (.slice none 0 0) (HT1.out.at 1 rfl) HBR.out HBG.out
            go_wp2_with fail
            clear n1 n2 n4 n3 y0
            cases e3 : dTbl b1 with
            | none =>
              rw [e3] at hc
              refine hc.mono ?_
              rintro _ w3 ⟨rfl, hr, m⟩
              refine ⟨rfl, ?_⟩
              show TookM w r g (dCmd bs) _ _
              rw [HD3.out, pbn_none e3]
              have hge := HT1.out.ge 1 rfl
              exact ⟨rfl, hr, HT1.out.mv.trans m (fun x hx => by simp at hx; rcases hx with rfl | rfl; exact .inl (by simp); exact .inr hge)⟩
            | some pr =>
              obtain ⟨⟨⟨lo, hi⟩, gn⟩, b3⟩ := pr
              rw [e3] at hc
              have D4 := HD3.out.trans (pbn_some e3)
              refine hc.mono ?_
              rintro _ w3 ⟨rfl, hb3, hr3, m3⟩
              have HD4 : Hid (dCmd bs = _) := D4
              have HT3 : Hid (TkB N w w3 r g b3 [(R, #[.int .i64 0, .int .i64 0, .string ⟨#[]⟩, .string ⟨#[]⟩, .bool false, .bool false, .string ⟨#[]⟩, .int .i64 0, .slice none 0 0, .float .f64 0, .slice none 0 0, .int .i64 0, .string ⟨#[]⟩, .string ⟨#[]⟩, .int .i64 0, .string ⟨#[]⟩, .int .i64 0, .int .i64 0, .slice none 0 0], 36), (B, #[.int .i64 (k : Int), .int .i64 0, .string ⟨#[]⟩, .string ⟨#[]⟩, .bool false, .bool false, .string ⟨#[]⟩, .int .i64 0, .slice none 0 0, .float .f64 0, .slice none 0 0, .int .i64 0, .string lo, .string hi, .int .i64 (gn : Int), .string ⟨#[]⟩, .int .i64 0, .int .i64 0, .slice none 0 0], 36)]) := HT1.out.readX hb3 hr3 m3 (dTbl_rest e3 HT1.out.oct)
              clear hc hb3 hr3 m3 D4 e3
              have hc := rtextD_w N r g b3 w3 HT3.out.rd HT3.out.oct
              go_wp2_with fail
              cases e5 : dText 1048576 b3 with
              | none =>
                rw [e5] at hc
                refine hc.mono ?_
                rintro _ w5 ⟨rfl, hr, m⟩
                refine ⟨rfl, ?_⟩
                show TookM w r g (dCmd bs) _ _
                rw [HD4.out, pbn_none e5]
                exact ⟨rfl, ⟨_, hr⟩, HT3.out.mv.then m⟩
              | some pr =>
                obtain ⟨sx, b5⟩ := pr
                rw [e5] at hc
                have D6 := HD4.out.trans (pbn_some e5)
                have hsx := (dText_text e5 HT3.out.oct).1
                refine hc.mono ?_
                rintro _ w5 ⟨sv, rfl, hO5, hr5, m5, hF5⟩
                have HD6 : Hid (dCmd bs = _) := D6
                have T5 := HT3.out.read hr5 m5 (dText_rest e5 HT3.out.oct)
                have HX : sv.ownBlock ≠ some B := hO5.ne (T5.at 1 rfl) (by decide)
                obtain ⟨sa, sn, sc, rfl⟩ : ∃ sa sn sc, sv = .slice sa sn sc := by obtain ⟨_, _, _, e, _⟩ := hO5.isB; exact ⟨_, _, _, e⟩
                replace HX := hO5.moves (moves_set w5 B 18 (.slice sa sn sc)) (fun k hk hm => HX (by simp at hm; rw [← hm]; exact hk))
                have k18 := (c19 (T5.at 1 rfl)).2.2.2.2.2.2.2.2.2.2.2.2.2.2.2.2.2.2
                have f18 := c19z (T5.at 1 rfl) 18
                have TT := T5.set 1 rfl (moves_set w5 B 18 (.slice sa sn sc)) (heap_set (i := 18) (T5.at 1 rfl) (.slice sa sn sc))
                skip
                obtain ⟨v5, hv5⟩ : ∃ v, w5.setCell ⟨B, 18, none⟩ (.slice sa sn sc) = v := ⟨_, rfl⟩
                rw [hv5] at TT HX
                have HT5 : Hid (TkB N w v5 r g b5 [(R, #[.int .i64 0, .int .i64 0, .string ⟨#[]⟩, .string ⟨#[]⟩, .bool false, .bool false, .string ⟨#[]⟩, .int .i64 0, .slice none 0 0, .float .f64 0, .slice none 0 0, .int .i64 0, .string ⟨#[]⟩, .string ⟨#[]⟩, .int .i64 0, .string ⟨#[]⟩, .int .i64 0, .int .i64 0, .slice none 0 0], 36), (B, #[.int .i64 (k : Int), .int .i64 0, .string ⟨#[]⟩, .string ⟨#[]⟩, .bool false, .bool false, .string ⟨#[]⟩, .int .i64 0, .slice none 0 0, .float .f64 0, .slice none 0 0, .int .i64 0, .string lo, .string hi, .int .i64 (gn : Int), .string ⟨#[]⟩, .int .i64 0, .int .i64 0, .slice sa sn sc], 36)]) := TT
                clear TT T5
                obtain ⟨gs, kB, kU⟩ := ownU8 HX
                have HKB : Hid (IsB v5 gs (.slice sa sn sc) sx) := kB
                have HKU : Hid (U8 v5 gs sx) := kU
                have HSX : Hid (∀ z ∈ sx, z < 256) := hsx
                clear hc hr5 m5 hF5 hO5 HX D6 e5 kB kU hsx HT3 HD4
                have hD : CmdD w v5 [.int .i64 (k : Int), .int .i64 0, .string ⟨#[]⟩, .string ⟨#[]⟩, .bool false, .bool false, .string ⟨#[]⟩, .int .i64 0, .slice none 0 0, .float .f64 0, .slice none 0 0, .int .i64 0, .string lo, .string hi, .int .i64 (gn : Int), .string ⟨#[]⟩, .int .i64 0, .int .i64 0, .slice sa sn sc] ⟨(k : Int), opz, lo, hi, (gn : Int), ⟨#[]⟩, 0, 0, sx⟩ := ⟨none, 0, 0, none, 0, 0, sa, sn, sc, gs, rfl, vc_pz _, GrowD.nil _ _, HKB.out, HKU.out, HSX.out⟩
                have hq := cright_w v5 v5 _ _ hD.cmd (Moves.refl _ _)
                obtain ⟨E, hE⟩ : ∃ E, rCmd ⟨(k : Int), opz, lo, hi, (gn : Int), ⟨#[]⟩, 0, 0, sx⟩ = E := ⟨_, rfl⟩
                rw [hE] at hq
                have hD9 : Hid (dCmd bs = cmdGuard ⟨(k : Int), opz, lo, hi, (gn : Int), ⟨#[]⟩, 0, 0, sx⟩ b5) := HD6.out
                have HE : Hid (rCmd ⟨(k : Int), opz, lo, hi, (gn : Int), ⟨#[]⟩, 0, 0, sx⟩ = E) := hE
                have HDD : Hid (CmdD w v5 [.int .i64 (k : Int), .int .i64 0, .string ⟨#[]⟩, .string ⟨#[]⟩, .bool false, .bool false, .string ⟨#[]⟩, .int .i64 0, .slice none 0 0, .float .f64 0, .slice none 0 0, .int .i64 0, .string lo, .string hi, .int .i64 (gn : Int), .string ⟨#[]⟩, .int .i64 0, .int .i64 0, .slice sa sn sc] ⟨(k : Int), opz, lo, hi, (gn : Int), ⟨#[]⟩, 0, 0, sx⟩) := hD
                clear hE HD6 hD
                go_wp2_with (with_reducible refine stopLoad _ rfl ?_)
                unfold Hid
                
                clear k18 f18 hv5
                refine wpList_loadCmd rfl _ rfl B rfl _ (HT5.out.at 1 rfl) rfl ?_
                go_wp2_with fail
                refine hq.mono ?_
                rintro _ w9 ⟨rfl, m9⟩
                have HT9 : Hid (TkB N w w9 r g b5 [(R, #[.int .i64 0, .int .i64 0, .string ⟨#[]⟩, .string ⟨#[]⟩, .bool false, .bool false, .string ⟨#[]⟩, .int .i64 0, .slice none 0 0, .float .f64 0, .slice none 0 0, .int .i64 0, .string ⟨#[]⟩, .string ⟨#[]⟩, .int .i64 0, .string ⟨#[]⟩, .int .i64 0, .int .i64 0, .slice none 0 0], 36), (B, #[.int .i64 (k : Int), .int .i64 0, .string ⟨#[]⟩, .string ⟨#[]⟩, .bool false, .bool false, .string ⟨#[]⟩, .int .i64 0, .slice none 0 0, .float .f64 0, .slice none 0 0, .int .i64 0, .string lo, .string hi, .int .i64 (gn : Int), .string ⟨#[]⟩, .int .i64 0, .int .i64 0, .slice sa sn sc], 36)]) := HT5.out.moves m9
                have HD8 : Hid (CmdD w w9 [.int .i64 (k : Int), .int .i64 0, .string ⟨#[]⟩, .string ⟨#[]⟩, .bool false, .bool false, .string ⟨#[]⟩, .int .i64 0, .slice none 0 0, .float .f64 0, .slice none 0 0, .int .i64 0, .string lo, .string hi, .int .i64 (gn : Int), .string ⟨#[]⟩, .int .i64 0, .int .i64 0, .slice sa sn sc] ⟨(k : Int), opz, lo, hi, (gn : Int), ⟨#[]⟩, 0, 0, sx⟩) := HDD.out.moves0 m9
                clear hq m9 HDD
                cases E with
                | true =>
                  go_wp2_with (with_reducible refine stopLoad _ rfl ?_)
                  unfold Hid
                  refine wpList_loadCmd rfl _ rfl B rfl _ (HT9.out.at 1 rfl) rfl ?_
                  go_wp2_with (with_reducible refine stopStore _ _ rfl ?_)
                  unfold Hid
                  refine wpList_storeCmd rfl (.tmp 2) (.tmp 60) rfl R _ rfl rfl (HT9.out.at 0 rfl) rfl rfl (by simp [Value.oneCell']) ?_
                  intro w10 hb10 m10
                  go_wp2_with fail
                  have T10 := HT9.out.set 0 rfl m10 hb10
                  refine bodyPost_ret (ret_cmd rfl _ _ R _ rfl rfl hb10) rfl ?_
                  show TookM w r g (dCmd bs) _ _
                  rw [hD9.out, cmdGuard_yes HE.out]
                  exact ⟨_, rfl, HD8.out.box m10 (HT9.out.at 0 rfl) (by decide) (by decide), T10.rd, T10.mv⟩
                | false =>
                  go_wp2_with fail
                  refine (rfail_w r g _ _ HT9.out.rd).mono ?_
                  rintro _ w10 ⟨rfl, hr, m⟩
                  refine ⟨rfl, ?_⟩
                  show TookM w r g (dCmd bs) _ _
                  rw [hD9.out, cmdGuard_no HE.out]
                  exact ⟨rfl, ⟨_, hr⟩, HT9.out.mv.then m⟩
          · skip
            by_cases hK5 : k = 5
            · have hK := hK5
              have n1 : ((k : Int) == 1) = false := beq_eq_false_iff_ne.2 (by omega)
              have n2 : ((k : Int) == 2) = false := beq_eq_false_iff_ne.2 (by omega)
              have n4 : ((k : Int) == 4) = false := beq_eq_false_iff_ne.2 (by omega)
              have n3 : ((k : Int) == 3) = false := beq_eq_false_iff_ne.2 (by omega)
              have n5 : ((k : Int) == 5) = true := beq_iff_eq.2 (by omega)
              have D3 := D1.out
              rw [dCmdK5 (.inl hK)] at D3
              have HD3 : Hid (dCmd bs = _) := D3
              clear D3 D1 hK hK5
              have hc := ctakeTab_w N r g B b1 w2 HT1.out.rd HT1.out.oct HGW.out (.int .i64 (k : Int)) (.int .i64 0) (.string ⟨#[]⟩) (.string ⟨#[]⟩) (.bool false) (.bool false) (.string ⟨#[]⟩) (.int .i64 0) (.slice none 0 0) (.float .f64 0) (.slice none 0 0) (.int .i64 0) (.string ⟨#[]⟩) (.string ⟨#[]⟩) (.int .i64 0) (.string ⟨#[]⟩) (.int .i64 0) (.int .i64 0) (.slice none 0 0) (HT1.out.at 1 rfl) HBR.out HBG.out
              go_wp2_with fail
              clear n1 n2 n4 n3 n5 y0
              cases e3 : dTbl b1 with
              | none =>
                rw [e3] at hc
                refine hc.mono ?_
                rintro _ w3 ⟨rfl, hr, m⟩
                refine ⟨rfl, ?_⟩
                show TookM w r g (dCmd bs) _ _
                rw [HD3.out, pbn_none e3]
                have hge := HT1.out.ge 1 rfl
                exact ⟨rfl, hr, HT1.out.mv.trans m (fun x hx => by simp at hx; rcases hx with rfl | rfl; exact .inl (by simp); exact .inr hge)⟩
              | some pr =>
                obtain ⟨⟨⟨lo, hi⟩, gn⟩, b3⟩ := pr
                rw [e3] at hc
                have D4 := HD3.out.trans (pbn_some e3)
                refine hc.mono ?_
                rintro _ w3 ⟨rfl, hb3, hr3, m3⟩
                have HD4 : Hid (dCmd bs = _) := D4
                have HT3 : Hid (TkB N w w3 r g b3 [(R, #[.int .i64 0, .int .i64 0, .string ⟨#[]⟩, .string ⟨#[]⟩, .bool false, .bool false, .string ⟨#[]⟩, .int .i64 0, .slice none 0 0, .float .f64 0, .slice none 0 0, .int .i64 0, .string ⟨#[]⟩, .string ⟨#[]⟩, .int .i64 0, .string ⟨#[]⟩, .int .i64 0, .int .i64 0, .slice none 0 0], 36), (B, #[.int .i64 (k : Int), .int .i64 0, .string ⟨#[]⟩, .string ⟨#[]⟩, .bool false, .bool false, .string ⟨#[]⟩, .int .i64 0, .slice none 0 0, .float .f64 0, .slice none 0 0, .int .i64 0, .string lo, .string hi, .int .i64 (gn : Int), .string ⟨#[]⟩, .int .i64 0, .int .i64 0, .slice none 0 0], 36)]) := HT1.out.readX hb3 hr3 m3 (dTbl_rest e3 HT1.out.oct)
                clear hc hb3 hr3 m3 D4 e3
                have hc := cname_w N r g b3 w3 HT3.out.rd HT3.out.oct
                go_wp2_with fail
                cases e5 : dText 16 b3 with
                | none =>
                  rw [e5] at hc
                  refine hc.mono ?_
                  rintro _ w5 ⟨rfl, hr, m⟩
                  refine ⟨rfl, ?_⟩
                  show TookM w r g (dCmd bs) _ _
                  rw [HD4.out, pbn_none e5]
                  exact ⟨rfl, ⟨_, hr⟩, HT3.out.mv.then m⟩
                | some pr =>
                  obtain ⟨tx, b5⟩ := pr
                  rw [e5] at hc
                  obtain ⟨z, hz⟩ : ∃ z, strOf tx = z := ⟨_, rfl⟩
                  have D6 := HD4.out.trans (pbn_some e5)
                  simp only [hz] at D6
                  dsimp only at hc
                  rw [hz] at hc
                  refine hc.mono ?_
                  rintro _ w5 ⟨rfl, hr5, m5⟩
                  have HD6 : Hid (dCmd bs = _) := D6
                  have T5 := HT3.out.read hr5 m5 (dText_rest e5 HT3.out.oct)
                  have k15 := (c19 (T5.at 1 rfl)).2.2.2.2.2.2.2.2.2.2.2.2.2.2.2.1
                  have f15 := c19z (T5.at 1 rfl) 15
                  have TT := T5.set 1 rfl (moves_set w5 B 15 (.string z)) (heap_set (i := 15) (T5.at 1 rfl) (.string z))
                  obtain ⟨v5, hv5⟩ : ∃ v, w5.setCell ⟨B, 15, none⟩ (.string z) = v := ⟨_, rfl⟩
                  rw [hv5] at TT
                  have HT5 : Hid (TkB N w v5 r g b5 [(R, #[.int .i64 0, .int .i64 0, .string ⟨#[]⟩, .string ⟨#[]⟩, .bool false, .bool false, .string ⟨#[]⟩, .int .i64 0, .slice none 0 0, .float .f64 0, .slice none 0 0, .int .i64 0, .string ⟨#[]⟩, .string ⟨#[]⟩, .int .i64 0, .string ⟨#[]⟩, .int .i64 0, .int .i64 0, .slice none 0 0], 36), (B, #[.int .i64 (k : Int), .int .i64 0, .string ⟨#[]⟩, .string ⟨#[]⟩, .bool false, .bool false, .string ⟨#[]⟩, .int .i64 0, .slice none 0 0, .float .f64 0, .slice none 0 0, .int .i64 0, .string lo, .string hi, .int .i64 (gn : Int), .string z, .int .i64 0, .int .i64 0, .slice none 0 0], 36)]) := TT
                  clear TT T5
                  clear hc hr5 m5 D6 e5 hz
                  have hD : CmdD w v5 [.int .i64 (k : Int), .int .i64 0, .string ⟨#[]⟩, .string ⟨#[]⟩, .bool false, .bool false, .string ⟨#[]⟩, .int .i64 0, .slice none 0 0, .float .f64 0, .slice none 0 0, .int .i64 0, .string lo, .string hi, .int .i64 (gn : Int), .string z, .int .i64 0, .int .i64 0, .slice none 0 0] ⟨(k : Int), opz, lo, hi, (gn : Int), z, 0, 0, []⟩ := CmdD.plain _ _ _ _ _ _ _ _ _
                  have hq := cright_w v5 v5 _ _ hD.cmd (Moves.refl _ _)
                  obtain ⟨E, hE⟩ : ∃ E, rCmd ⟨(k : Int), opz, lo, hi, (gn : Int), z, 0, 0, []⟩ = E := ⟨_, rfl⟩
                  rw [hE] at hq
                  have hD9 : Hid (dCmd bs = cmdGuard ⟨(k : Int), opz, lo, hi, (gn : Int), z, 0, 0, []⟩ b5) := HD6.out
                  have HE : Hid (rCmd ⟨(k : Int), opz, lo, hi, (gn : Int), z, 0, 0, []⟩ = E) := hE
                  have HDD : Hid (CmdD w v5 [.int .i64 (k : Int), .int .i64 0, .string ⟨#[]⟩, .string ⟨#[]⟩, .bool false, .bool false, .string ⟨#[]⟩, .int .i64 0, .slice none 0 0, .float .f64 0, .slice none 0 0, .int .i64 0, .string lo, .string hi, .int .i64 (gn : Int), .string z, .int .i64 0, .int .i64 0, .slice none 0 0] ⟨(k : Int), opz, lo, hi, (gn : Int), z, 0, 0, []⟩) := hD
                  clear hE HD6 hD
                  go_wp2_with (with_reducible refine stopLoad _ rfl ?_)
                  unfold Hid
                  
                  clear k15 f15 hv5
                  refine wpList_loadCmd rfl _ rfl B rfl _ (HT5.out.at 1 rfl) rfl ?_
                  go_wp2_with fail
                  refine hq.mono ?_
                  rintro _ w9 ⟨rfl, m9⟩
                  have HT9 : Hid (TkB N w w9 r g b5 [(R, #[.int .i64 0, .int .i64 0, .string ⟨#[]⟩, .string ⟨#[]⟩, .bool false, .bool false, .string ⟨#[]⟩, .int .i64 0, .slice none 0 0, .float .f64 0, .slice none 0 0, .int .i64 0, .string ⟨#[]⟩, .string ⟨#[]⟩, .int .i64 0, .string ⟨#[]⟩, .int .i64 0, .int .i64 0, .slice none 0 0], 36), (B, #[.int .i64 (k : Int), .int .i64 0, .string ⟨#[]⟩, .string ⟨#[]⟩, .bool false, .bool false, .string ⟨#[]⟩, .int .i64 0, .slice none 0 0, .float .f64 0, .slice none 0 0, .int .i64 0, .string lo, .string hi, .int .i64 (gn : Int), .string z, .int .i64 0, .int .i64 0, .slice none 0 0], 36)]) := HT5.out.moves m9
                  have HD8 : Hid (CmdD w w9 [.int .i64 (k : Int), .int .i64 0, .string ⟨#[]⟩, .string ⟨#[]⟩, .bool false, .bool false, .string ⟨#[]⟩, .int .i64 0, .slice none 0 0, .float .f64 0, .slice none 0 0, .int .i64 0, .string lo, .string hi, .int .i64 (gn : Int), .string z, .int .i64 0, .int .i64 0, .slice none 0 0] ⟨(k : Int), opz, lo, hi, (gn : Int), z, 0, 0, []⟩) := HDD.out.moves0 m9
                  clear hq m9 HDD
                  cases E with
                  | true =>
                    go_wp2_with (with_reducible refine stopLoad _ rfl ?_)
                    unfold Hid
                    refine wpList_loadCmd rfl _ rfl B rfl _ (HT9.out.at 1 rfl) rfl ?_
                    go_wp2_with (with_reducible refine stopStore _ _ rfl ?_)
                    unfold Hid
                    refine wpList_storeCmd rfl (.tmp 2) (.tmp 60) rfl R _ rfl rfl (HT9.out.at 0 rfl) rfl rfl (by simp [Value.oneCell']) ?_
                    intro w10 hb10 m10
                    go_wp2_with fail
                    have T10 := HT9.out.set 0 rfl m10 hb10
                    refine bodyPost_ret (ret_cmd rfl _ _ R _ rfl rfl hb10) rfl ?_
                    show TookM w r g (dCmd bs) _ _
                    rw [hD9.out, cmdGuard_yes HE.out]
                    exact ⟨_, rfl, HD8.out.box m10 (HT9.out.at 0 rfl) (by decide) (by decide), T10.rd, T10.mv⟩
                  | false =>
                    go_wp2_with fail
                    refine (rfail_w r g _ _ HT9.out.rd).mono ?_
                    rintro _ w10 ⟨rfl, hr, m⟩
                    refine ⟨rfl, ?_⟩
                    show TookM w r g (dCmd bs) _ _
                    rw [hD9.out, cmdGuard_no HE.out]
                    exact ⟨rfl, ⟨_, hr⟩, HT9.out.mv.then m⟩
            · skip
              by_cases hK6 : k = 6
              · have hK := hK6
                have n1 : ((k : Int) == 1) = false := beq_eq_false_iff_ne.2 (by omega)
                have n2 : ((k : Int) == 2) = false := beq_eq_false_iff_ne.2 (by omega)
                have n4 : ((k : Int) == 4) = false := beq_eq_false_iff_ne.2 (by omega)
                have n3 : ((k : Int) == 3) = false := beq_eq_false_iff_ne.2 (by omega)
                have n5 : ((k : Int) == 5) = false := beq_eq_false_iff_ne.2 (by omega)
                have n6 : ((k : Int) == 6) = true := beq_iff_eq.2 (by omega)
                have D3 := D1.out
                rw [dCmdK5 (.inr hK)] at D3
                have HD3 : Hid (dCmd bs = _) := D3
                clear D3 D1 hK hK6
                have hc := ctakeTab_w N r g B b1 w2 HT1.out.rd HT1.out.oct HGW.out (.int .i64 (k : Int)) (.int .i64 0) (.string ⟨#[]⟩) (.string ⟨#[]⟩) (.bool false) (.bool false) (.string ⟨#[]⟩) (.int .i64 0) (.slice none 0 0) (.float .f64 0) (.slice none 0 0) (.int .i64 0) (.string ⟨#[]⟩) (.string ⟨#[]⟩) (.int .i64 0) (.string ⟨#[]⟩) (.int .i64 0) (.int .i64 0) (.slice none 0 0) (HT1.out.at 1 rfl) HBR.out HBG.out
                go_wp2_with fail
                clear n1 n2 n4 n3 n5 n6 y0
                cases e3 : dTbl b1 with
                | none =>
                  rw [e3] at hc
                  refine hc.mono ?_
                  rintro _ w3 ⟨rfl, hr, m⟩
                  refine ⟨rfl, ?_⟩
                  show TookM w r g (dCmd bs) _ _
                  rw [HD3.out, pbn_none e3]
                  have hge := HT1.out.ge 1 rfl
                  exact ⟨rfl, hr, HT1.out.mv.trans m (fun x hx => by simp at hx; rcases hx with rfl | rfl; exact .inl (by simp); exact .inr hge)⟩
                | some pr =>
                  obtain ⟨⟨⟨lo, hi⟩, gn⟩, b3⟩ := pr
                  rw [e3] at hc
                  have D4 := HD3.out.trans (pbn_some e3)
                  refine hc.mono ?_
                  rintro _ w3 ⟨rfl, hb3, hr3, m3⟩
                  have HD4 : Hid (dCmd bs = _) := D4
                  have HT3 : Hid (TkB N w w3 r g b3 [(R, #[.int .i64 0, .int .i64 0, .string ⟨#[]⟩, .string ⟨#[]⟩, .bool false, .bool false, .string ⟨#[]⟩, .int .i64 0, .slice none 0 0, .float .f64 0, .slice none 0 0, .int .i64 0, .string ⟨#[]⟩, .string ⟨#[]⟩, .int .i64 0, .string ⟨#[]⟩, .int .i64 0, .int .i64 0, .slice none 0 0], 36), (B, #[.int .i64 (k : Int), .int .i64 0, .string ⟨#[]⟩, .string ⟨#[]⟩, .bool false, .bool false, .string ⟨#[]⟩, .int .i64 0, .slice none 0 0, .float .f64 0, .slice none 0 0, .int .i64 0, .string lo, .string hi, .int .i64 (gn : Int), .string ⟨#[]⟩, .int .i64 0, .int .i64 0, .slice none 0 0], 36)]) := HT1.out.readX hb3 hr3 m3 (dTbl_rest e3 HT1.out.oct)
                  clear hc hb3 hr3 m3 D4 e3
                  have hc := cname_w N r g b3 w3 HT3.out.rd HT3.out.oct
                  go_wp2_with fail
                  cases e5 : dText 16 b3 with
                  | none =>
                    rw [e5] at hc
                    refine hc.mono ?_
                    rintro _ w5 ⟨rfl, hr, m⟩
                    refine ⟨rfl, ?_⟩
                    show TookM w r g (dCmd bs) _ _
                    rw [HD4.out, pbn_none e5]
                    exact ⟨rfl, ⟨_, hr⟩, HT3.out.mv.then m⟩
                  | some pr =>
                    obtain ⟨tx, b5⟩ := pr
                    rw [e5] at hc
                    obtain ⟨z, hz⟩ : ∃ z, strOf tx = z := ⟨_, rfl⟩
                    have D6 := HD4.out.trans (pbn_some e5)
                    simp only [hz] at D6
                    dsimp only at hc
                    rw [hz] at hc
                    refine hc.mono ?_
                    rintro _ w5 ⟨rfl, hr5, m5⟩
                    have HD6 : Hid (dCmd bs = _) := D6
                    have T5 := HT3.out.read hr5 m5 (dText_rest e5 HT3.out.oct)
                    have k15 := (c19 (T5.at 1 rfl)).2.2.2.2.2.2.2.2.2.2.2.2.2.2.2.1
                    have f15 := c19z (T5.at 1 rfl) 15
                    have TT := T5.set 1 rfl (moves_set w5 B 15 (.string z)) (heap_set (i := 15) (T5.at 1 rfl) (.string z))
                    obtain ⟨v5, hv5⟩ : ∃ v, w5.setCell ⟨B, 15, none⟩ (.string z) = v := ⟨_, rfl⟩
                    rw [hv5] at TT
                    have HT5 : Hid (TkB N w v5 r g b5 [(R, #[.int .i64 0, .int .i64 0, .string ⟨#[]⟩, .string ⟨#[]⟩, .bool false, .bool false, .string ⟨#[]⟩, .int .i64 0, .slice none 0 0, .float .f64 0, .slice none 0 0, .int .i64 0, .string ⟨#[]⟩, .string ⟨#[]⟩, .int .i64 0, .string ⟨#[]⟩, .int .i64 0, .int .i64 0, .slice none 0 0], 36), (B, #[.int .i64 (k : Int), .int .i64 0, .string ⟨#[]⟩, .string ⟨#[]⟩, .bool false, .bool false, .string ⟨#[]⟩, .int .i64 0, .slice none 0 0, .float .f64 0, .slice none 0 0, .int .i64 0, .string lo, .string hi, .int .i64 (gn : Int), .string z, .int .i64 0, .int .i64 0, .slice none 0 0], 36)]) := TT
                    clear TT T5
                    clear hc hr5 m5 D6 e5 hz
                    have hD : CmdD w v5 [.int .i64 (k : Int), .int .i64 0, .string ⟨#[]⟩, .string ⟨#[]⟩, .bool false, .bool false, .string ⟨#[]⟩, .int .i64 0, .slice none 0 0, .float .f64 0, .slice none 0 0, .int .i64 0, .string lo, .string hi, .int .i64 (gn : Int), .string z, .int .i64 0, .int .i64 0, .slice none 0 0] ⟨(k : Int), opz, lo, hi, (gn : Int), z, 0, 0, []⟩ := CmdD.plain _ _ _ _ _ _ _ _ _
                    have hq := cright_w v5 v5 _ _ hD.cmd (Moves.refl _ _)
                    obtain ⟨E, hE⟩ : ∃ E, rCmd ⟨(k : Int), opz, lo, hi, (gn : Int), z, 0, 0, []⟩ = E := ⟨_, rfl⟩
                    rw [hE] at hq
                    have hD9 : Hid (dCmd bs = cmdGuard ⟨(k : Int), opz, lo, hi, (gn : Int), z, 0, 0, []⟩ b5) := HD6.out
                    have HE : Hid (rCmd ⟨(k : Int), opz, lo, hi, (gn : Int), z, 0, 0, []⟩ = E) := hE
                    have HDD : Hid (CmdD w v5 [.int .i64 (k : Int), .int .i64 0, .string ⟨#[]⟩, .string ⟨#[]⟩, .bool false, .bool false, .string ⟨#[]⟩, .int .i64 0, .slice none 0 0, .float .f64 0, .slice none 0 0, .int .i64 0, .string lo, .string hi, .int .i64 (gn : Int), .string z, .int .i64 0, .int .i64 0, .slice none 0 0] ⟨(k : Int), opz, lo, hi, (gn : Int), z, 0, 0, []⟩) := hD
                    clear hE HD6 hD
                    go_wp2_with (with_reducible refine stopLoad _ rfl ?_)
                    unfold Hid
                    
                    clear k15 f15 hv5
                    refine wpList_loadCmd rfl _ rfl B rfl _ (HT5.out.at 1 rfl) rfl ?_
                    go_wp2_with fail
                    refine hq.mono ?_
                    rintro _ w9 ⟨rfl, m9⟩
                    have HT9 : Hid (TkB N w w9 r g b5 [(R, #[.int .i64 0, .int .i64 0, .string ⟨#[]⟩, .string ⟨#[]⟩, .bool false, .bool false, .string ⟨#[]⟩, .int .i64 0, .slice none 0 0, .float .f64 0, .slice none 0 0, .int .i64 0, .string ⟨#[]⟩, .string ⟨#[]⟩, .int .i64 0, .string ⟨#[]⟩, .int .i64 0, .int .i64 0, .slice none 0 0], 36), (B, #[.int .i64 (k : Int), .int .i64 0, .string ⟨#[]⟩, .string ⟨#[]⟩, .bool false, .bool false, .string ⟨#[]⟩, .int .i64 0, .slice none 0 0, .float .f64 0, .slice none 0 0, .int .i64 0, .string lo, .string hi, .int .i64 (gn : Int), .string z, .int .i64 0, .int .i64 0, .slice none 0 0], 36)]) := HT5.out.moves m9
                    have HD8 : Hid (CmdD w w9 [.int .i64 (k : Int), .int .i64 0, .string ⟨#[]⟩, .string ⟨#[]⟩, .bool false, .bool false, .string ⟨#[]⟩, .int .i64 0, .slice none 0 0, .float .f64 0, .slice none 0 0, .int .i64 0, .string lo, .string hi, .int .i64 (gn : Int), .string z, .int .i64 0, .int .i64 0, .slice none 0 0] ⟨(k : Int), opz, lo, hi, (gn : Int), z, 0, 0, []⟩) := HDD.out.moves0 m9
                    clear hq m9 HDD
                    cases E with
                    | true =>
                      go_wp2_with (with_reducible refine stopLoad _ rfl ?_)
                      unfold Hid
                      refine wpList_loadCmd rfl _ rfl B rfl _ (HT9.out.at 1 rfl) rfl ?_
                      go_wp2_with (with_reducible refine stopStore _ _ rfl ?_)
                      unfold Hid
                      refine wpList_storeCmd rfl (.tmp 2) (.tmp 60) rfl R _ rfl rfl (HT9.out.at 0 rfl) rfl rfl (by simp [Value.oneCell']) ?_
                      intro w10 hb10 m10
                      go_wp2_with fail
                      have T10 := HT9.out.set 0 rfl m10 hb10
                      refine bodyPost_ret (ret_cmd rfl _ _ R _ rfl rfl hb10) rfl ?_
                      show TookM w r g (dCmd bs) _ _
                      rw [hD9.out, cmdGuard_yes HE.out]
                      exact ⟨_, rfl, HD8.out.box m10 (HT9.out.at 0 rfl) (by decide) (by decide), T10.rd, T10.mv⟩
                    | false =>
                      go_wp2_with fail
                      refine (rfail_w r g _ _ HT9.out.rd).mono ?_
                      rintro _ w10 ⟨rfl, hr, m⟩
                      refine ⟨rfl, ?_⟩
                      show TookM w r g (dCmd bs) _ _
                      rw [hD9.out, cmdGuard_no HE.out]
                      exact ⟨rfl, ⟨_, hr⟩, HT9.out.mv.then m⟩
              · skip
                by_cases hK7 : k = 7
                · have hK := hK7
                  have n1 : ((k : Int) == 1) = false := beq_eq_false_iff_ne.2 (by omega)
                  have n2 : ((k : Int) == 2) = false := beq_eq_false_iff_ne.2 (by omega)
                  have n4 : ((k : Int) == 4) = false := beq_eq_false_iff_ne.2 (by omega)
                  have n3 : ((k : Int) == 3) = false := beq_eq_false_iff_ne.2 (by omega)
                  have n5 : ((k : Int) == 5) = false := beq_eq_false_iff_ne.2 (by omega)
                  have n6 : ((k : Int) == 6) = false := beq_eq_false_iff_ne.2 (by omega)
                  have n7 : ((k : Int) == 7) = true := beq_iff_eq.2 (by omega)
                  have D3 := D1.out
                  rw [dCmdK7 hK] at D3
                  have HD3 : Hid (dCmd bs = _) := D3
                  clear D3 D1 hK hK7
                  have hc := cname_w N r g b1 w2 HT1.out.rd HT1.out.oct
                  go_wp2_with fail
                  clear n1 n2 n4 n3 n5 n6 n7 y0
                  cases e3 : dText 16 b1 with
                  | none =>
                    rw [e3] at hc
                    refine hc.mono ?_
                    rintro _ w3 ⟨rfl, hr, m⟩
                    refine ⟨rfl, ?_⟩
                    show TookM w r g (dCmd bs) _ _
                    rw [HD3.out, pbn_none e3]
                    exact ⟨rfl, ⟨_, hr⟩, HT1.out.mv.then m⟩
                  | some pr =>
                    obtain ⟨tx, b3⟩ := pr
                    rw [e3] at hc
                    obtain ⟨z, hz⟩ : ∃ z, strOf tx = z := ⟨_, rfl⟩
                    have D6 := HD3.out.trans (pbn_some e3)
                    simp only [hz] at D6
                    dsimp only at hc
                    rw [hz] at hc
                    refine hc.mono ?_
                    rintro _ w3 ⟨rfl, hr5, m5⟩
                    have HD6 : Hid (dCmd bs = _) := D6
                    have T3 := HT1.out.read hr5 m5 (dText_rest e3 HT1.out.oct)
                    have k15 := (c19 (T3.at 1 rfl)).2.2.2.2.2.2.2.2.2.2.2.2.2.2.2.1
                    have f15 := c19z (T3.at 1 rfl) 15
                    have TT := T3.set 1 rfl (moves_set w3 B 15 (.string z)) (heap_set (i := 15) (T3.at 1 rfl) (.string z))
                    obtain ⟨v3, hv3⟩ : ∃ v, w3.setCell ⟨B, 15, none⟩ (.string z) = v := ⟨_, rfl⟩
                    rw [hv3] at TT
                    have HT5 : Hid (TkB N w v3 r g b3 [(R, #[.int .i64 0, .int .i64 0, .string ⟨#[]⟩, .string ⟨#[]⟩, .bool false, .bool false, .string ⟨#[]⟩, .int .i64 0, .slice none 0 0, .float .f64 0, .slice none 0 0, .int .i64 0, .string ⟨#[]⟩, .string ⟨#[]⟩, .int .i64 0, .string ⟨#[]⟩, .int .i64 0, .int .i64 0, .slice none 0 0], 36), (B, #[.int .i64 (k : Int), .int .i64 0, .string ⟨#[]⟩, .string ⟨#[]⟩, .bool false, .bool false, .string ⟨#[]⟩, .int .i64 0, .slice none 0 0, .float .f64 0, .slice none 0 0, .int .i64 0, .string ⟨#[]⟩, .string ⟨#[]⟩, .int .i64 0, .string z, .int .i64 0, .int .i64 0, .slice none 0 0], 36)]) := TT
                    clear TT T3
                    clear hc hr5 m5 D6 e3 hz
                    have hD : CmdD w v3 [.int .i64 (k : Int), .int .i64 0, .string ⟨#[]⟩, .string ⟨#[]⟩, .bool false, .bool false, .string ⟨#[]⟩, .int .i64 0, .slice none 0 0, .float .f64 0, .slice none 0 0, .int .i64 0, .string ⟨#[]⟩, .string ⟨#[]⟩, .int .i64 0, .string z, .int .i64 0, .int .i64 0, .slice none 0 0] ⟨(k : Int), opz, ⟨#[]⟩, ⟨#[]⟩, 0, z, 0, 0, []⟩ := CmdD.plain _ _ _ _ _ _ _ _ _
                    have hq := cright_w v3 v3 _ _ hD.cmd (Moves.refl _ _)
                    obtain ⟨E, hE⟩ : ∃ E, rCmd ⟨(k : Int), opz, ⟨#[]⟩, ⟨#[]⟩, 0, z, 0, 0, []⟩ = E := ⟨_, rfl⟩
                    rw [hE] at hq
                    have hD9 : Hid (dCmd bs = cmdGuard ⟨(k : Int), opz, ⟨#[]⟩, ⟨#[]⟩, 0, z, 0, 0, []⟩ b3) := HD6.out
                    have HE : Hid (rCmd ⟨(k : Int), opz, ⟨#[]⟩, ⟨#[]⟩, 0, z, 0, 0, []⟩ = E) := hE
                    have HDD : Hid (CmdD w v3 [.int .i64 (k : Int), .int .i64 0, .string ⟨#[]⟩, .string ⟨#[]⟩, .bool false, .bool false, .string ⟨#[]⟩, .int .i64 0, .slice none 0 0, .float .f64 0, .slice none 0 0, .int .i64 0, .string ⟨#[]⟩, .string ⟨#[]⟩, .int .i64 0, .string z, .int .i64 0, .int .i64 0, .slice none 0 0] ⟨(k : Int), opz, ⟨#[]⟩, ⟨#[]⟩, 0, z, 0, 0, []⟩) := hD
                    clear hE HD6 hD
                    go_wp2_with (with_reducible refine stopLoad _ rfl ?_)
                    unfold Hid
                    
                    clear k15 f15 hv3
                    refine wpList_loadCmd rfl _ rfl B rfl _ (HT5.out.at 1 rfl) rfl ?_
                    go_wp2_with fail
                    refine hq.mono ?_
                    rintro _ w9 ⟨rfl, m9⟩
                    have HT9 : Hid (TkB N w w9 r g b3 [(R, #[.int .i64 0, .int .i64 0, .string ⟨#[]⟩, .string ⟨#[]⟩, .bool false, .bool false, .string ⟨#[]⟩, .int .i64 0, .slice none 0 0, .float .f64 0, .slice none 0 0, .int .i64 0, .string ⟨#[]⟩, .string ⟨#[]⟩, .int .i64 0, .string ⟨#[]⟩, .int .i64 0, .int .i64 0, .slice none 0 0], 36), (B, #[.int .i64 (k : Int), .int .i64 0, .string ⟨#[]⟩, .string ⟨#[]⟩, .bool false, .bool false, .string ⟨#[]⟩, .int .i64 0, .slice none 0 0, .float .f64 0, .slice none 0 0, .int .i64 0, .string ⟨#[]⟩, .string ⟨#[]⟩, .int .i64 0, .string z, .int .i64 0, .int .i64 0, .slice none 0 0], 36)]) := HT5.out.moves m9
                    have HD8 : Hid (CmdD w w9 [.int .i64 (k : Int), .int .i64 0, .string ⟨#[]⟩, .string ⟨#[]⟩, .bool false, .bool false, .string ⟨#[]⟩, .int .i64 0, .slice none 0 0, .float .f64 0, .slice none 0 0, .int .i64 0, .string ⟨#[]⟩, .string ⟨#[]⟩, .int .i64 0, .string z, .int .i64 0, .int .i64 0, .slice none 0 0] ⟨(k : Int), opz, ⟨#[]⟩, ⟨#[]⟩, 0, z, 0, 0, []⟩) := HDD.out.moves0 m9
                    clear hq m9 HDD
                    cases E with
                    | true =>
                      go_wp2_with (with_reducible refine stopLoad _ rfl ?_)
                      unfold Hid
                      refine wpList_loadCmd rfl _ rfl B rfl _ (HT9.out.at 1 rfl) rfl ?_
                      go_wp2_with (with_reducible refine stopStore _ _ rfl ?_)
                      unfold Hid
                      refine wpList_storeCmd rfl (.tmp 2) (.tmp 60) rfl R _ rfl rfl (HT9.out.at 0 rfl) rfl rfl (by simp [Value.oneCell']) ?_
                      intro w10 hb10 m10
                      go_wp2_with fail
                      have T10 := HT9.out.set 0 rfl m10 hb10
                      refine bodyPost_ret (ret_cmd rfl _ _ R _ rfl rfl hb10) rfl ?_
                      show TookM w r g (dCmd bs) _ _
                      rw [hD9.out, cmdGuard_yes HE.out]
                      exact ⟨_, rfl, HD8.out.box m10 (HT9.out.at 0 rfl) (by decide) (by decide), T10.rd, T10.mv⟩
                    | false =>
                      go_wp2_with fail
                      refine (rfail_w r g _ _ HT9.out.rd).mono ?_
                      rintro _ w10 ⟨rfl, hr, m⟩
                      refine ⟨rfl, ?_⟩
                      show TookM w r g (dCmd bs) _ _
                      rw [hD9.out, cmdGuard_no HE.out]
                      exact ⟨rfl, ⟨_, hr⟩, HT9.out.mv.then m⟩
                · skip
                  by_cases hK8 : k = 8
                  · have hK := hK8
                    have n1 : ((k : Int) == 1) = false := beq_eq_false_iff_ne.2 (by omega)
                    have n2 : ((k : Int) == 2) = false := beq_eq_false_iff_ne.2 (by omega)
                    have n4 : ((k : Int) == 4) = false := beq_eq_false_iff_ne.2 (by omega)
                    have n3 : ((k : Int) == 3) = false := beq_eq_false_iff_ne.2 (by omega)
                    have n5 : ((k : Int) == 5) = false := beq_eq_false_iff_ne.2 (by omega)
                    have n6 : ((k : Int) == 6) = false := beq_eq_false_iff_ne.2 (by omega)
                    have n7 : ((k : Int) == 7) = false := beq_eq_false_iff_ne.2 (by omega)
                    have n8 : ((k : Int) == 8) = true := beq_iff_eq.2 (by omega)
                    have D3 := D1.out
                    rw [dCmdK8 hK] at D3
                    have HD3 : Hid (dCmd bs = _) := D3
                    clear D3 D1 hK hK8
                    have hc := ctakePlan_w N r g B b1 w2 HT1.out.rd HT1.out.oct (.int .i64 (k : Int)) (.int .i64 0) (.string ⟨#[]⟩) (.string ⟨#[]⟩) (.bool false) (.bool false) (.string ⟨#[]⟩) (.int .i64 0) (.slice none 0 0) (.float .f64 0) (.slice none 0 0) (.int .i64 0) (.string ⟨#[]⟩) (.string ⟨#[]⟩) (.int .i64 0) (.string ⟨#[]⟩) (.int .i64 0) (.int .i64 0) (.slice none 0 0) (HT1.out.at 1 rfl) HBR.out HBG.out rfl rfl
                    go_wp2_with fail
                    clear n1 n2 n4 n3 n5 n6 n7 n8 y0
                    cases e3 : dPlan b1 with
                    | none =>
                      rw [e3] at hc
                      refine hc.mono ?_
                      rintro _ w3 ⟨rfl, hr, m⟩
                      refine ⟨rfl, ?_⟩
                      show TookM w r g (dCmd bs) _ _
                      rw [HD3.out, pbn_none e3]
                      have hge := HT1.out.ge 1 rfl
                      exact ⟨rfl, hr, HT1.out.mv.trans m (fun x hx => by simp at hx; rcases hx with rfl | rfl; exact .inl (by simp); exact .inr hge)⟩
                    | some pr =>
                      obtain ⟨⟨ac, pl, to⟩, b3⟩ := pr
                      rw [e3] at hc
                      have D4 := HD3.out.trans (pbn_some e3)
                      refine hc.mono ?_
                      rintro _ w3 ⟨rfl, hb3, hr3, m3⟩
                      have HD4 : Hid (dCmd bs = _) := D4
                      have HT3 : Hid (TkB N w w3 r g b3 [(R, #[.int .i64 0, .int .i64 0, .string ⟨#[]⟩, .string ⟨#[]⟩, .bool false, .bool false, .string ⟨#[]⟩, .int .i64 0, .slice none 0 0, .float .f64 0, .slice none 0 0, .int .i64 0, .string ⟨#[]⟩, .string ⟨#[]⟩, .int .i64 0, .string ⟨#[]⟩, .int .i64 0, .int .i64 0, .slice none 0 0], 36), (B, #[.int .i64 (k : Int), .int .i64 0, .string ⟨#[]⟩, .string ⟨#[]⟩, .bool false, .bool false, .string ⟨#[]⟩, .int .i64 0, .slice none 0 0, .float .f64 0, .slice none 0 0, .int .i64 0, .string ⟨#[]⟩, .string ⟨#[]⟩, .int .i64 0, .string pl, .int .i64 (to : Int), .int .i64 (ac : Int), .slice none 0 0], 36)]) := HT1.out.readX hb3 hr3 m3 (dPlan_rest e3 HT1.out.oct)
                      clear hc hb3 hr3 m3 D4 e3
                      have hD : CmdD w w3 [.int .i64 (k : Int), .int .i64 0, .string ⟨#[]⟩, .string ⟨#[]⟩, .bool false, .bool false, .string ⟨#[]⟩, .int .i64 0, .slice none 0 0, .float .f64 0, .slice none 0 0, .int .i64 0, .string ⟨#[]⟩, .string ⟨#[]⟩, .int .i64 0, .string pl, .int .i64 (to : Int), .int .i64 (ac : Int), .slice none 0 0] ⟨(k : Int), opz, ⟨#[]⟩, ⟨#[]⟩, 0, pl, (to : Int), (ac : Int), []⟩ := CmdD.plain _ _ _ _ _ _ _ _ _
                      have hq := cright_w w3 w3 _ _ hD.cmd (Moves.refl _ _)
                      obtain ⟨E, hE⟩ : ∃ E, rCmd ⟨(k : Int), opz, ⟨#[]⟩, ⟨#[]⟩, 0, pl, (to : Int), (ac : Int), []⟩ = E := ⟨_, rfl⟩
                      rw [hE] at hq
                      have hD9 : Hid (dCmd bs = cmdGuard ⟨(k : Int), opz, ⟨#[]⟩, ⟨#[]⟩, 0, pl, (to : Int), (ac : Int), []⟩ b3) := HD4.out
                      have HE : Hid (rCmd ⟨(k : Int), opz, ⟨#[]⟩, ⟨#[]⟩, 0, pl, (to : Int), (ac : Int), []⟩ = E) := hE
                      have HDD : Hid (CmdD w w3 [.int .i64 (k : Int), .int .i64 0, .string ⟨#[]⟩, .string ⟨#[]⟩, .bool false, .bool false, .string ⟨#[]⟩, .int .i64 0, .slice none 0 0, .float .f64 0, .slice none 0 0, .int .i64 0, .string ⟨#[]⟩, .string ⟨#[]⟩, .int .i64 0, .string pl, .int .i64 (to : Int), .int .i64 (ac : Int), .slice none 0 0] ⟨(k : Int), opz, ⟨#[]⟩, ⟨#[]⟩, 0, pl, (to : Int), (ac : Int), []⟩) := hD
                      clear hE HD4 hD
                      go_wp2_with (with_reducible refine stopLoad _ rfl ?_)
                      unfold Hid
                      
                      refine wpList_loadCmd rfl _ rfl B rfl _ (HT3.out.at 1 rfl) rfl ?_
                      go_wp2_with fail
                      refine hq.mono ?_
                      rintro _ w9 ⟨rfl, m9⟩
                      have HT9 : Hid (TkB N w w9 r g b3 [(R, #[.int .i64 0, .int .i64 0, .string ⟨#[]⟩, .string ⟨#[]⟩, .bool false, .bool false, .string ⟨#[]⟩, .int .i64 0, .slice none 0 0, .float .f64 0, .slice none 0 0, .int .i64 0, .string ⟨#[]⟩, .string ⟨#[]⟩, .int .i64 0, .string ⟨#[]⟩, .int .i64 0, .int .i64 0, .slice none 0 0], 36), (B, #[.int .i64 (k : Int), .int .i64 0, .string ⟨#[]⟩, .string ⟨#[]⟩, .bool false, .bool false, .string ⟨#[]⟩, .int .i64 0, .slice none 0 0, .float .f64 0, .slice none 0 0, .int .i64 0, .string ⟨#[]⟩, .string ⟨#[]⟩, .int .i64 0, .string pl, .int .i64 (to : Int), .int .i64 (ac : Int), .slice none 0 0], 36)]) := HT3.out.moves m9
                      have HD8 : Hid (CmdD w w9 [.int .i64 (k : Int), .int .i64 0, .string ⟨#[]⟩, .string ⟨#[]⟩, .bool false, .bool false, .string ⟨#[]⟩, .int .i64 0, .slice none 0 0, .float .f64 0, .slice none 0 0, .int .i64 0, .string ⟨#[]⟩, .string ⟨#[]⟩, .int .i64 0, .string pl, .int .i64 (to : Int), .int .i64 (ac : Int), .slice none 0 0] ⟨(k : Int), opz, ⟨#[]⟩, ⟨#[]⟩, 0, pl, (to : Int), (ac : Int), []⟩) := HDD.out.moves0 m9
                      clear hq m9 HDD
                      cases E with
                      | true =>
                        go_wp2_with (with_reducible refine stopLoad _ rfl ?_)
                        unfold Hid
                        refine wpList_loadCmd rfl _ rfl B rfl _ (HT9.out.at 1 rfl) rfl ?_
                        go_wp2_with (with_reducible refine stopStore _ _ rfl ?_)
                        unfold Hid
                        refine wpList_storeCmd rfl (.tmp 2) (.tmp 60) rfl R _ rfl rfl (HT9.out.at 0 rfl) rfl rfl (by simp [Value.oneCell']) ?_
                        intro w10 hb10 m10
                        go_wp2_with fail
                        have T10 := HT9.out.set 0 rfl m10 hb10
                        refine bodyPost_ret (ret_cmd rfl _ _ R _ rfl rfl hb10) rfl ?_
                        show TookM w r g (dCmd bs) _ _
                        rw [hD9.out, cmdGuard_yes HE.out]
                        exact ⟨_, rfl, HD8.out.box m10 (HT9.out.at 0 rfl) (by decide) (by decide), T10.rd, T10.mv⟩
                      | false =>
                        go_wp2_with fail
                        refine (rfail_w r g _ _ HT9.out.rd).mono ?_
                        rintro _ w10 ⟨rfl, hr, m⟩
                        refine ⟨rfl, ?_⟩
                        show TookM w r g (dCmd bs) _ _
                        rw [hD9.out, cmdGuard_no HE.out]
                        exact ⟨rfl, ⟨_, hr⟩, HT9.out.mv.then m⟩
                  · skip
                    by_cases hK9 : k = 9
                    · have hK := hK9
                      have n1 : ((k : Int) == 1) = false := beq_eq_false_iff_ne.2 (by omega)
                      have n2 : ((k : Int) == 2) = false := beq_eq_false_iff_ne.2 (by omega)
                      have n4 : ((k : Int) == 4) = false := beq_eq_false_iff_ne.2 (by omega)
                      have n3 : ((k : Int) == 3) = false := beq_eq_false_iff_ne.2 (by omega)
                      have n5 : ((k : Int) == 5) = false := beq_eq_false_iff_ne.2 (by omega)
                      have n6 : ((k : Int) == 6) = false := beq_eq_false_iff_ne.2 (by omega)
                      have n7 : ((k : Int) == 7) = false := beq_eq_false_iff_ne.2 (by omega)
                      have n8 : ((k : Int) == 8) = false := beq_eq_false_iff_ne.2 (by omega)
                      have n9 : ((k : Int) == 9) = true := beq_iff_eq.2 (by omega)
                      have D3 := D1.out
                      rw [dCmdK9 hK] at D3
                      have HD3 : Hid (dCmd bs = _) := D3
                      clear D3 D1 hK hK9
                      have hc := rnumD_w N r g b1 w2 HT1.out.rd HT1.out.oct
                      go_wp2_with fail
                      clear n1 n2 n4 n3 n5 n6 n7 n8 n9 y0
                      cases e3 : dNum 4 b1 with
                      | none =>
                        rw [e3] at hc
                        refine hc.mono ?_
                        rintro _ w3 ⟨rfl, hr, m⟩
                        refine ⟨rfl, ?_⟩
                        show TookM w r g (dCmd bs) _ _
                        rw [HD3.out, pbn_none e3]
                        exact ⟨rfl, ⟨_, hr⟩, HT1.out.mv.then m⟩
                      | some pr =>
                        obtain ⟨gn, b3⟩ := pr
                        rw [e3] at hc
                        have D4 := HD3.out.trans (pbn_some e3)
                        have hgn := (dNum_oct e3 HT1.out.oct).2
                        refine hc.mono ?_
                        rintro _ w3 ⟨rfl, hr3, m3⟩
                        have wg : IntKind.i64.wrap (gn : Int) = (gn : Int) := by rw [IntWalk.i64_in _ (by omega)]
                        have HD4 : Hid (dCmd bs = _) := D4
                        have T3 := HT1.out.read hr3 m3 (dNum_oct e3 HT1.out.oct).1
                        have k14 := (c19 (T3.at 1 rfl)).2.2.2.2.2.2.2.2.2.2.2.2.2.2.1
                        have f14 := c19z (T3.at 1 rfl) 14
                        have TT := T3.set 1 rfl (moves_set w3 B 14 (.int .i64 (gn : Int))) (heap_set (i := 14) (T3.at 1 rfl) (.int .i64 (gn : Int)))
                        obtain ⟨v3, hv3⟩ : ∃ v, w3.setCell ⟨B, 14, none⟩ (.int .i64 (gn : Int)) = v := ⟨_, rfl⟩
                        rw [hv3] at TT
                        have HT3 : Hid (TkB N w v3 r g b3 [(R, #[.int .i64 0, .int .i64 0, .string ⟨#[]⟩, .string ⟨#[]⟩, .bool false, .bool false, .string ⟨#[]⟩, .int .i64 0, .slice none 0 0, .float .f64 0, .slice none 0 0, .int .i64 0, .string ⟨#[]⟩, .string ⟨#[]⟩, .int .i64 0, .string ⟨#[]⟩, .int .i64 0, .int .i64 0, .slice none 0 0], 36), (B, #[.int .i64 (k : Int), .int .i64 0, .string ⟨#[]⟩, .string ⟨#[]⟩, .bool false, .bool false, .string ⟨#[]⟩, .int .i64 0, .slice none 0 0, .float .f64 0, .slice none 0 0, .int .i64 0, .string ⟨#[]⟩, .string ⟨#[]⟩, .int .i64 (gn : Int), .string ⟨#[]⟩, .int .i64 0, .int .i64 0, .slice none 0 0], 36)]) := TT
                        clear TT T3
                        clear hc hr3 m3 D4 e3
                        have hc := rbyteD_w N r g b3 v3 HT3.out.rd HT3.out.oct
                        go_wp2_with fail
                        cases e5 : dNum 1 b3 with
                        | none =>
                          rw [e5] at hc
                          refine hc.mono ?_
                          rintro _ w5 ⟨rfl, hr, m⟩
                          refine ⟨rfl, ?_⟩
                          show TookM w r g (dCmd bs) _ _
                          rw [HD4.out, pbn_none e5]
                          exact ⟨rfl, ⟨_, hr⟩, HT3.out.mv.then m⟩
                        | some pr =>
                          obtain ⟨to, b5⟩ := pr
                          rw [e5] at hc
                          clear k14 f14 hv3
                          have D6 := HD4.out.trans (pbn_some e5)
                          have hto := (dNum_oct e5 HT3.out.oct).2
                          refine hc.mono ?_
                          rintro _ w5 ⟨rfl, hr5, m5⟩
                          have wt : IntKind.i64.wrap (to : Int) = (to : Int) := by rw [IntWalk.i64_in _ (by omega)]
                          have wt2 : IntKind.i64.wrap (-(to : Int)) = -(to : Int) := by rw [IntWalk.i64_in _ (by omega)]
                          have HD6 : Hid (dCmd bs = _) := D6
                          have T5 := HT3.out.read hr5 m5 (dNum_oct e5 HT3.out.oct).1
                          have k16 := (c19 (T5.at 1 rfl)).2.2.2.2.2.2.2.2.2.2.2.2.2.2.2.2.1
                          have f16 := c19z (T5.at 1 rfl) 16
                          have TT := T5.set 1 rfl (moves_set w5 B 16 (.int .i64 (-(to : Int)))) (heap_set (i := 16) (T5.at 1 rfl) (.int .i64 (-(to : Int))))
                          obtain ⟨v5, hv5⟩ : ∃ v, w5.setCell ⟨B, 16, none⟩ (.int .i64 (-(to : Int))) = v := ⟨_, rfl⟩
                          rw [hv5] at TT
                          have HT5 : Hid (TkB N w v5 r g b5 [(R, #[.int .i64 0, .int .i64 0, .string ⟨#[]⟩, .string ⟨#[]⟩, .bool false, .bool false, .string ⟨#[]⟩, .int .i64 0, .slice none 0 0, .float .f64 0, .slice none 0 0, .int .i64 0, .string ⟨#[]⟩, .string ⟨#[]⟩, .int .i64 0, .string ⟨#[]⟩, .int .i64 0, .int .i64 0, .slice none 0 0], 36), (B, #[.int .i64 (k : Int), .int .i64 0, .string ⟨#[]⟩, .string ⟨#[]⟩, .bool false, .bool false, .string ⟨#[]⟩, .int .i64 0, .slice none 0 0, .float .f64 0, .slice none 0 0, .int .i64 0, .string ⟨#[]⟩, .string ⟨#[]⟩, .int .i64 (gn : Int), .string ⟨#[]⟩, .int .i64 (-(to : Int)), .int .i64 0, .slice none 0 0], 36)]) := TT
                          clear TT T5
                          clear hc hr5 m5 D6 e5
                          have hD : CmdD w v5 [.int .i64 (k : Int), .int .i64 0, .string ⟨#[]⟩, .string ⟨#[]⟩, .bool false, .bool false, .string ⟨#[]⟩, .int .i64 0, .slice none 0 0, .float .f64 0, .slice none 0 0, .int .i64 0, .string ⟨#[]⟩, .string ⟨#[]⟩, .int .i64 (gn : Int), .string ⟨#[]⟩, .int .i64 (-(to : Int)), .int .i64 0, .slice none 0 0] ⟨(k : Int), opz, ⟨#[]⟩, ⟨#[]⟩, (gn : Int), ⟨#[]⟩, (-(to : Int)), 0, []⟩ := CmdD.plain _ _ _ _ _ _ _ _ _
                          have hq := cright_w v5 v5 _ _ hD.cmd (Moves.refl _ _)
                          obtain ⟨E, hE⟩ : ∃ E, rCmd ⟨(k : Int), opz, ⟨#[]⟩, ⟨#[]⟩, (gn : Int), ⟨#[]⟩, (-(to : Int)), 0, []⟩ = E := ⟨_, rfl⟩
                          rw [hE] at hq
                          have hD9 : Hid (dCmd bs = cmdGuard ⟨(k : Int), opz, ⟨#[]⟩, ⟨#[]⟩, (gn : Int), ⟨#[]⟩, (-(to : Int)), 0, []⟩ b5) := HD6.out
                          have HE : Hid (rCmd ⟨(k : Int), opz, ⟨#[]⟩, ⟨#[]⟩, (gn : Int), ⟨#[]⟩, (-(to : Int)), 0, []⟩ = E) := hE
                          have HDD : Hid (CmdD w v5 [.int .i64 (k : Int), .int .i64 0, .string ⟨#[]⟩, .string ⟨#[]⟩, .bool false, .bool false, .string ⟨#[]⟩, .int .i64 0, .slice none 0 0, .float .f64 0, .slice none 0 0, .int .i64 0, .string ⟨#[]⟩, .string ⟨#[]⟩, .int .i64 (gn : Int), .string ⟨#[]⟩, .int .i64 (-(to : Int)), .int .i64 0, .slice none 0 0] ⟨(k : Int), opz, ⟨#[]⟩, ⟨#[]⟩, (gn : Int), ⟨#[]⟩, (-(to : Int)), 0, []⟩) := hD
                          clear hE HD6 hD
                          go_wp2_with (with_reducible refine stopLoad _ rfl ?_)
                          unfold Hid
                          
                          clear k16 f16 hv5
                          refine wpList_loadCmd rfl _ rfl B rfl _ (HT5.out.at 1 rfl) rfl ?_
                          go_wp2_with fail
                          refine hq.mono ?_
                          rintro _ w9 ⟨rfl, m9⟩
                          have HT9 : Hid (TkB N w w9 r g b5 [(R, #[.int .i64 0, .int .i64 0, .string ⟨#[]⟩, .string ⟨#[]⟩, .bool false, .bool false, .string ⟨#[]⟩, .int .i64 0, .slice none 0 0, .float .f64 0, .slice none 0 0, .int .i64 0, .string ⟨#[]⟩, .string ⟨#[]⟩, .int .i64 0, .string ⟨#[]⟩, .int .i64 0, .int .i64 0, .slice none 0 0], 36), (B, #[.int .i64 (k : Int), .int .i64 0, .string ⟨#[]⟩, .string ⟨#[]⟩, .bool false, .bool false, .string ⟨#[]⟩, .int .i64 0, .slice none 0 0, .float .f64 0, .slice none 0 0, .int .i64 0, .string ⟨#[]⟩, .string ⟨#[]⟩, .int .i64 (gn : Int), .string ⟨#[]⟩, .int .i64 (-(to : Int)), .int .i64 0, .slice none 0 0], 36)]) := HT5.out.moves m9
                          have HD8 : Hid (CmdD w w9 [.int .i64 (k : Int), .int .i64 0, .string ⟨#[]⟩, .string ⟨#[]⟩, .bool false, .bool false, .string ⟨#[]⟩, .int .i64 0, .slice none 0 0, .float .f64 0, .slice none 0 0, .int .i64 0, .string ⟨#[]⟩, .string ⟨#[]⟩, .int .i64 (gn : Int), .string ⟨#[]⟩, .int .i64 (-(to : Int)), .int .i64 0, .slice none 0 0] ⟨(k : Int), opz, ⟨#[]⟩, ⟨#[]⟩, (gn : Int), ⟨#[]⟩, (-(to : Int)), 0, []⟩) := HDD.out.moves0 m9
                          clear hq m9 HDD
                          cases E with
                          | true =>
                            go_wp2_with (with_reducible refine stopLoad _ rfl ?_)
                            unfold Hid
                            refine wpList_loadCmd rfl _ rfl B rfl _ (HT9.out.at 1 rfl) rfl ?_
                            go_wp2_with (with_reducible refine stopStore _ _ rfl ?_)
                            unfold Hid
                            refine wpList_storeCmd rfl (.tmp 2) (.tmp 60) rfl R _ rfl rfl (HT9.out.at 0 rfl) rfl rfl (by simp [Value.oneCell']) ?_
                            intro w10 hb10 m10
                            go_wp2_with fail
                            have T10 := HT9.out.set 0 rfl m10 hb10
                            refine bodyPost_ret (ret_cmd rfl _ _ R _ rfl rfl hb10) rfl ?_
                            show TookM w r g (dCmd bs) _ _
                            rw [hD9.out, cmdGuard_yes HE.out]
                            exact ⟨_, rfl, HD8.out.box m10 (HT9.out.at 0 rfl) (by decide) (by decide), T10.rd, T10.mv⟩
                          | false =>
                            go_wp2_with fail
                            refine (rfail_w r g _ _ HT9.out.rd).mono ?_
                            rintro _ w10 ⟨rfl, hr, m⟩
                            refine ⟨rfl, ?_⟩
                            show TookM w r g (dCmd bs) _ _
                            rw [hD9.out, cmdGuard_no HE.out]
                            exact ⟨rfl, ⟨_, hr⟩, HT9.out.mv.then m⟩
                    · skip
                      have hK : ¬ (1 ≤ k ∧ k ≤ 9) := by omega
                      skip
                      have n1 : ((k : Int) == 1) = false := beq_eq_false_iff_ne.2 (by omega)
                      have n2 : ((k : Int) == 2) = false := beq_eq_false_iff_ne.2 (by omega)
                      have n4 : ((k : Int) == 4) = false := beq_eq_false_iff_ne.2 (by omega)
                      have n3 : ((k : Int) == 3) = false := beq_eq_false_iff_ne.2 (by omega)
                      have n5 : ((k : Int) == 5) = false := beq_eq_false_iff_ne.2 (by omega)
                      have n6 : ((k : Int) == 6) = false := beq_eq_false_iff_ne.2 (by omega)
                      have n7 : ((k : Int) == 7) = false := beq_eq_false_iff_ne.2 (by omega)
                      have n8 : ((k : Int) == 8) = false := beq_eq_false_iff_ne.2 (by omega)
                      have n9 : ((k : Int) == 9) = false := beq_eq_false_iff_ne.2 (by omega)
                      have D3 := D1.out
                      rw [dCmdK0 hK] at D3
                      have HD3 : Hid (dCmd bs = _) := D3
                      clear D3 D1 hK
                      have hD : CmdD w w2 [.int .i64 (k : Int), .int .i64 0, .string ⟨#[]⟩, .string ⟨#[]⟩, .bool false, .bool false, .string ⟨#[]⟩, .int .i64 0, .slice none 0 0, .float .f64 0, .slice none 0 0, .int .i64 0, .string ⟨#[]⟩, .string ⟨#[]⟩, .int .i64 0, .string ⟨#[]⟩, .int .i64 0, .int .i64 0, .slice none 0 0] ⟨(k : Int), opz, ⟨#[]⟩, ⟨#[]⟩, 0, ⟨#[]⟩, 0, 0, []⟩ := CmdD.plain _ _ _ _ _ _ _ _ _
                      have hq := cright_w w2 w2 _ _ hD.cmd (Moves.refl _ _)
                      obtain ⟨E, hE⟩ : ∃ E, rCmd ⟨(k : Int), opz, ⟨#[]⟩, ⟨#[]⟩, 0, ⟨#[]⟩, 0, 0, []⟩ = E := ⟨_, rfl⟩
                      rw [hE] at hq
                      have hD9 : Hid (dCmd bs = cmdGuard ⟨(k : Int), opz, ⟨#[]⟩, ⟨#[]⟩, 0, ⟨#[]⟩, 0, 0, []⟩ b1) := HD3.out
                      have HE : Hid (rCmd ⟨(k : Int), opz, ⟨#[]⟩, ⟨#[]⟩, 0, ⟨#[]⟩, 0, 0, []⟩ = E) := hE
                      have HDD : Hid (CmdD w w2 [.int .i64 (k : Int), .int .i64 0, .string ⟨#[]⟩, .string ⟨#[]⟩, .bool false, .bool false, .string ⟨#[]⟩, .int .i64 0, .slice none 0 0, .float .f64 0, .slice none 0 0, .int .i64 0, .string ⟨#[]⟩, .string ⟨#[]⟩, .int .i64 0, .string ⟨#[]⟩, .int .i64 0, .int .i64 0, .slice none 0 0] ⟨(k : Int), opz, ⟨#[]⟩, ⟨#[]⟩, 0, ⟨#[]⟩, 0, 0, []⟩) := hD
                      clear hE HD3 hD
                      go_wp2_with (with_reducible refine stopLoad _ rfl ?_)
                      unfold Hid
                      
                      refine wpList_loadCmd rfl _ rfl B rfl _ (HT1.out.at 1 rfl) rfl ?_
                      go_wp2_with fail
                      refine hq.mono ?_
                      rintro _ w9 ⟨rfl, m9⟩
                      have HT9 : Hid (TkB N w w9 r g b1 [(R, #[.int .i64 0, .int .i64 0, .string ⟨#[]⟩, .string ⟨#[]⟩, .bool false, .bool false, .string ⟨#[]⟩, .int .i64 0, .slice none 0 0, .float .f64 0, .slice none 0 0, .int .i64 0, .string ⟨#[]⟩, .string ⟨#[]⟩, .int .i64 0, .string ⟨#[]⟩, .int .i64 0, .int .i64 0, .slice none 0 0], 36), (B, #[.int .i64 (k : Int), .int .i64 0, .string ⟨#[]⟩, .string ⟨#[]⟩, .bool false, .bool false, .string ⟨#[]⟩, .int .i64 0, .slice none 0 0, .float .f64 0, .slice none 0 0, .int .i64 0, .string ⟨#[]⟩, .string ⟨#[]⟩, .int .i64 0, .string ⟨#[]⟩, .int .i64 0, .int .i64 0, .slice none 0 0], 36)]) := HT1.out.moves m9
                      have HD8 : Hid (CmdD w w9 [.int .i64 (k : Int), .int .i64 0, .string ⟨#[]⟩, .string ⟨#[]⟩, .bool false, .bool false, .string ⟨#[]⟩, .int .i64 0, .slice none 0 0, .float .f64 0, .slice none 0 0, .int .i64 0, .string ⟨#[]⟩, .string ⟨#[]⟩, .int .i64 0, .string ⟨#[]⟩, .int .i64 0, .int .i64 0, .slice none 0 0] ⟨(k : Int), opz, ⟨#[]⟩, ⟨#[]⟩, 0, ⟨#[]⟩, 0, 0, []⟩) := HDD.out.moves0 m9
                      clear hq m9 HDD
                      cases E with
                      | true =>
                        go_wp2_with (with_reducible refine stopLoad _ rfl ?_)
                        unfold Hid
                        refine wpList_loadCmd rfl _ rfl B rfl _ (HT9.out.at 1 rfl) rfl ?_
                        go_wp2_with (with_reducible refine stopStore _ _ rfl ?_)
                        unfold Hid
                        refine wpList_storeCmd rfl (.tmp 2) (.tmp 60) rfl R _ rfl rfl (HT9.out.at 0 rfl) rfl rfl (by simp [Value.oneCell']) ?_
                        intro w10 hb10 m10
                        go_wp2_with fail
                        have T10 := HT9.out.set 0 rfl m10 hb10
                        refine bodyPost_ret (ret_cmd rfl _ _ R _ rfl rfl hb10) rfl ?_
                        show TookM w r g (dCmd bs) _ _
                        rw [hD9.out, cmdGuard_yes HE.out]
                        exact ⟨_, rfl, HD8.out.box m10 (HT9.out.at 0 rfl) (by decide) (by decide), T10.rd, T10.mv⟩
                      | false =>
                        go_wp2_with fail
                        refine (rfail_w r g _ _ HT9.out.rd).mono ?_
                        rintro _ w10 ⟨rfl, hr, m⟩
                        refine ⟨rfl, ?_⟩
                        show TookM w r g (dCmd bs) _ _
                        rw [hD9.out, cmdGuard_no HE.out]
                        exact ⟨rfl, ⟨_, hr⟩, HT9.out.mv.then m⟩
end Go.Proofs.YtcamhlnkcoicpaaGreat
