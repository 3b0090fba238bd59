/- ours -/
import Derived.Test.YtilbbnmhnacnlaaGreatCRm6
import Derived.Test.YtilbbnmhnacnlaaGreatCB27
import Derived.Test.YtilbbnmhnacnlaaGreatCB12
import Derived.Deep.MidRow
import Derived.Test.YtilbbnmhnacnlaaGreatCB13
import Derived.Test.YtilbbnmhnacnlaaGreatCB10
/-
  The program's master and the document's, side by side.
-/
namespace Go.Proofs.YtilbbnmhnacnlaaGreat
open Go.RowKit

theorem MrG.rm {W w0 w : World} {p q c : Nat} {a0 a : Option Nat} {S0 S : Pms} (h0 : MrIs W w0 p q c a0 S0) (g : MrG W w0 p q c a0 S0 w a S) {r : Nat} {S' : Pms} (hr : RmIs w0 r S') : RmIs w r S' := by
  refine hr.moves g.mv (fun k hk c' t fz hc => ?_)
  have key : t = 76 ∨ t = 105 ∨ t = 108 ∨ t = 173 := by
    simp only [List.mem_cons] at hk
    rcases hk with rfl | rfl | rfl | hk
    · have e := h0.box
      rw [hc] at e
      simp at e
      exact .inl e.2.1
    · obtain ⟨v, e, _⟩ := h0.tab
      rw [hc] at e
      simp at e
      exact .inr (.inl e.2.1)
    · obtain ⟨v, e, _, _⟩ := h0.cac
      rw [hc] at e
      simp at e
      exact .inr (.inr (.inl e.2.1))
    · obtain ⟨v, _, rfl, h3⟩ := h0.cac
      obtain ⟨cur, e⟩ := h3.blk (Option.mem_toList.1 hk)
      rw [hc] at e
      simp at e
      exact .inr (.inr (.inr e.2.1))
  rcases key with rfl | rfl | rfl | rfl <;> decide
structure Both (W w : World) (p q c : Nat) (a : Option Nat) (r : Nat) (S : Pms) : Prop where
  is : MrIs W w p q c a S
  rm : RmIs w r S
  tb : MtZ ([r] ++ (p :: q :: c :: a.toList)) w q S.xs
  no : r ∉ p :: q :: c :: a.toList
  hr : W.heap.size ≤ r
  ha : ∀ k, a = some k → W.heap.size ≤ k
theorem Both.moves0 {W w w' : World} {p q c : Nat} {a : Option Nat} {r : Nat} {S : Pms} (h : Both W w p q c a r S) (m : Moves [] w w') : Both W w' p q c a r S :=
  ⟨h.is.moves0 m, h.rm.moves0 m, h.tb.moves m (by simp) (by simp), h.no, h.hr, h.ha⟩
theorem Both.start {W w w' : World} {p q c : Nat} {a : Option Nat} {r : Nat} {S : Pms} (h : MrIs W w p q c a S) (m : Moves [] w w') (hr : RmIs w' r S) (hf : w.heap.size ≤ r) (hW : W.heap.size ≤ w.heap.size) : Both W w' p q c a r S := by
  refine ⟨h.moves0 m, hr, ?_, h.notin hf, Nat.le_trans hW hf, fun k hk => h.young hk⟩
  exact (h.tab.more (fun k hk => by
    simp only [List.singleton_append, List.mem_cons] at hk
    rcases hk with rfl | hk
    · exact .inr hf
    · exact .inl (by simpa using hk))).moves m (by simp) (by simp)
theorem Both.ref {W w w' : World} {p q c : Nat} {a : Option Nat} {r : Nat} {S : Pms} (h : Both W w p q c a r S) (m : Moves [r] w w') : MrIs W w' p q c a S ∧ MtZ ([r] ++ (p :: q :: c :: a.toList)) w' q S.xs := by
  have hq : q ∉ [r] := fun e => h.no (by simp at e; simp [e])
  have ht := h.tb.moves m (by simp) hq
  refine ⟨⟨m.at h.is.box (fun e => h.no (by simp at e; simp [e])), ht.more (fun k hk => .inl (by simp only [List.singleton_append, List.mem_cons]; right; simpa using hk)), h.is.cac.moves m (fun e => h.no (by simp at e; simp [e])) (fun k hk e => h.no (by simp at e; simp [← e, hk])), h.is.hp, h.is.hq, h.is.hc⟩, ht⟩
theorem Both.step {W w w1 w2 : World} {p q c : Nat} {a a2 : Option Nat} {r : Nat} {S S' : Pms} (h : Both W w p q c a r S) (m : Moves [r] w w1) (hr : RmIs w1 r S') (g : MrG W w1 p q c a S w2 a2 S') (hlt : r < w1.heap.size) : Both W w2 p q c a2 r S' := by
  obtain ⟨i1, t1⟩ := h.ref m
  refine ⟨g.is, g.rm i1 hr, g.tb [r] (by simpa using hlt) t1, notin_step g h.no hlt, h.hr, fun k hk => ?_⟩
  rcases g.al with e | ⟨j, e, hj⟩
  · exact h.ha k (by rw [← e]; exact hk)
  · rw [e] at hk
    simp at hk
    have := m.size
    have := lt_of_block i1.box
    have := i1.hp
    omega
end Go.Proofs.YtilbbnmhnacnlaaGreat
/-
  A drawn command of law12, opened.
-/
namespace Go.Proofs.YtilbbnmhnacnlaaGreat
open Go.RowKit
open Go.ChangeShapes Go.WideShapes

def drawL (d0 d1 d2 d3 d4 d5 d6 d7 d8 : Int) (C : Pcmd) (ca : Option Addr) (cn cc : Nat) (la : Option Addr) (ln lc : Nat) (sa : Option Addr) (sn sc : Nat) : List Value := [.int .i64 d0, .int .i64 d1, .int .i64 d2, .int .i64 d3, .int .i64 d4, .int .i64 d5, .int .i64 d6, .int .i64 d7, .int .i64 d8, .int .i64 C.kind, .int .i64 C.op.kind, .string C.op.row, .string C.op.hi, .bool C.op.cd.has, .bool C.op.cd.want, .string C.op.cd.col, .int .i64 C.op.cd.v.kind, .slice ca cn cc, .float .f64 C.op.cd.v.n, .slice la ln lc, .int .i64 C.op.most, .string C.lo, .string C.hi, .int .i64 C.gen, .string C.at', .int .i64 C.to, .int .i64 C.act, .slice sa sn sc]
def DrArgs (W : World) (v : Value) : Prop := ∃ ad len cap, v = .slice ad len cap ∧ ∀ k, k < len → ∃ b off d0 d1 d2 d3 d4 d5 d6 d7 d8 C ca cn cc la ln lc sa sn sc, ad = some ⟨b, off, none⟩ ∧ W.rangeAt b (off + k * 28) (drawL d0 d1 d2 d3 d4 d5 d6 d7 d8 C ca cn cc la ln lc sa sn sc)
theorem sl_of_trod {H : Type} {enc : TypeId × Value → H} {W : World} {base fuel : Nat} {spare : Nat → Bool} {held : Bool} {v : Value} {t u : TypeId} {x : DataW H × List MemPlace} (hu : Tryz.prog.underlying t = some (.slice u))
    (h : DataW.trod enc Tryz.prog W base spare held fuel t [v] = some x) : ∃ a n c, v = .slice a n c := by
  rcases Go.Deep.open_slice hu h with ⟨hcs, _⟩ | ⟨ad, len, cap, m, n, D, Pls, hcs, _⟩
  · simp at hcs
    exact ⟨_, _, _, hcs⟩
  · simp at hcs
    exact ⟨_, _, _, hcs⟩
set_option maxRecDepth 100000 in
theorem val_of_raw {H : Type} {enc : TypeId × Value → H} {W : World} {base fuel : Nat} {spare : Nat → Bool} {held : Bool} {cs : List Value} {x : DataW H × List MemPlace} (hlen : cs.length = 3)
    (h : DataW.trod enc Tryz.prog W base spare held fuel 30 cs = some x) : ∃ k a n c f, cs = [.int .i64 k, .slice a n c, .float .f64 f] := by
  obtain ⟨xs, q, hk, hxy, _, hxl, hf⟩ := DataW.trod_struct Tryz.underlying30 h
  have c3 : Tryz.prog.cellsOf 3 = 1 := by kernel_rfl
  have cb : Tryz.prog.cellsOf 27 = 1 := by kernel_rfl
  have cf : Tryz.prog.cellsOf 28 = 1 := by kernel_rfl
  match xs, hxl, cs, hlen with
  | [y0, y1, y2], _, [v0, v1, v2], _ =>
    have g0 := hf 0 _ rfl
    have g1 := hf 1 _ rfl
    have g2 := hf 2 _ rfl
    simp [c3, cb, cf] at g0 g1 g2
    obtain ⟨z0, e0, _, _⟩ := DataW.trod_int Tryz.underlying3 g0
    obtain ⟨a, n, c, rfl⟩ := sl_of_trod Tryz.underlying27 g1
    obtain ⟨f, _, rfl⟩ := float_of_trod g2
    simp at e0
    subst e0
    exact ⟨z0, a, n, c, f, rfl⟩
set_option maxRecDepth 100000 in
theorem cond_of_raw {H : Type} {enc : TypeId × Value → H} {W : World} {base fuel : Nat} {spare : Nat → Bool} {held : Bool} {cs : List Value} {x : DataW H × List MemPlace} (hlen : cs.length = 6)
    (h : DataW.trod enc Tryz.prog W base spare held fuel 32 cs = some x) : ∃ b1 b2 s k a n c f, cs = [.bool b1, .bool b2, .string s, .int .i64 k, .slice a n c, .float .f64 f] := by
  obtain ⟨xs, q, hk, hxy, _, hxl, hf⟩ := DataW.trod_struct Tryz.underlying32 h
  have c4 : Tryz.prog.cellsOf 4 = 1 := by kernel_rfl
  have c9 : Tryz.prog.cellsOf 9 = 1 := by kernel_rfl
  have cV : Tryz.prog.cellsOf 30 = 3 := by kernel_rfl
  match xs, hxl, cs, hlen with
  | [y0, y1, y2, y3], _, [v0, v1, v2, v3, v4, v5], _ =>
    have g0 := hf 0 _ rfl
    have g1 := hf 1 _ rfl
    have g2 := hf 2 _ rfl
    have g3 := hf 3 _ rfl
    simp [c4, c9, cV] at g0 g1 g2 g3
    obtain ⟨b0, rfl⟩ := bool_of_trod g0
    obtain ⟨b1, rfl⟩ := bool_of_trod g1
    obtain ⟨s, rfl⟩ := str_of_trod g2
    obtain ⟨k, a, n, c, f, e⟩ := val_of_raw rfl g3
    simp at e
    obtain ⟨rfl, rfl, rfl⟩ := e
    exact ⟨b0, b1, s, k, a, n, c, f, rfl⟩
set_option maxRecDepth 100000 in
theorem op_of_raw {H : Type} {enc : TypeId × Value → H} {W : World} {base fuel : Nat} {spare : Nat → Bool} {held : Bool} {cs : List Value} {x : DataW H × List MemPlace} (hlen : cs.length = 11)
    (h : DataW.trod enc Tryz.prog W base spare held fuel 35 cs = some x) : ∃ k r hi b1 b2 s kv a n c f la ln lc m, cs = [.int .i64 k, .string r, .string hi, .bool b1, .bool b2, .string s, .int .i64 kv, .slice a n c, .float .f64 f, .slice la ln lc, .int .i64 m] := by
  obtain ⟨xs, q, hk, hxy, _, hxl, hf⟩ := DataW.trod_struct Tryz.underlying35 h
  have c3 : Tryz.prog.cellsOf 3 = 1 := by kernel_rfl
  have c9 : Tryz.prog.cellsOf 9 = 1 := by kernel_rfl
  have cC : Tryz.prog.cellsOf 32 = 6 := by kernel_rfl
  have cL : Tryz.prog.cellsOf 33 = 1 := by kernel_rfl
  match xs, hxl, cs, hlen with
  | [y0, y1, y2, y3, y4, y5], _, [v0, v1, v2, v3, v4, v5, v6, v7, v8, v9, v10], _ =>
    have g0 := hf 0 _ rfl
    have g1 := hf 1 _ rfl
    have g2 := hf 2 _ rfl
    have g3 := hf 3 _ rfl
    have g4 := hf 4 _ rfl
    have g5 := hf 5 _ rfl
    simp [c3, c9, cC, cL] at g0 g1 g2 g3 g4 g5
    obtain ⟨z0, e0, _, _⟩ := DataW.trod_int Tryz.underlying3 g0
    obtain ⟨s1, rfl⟩ := str_of_trod g1
    obtain ⟨s2, rfl⟩ := str_of_trod g2
    obtain ⟨b1, b2, s, kv, a, n, c, f, e⟩ := cond_of_raw rfl g3
    obtain ⟨la, ln, lc, rfl⟩ := sl_of_trod Tryz.underlying33 g4
    obtain ⟨z5, e5, _, _⟩ := DataW.trod_int Tryz.underlying3 g5
    simp at e0 e5 e
    obtain ⟨rfl, rfl, rfl, rfl, rfl, rfl⟩ := e
    subst e0 e5
    exact ⟨_, _, _, _, _, _, _, _, _, _, _, _, _, _, _, rfl⟩
set_option maxRecDepth 100000 in
theorem cmdw_of_raw {H : Type} {enc : TypeId × Value → H} {W : World} {base fuel : Nat} {spare : Nat → Bool} {held : Bool} {cs : List Value} {x : DataW H × List MemPlace} (hlen : cs.length = 19)
    (h : DataW.trod enc Tryz.prog W base spare held fuel 39 cs = some x) : ∃ C, CmdW W cs C := by
  obtain ⟨xs, q, hk, hxy, _, hxl, hf⟩ := DataW.trod_struct Tryz.underlying39 h
  have c3 : Tryz.prog.cellsOf 3 = 1 := by kernel_rfl
  have c9 : Tryz.prog.cellsOf 9 = 1 := by kernel_rfl
  have cO : Tryz.prog.cellsOf 35 = 11 := by kernel_rfl
  have cS : Tryz.prog.cellsOf 37 = 2 := by kernel_rfl
  have cb : Tryz.prog.cellsOf 27 = 1 := by kernel_rfl
  match xs, hxl, cs, hlen with
  | [y0, y1, y2, y3, y4, y5, y6, y7], _, [v0, v1, v2, v3, v4, v5, v6, v7, v8, v9, v10, v11, v12, v13, v14, v15, v16, v17, v18], _ =>
    have g0 := hf 0 _ rfl
    have g1 := hf 1 _ rfl
    have g2 := hf 2 _ rfl
    have g3 := hf 3 _ rfl
    have g4 := hf 4 _ rfl
    have g5 := hf 5 _ rfl
    have g6 := hf 6 _ rfl
    have g7 := hf 7 _ rfl
    simp [c3, c9, cO, cS, cb] at g0 g1 g2 g3 g4 g5 g6 g7
    obtain ⟨z0, e0, _, _⟩ := DataW.trod_int Tryz.underlying3 g0
    obtain ⟨k, r, hi, b1, b2, s, kv, a, n, c, f, la, ln, lc, m, e⟩ := op_of_raw rfl g1
    obtain ⟨z3, e3, _, _⟩ := DataW.trod_int Tryz.underlying3 g3
    obtain ⟨s4, rfl⟩ := str_of_trod g4
    obtain ⟨z5, e5, _, _⟩ := DataW.trod_int Tryz.underlying3 g5
    obtain ⟨z6, e6, _, _⟩ := DataW.trod_int Tryz.underlying3 g6
    obtain ⟨sa, sn, sc, rfl⟩ := sl_of_trod Tryz.underlying27 g7
    simp at e0 e3 e5 e6 e
    obtain ⟨rfl, rfl, rfl, rfl, rfl, rfl, rfl, rfl, rfl, rfl, rfl⟩ := e
    subst e0 e3 e5 e6
    obtain ⟨ts, q2, hk2, hxy2, _, hxl2, hf2⟩ := DataW.trod_struct Tryz.underlying37 g2
    match ts, hxl2 with
    | [t0, t1], _ =>
      have k0 := hf2 0 _ rfl
      have k1 := hf2 1 _ rfl
      simp [c9] at k0 k1
      obtain ⟨s0, rfl⟩ := str_of_trod k0
      obtain ⟨s1, rfl⟩ := str_of_trod k1
      exact ⟨⟨z0, ⟨k, r, hi, ⟨b1, b2, s, ⟨kv, [], f⟩⟩, [], m⟩, s0, s1, z3, s4, z5, z6, []⟩, a, n, c, la, ln, lc, sa, sn, sc, rfl⟩
set_option maxRecDepth 100000 in
theorem drargs_of_raw {H : Type} {enc : TypeId × Value → H} {W : World} {base fuel : Nat} {spare : Nat → Bool} {held : Bool} {v : Value} {x : DataW H × List MemPlace}
    (h : DataW.trod enc Tryz.prog W base spare held fuel 22 [v] = some x) : DrArgs W v := by
  have cD : Tryz.prog.cellsOf 44 = 28 := by kernel_rfl
  rcases Go.Deep.open_slice Tryz.underlying22 h with ⟨hcs, _⟩ | ⟨ad, len, cap, m, n, D, Pls, hcs, _, hl, hm, hmm, _, hx⟩
  · simp at hcs
    subst hcs
    exact ⟨none, 0, 0, rfl, fun k hk => absurd hk (by omega)⟩
  · simp at hcs
    subst hcs
    have hlm : len ≤ m := by rw [hmm]; split <;> omega
    refine ⟨_, _, _, rfl, fun k hk => ?_⟩
    obtain ⟨cs', h1, h2⟩ := hx k (by omega)
    obtain ⟨cs0, h01, _⟩ := hx 0 (by omega)
    rw [cD] at h1 h01
    obtain ⟨b, off, rfl, hlen, hcell⟩ := struct_cells (by omega) h01 h1
    obtain ⟨xs, q, hk, hxy, _, hxl, hf⟩ := DataW.trod_struct Tryz.underlying44 h2
    have c3 : Tryz.prog.cellsOf 3 = 1 := by kernel_rfl
    have cP : Tryz.prog.cellsOf 42 = 3 := by kernel_rfl
    have cC : Tryz.prog.cellsOf 39 = 19 := by kernel_rfl
    match xs, hxl, cs', hlen with
    | [y0, y1, y2, y3, y4, y5, y6, y7], _, [v0, v1, v2, v3, v4, v5, v6, v7, v8, v9, v10, v11, v12, v13, v14, v15, v16, v17, v18, v19, v20, v21, v22, v23, v24, v25, v26, v27], _ =>
      have g0 := hf 0 _ rfl
      have g1 := hf 1 _ rfl
      have g2 := hf 2 _ rfl
      have g3 := hf 3 _ rfl
      have g4 := hf 4 _ rfl
      have g5 := hf 5 _ rfl
      have g6 := hf 6 _ rfl
      have g7 := hf 7 _ rfl
      simp [c3, cP, cC] at g0 g1 g2 g3 g4 g5 g6 g7
      obtain ⟨z0, e0, _, _⟩ := DataW.trod_int Tryz.underlying3 g0
      obtain ⟨z1, e1, _, _⟩ := DataW.trod_int Tryz.underlying3 g1
      obtain ⟨z2, e2, _, _⟩ := DataW.trod_int Tryz.underlying3 g2
      obtain ⟨z3, e3, _, _⟩ := DataW.trod_int Tryz.underlying3 g3
      obtain ⟨z4, e4, _, _⟩ := DataW.trod_int Tryz.underlying3 g4
      obtain ⟨z5, e5, _, _⟩ := DataW.trod_int Tryz.underlying3 g5
      obtain ⟨C, ca, cn, cc, la, ln, lc, sa, sn, sc, eC⟩ := cmdw_of_raw rfl g7
      obtain ⟨ts, q2, hk2, hxy2, _, hxl2, hf2⟩ := DataW.trod_struct Tryz.underlying42 g6
      match ts, hxl2 with
      | [t0, t1, t2], _ =>
        have k0 := hf2 0 _ rfl
        have k1 := hf2 1 _ rfl
        have k2 := hf2 2 _ rfl
        simp [c3] at k0 k1 k2
        obtain ⟨z6, e6, _, _⟩ := DataW.trod_int Tryz.underlying3 k0
        obtain ⟨z7, e7, _, _⟩ := DataW.trod_int Tryz.underlying3 k1
        obtain ⟨z8, e8, _, _⟩ := DataW.trod_int Tryz.underlying3 k2
        simp at e0 e1 e2 e3 e4 e5 e6 e7 e8
        subst e0 e1 e2 e3 e4 e5 e6 e7 e8
        rw [eC] at hcell
        exact ⟨b, off, z0, z1, z2, z3, z4, z5, z6, z7, z8, C, ca, cn, cc, la, ln, lc, sa, sn, sc, rfl, fun j u hj => hcell j u hj⟩
set_option maxRecDepth 100000 in
theorem drargs_of_trod {H : Type} {enc : TypeId × Value → H} {W : World} {base b0 : Nat} {r : Reach} {spare : Nat → Bool} {held : Bool} {v : Value} {d : DataW H} {p : List MemPlace}
    (hv : Value.okWide Tryz.prog W r b0 22 v) (h : DataW.Trod enc Tryz.prog W base spare held 22 v d p) : DrArgs W v := by
  obtain ⟨a, len, cap, rfl⟩ := okWide_slice Tryz.underlying22 hv
  obtain ⟨fuel, hf⟩ := h
  exact drargs_of_raw (by simpa [Value.cells] using hf)
end Go.Proofs.YtilbbnmhnacnlaaGreat
