/- ours -/
import Derived.Test.YtilbbnmhnacnlaaGreatCMs8
import Derived.Test.YtilbbnmhnacnlaaGreatCB10
import Derived.Test.YtilbbnmhnacnlaaGreatCB36
import Derived.Test.YtilbbnmhnacnlaaGreatCB27
/-
  Package master: New, All, Do of plans, of what is published.
-/
namespace Go.Proofs.YtilbbnmhnacnlaaGreat
open Go.RowKit

set_option maxRecDepth 100000 in
set_option maxHeartbeats 16000000 in
theorem mtNewZ_w (w : World) (g : Nat) (v : Value) (xs : List Ptb) (h : TbL w g v xs) (hl : xs.length ≤ 1000) (hm : mayT xs = 0) : Calls Tryz.prog 20 #[v] w fun e w' => ∃ q, e = .returned (.tuple #[.pointer (some ⟨q, 0, none⟩), .int .i64 0]) ∧ MtZ [q] w' q xs ∧ w.heap.size ≤ q ∧ Moves [] w w' := by
  have hne : xs ≠ [] := by
    rintro rfl
    simp [mayT, spCov] at hm
  have hma := mtMayBe_w w g v xs h hl
  rw [hm] at hma
  have hin := fun (w1 : World) (m : Moves [] w w1) => mtInMetas_w w1 g v xs (h.moves m (by simp)) hl hne
  obtain ⟨ad, n, cap, rfl, hn, hc, HL⟩ := h.open
  clear h
  go_enter Tryz.func20, Tryz.ntmps20
  go_wp2_with fail
  refine hma.mono ?_
  rintro _ w2 ⟨rfl, m2⟩
  go_wp2_with fail
  refine (hin w2 m2).mono ?_
  rintro _ w3 ⟨v3, rfl, hM, m3⟩
  obtain ⟨ad3, n3, cap3, rfl, hn3, _, HM⟩ := hM.open
  clear hM
  go_wp2_with fail
  go_ret2
  have mA : Moves [] w3 (w3.alloc (.cells #[.slice ad3 n3 cap3] 105)) := (Moves.refl _ _).alloc _
  refine ⟨_, rfl, ⟨_, heap_alloc_new _ _, ?_⟩, (m2.then m3).size, (m2.then m3).then mA⟩
  obtain ⟨ad, n, cap, e1, e2, e3, e4, e5⟩ := HM.out
  refine ⟨ad, n, cap, e1, e2, e3, e4, fun k m hk => ?_⟩
  obtain ⟨g, off, u, gu, f1, _, f3, f4, _⟩ := e5 k m hk
  have hg : g < w3.heap.size := lt_of_cell f3
  have hgu : gu < w3.heap.size := tbL_lt f4 (four_ne m (List.mem_of_getElem? hk))
  exact ⟨g, off, u, gu, f1, by simp; omega, mA.cell f3, f4.moves mA (by simp), by simp; omega⟩

def m0 (n : Int) : Pms := ⟨n, k11, 1, pTold 0, []⟩
theorem m0_ok (n : Int) (h0 : 1 ≤ n) (h1 : n ≤ 3) : OkM (m0 n) := by
  refine ⟨h0, h1, k11_may, ?_, by show (1 : Int) ≤ 1; omega, by show (1 : Int) ≤ 1073741824; omega, .inl rfl, List.Pairwise.nil, by simp [m0]⟩
  intro x hx
  have : x = ⟨⟨#[]⟩, ⟨#[]⟩, 1, 1⟩ := by simpa [m0, k11] using hx
  subst this
  exact ⟨⟨by show (1 : Int) ≤ 1; omega, h0⟩, by show (1 : Int) ≤ 1; omega⟩
theorem stopT {ops : Array Oper} {rest : List Oper} {op : Oper} {a : Act} {w : World} {Q : Exit → Act → World → Prop} (x y : Operand) (_ : op.op = .store 54 x y) (h : Hid (wpList Tryz.prog ops Q (op :: rest) a w)) : wpList Tryz.prog ops Q (op :: rest) a w := h.out
set_option maxRecDepth 100000 in
theorem mfirst_w (w : World) : Calls Tryz.prog 21 #[] w fun e w' => e = .returned (.agg #[.string ⟨#[]⟩, .string ⟨#[]⟩, .int .i64 1, .int .i64 1]) ∧ Moves [] w w' := by
  have b := heap_alloc_new w (.cells #[.string ⟨#[]⟩, .string ⟨#[]⟩, .int .i64 0, .int .i64 0] 54)
  have m : Moves [] w (w.alloc (.cells #[.string ⟨#[]⟩, .string ⟨#[]⟩, .int .i64 0, .int .i64 0] 54)) := (Moves.refl _ _).alloc _
  obtain ⟨w1, hw1⟩ : ∃ w1, w.alloc (.cells #[.string ⟨#[]⟩, .string ⟨#[]⟩, .int .i64 0, .int .i64 0] 54) = w1 := ⟨_, rfl⟩
  rw [hw1] at b m
  have HB : Hid _ := b
  have HM : Hid _ := m
  clear b m
  go_enter Tryz.func21, Tryz.ntmps21
  go_wp2_with (with_reducible refine stopT _ _ rfl ?_)
  unfold Hid
  try rw [hw1]
  refine wpList_storeAt rfl _ _ _ rfl w.heap.size 0 _ [.string ⟨#[]⟩, .string ⟨#[]⟩, .int .i64 1, .int .i64 1] rfl rfl rfl Tryz.size54 HB.out (Nat.le_refl 4) (by simp [Value.oneCell']) #[.string ⟨#[]⟩, .string ⟨#[]⟩, .int .i64 1, .int .i64 1] rfl ?_
  intro w2 h2 m2
  go_wp2_with fail
  exact bodyPost_ret (ret_tablet rfl _ _ _ _ _ _ _ rfl h2) rfl ⟨rfl, HM.out.trans m2 (fun k hk => .inr (by simp at hk; omega))⟩
set_option maxRecDepth 100000 in
theorem mright_w (n : Int) (w : World) : Calls Tryz.prog 19 #[.int .i64 n] w fun e w' => e = .returned (.bool (decide (1 ≤ n ∧ n ≤ 3))) ∧ w = w' := by
  by_cases h1 : 1 ≤ n
  · have e : decide (1 ≤ n ∧ n ≤ 3) = decide (n ≤ 3) := by simp [h1]
    rw [e]
    go_enter Tryz.func19, Tryz.ntmps19
    go_wp2_with fail
    go_ret
    exact ⟨rfl, rfl⟩
  · have e : decide (1 ≤ n ∧ n ≤ 3) = false := by simp; omega
    rw [e]
    go_enter Tryz.func19, Tryz.ntmps19
    go_wp2_with fail
    go_ret
    exact ⟨rfl, rfl⟩
set_option maxRecDepth 100000 in
theorem mnew0_w (w : World) : Calls Tryz.prog 6 #[.int .i64 0] w fun e w' => e = .returned (.pointer none) ∧ w = w' := by
  have h := mright_w 0 w
  rw [decide_eq_false (by omega)] at h
  go_enter Tryz.func6, Tryz.ntmps6
  go_wp2_with fail
  refine h.mono ?_
  rintro _ _ ⟨rfl, rfl⟩
  go_wp2_with fail
  go_ret
  exact ⟨rfl, rfl⟩
set_option maxRecDepth 100000 in
set_option maxHeartbeats 16000000 in
theorem mnew_w (n : Int) (h0 : 1 ≤ n) (h1 : n ≤ 3) (w : World) : Calls Tryz.prog 6 #[.int .i64 n] w fun e w' => ∃ p q c, e = .returned (.pointer (some ⟨p, 0, none⟩)) ∧ MrIs w w' p q c none (m0 n) ∧ Moves [] w w' := by
  have h := mright_w n w
  rw [decide_eq_true ⟨h0, h1⟩] at h
  clear h0 h1
  have hfd : ∀ w1 : World, (Instr.field 54 (.agg #[.string ⟨#[]⟩, .string ⟨#[]⟩, .int .i64 1, .int .i64 1]) 2).run Tryz.prog w1 = .ok (.int .i64 1) w1 := by intro w1; kernel_rfl
  go_enter Tryz.func6, Tryz.ntmps6
  go_wp2_with fail
  refine h.mono ?_
  rintro _ _ ⟨rfl, rfl⟩
  go_wp2_with fail
  refine (mfirst_w _).mono ?_
  rintro _ w1 ⟨rfl, m1⟩
  have htb := tb_new w1 ⟨⟨#[]⟩, ⟨#[]⟩, 1, 1⟩
  have mA : Moves [] w1 (w1.alloc (.cells #[.string ⟨#[]⟩, .string ⟨#[]⟩, .int .i64 1, .int .i64 1] 54)) := (Moves.refl _ _).alloc _
  have hnw := mtNewZ_w _ _ _ k11 htb (by decide) k11_may
  go_wp2_with fail
  refine hnw.mono ?_
  rintro _ w2 ⟨q, rfl, hT, hq, m2⟩
  have HT : Hid (MtZ [q] w2 q k11) := hT
  have HQ : Hid _ := hq
  have HM2 : Hid (Moves [] w w2) := (m1.then mA).then m2
  have HM1 : Hid (w.heap.size ≤ q) := Nat.le_trans (m1.then mA).size hq
  clear hnw htb mA m1 hT hq m2
  go_wp2_with fail
  refine (mfirst_w _).mono ?_
  rintro _ w3 ⟨rfl, m3⟩
  go_wp2_with fail
  refine (onew_w w3).mono ?_
  rintro _ w4 ⟨rfl, hC, m4⟩
  have HC : Hid (CaIs w3 w4 w3.heap.size none []) := hC
  have HM4 : Hid (Moves [] w2 w4) := m3.then m4
  have HM3 : Hid (Moves [] w2 w3) := m3
  clear hC m3 m4
  go_wp2_with fail
  go_ret
  have hb := heap_alloc_new w4 (.cells (mrCells q w3.heap.size (m0 n)) 76)
  have mB : Moves [] w4 (w4.alloc (.cells (mrCells q w3.heap.size (m0 n)) 76)) := (Moves.refl _ _).alloc _
  have hq2 : q < w2.heap.size := by
    obtain ⟨v, hv, _⟩ := HT.out
    exact lt_of_block hv
  have s3 := HM3.out.size
  have s4 := HM4.out.size
  refine ⟨w4.heap.size, q, w3.heap.size, rfl, ⟨hb, ?_, ?_, ?_, HM1.out, ?_⟩, (HM2.out.then HM4.out).then mB⟩
  · have z := HT.out.more (Z' := w4.heap.size :: q :: w3.heap.size :: (none : Option Nat).toList) (by
      intro k hk
      simp at hk
      rcases hk with e | e | e
      · right; omega
      · left; simp [e]
      · right; omega)
    exact z.moves (HM4.out.then mB) (by simp) (by simp)
  · have hc := HC.out.moves0 mB
    obtain ⟨v, c1, c2, c3⟩ := hc
    exact ⟨v, c1, c2, c3.elder (Nat.le_trans HM2.out.size s3)⟩
  · exact Nat.le_trans HM2.out.size s4
  · exact Nat.le_trans HM2.out.size s3
set_option maxRecDepth 100000 in
theorem mall_w (W w : World) (p q c : Nat) (a : Option Nat) (S : Pms) (h : MrIs W w p q c a S) (ok : OkM S) : Calls Tryz.prog 11 #[.pointer (some ⟨p, 0, none⟩)] w fun e w' => ∃ v', e = .returned v' ∧ OwnT w' v' S.xs ∧ Fresh w v' ∧ Moves [] w w' := by
  obtain ⟨_, k1, _⟩ := c15 h.box
  have hn := mnone_w W w p q c a S h
  have hal := mtAll_w w q S.xs h.tab.is ok.ne (by have := ok.few; omega)
  clear h ok
  go_enter Tryz.func11, Tryz.ntmps11
  go_wp2_with fail
  refine hn.mono ?_
  rintro _ _ ⟨rfl, rfl⟩
  go_wp2_with fail
  refine hal.mono ?_
  rintro _ w2 ⟨v2, rfl, hO, hF, m2⟩
  go_wp2_with fail
  go_ret
  exact ⟨_, rfl, hO, hF, m2⟩
end Go.Proofs.YtilbbnmhnacnlaaGreat
/-
  Package master: Do of plans, and of what is published; drawn plans; answers that are one.
-/
namespace Go.Proofs.YtilbbnmhnacnlaaGreat
open Go.RowKit

set_option maxRecDepth 100000 in
set_option maxHeartbeats 16000000 in
theorem mmaydo_w (w : World) (C : Pcmd) (ca : Option Addr) (cn cc : Nat) (la : Option Addr) (ln lc : Nat) (sa : Option Addr) (sn sc : Nat) (_hC : CmdW w #[.int .i64 C.kind, .int .i64 C.op.kind, .string C.op.row, .string C.op.hi, .bool C.op.cd.has, .bool C.op.cd.want, .string C.op.cd.col, .int .i64 C.op.cd.v.kind, .slice ca cn cc, .float .f64 C.op.cd.v.n, .slice la ln lc, .int .i64 C.op.most, .string C.lo, .string C.hi, .int .i64 C.gen, .string C.at', .int .i64 C.to, .int .i64 C.act, .slice sa sn sc].toList C) (hk : C.kind = 8 ∨ C.kind = 9) (hr : rCmd C = true) :
    Calls Tryz.prog 35 #[.agg #[.int .i64 C.kind, .int .i64 C.op.kind, .string C.op.row, .string C.op.hi, .bool C.op.cd.has, .bool C.op.cd.want, .string C.op.cd.col, .int .i64 C.op.cd.v.kind, .slice ca cn cc, .float .f64 C.op.cd.v.n, .slice la ln lc, .int .i64 C.op.most, .string C.lo, .string C.hi, .int .i64 C.gen, .string C.at', .int .i64 C.to, .int .i64 C.act, .slice sa sn sc]] w fun e w' => e = .returned (.int .i64 0) ∧ Moves [] w w' := by
  have a1 := heap_alloc_new w (.cells #[.int .i64 C.kind, .int .i64 C.op.kind, .string C.op.row, .string C.op.hi, .bool C.op.cd.has, .bool C.op.cd.want, .string C.op.cd.col, .int .i64 C.op.cd.v.kind, .slice ca cn cc, .float .f64 C.op.cd.v.n, .slice la ln lc, .int .i64 C.op.most, .string C.lo, .string C.hi, .int .i64 C.gen, .string C.at', .int .i64 C.to, .int .i64 C.act, .slice sa sn sc] 39)
  obtain ⟨w1, hw1⟩ : ∃ w1, w.alloc (.cells #[.int .i64 C.kind, .int .i64 C.op.kind, .string C.op.row, .string C.op.hi, .bool C.op.cd.has, .bool C.op.cd.want, .string C.op.cd.col, .int .i64 C.op.cd.v.kind, .slice ca cn cc, .float .f64 C.op.cd.v.n, .slice la ln lc, .int .i64 C.op.most, .string C.lo, .string C.hi, .int .i64 C.gen, .string C.at', .int .i64 C.to, .int .i64 C.act, .slice sa sn sc] 39) = w1 := ⟨_, rfl⟩
  have n1 : Moves [] w w1 := by rw [← hw1]; exact (Moves.refl _ _).alloc _
  rw [hw1] at a1
  have hrt := crightM_w w1 C ca cn cc la ln lc sa sn sc (by omega)
  rw [hr] at hrt
  obtain ⟨y0, _⟩ := c19 a1
  have HA : Hid _ := a1
  have HM : Hid _ := n1
  clear hr a1 n1
  rcases hk with hk | hk
  · have k7 : (C.kind == 7) = false := beq_eq_false_iff_ne.2 (by omega)
    have k8 : (C.kind == 8) = true := beq_iff_eq.2 hk
    clear hk
    go_enter Tryz.func35, Tryz.ntmps35
    go_wp2_with (with_reducible refine stopLoad _ rfl ?_)
    unfold Hid
    try rw [hw1]
    refine wpList_loadCmd rfl _ rfl w.heap.size rfl _ HA.out rfl ?_
    go_wp2_with fail
    refine hrt.mono ?_
    rintro _ w2 ⟨rfl, m2⟩
    go_wp2_with fail
    go_ret
    exact ⟨rfl, HM.out.then m2⟩
  · have k7 : (C.kind == 7) = false := beq_eq_false_iff_ne.2 (by omega)
    have k8 : (C.kind == 8) = false := beq_eq_false_iff_ne.2 (by omega)
    have k9 : (C.kind == 9) = true := beq_iff_eq.2 hk
    clear hk
    go_enter Tryz.func35, Tryz.ntmps35
    go_wp2_with (with_reducible refine stopLoad _ rfl ?_)
    unfold Hid
    try rw [hw1]
    refine wpList_loadCmd rfl _ rfl w.heap.size rfl _ HA.out rfl ?_
    go_wp2_with fail
    refine hrt.mono ?_
    rintro _ w2 ⟨rfl, m2⟩
    go_wp2_with fail
    go_ret
    exact ⟨rfl, HM.out.then m2⟩
set_option maxRecDepth 100000 in
set_option maxHeartbeats 16000000 in
theorem mdoPlanG_w (W w : World) (p q c : Nat) (a : Option Nat) (S : Pms) (h : MrIs W w p q c a S) (ok : OkM S) (hW : W.heap.size ≤ w.heap.size) (cl sq : Int) (C : Pcmd) (ca : Option Addr) (cn cc : Nat) (la : Option Addr) (ln lc : Nat) (sa : Option Addr) (sn sc : Nat) (hC : CmdW w #[.int .i64 C.kind, .int .i64 C.op.kind, .string C.op.row, .string C.op.hi, .bool C.op.cd.has, .bool C.op.cd.want, .string C.op.cd.col, .int .i64 C.op.cd.v.kind, .slice ca cn cc, .float .f64 C.op.cd.v.n, .slice la ln lc, .int .i64 C.op.most, .string C.lo, .string C.hi, .int .i64 C.gen, .string C.at', .int .i64 C.to, .int .i64 C.act, .slice sa sn sc].toList C) (hk : C.kind = 8) (hr : rCmd C = true) (ha0 : 0 ≤ C.act) (ha3 : C.act ≤ 3) (hat : C.act ≠ 0 → C.at'.size ≤ 16) :
    Calls Tryz.prog 10 #[.pointer (some ⟨p, 0, none⟩), .int .i64 cl, .int .i64 sq, .agg #[.int .i64 C.kind, .int .i64 C.op.kind, .string C.op.row, .string C.op.hi, .bool C.op.cd.has, .bool C.op.cd.want, .string C.op.cd.col, .int .i64 C.op.cd.v.kind, .slice ca cn cc, .float .f64 C.op.cd.v.n, .slice la ln lc, .int .i64 C.op.most, .string C.lo, .string C.hi, .int .i64 C.gen, .string C.at', .int .i64 C.to, .int .i64 C.act, .slice sa sn sc]] w fun e w' => ∃ cs a', e = .returned (.agg cs.toArray) ∧ AnsC w' cs (mPlan S cl sq C.act C.at' C.to).1 ∧ MrG W w p q c a S w' a' (mPlan S cl sq C.act C.at' C.to).2 := by
  have hbare := mPlan_bare S ok cl sq C.act C.at' C.to ha0 ha3 hat
  have a1 := heap_alloc_new w (.cells #[.int .i64 C.kind, .int .i64 C.op.kind, .string C.op.row, .string C.op.hi, .bool C.op.cd.has, .bool C.op.cd.want, .string C.op.cd.col, .int .i64 C.op.cd.v.kind, .slice ca cn cc, .float .f64 C.op.cd.v.n, .slice la ln lc, .int .i64 C.op.most, .string C.lo, .string C.hi, .int .i64 C.gen, .string C.at', .int .i64 C.to, .int .i64 C.act, .slice sa sn sc] 39)
  obtain ⟨w2, hw2⟩ : ∃ w2, w.alloc (.cells #[.int .i64 C.kind, .int .i64 C.op.kind, .string C.op.row, .string C.op.hi, .bool C.op.cd.has, .bool C.op.cd.want, .string C.op.cd.col, .int .i64 C.op.cd.v.kind, .slice ca cn cc, .float .f64 C.op.cd.v.n, .slice la ln lc, .int .i64 C.op.most, .string C.lo, .string C.hi, .int .i64 C.gen, .string C.at', .int .i64 C.to, .int .i64 C.act, .slice sa sn sc] 39) = w2 := ⟨_, rfl⟩
  have s2 : w2.heap.size = w.heap.size + 1 := by rw [← hw2]; simp
  have n2 : Moves [] w w2 := by rw [← hw2]; exact (Moves.refl _ _).alloc _
  rw [hw2] at a1
  have a2 := heap_alloc_new w2 (.cells #[.int .i64 0, .slice none 0 0, .string ⟨#[]⟩, .string ⟨#[]⟩, .int .i64 0, .int .i64 0, .int .i64 0, .int .i64 0, .int .i64 0, .string ⟨#[]⟩, .slice none 0 0] 48)
  obtain ⟨w3, hw3⟩ : ∃ w3, w2.alloc (.cells #[.int .i64 0, .slice none 0 0, .string ⟨#[]⟩, .string ⟨#[]⟩, .int .i64 0, .int .i64 0, .int .i64 0, .int .i64 0, .int .i64 0, .string ⟨#[]⟩, .slice none 0 0] 48) = w3 := ⟨_, rfl⟩
  have n3 : Moves [] w2 w3 := by rw [← hw3]; exact (Moves.refl _ _).alloc _
  rw [hw3] at a2
  have m03 := n2.then n3
  have b1 := n3.at a1 (by simp)
  rw [s2] at a2
  obtain ⟨B1, hB1⟩ : ∃ B1, w.heap.size = B1 := ⟨_, rfl⟩
  rw [hB1] at b1 a2
  have hI3 := h.moves0 m03
  have hno := mnone_w W w3 p q c a S hI3
  have hmd := mmaydo_w w3 C ca cn cc la ln lc sa sn sc (hC.moves m03) (.inl hk) hr
  have HI : Hid (MrIs W w p q c a S) := h
  have HI3 : Hid (MrIs W w3 p q c a S) := hI3
  have HB1 : Hid _ := b1
  have HM : Hid (Moves [] w w3) := m03
  obtain ⟨y0, _⟩ := c19 b1
  rw [hk] at y0
  have HSZ : Hid (w.heap.size = B1) := hB1
  have HSZ3 : Hid (B1 + 1 < w3.heap.size) := lt_of_block a2
  have HA2 : Hid _ := a2
  have hpl : ∀ w4, Moves [] w3 w4 → _ := fun w4 (m : Moves [] w3 w4) => mplan_w W w4 p q c a S (hI3.moves0 m) ok (by have := HM.out.size; have := m.size; omega) cl sq C ca cn cc la ln lc sa sn sc ha0 ha3 hat
  obtain ⟨R, hR⟩ : ∃ R, mPlan S cl sq C.act C.at' C.to = R := ⟨_, rfl⟩
  rw [hR] at hbare ⊢
  simp only [hR] at hpl
  have HBR : Hid (Bare R.1) := hbare
  clear a1 n2 n3 m03 b1 h hbare hC hk hr ha0 ha3 hat ok hI3 hW a2 hR
  go_enter Tryz.func10, Tryz.ntmps10
  go_wp2_with fail
  try rw [hw2]
  try rw [hw3]
  try rw [s2]
  try rw [hB1]
  refine hno.mono ?_
  rintro _ _ ⟨rfl, rfl⟩
  go_wp2_with (with_reducible refine stopLoad _ rfl ?_)
  unfold Hid
  refine wpList_loadCmd rfl _ rfl B1 rfl _ HB1.out rfl ?_
  go_wp2_with fail
  refine hmd.mono ?_
  rintro _ w4 ⟨rfl, m4⟩
  have y0' := m4.cell y0
  have HB4 : Hid _ := m4.at HB1.out (by simp)
  have hp4 := hpl w4 m4
  have HM4 : Hid (Moves [] w3 w4) := m4
  have HA4 : Hid _ := m4.at HA2.out (by simp)
  clear y0 hmd hno hpl m4 hw2 hw3 s2 hB1
  go_wp2_with (with_reducible refine stopLoad _ rfl ?_)
  unfold Hid
  refine wpList_loadCmd rfl _ rfl B1 rfl _ HB4.out rfl ?_
  go_wp2_with fail
  refine hp4.mono ?_
  rintro _ w5 ⟨cs, a', rfl, hA, hG⟩
  have nB1 : B1 + 1 ∉ p :: q :: c :: a.toList := by
    intro hm
    have hl3 := HI.out.lt
    have e := HSZ.out
    simp only [List.mem_cons] at hm
    rcases hm with e1 | e1 | e1 | e1
    · omega
    · omega
    · omega
    · have := hl3.2.2.2 _ (Option.mem_toList.1 e1); omega
  have b5 := hG.mv.at HA4.out nB1
  have HL : Hid _ := hA.len
  have HA5 : Hid (AnsC w5 cs R.1) := hA
  have HG5 : Hid (MrG W w4 p q c a S w5 a' R.2) := hG
  clear hp4 hA hG nB1 y0'
  go_wp2_with (with_reducible refine stopA _ _ rfl ?_)
  unfold Hid
  refine wpList_storeAns rfl _ _ rfl (B1 + 1) cs rfl rfl HL.out.1 HL.out.2 b5 rfl ?_
  intro w99 h99 m99
  go_wp2_with fail
  refine bodyPost_ret (ret_ansL rfl _ _ _ _ HL.out.1 rfl h99) rfl ?_
  exact ⟨cs, a', rfl, HA5.out.bare HBR.out, MrG.boxed HI.out HM.out (by have := HSZ.out; omega) HSZ3.out ((MrG.same HI3.out HM4.out).step HG5.out) m99⟩
theorem mdoPlan_w (W w : World) (p q c : Nat) (a : Option Nat) (S : Pms) (h : MrIs W w p q c a S) (ok : OkM S) (hW : W.heap.size ≤ w.heap.size) (cl sq : Int) (C : Pcmd) (ca : Option Addr) (cn cc : Nat) (la : Option Addr) (ln lc : Nat) (sa : Option Addr) (sn sc : Nat) (hC : CmdW w #[.int .i64 C.kind, .int .i64 C.op.kind, .string C.op.row, .string C.op.hi, .bool C.op.cd.has, .bool C.op.cd.want, .string C.op.cd.col, .int .i64 C.op.cd.v.kind, .slice ca cn cc, .float .f64 C.op.cd.v.n, .slice la ln lc, .int .i64 C.op.most, .string C.lo, .string C.hi, .int .i64 C.gen, .string C.at', .int .i64 C.to, .int .i64 C.act, .slice sa sn sc].toList C) (hk : C.kind = 8) (hr : rCmd C = true) (ha0 : 0 ≤ C.act) (ha3 : C.act ≤ 3) (hat : C.at'.size ≤ 16) :
    Calls Tryz.prog 10 #[.pointer (some ⟨p, 0, none⟩), .int .i64 cl, .int .i64 sq, .agg #[.int .i64 C.kind, .int .i64 C.op.kind, .string C.op.row, .string C.op.hi, .bool C.op.cd.has, .bool C.op.cd.want, .string C.op.cd.col, .int .i64 C.op.cd.v.kind, .slice ca cn cc, .float .f64 C.op.cd.v.n, .slice la ln lc, .int .i64 C.op.most, .string C.lo, .string C.hi, .int .i64 C.gen, .string C.at', .int .i64 C.to, .int .i64 C.act, .slice sa sn sc]] w fun e w' => ∃ cs a', e = .returned (.agg cs.toArray) ∧ AnsC w' cs (mPlan S cl sq C.act C.at' C.to).1 ∧ MrG W w p q c a S w' a' (mPlan S cl sq C.act C.at' C.to).2 :=
  mdoPlanG_w W w p q c a S h ok hW cl sq C ca cn cc la ln lc sa sn sc hC hk hr ha0 ha3 (fun _ => hat)
set_option maxRecDepth 100000 in
set_option maxHeartbeats 16000000 in
theorem mdoPub_w (W w : World) (p q c : Nat) (a : Option Nat) (S : Pms) (h : MrIs W w p q c a S) (ok : OkM S) (cl sq : Int) (C : Pcmd) (ca : Option Addr) (cn cc : Nat) (la : Option Addr) (ln lc : Nat) (sa : Option Addr) (sn sc : Nat) (hC : CmdW w #[.int .i64 C.kind, .int .i64 C.op.kind, .string C.op.row, .string C.op.hi, .bool C.op.cd.has, .bool C.op.cd.want, .string C.op.cd.col, .int .i64 C.op.cd.v.kind, .slice ca cn cc, .float .f64 C.op.cd.v.n, .slice la ln lc, .int .i64 C.op.most, .string C.lo, .string C.hi, .int .i64 C.gen, .string C.at', .int .i64 C.to, .int .i64 C.act, .slice sa sn sc].toList C) (hk : C.kind = 9) (hr : rCmd C = true) (hg : 1 ≤ C.gen) :
    Calls Tryz.prog 10 #[.pointer (some ⟨p, 0, none⟩), .int .i64 cl, .int .i64 sq, .agg #[.int .i64 C.kind, .int .i64 C.op.kind, .string C.op.row, .string C.op.hi, .bool C.op.cd.has, .bool C.op.cd.want, .string C.op.cd.col, .int .i64 C.op.cd.v.kind, .slice ca cn cc, .float .f64 C.op.cd.v.n, .slice la ln lc, .int .i64 C.op.most, .string C.lo, .string C.hi, .int .i64 C.gen, .string C.at', .int .i64 C.to, .int .i64 C.act, .slice sa sn sc]] w fun e w' => e = .returned (.agg (ansV (pTold (mPub S C.gen C.to).1.code))) ∧ MrG W w p q c a S w' a (mPub S C.gen C.to).2 := by
  have a1 := heap_alloc_new w (.cells #[.int .i64 C.kind, .int .i64 C.op.kind, .string C.op.row, .string C.op.hi, .bool C.op.cd.has, .bool C.op.cd.want, .string C.op.cd.col, .int .i64 C.op.cd.v.kind, .slice ca cn cc, .float .f64 C.op.cd.v.n, .slice la ln lc, .int .i64 C.op.most, .string C.lo, .string C.hi, .int .i64 C.gen, .string C.at', .int .i64 C.to, .int .i64 C.act, .slice sa sn sc] 39)
  obtain ⟨w2, hw2⟩ : ∃ w2, w.alloc (.cells #[.int .i64 C.kind, .int .i64 C.op.kind, .string C.op.row, .string C.op.hi, .bool C.op.cd.has, .bool C.op.cd.want, .string C.op.cd.col, .int .i64 C.op.cd.v.kind, .slice ca cn cc, .float .f64 C.op.cd.v.n, .slice la ln lc, .int .i64 C.op.most, .string C.lo, .string C.hi, .int .i64 C.gen, .string C.at', .int .i64 C.to, .int .i64 C.act, .slice sa sn sc] 39) = w2 := ⟨_, rfl⟩
  have s2 : w2.heap.size = w.heap.size + 1 := by rw [← hw2]; simp
  have n2 : Moves [] w w2 := by rw [← hw2]; exact (Moves.refl _ _).alloc _
  rw [hw2] at a1
  have a2 := heap_alloc_new w2 (.cells #[.int .i64 0, .slice none 0 0, .string ⟨#[]⟩, .string ⟨#[]⟩, .int .i64 0, .int .i64 0, .int .i64 0, .int .i64 0, .int .i64 0, .string ⟨#[]⟩, .slice none 0 0] 48)
  obtain ⟨w3, hw3⟩ : ∃ w3, w2.alloc (.cells #[.int .i64 0, .slice none 0 0, .string ⟨#[]⟩, .string ⟨#[]⟩, .int .i64 0, .int .i64 0, .int .i64 0, .int .i64 0, .int .i64 0, .string ⟨#[]⟩, .slice none 0 0] 48) = w3 := ⟨_, rfl⟩
  have n3 : Moves [] w2 w3 := by rw [← hw3]; exact (Moves.refl _ _).alloc _
  rw [hw3] at a2
  have m03 := n2.then n3
  have b1 := n3.at a1 (by simp)
  rw [s2] at a2
  obtain ⟨B1, hB1⟩ : ∃ B1, w.heap.size = B1 := ⟨_, rfl⟩
  rw [hB1] at b1 a2
  have hI3 := h.moves0 m03
  have hno := mnone_w W w3 p q c a S hI3
  have hmd := mmaydo_w w3 C ca cn cc la ln lc sa sn sc (hC.moves m03) (.inr hk) hr
  have HI : Hid (MrIs W w p q c a S) := h
  have HI3 : Hid (MrIs W w3 p q c a S) := hI3
  have HB1 : Hid _ := b1
  have HM : Hid (Moves [] w w3) := m03
  obtain ⟨y0, _⟩ := c19 b1
  rw [hk] at y0
  have HSZ : Hid (w.heap.size = B1) := hB1
  have HSZ3 : Hid (B1 + 1 < w3.heap.size) := lt_of_block a2
  have HA2 : Hid _ := a2
  have hpl : ∀ w4, Moves [] w3 w4 → _ := fun w4 (m : Moves [] w3 w4) => mpub_w W w4 p q c a S (hI3.moves0 m) ok C ca cn cc la ln lc sa sn sc hg
  obtain ⟨R, hR⟩ : ∃ R, mPub S C.gen C.to = R := ⟨_, rfl⟩
  rw [hR]
  simp only [hR] at hpl
  clear a1 n2 n3 m03 b1 h hC hk hr ok hI3 a2 hR hg
  go_enter Tryz.func10, Tryz.ntmps10
  go_wp2_with fail
  try rw [hw2]
  try rw [hw3]
  try rw [s2]
  try rw [hB1]
  refine hno.mono ?_
  rintro _ _ ⟨rfl, rfl⟩
  go_wp2_with (with_reducible refine stopLoad _ rfl ?_)
  unfold Hid
  refine wpList_loadCmd rfl _ rfl B1 rfl _ HB1.out rfl ?_
  go_wp2_with fail
  refine hmd.mono ?_
  rintro _ w4 ⟨rfl, m4⟩
  have y0' := m4.cell y0
  have HB4 : Hid _ := m4.at HB1.out (by simp)
  have hp4 := hpl w4 m4
  have HM4 : Hid (Moves [] w3 w4) := m4
  have HA4 : Hid _ := m4.at HA2.out (by simp)
  clear y0 hmd hno hpl m4 hw2 hw3 s2 hB1
  go_wp2_with (with_reducible refine stopLoad _ rfl ?_)
  unfold Hid
  refine wpList_loadCmd rfl _ rfl B1 rfl _ HB4.out rfl ?_
  go_wp2_with fail
  refine hp4.mono ?_
  rintro _ w5 ⟨rfl, hG⟩
  have nB1 : B1 + 1 ∉ p :: q :: c :: a.toList := by
    intro hm
    have hl3 := HI.out.lt
    have e := HSZ.out
    simp only [List.mem_cons] at hm
    rcases hm with e1 | e1 | e1 | e1
    · omega
    · omega
    · omega
    · have := hl3.2.2.2 _ (Option.mem_toList.1 e1); omega
  have HB5 : Hid _ := hG.mv.at HA4.out nB1
  have HG5 : Hid (MrG W w4 p q c a S w5 a R.2) := hG
  clear hp4 hG nB1 y0'
  go_wp2_with fail
  refine (mtold_w _ _).mono ?_
  rintro _ w6 ⟨rfl, m6⟩
  have b6 := m6.at HB5.out (by simp)
  go_wp2_with (with_reducible refine stopA _ _ rfl ?_)
  unfold Hid
  refine wpList_storeAns rfl _ _ rfl (B1 + 1) (ansV (pTold R.1.code)).toList rfl rfl rfl (ansV_one _) b6 rfl ?_
  intro w99 h99 m99
  go_wp2_with fail
  refine bodyPost_ret (ret_ansL rfl _ _ _ _ rfl rfl h99) rfl ?_
  exact ⟨rfl, MrG.boxed HI.out HM.out (by have := HSZ.out; omega) HSZ3.out (((MrG.same HI3.out HM4.out).step HG5.out).step (MrG.same HG5.out.is m6)) m99⟩
end Go.Proofs.YtilbbnmhnacnlaaGreat
