/- ours -/
import Derived.Test.YtfhdodopjgfedaaGreatCMs8
import Derived.Test.YtfhdodopjgfedaaGreatCB08
import Derived.Test.YtfhdodopjgfedaaGreatCB37
namespace Go.Proofs.YtfhdodopjgfedaaGreat
open Go.RowKit

set_option maxRecDepth 100000 in
set_option maxHeartbeats 16000000 in
theorem mtNewZ_w (w : World) (g : Nat) (v : Value) (xs : List Ptb) (h : TbL w g v xs) (hl : xs.length ≤ 1000) (hm : mayT xs = 0) : Calls Tryz.prog 20 #[v] w fun e w' => ∃ q, e = .returned (.tuple #[.pointer (some ⟨q, 0, none⟩), .int .i64 0]) ∧ MtZ [q] w' q xs ∧ w.heap.size ≤ q ∧ Moves [] w w' := by
  have hne : xs ≠ [] := by
    rintro rfl
    simp [mayT, spCov] at hm
  have hma := mtMayBe_w w g v xs h hl
  rw [hm] at hma
  have hin := fun (w1 : World) (m : Moves [] w w1) => mtInMetas_w w1 g v xs (h.moves m (by simp)) hl hne
  obtain ⟨ad, n, cap, rfl, hn, hc, HL⟩ := h.open
  clear h
  go_enter Tryz.func20, Tryz.ntmps20
  go_wp2_with fail
  refine hma.mono ?_
  rintro _ w2 ⟨rfl, m2⟩
  go_wp2_with fail
  refine (hin w2 m2).mono ?_
  rintro _ w3 ⟨v3, rfl, hM, m3⟩
  obtain ⟨ad3, n3, cap3, rfl, hn3, _, HM⟩ := hM.open
  clear hM
  go_wp2_with fail
  go_ret2
  have mA : Moves [] w3 (w3.alloc (.cells #[.slice ad3 n3 cap3] 105)) := (Moves.refl _ _).alloc _
  refine ⟨_, rfl, ⟨_, heap_alloc_new _ _, ?_⟩, (m2.then m3).size, (m2.then m3).then mA⟩
  obtain ⟨ad, n, cap, e1, e2, e3, e4, e5⟩ := HM.out
  refine ⟨ad, n, cap, e1, e2, e3, e4, fun k m hk => ?_⟩
  obtain ⟨g, off, u, gu, f1, _, f3, f4, _⟩ := e5 k m hk
  have hg : g < w3.heap.size := lt_of_cell f3
  have hgu : gu < w3.heap.size := tbL_lt f4 (four_ne m (List.mem_of_getElem? hk))
  exact ⟨g, off, u, gu, f1, by simp; omega, mA.cell f3, f4.moves mA (by simp), by simp; omega⟩

def m0 (n : Int) : Pms := ⟨n, k11, 1, pTold 0, []⟩
theorem m0_ok (n : Int) (h0 : 1 ≤ n) (h1 : n ≤ 3) : OkM (m0 n) := by
  refine ⟨h0, h1, k11_may, ?_, by show (1 : Int) ≤ 1; omega, by show (1 : Int) ≤ 1073741824; omega, .inl rfl, List.Pairwise.nil, by simp [m0]⟩
  intro x hx
  have : x = ⟨⟨#[]⟩, ⟨#[]⟩, 1, 1⟩ := by simpa [m0, k11] using hx
  subst this
  exact ⟨⟨by show (1 : Int) ≤ 1; omega, h0⟩, by show (1 : Int) ≤ 1; omega⟩
theorem stopT {ops : Array Oper} {rest : List Oper} {op : Oper} {a : Act} {w : World} {Q : Exit → Act → World → Prop} (x y : Operand) (_ : op.op = .store 54 x y) (h : Hid (wpList Tryz.prog ops Q (op :: rest) a w)) : wpList Tryz.prog ops Q (op :: rest) a w := h.out
set_option maxRecDepth 100000 in
theorem mfirst_w (w : World) : Calls Tryz.prog 21 #[] w fun e w' => e = .returned (.agg #[.string ⟨#[]⟩, .string ⟨#[]⟩, .int .i64 1, .int .i64 1]) ∧ Moves [] w w' := by
  have b := heap_alloc_new w (.cells #[.string ⟨#[]⟩, .string ⟨#[]⟩, .int .i64 0, .int .i64 0] 54)
  have m : Moves [] w (w.alloc (.cells #[.string ⟨#[]⟩, .string ⟨#[]⟩, .int .i64 0, .int .i64 0] 54)) := (Moves.refl _ _).alloc _
  obtain ⟨w1, hw1⟩ : ∃ w1, w.alloc (.cells #[.string ⟨#[]⟩, .string ⟨#[]⟩, .int .i64 0, .int .i64 0] 54) = w1 := ⟨_, rfl⟩
  rw [hw1] at b m
  have HB : Hid _ := b
  have HM : Hid _ := m
  clear b m
  go_enter Tryz.func21, Tryz.ntmps21
  go_wp2_with (with_reducible refine stopT _ _ rfl ?_)
  unfold Hid
  try rw [hw1]
  refine wpList_storeAt rfl _ _ _ rfl w.heap.size 0 _ [.string ⟨#[]⟩, .string ⟨#[]⟩, .int .i64 1, .int .i64 1] rfl rfl rfl Tryz.size54 HB.out (Nat.le_refl 4) (by simp [Value.oneCell']) #[.string ⟨#[]⟩, .string ⟨#[]⟩, .int .i64 1, .int .i64 1] rfl ?_
  intro w2 h2 m2
  go_wp2_with fail
  exact bodyPost_ret (ret_tablet rfl _ _ _ _ _ _ _ rfl h2) rfl ⟨rfl, HM.out.trans m2 (fun k hk => .inr (by simp at hk; omega))⟩
set_option maxRecDepth 100000 in
theorem mright_w (n : Int) (w : World) : Calls Tryz.prog 19 #[.int .i64 n] w fun e w' => e = .returned (.bool (decide (1 ≤ n ∧ n ≤ 3))) ∧ w = w' := by
  by_cases h1 : 1 ≤ n
  · have e : decide (1 ≤ n ∧ n ≤ 3) = decide (n ≤ 3) := by simp [h1]
    rw [e]
    go_enter Tryz.func19, Tryz.ntmps19
    go_wp2_with fail
    go_ret
    exact ⟨rfl, rfl⟩
  · have e : decide (1 ≤ n ∧ n ≤ 3) = false := by simp; omega
    rw [e]
    go_enter Tryz.func19, Tryz.ntmps19
    go_wp2_with fail
    go_ret
    exact ⟨rfl, rfl⟩
set_option maxRecDepth 100000 in
theorem mnew0_w (w : World) : Calls Tryz.prog 6 #[.int .i64 0] w fun e w' => e = .returned (.pointer none) ∧ w = w' := by
  have h := mright_w 0 w
  rw [decide_eq_false (by omega)] at h
  go_enter Tryz.func6, Tryz.ntmps6
  go_wp2_with fail
  refine h.mono ?_
  rintro _ _ ⟨rfl, rfl⟩
  go_wp2_with fail
  go_ret
  exact ⟨rfl, rfl⟩
set_option maxRecDepth 100000 in
set_option maxHeartbeats 16000000 in
theorem mnew_w (n : Int) (h0 : 1 ≤ n) (h1 : n ≤ 3) (w : World) : Calls Tryz.prog 6 #[.int .i64 n] w fun e w' => ∃ p q c, e = .returned (.pointer (some ⟨p, 0, none⟩)) ∧ MrIs w w' p q c none (m0 n) ∧ Moves [] w w' := by
  have h := mright_w n w
  rw [decide_eq_true ⟨h0, h1⟩] at h
  clear h0 h1
  have hfd : ∀ w1 : World, (Instr.field 54 (.agg #[.string ⟨#[]⟩, .string ⟨#[]⟩, .int .i64 1, .int .i64 1]) 2).run Tryz.prog w1 = .ok (.int .i64 1) w1 := by intro w1; kernel_rfl
  go_enter Tryz.func6, Tryz.ntmps6
  go_wp2_with fail
  refine h.mono ?_
  rintro _ _ ⟨rfl, rfl⟩
  go_wp2_with fail
  refine (mfirst_w _).mono ?_
  rintro _ w1 ⟨rfl, m1⟩
  have htb := tb_new w1 ⟨⟨#[]⟩, ⟨#[]⟩, 1, 1⟩
  have mA : Moves [] w1 (w1.alloc (.cells #[.string ⟨#[]⟩, .string ⟨#[]⟩, .int .i64 1, .int .i64 1] 54)) := (Moves.refl _ _).alloc _
  have hnw := mtNewZ_w _ _ _ k11 htb (by decide) k11_may
  go_wp2_with fail
  refine hnw.mono ?_
  rintro _ w2 ⟨q, rfl, hT, hq, m2⟩
  have HT : Hid (MtZ [q] w2 q k11) := hT
  have HQ : Hid _ := hq
  have HM2 : Hid (Moves [] w w2) := (m1.then mA).then m2
  have HM1 : Hid (w.heap.size ≤ q) := Nat.le_trans (m1.then mA).size hq
  clear hnw htb mA m1 hT hq m2
  go_wp2_with fail
  refine (mfirst_w _).mono ?_
  rintro _ w3 ⟨rfl, m3⟩
  go_wp2_with fail
  refine (onew_w w3).mono ?_
  rintro _ w4 ⟨rfl, hC, m4⟩
  have HC : Hid (CaIs w3 w4 w3.heap.size none []) := hC
  have HM4 : Hid (Moves [] w2 w4) := m3.then m4
  have HM3 : Hid (Moves [] w2 w3) := m3
  clear hC m3 m4
  go_wp2_with fail
  go_ret
  have hb := heap_alloc_new w4 (.cells (mrCells q w3.heap.size (m0 n)) 76)
  have mB : Moves [] w4 (w4.alloc (.cells (mrCells q w3.heap.size (m0 n)) 76)) := (Moves.refl _ _).alloc _
  have hq2 : q < w2.heap.size := by
    obtain ⟨v, hv, _⟩ := HT.out
    exact lt_of_block hv
  have s3 := HM3.out.size
  have s4 := HM4.out.size
  refine ⟨w4.heap.size, q, w3.heap.size, rfl, ⟨hb, ?_, ?_, ?_, HM1.out, ?_⟩, (HM2.out.then HM4.out).then mB⟩
  · have z := HT.out.more (Z' := w4.heap.size :: q :: w3.heap.size :: (none : Option Nat).toList) (by
      intro k hk
      simp at hk
      rcases hk with e | e | e
      · right; omega
      · left; simp [e]
      · right; omega)
    exact z.moves (HM4.out.then mB) (by simp) (by simp)
  · have hc := HC.out.moves0 mB
    obtain ⟨v, c1, c2, c3⟩ := hc
    exact ⟨v, c1, c2, c3.elder (Nat.le_trans HM2.out.size s3)⟩
  · exact Nat.le_trans HM2.out.size s4
  · exact Nat.le_trans HM2.out.size s3
set_option maxRecDepth 100000 in
theorem mall_w (W w : World) (p q c : Nat) (a : Option Nat) (S : Pms) (h : MrIs W w p q c a S) (ok : OkM S) : Calls Tryz.prog 11 #[.pointer (some ⟨p, 0, none⟩)] w fun e w' => ∃ v', e = .returned v' ∧ OwnT w' v' S.xs ∧ Fresh w v' ∧ Moves [] w w' := by
  obtain ⟨_, k1, _⟩ := c15 h.box
  have hn := mnone_w W w p q c a S h
  have hal := mtAll_w w q S.xs h.tab.is ok.ne (by have := ok.few; omega)
  clear h ok
  go_enter Tryz.func11, Tryz.ntmps11
  go_wp2_with fail
  refine hn.mono ?_
  rintro _ _ ⟨rfl, rfl⟩
  go_wp2_with fail
  refine hal.mono ?_
  rintro _ w2 ⟨v2, rfl, hO, hF, m2⟩
  go_wp2_with fail
  go_ret
  exact ⟨_, rfl, hO, hF, m2⟩
end Go.Proofs.YtfhdodopjgfedaaGreat
