/- ours -/
import Derived.Test.YtfhdodopjgfedaaGreatCMs9
namespace Go.Proofs.YtfhdodopjgfedaaGreat
open Go.RowKit

set_option maxRecDepth 100000 in
set_option maxHeartbeats 16000000 in
theorem mmaydo_w (w : World) (C : Pcmd) (ca : Option Addr) (cn cc : Nat) (la : Option Addr) (ln lc : Nat) (sa : Option Addr) (sn sc : Nat) (hC : CmdC w #[.int .i64 C.kind, .int .i64 C.op.kind, .string C.op.row, .string C.op.hi, .bool C.op.cd.has, .bool C.op.cd.want, .string C.op.cd.col, .int .i64 C.op.cd.v.kind, .slice ca cn cc, .float .f64 C.op.cd.v.n, .slice la ln lc, .int .i64 C.op.most, .string C.lo, .string C.hi, .int .i64 C.gen, .string C.at', .int .i64 C.to, .int .i64 C.act, .slice sa sn sc].toList C) (hk : C.kind = 8 ∨ C.kind = 9) (hr : rCmd C = true) :
    Calls Tryz.prog 35 #[.agg #[.int .i64 C.kind, .int .i64 C.op.kind, .string C.op.row, .string C.op.hi, .bool C.op.cd.has, .bool C.op.cd.want, .string C.op.cd.col, .int .i64 C.op.cd.v.kind, .slice ca cn cc, .float .f64 C.op.cd.v.n, .slice la ln lc, .int .i64 C.op.most, .string C.lo, .string C.hi, .int .i64 C.gen, .string C.at', .int .i64 C.to, .int .i64 C.act, .slice sa sn sc]] w fun e w' => e = .returned (.int .i64 0) ∧ Moves [] w w' := by
  have a1 := heap_alloc_new w (.cells #[.int .i64 C.kind, .int .i64 C.op.kind, .string C.op.row, .string C.op.hi, .bool C.op.cd.has, .bool C.op.cd.want, .string C.op.cd.col, .int .i64 C.op.cd.v.kind, .slice ca cn cc, .float .f64 C.op.cd.v.n, .slice la ln lc, .int .i64 C.op.most, .string C.lo, .string C.hi, .int .i64 C.gen, .string C.at', .int .i64 C.to, .int .i64 C.act, .slice sa sn sc] 39)
  obtain ⟨w1, hw1⟩ : ∃ w1, w.alloc (.cells #[.int .i64 C.kind, .int .i64 C.op.kind, .string C.op.row, .string C.op.hi, .bool C.op.cd.has, .bool C.op.cd.want, .string C.op.cd.col, .int .i64 C.op.cd.v.kind, .slice ca cn cc, .float .f64 C.op.cd.v.n, .slice la ln lc, .int .i64 C.op.most, .string C.lo, .string C.hi, .int .i64 C.gen, .string C.at', .int .i64 C.to, .int .i64 C.act, .slice sa sn sc] 39) = w1 := ⟨_, rfl⟩
  have n1 : Moves [] w w1 := by rw [← hw1]; exact (Moves.refl _ _).alloc _
  rw [hw1] at a1
  have hrt := cright_w w w1 _ C hC n1
  rw [hr] at hrt
  obtain ⟨y0, _⟩ := c19 a1
  have HA : Hid _ := a1
  have HM : Hid _ := n1
  clear hC hr a1 n1
  rcases hk with hk | hk
  · have k7 : (C.kind == 7) = false := beq_eq_false_iff_ne.2 (by omega)
    have k8 : (C.kind == 8) = true := beq_iff_eq.2 hk
    clear hk
    go_enter Tryz.func35, Tryz.ntmps35
    go_wp2_with (with_reducible refine stopLoad _ rfl ?_)
    unfold Hid
    try rw [hw1]
    refine wpList_loadCmd rfl _ rfl w.heap.size rfl _ HA.out rfl ?_
    go_wp2_with fail
    refine hrt.mono ?_
    rintro _ w2 ⟨rfl, m2⟩
    go_wp2_with fail
    go_ret
    exact ⟨rfl, HM.out.then m2⟩
  · have k7 : (C.kind == 7) = false := beq_eq_false_iff_ne.2 (by omega)
    have k8 : (C.kind == 8) = false := beq_eq_false_iff_ne.2 (by omega)
    have k9 : (C.kind == 9) = true := beq_iff_eq.2 hk
    clear hk
    go_enter Tryz.func35, Tryz.ntmps35
    go_wp2_with (with_reducible refine stopLoad _ rfl ?_)
    unfold Hid
    try rw [hw1]
    refine wpList_loadCmd rfl _ rfl w.heap.size rfl _ HA.out rfl ?_
    go_wp2_with fail
    refine hrt.mono ?_
    rintro _ w2 ⟨rfl, m2⟩
    go_wp2_with fail
    go_ret
    exact ⟨rfl, HM.out.then m2⟩
set_option maxRecDepth 100000 in
set_option maxHeartbeats 16000000 in
theorem mdoPlan_w (W w : World) (p q c : Nat) (a : Option Nat) (S : Pms) (h : MrIs W w p q c a S) (ok : OkM S) (hW : W.heap.size ≤ w.heap.size) (cl sq : Int) (C : Pcmd) (ca : Option Addr) (cn cc : Nat) (la : Option Addr) (ln lc : Nat) (sa : Option Addr) (sn sc : Nat) (hC : CmdC w #[.int .i64 C.kind, .int .i64 C.op.kind, .string C.op.row, .string C.op.hi, .bool C.op.cd.has, .bool C.op.cd.want, .string C.op.cd.col, .int .i64 C.op.cd.v.kind, .slice ca cn cc, .float .f64 C.op.cd.v.n, .slice la ln lc, .int .i64 C.op.most, .string C.lo, .string C.hi, .int .i64 C.gen, .string C.at', .int .i64 C.to, .int .i64 C.act, .slice sa sn sc].toList C) (hk : C.kind = 8) (hr : rCmd C = true) (ha0 : 0 ≤ C.act) (ha3 : C.act ≤ 3) (hat : C.at'.size ≤ 16) :
    Calls Tryz.prog 10 #[.pointer (some ⟨p, 0, none⟩), .int .i64 cl, .int .i64 sq, .agg #[.int .i64 C.kind, .int .i64 C.op.kind, .string C.op.row, .string C.op.hi, .bool C.op.cd.has, .bool C.op.cd.want, .string C.op.cd.col, .int .i64 C.op.cd.v.kind, .slice ca cn cc, .float .f64 C.op.cd.v.n, .slice la ln lc, .int .i64 C.op.most, .string C.lo, .string C.hi, .int .i64 C.gen, .string C.at', .int .i64 C.to, .int .i64 C.act, .slice sa sn sc]] w fun e w' => ∃ cs a', e = .returned (.agg cs.toArray) ∧ AnsC w' cs (mPlan S cl sq C.act C.at' C.to).1 ∧ MrG W w p q c a S w' a' (mPlan S cl sq C.act C.at' C.to).2 := by
  have hbare := mPlan_bare S ok cl sq C.act C.at' C.to ha0 ha3 hat
  have a1 := heap_alloc_new w (.cells #[.int .i64 C.kind, .int .i64 C.op.kind, .string C.op.row, .string C.op.hi, .bool C.op.cd.has, .bool C.op.cd.want, .string C.op.cd.col, .int .i64 C.op.cd.v.kind, .slice ca cn cc, .float .f64 C.op.cd.v.n, .slice la ln lc, .int .i64 C.op.most, .string C.lo, .string C.hi, .int .i64 C.gen, .string C.at', .int .i64 C.to, .int .i64 C.act, .slice sa sn sc] 39)
  obtain ⟨w2, hw2⟩ : ∃ w2, w.alloc (.cells #[.int .i64 C.kind, .int .i64 C.op.kind, .string C.op.row, .string C.op.hi, .bool C.op.cd.has, .bool C.op.cd.want, .string C.op.cd.col, .int .i64 C.op.cd.v.kind, .slice ca cn cc, .float .f64 C.op.cd.v.n, .slice la ln lc, .int .i64 C.op.most, .string C.lo, .string C.hi, .int .i64 C.gen, .string C.at', .int .i64 C.to, .int .i64 C.act, .slice sa sn sc] 39) = w2 := ⟨_, rfl⟩
  have s2 : w2.heap.size = w.heap.size + 1 := by rw [← hw2]; simp
  have n2 : Moves [] w w2 := by rw [← hw2]; exact (Moves.refl _ _).alloc _
  rw [hw2] at a1
  have a2 := heap_alloc_new w2 (.cells #[.int .i64 0, .slice none 0 0, .string ⟨#[]⟩, .string ⟨#[]⟩, .int .i64 0, .int .i64 0, .int .i64 0, .int .i64 0, .int .i64 0, .string ⟨#[]⟩, .slice none 0 0] 48)
  obtain ⟨w3, hw3⟩ : ∃ w3, w2.alloc (.cells #[.int .i64 0, .slice none 0 0, .string ⟨#[]⟩, .string ⟨#[]⟩, .int .i64 0, .int .i64 0, .int .i64 0, .int .i64 0, .int .i64 0, .string ⟨#[]⟩, .slice none 0 0] 48) = w3 := ⟨_, rfl⟩
  have n3 : Moves [] w2 w3 := by rw [← hw3]; exact (Moves.refl _ _).alloc _
  rw [hw3] at a2
  have m03 := n2.then n3
  have b1 := n3.at a1 (by simp)
  rw [s2] at a2
  obtain ⟨B1, hB1⟩ : ∃ B1, w.heap.size = B1 := ⟨_, rfl⟩
  rw [hB1] at b1 a2
  have hI3 := h.moves0 m03
  have hno := mnone_w W w3 p q c a S hI3
  have hmd := mmaydo_w w3 C ca cn cc la ln lc sa sn sc (hC.moves m03) (.inl hk) hr
  have HI : Hid (MrIs W w p q c a S) := h
  have HI3 : Hid (MrIs W w3 p q c a S) := hI3
  have HB1 : Hid _ := b1
  have HM : Hid (Moves [] w w3) := m03
  obtain ⟨y0, _⟩ := c19 b1
  rw [hk] at y0
  have HSZ : Hid (w.heap.size = B1) := hB1
  have HSZ3 : Hid (B1 + 1 < w3.heap.size) := lt_of_block a2
  have HA2 : Hid _ := a2
  have hpl : ∀ w4, Moves [] w3 w4 → _ := fun w4 (m : Moves [] w3 w4) => mplan_w W w4 p q c a S (hI3.moves0 m) ok (by have := HM.out.size; have := m.size; omega) cl sq C ca cn cc la ln lc sa sn sc ha0 ha3 hat
  obtain ⟨R, hR⟩ : ∃ R, mPlan S cl sq C.act C.at' C.to = R := ⟨_, rfl⟩
  rw [hR] at hbare ⊢
  simp only [hR] at hpl
  have HBR : Hid (Bare R.1) := hbare
  clear a1 n2 n3 m03 b1 h hbare hC hk hr ha0 ha3 hat ok hI3 hW a2 hR
  go_enter Tryz.func10, Tryz.ntmps10
  go_wp2_with fail
  try rw [hw2]
  try rw [hw3]
  try rw [s2]
  try rw [hB1]
  refine hno.mono ?_
  rintro _ _ ⟨rfl, rfl⟩
  go_wp2_with (with_reducible refine stopLoad _ rfl ?_)
  unfold Hid
  refine wpList_loadCmd rfl _ rfl B1 rfl _ HB1.out rfl ?_
  go_wp2_with fail
  refine hmd.mono ?_
  rintro _ w4 ⟨rfl, m4⟩
  have y0' := m4.cell y0
  have HB4 : Hid _ := m4.at HB1.out (by simp)
  have hp4 := hpl w4 m4
  have HM4 : Hid (Moves [] w3 w4) := m4
  have HA4 : Hid _ := m4.at HA2.out (by simp)
  clear y0 hmd hno hpl m4 hw2 hw3 s2 hB1
  go_wp2_with (with_reducible refine stopLoad _ rfl ?_)
  unfold Hid
  refine wpList_loadCmd rfl _ rfl B1 rfl _ HB4.out rfl ?_
  go_wp2_with fail
  refine hp4.mono ?_
  rintro _ w5 ⟨cs, a', rfl, hA, hG⟩
  have nB1 : B1 + 1 ∉ p :: q :: c :: a.toList := by
    intro hm
    have hl3 := HI.out.lt
    have e := HSZ.out
    simp only [List.mem_cons] at hm
    rcases hm with e1 | e1 | e1 | e1
    · omega
    · omega
    · omega
    · have := hl3.2.2.2 _ (Option.mem_toList.1 e1); omega
  have b5 := hG.mv.at HA4.out nB1
  have HL : Hid _ := hA.len
  have HA5 : Hid (AnsC w5 cs R.1) := hA
  have HG5 : Hid (MrG W w4 p q c a S w5 a' R.2) := hG
  clear hp4 hA hG nB1 y0'
  go_wp2_with (with_reducible refine stopA _ _ rfl ?_)
  unfold Hid
  refine wpList_storeAns rfl _ _ rfl (B1 + 1) cs rfl rfl HL.out.1 HL.out.2 b5 rfl ?_
  intro w99 h99 m99
  go_wp2_with fail
  refine bodyPost_ret (ret_ansL rfl _ _ _ _ HL.out.1 rfl h99) rfl ?_
  exact ⟨cs, a', rfl, HA5.out.bare HBR.out, MrG.boxed HI.out HM.out (by have := HSZ.out; omega) HSZ3.out ((MrG.same HI3.out HM4.out).step HG5.out) m99⟩
set_option maxRecDepth 100000 in
set_option maxHeartbeats 16000000 in
theorem mdoPub_w (W w : World) (p q c : Nat) (a : Option Nat) (S : Pms) (h : MrIs W w p q c a S) (ok : OkM S) (cl sq : Int) (C : Pcmd) (ca : Option Addr) (cn cc : Nat) (la : Option Addr) (ln lc : Nat) (sa : Option Addr) (sn sc : Nat) (hC : CmdC w #[.int .i64 C.kind, .int .i64 C.op.kind, .string C.op.row, .string C.op.hi, .bool C.op.cd.has, .bool C.op.cd.want, .string C.op.cd.col, .int .i64 C.op.cd.v.kind, .slice ca cn cc, .float .f64 C.op.cd.v.n, .slice la ln lc, .int .i64 C.op.most, .string C.lo, .string C.hi, .int .i64 C.gen, .string C.at', .int .i64 C.to, .int .i64 C.act, .slice sa sn sc].toList C) (hk : C.kind = 9) (hr : rCmd C = true) (hg : 1 ≤ C.gen) :
    Calls Tryz.prog 10 #[.pointer (some ⟨p, 0, none⟩), .int .i64 cl, .int .i64 sq, .agg #[.int .i64 C.kind, .int .i64 C.op.kind, .string C.op.row, .string C.op.hi, .bool C.op.cd.has, .bool C.op.cd.want, .string C.op.cd.col, .int .i64 C.op.cd.v.kind, .slice ca cn cc, .float .f64 C.op.cd.v.n, .slice la ln lc, .int .i64 C.op.most, .string C.lo, .string C.hi, .int .i64 C.gen, .string C.at', .int .i64 C.to, .int .i64 C.act, .slice sa sn sc]] w fun e w' => e = .returned (.agg (ansV (pTold (mPub S C.gen C.to).1.code))) ∧ MrG W w p q c a S w' a (mPub S C.gen C.to).2 := by
  have a1 := heap_alloc_new w (.cells #[.int .i64 C.kind, .int .i64 C.op.kind, .string C.op.row, .string C.op.hi, .bool C.op.cd.has, .bool C.op.cd.want, .string C.op.cd.col, .int .i64 C.op.cd.v.kind, .slice ca cn cc, .float .f64 C.op.cd.v.n, .slice la ln lc, .int .i64 C.op.most, .string C.lo, .string C.hi, .int .i64 C.gen, .string C.at', .int .i64 C.to, .int .i64 C.act, .slice sa sn sc] 39)
  obtain ⟨w2, hw2⟩ : ∃ w2, w.alloc (.cells #[.int .i64 C.kind, .int .i64 C.op.kind, .string C.op.row, .string C.op.hi, .bool C.op.cd.has, .bool C.op.cd.want, .string C.op.cd.col, .int .i64 C.op.cd.v.kind, .slice ca cn cc, .float .f64 C.op.cd.v.n, .slice la ln lc, .int .i64 C.op.most, .string C.lo, .string C.hi, .int .i64 C.gen, .string C.at', .int .i64 C.to, .int .i64 C.act, .slice sa sn sc] 39) = w2 := ⟨_, rfl⟩
  have s2 : w2.heap.size = w.heap.size + 1 := by rw [← hw2]; simp
  have n2 : Moves [] w w2 := by rw [← hw2]; exact (Moves.refl _ _).alloc _
  rw [hw2] at a1
  have a2 := heap_alloc_new w2 (.cells #[.int .i64 0, .slice none 0 0, .string ⟨#[]⟩, .string ⟨#[]⟩, .int .i64 0, .int .i64 0, .int .i64 0, .int .i64 0, .int .i64 0, .string ⟨#[]⟩, .slice none 0 0] 48)
  obtain ⟨w3, hw3⟩ : ∃ w3, w2.alloc (.cells #[.int .i64 0, .slice none 0 0, .string ⟨#[]⟩, .string ⟨#[]⟩, .int .i64 0, .int .i64 0, .int .i64 0, .int .i64 0, .int .i64 0, .string ⟨#[]⟩, .slice none 0 0] 48) = w3 := ⟨_, rfl⟩
  have n3 : Moves [] w2 w3 := by rw [← hw3]; exact (Moves.refl _ _).alloc _
  rw [hw3] at a2
  have m03 := n2.then n3
  have b1 := n3.at a1 (by simp)
  rw [s2] at a2
  obtain ⟨B1, hB1⟩ : ∃ B1, w.heap.size = B1 := ⟨_, rfl⟩
  rw [hB1] at b1 a2
  have hI3 := h.moves0 m03
  have hno := mnone_w W w3 p q c a S hI3
  have hmd := mmaydo_w w3 C ca cn cc la ln lc sa sn sc (hC.moves m03) (.inr hk) hr
  have HI : Hid (MrIs W w p q c a S) := h
  have HI3 : Hid (MrIs W w3 p q c a S) := hI3
  have HB1 : Hid _ := b1
  have HM : Hid (Moves [] w w3) := m03
  obtain ⟨y0, _⟩ := c19 b1
  rw [hk] at y0
  have HSZ : Hid (w.heap.size = B1) := hB1
  have HSZ3 : Hid (B1 + 1 < w3.heap.size) := lt_of_block a2
  have HA2 : Hid _ := a2
  have hpl : ∀ w4, Moves [] w3 w4 → _ := fun w4 (m : Moves [] w3 w4) => mpub_w W w4 p q c a S (hI3.moves0 m) ok C ca cn cc la ln lc sa sn sc hg
  obtain ⟨R, hR⟩ : ∃ R, mPub S C.gen C.to = R := ⟨_, rfl⟩
  rw [hR]
  simp only [hR] at hpl
  clear a1 n2 n3 m03 b1 h hC hk hr ok hI3 a2 hR hg
  go_enter Tryz.func10, Tryz.ntmps10
  go_wp2_with fail
  try rw [hw2]
  try rw [hw3]
  try rw [s2]
  try rw [hB1]
  refine hno.mono ?_
  rintro _ _ ⟨rfl, rfl⟩
  go_wp2_with (with_reducible refine stopLoad _ rfl ?_)
  unfold Hid
  refine wpList_loadCmd rfl _ rfl B1 rfl _ HB1.out rfl ?_
  go_wp2_with fail
  refine hmd.mono ?_
  rintro _ w4 ⟨rfl, m4⟩
  have y0' := m4.cell y0
  have HB4 : Hid _ := m4.at HB1.out (by simp)
  have hp4 := hpl w4 m4
  have HM4 : Hid (Moves [] w3 w4) := m4
  have HA4 : Hid _ := m4.at HA2.out (by simp)
  clear y0 hmd hno hpl m4 hw2 hw3 s2 hB1
  go_wp2_with (with_reducible refine stopLoad _ rfl ?_)
  unfold Hid
  refine wpList_loadCmd rfl _ rfl B1 rfl _ HB4.out rfl ?_
  go_wp2_with fail
  refine hp4.mono ?_
  rintro _ w5 ⟨rfl, hG⟩
  have nB1 : B1 + 1 ∉ p :: q :: c :: a.toList := by
    intro hm
    have hl3 := HI.out.lt
    have e := HSZ.out
    simp only [List.mem_cons] at hm
    rcases hm with e1 | e1 | e1 | e1
    · omega
    · omega
    · omega
    · have := hl3.2.2.2 _ (Option.mem_toList.1 e1); omega
  have HB5 : Hid _ := hG.mv.at HA4.out nB1
  have HG5 : Hid (MrG W w4 p q c a S w5 a R.2) := hG
  clear hp4 hG nB1 y0'
  go_wp2_with fail
  refine (mtold_w _ _).mono ?_
  rintro _ w6 ⟨rfl, m6⟩
  have b6 := m6.at HB5.out (by simp)
  go_wp2_with (with_reducible refine stopA _ _ rfl ?_)
  unfold Hid
  refine wpList_storeAns rfl _ _ rfl (B1 + 1) (ansV (pTold R.1.code)).toList rfl rfl rfl (ansV_one _) b6 rfl ?_
  intro w99 h99 m99
  go_wp2_with fail
  refine bodyPost_ret (ret_ansL rfl _ _ _ _ rfl rfl h99) rfl ?_
  exact ⟨rfl, MrG.boxed HI.out HM.out (by have := HSZ.out; omega) HSZ3.out (((MrG.same HI3.out HM4.out).step HG5.out).step (MrG.same HG5.out.is m6)) m99⟩
theorem span_neq_self (lo hi : ByteArray) (w1 : World) : (binOp .neq 37 (.agg #[.string lo, .string hi]) (.agg #[.string lo, .string hi])).run Tryz.prog w1 = .ok (.bool false) w1 := by
  rw [run_neq_struct, run_equalIn_agg (d := 9999) w1 37 _ _ (by kernel_rfl) (by kernel_rfl)]
  unfold Program.fieldsOf
  rw [Tryz.underlying37]
  simp [go_sem]
set_option maxRecDepth 100000 in
set_option maxHeartbeats 16000000 in
theorem rsameA_yes (w : World) (c c' : List Value) (A : Pans) (hb : Bare A) (h : AnsC w c A) (h' : AnsC w c' A) : Calls Tryz.prog 15 #[.agg c.toArray, .agg c'.toArray] w fun e w' => e = .returned (.bool true) ∧ Moves [] w w' := by
  obtain ⟨ar, nr, cr, sa, ns, cs, g, rfl, hN, hB, -, -⟩ := h
  obtain ⟨ar', nr', cr', sa', ns', cs', g', rfl, hN', hB', -, -⟩ := h'
  obtain ⟨code, rows, lo, hi, grp, gen, old, to, act, at', st⟩ := A
  obtain ⟨h1, h2⟩ := hb
  dsimp only at h1 h2
  subst h1 h2
  dsimp only at *
  have e1 : nr = 0 := by obtain ⟨css, ⟨_, ad, cap, e, _⟩, hA⟩ := hN; cases css with
    | nil => simp at e; exact e.2.1
    | cons _ _ => exact hA.elim
  have e2 : nr' = 0 := by obtain ⟨css, ⟨_, ad, cap, e, _⟩, hA⟩ := hN'; cases css with
    | nil => simp at e; exact e.2.1
    | cons _ _ => exact hA.elim
  subst e1 e2
  have ns : ns = 0 := by obtain ⟨ad, n, cap, e, e3, _⟩ := hB; simp at e e3; omega
  have ns' : ns' = 0 := by obtain ⟨ad, n, cap, e, e3, _⟩ := hB'; simp at e e3; omega
  subst ns ns'
  have a1 := heap_alloc_new w (.cells #[.int .i64 code, .slice ar 0 cr, .string lo, .string hi, .int .i64 grp, .int .i64 gen, .int .i64 old, .int .i64 to, .int .i64 act, .string at', .slice sa 0 cs] 48)
  obtain ⟨w1, hw1⟩ : ∃ w1, w.alloc (.cells #[.int .i64 code, .slice ar 0 cr, .string lo, .string hi, .int .i64 grp, .int .i64 gen, .int .i64 old, .int .i64 to, .int .i64 act, .string at', .slice sa 0 cs] 48) = w1 := ⟨_, rfl⟩
  have s1 : w1.heap.size = w.heap.size + 1 := by rw [← hw1]; simp
  have n1 : Moves [] w w1 := by rw [← hw1]; exact (Moves.refl _ _).alloc _
  rw [hw1] at a1
  have a2 := heap_alloc_new w1 (.cells #[.int .i64 code, .slice ar' 0 cr', .string lo, .string hi, .int .i64 grp, .int .i64 gen, .int .i64 old, .int .i64 to, .int .i64 act, .string at', .slice sa' 0 cs'] 48)
  obtain ⟨w2, hw2⟩ : ∃ w2, w1.alloc (.cells #[.int .i64 code, .slice ar' 0 cr', .string lo, .string hi, .int .i64 grp, .int .i64 gen, .int .i64 old, .int .i64 to, .int .i64 act, .string at', .slice sa' 0 cs'] 48) = w2 := ⟨_, rfl⟩
  have n2 : Moves [] w1 w2 := by rw [← hw2]; exact (Moves.refl _ _).alloc _
  rw [hw2] at a2
  have b1 := n2.at a1 (by simp)
  have m2 := n1.then n2
  have r1 := run_str (hB.moves m2 (by simp)) (by simp)
  have r2 := run_str (hB'.moves m2 (by simp)) (by simp)
  have hsn := span_neq_self lo hi
  obtain ⟨B, hBB⟩ : ∃ B, w.heap.size = B := ⟨_, rfl⟩
  rw [hBB] at b1
  obtain ⟨x0, x1, x2, x3, x4, x5, x6, x7, x8, x9, x10⟩ := eleven_cells b1
  obtain ⟨z0, z1, z2, z3, z4, z5, z6, z7, z8, z9, z10⟩ := eleven_cells a2
  have HM : Hid _ := m2
  clear a1 a2 b1 n1 n2 m2 hN hN' hB hB' s1
  go_enter Tryz.func15, Tryz.ntmps15
  go_wp2_with fail
  go_loopw [5] (fun vi wr => vi = .int .i64 0 ∧ w2 = wr) (fun _ _ => 0)
  case atStart => exact ⟨rfl, rfl⟩
  case round =>
    obtain ⟨rfl, rfl⟩ := hrel
    go_wp2_with fail
    go_ret
    exact ⟨rfl, HM.out⟩
end Go.Proofs.YtfhdodopjgfedaaGreat
