/- ours -/
import Derived.Test.YtilbbnmhnacnlaaGreatCB44
/-
  Package master: Do of what is none of a master's, of what is not right, and of nothing.
-/
namespace Go.Proofs.YtilbbnmhnacnlaaGreat
open Go.RowKit

def mWhy (C : Pcmd) : Int := if C.kind = 7 ∨ C.kind = 8 ∨ C.kind = 9 ∨ C.kind = 10 then (if rCmd C = true then 0 else 1) else 24
set_option maxRecDepth 100000 in
set_option maxHeartbeats 16000000 in
theorem mmayAny_w (w : World) (C : Pcmd) (ca : Option Addr) (cn cc : Nat) (la : Option Addr) (ln lc : Nat) (sa : Option Addr) (sn sc : Nat) (_hC : CmdW w #[.int .i64 C.kind, .int .i64 C.op.kind, .string C.op.row, .string C.op.hi, .bool C.op.cd.has, .bool C.op.cd.want, .string C.op.cd.col, .int .i64 C.op.cd.v.kind, .slice ca cn cc, .float .f64 C.op.cd.v.n, .slice la ln lc, .int .i64 C.op.most, .string C.lo, .string C.hi, .int .i64 C.gen, .string C.at', .int .i64 C.to, .int .i64 C.act, .slice sa sn sc].toList C) :
    Calls Tryz.prog 35 #[.agg #[.int .i64 C.kind, .int .i64 C.op.kind, .string C.op.row, .string C.op.hi, .bool C.op.cd.has, .bool C.op.cd.want, .string C.op.cd.col, .int .i64 C.op.cd.v.kind, .slice ca cn cc, .float .f64 C.op.cd.v.n, .slice la ln lc, .int .i64 C.op.most, .string C.lo, .string C.hi, .int .i64 C.gen, .string C.at', .int .i64 C.to, .int .i64 C.act, .slice sa sn sc]] w fun e w' => e = .returned (.int .i64 (mWhy C)) ∧ Moves [] w w' := by
  have a1 := heap_alloc_new w (.cells #[.int .i64 C.kind, .int .i64 C.op.kind, .string C.op.row, .string C.op.hi, .bool C.op.cd.has, .bool C.op.cd.want, .string C.op.cd.col, .int .i64 C.op.cd.v.kind, .slice ca cn cc, .float .f64 C.op.cd.v.n, .slice la ln lc, .int .i64 C.op.most, .string C.lo, .string C.hi, .int .i64 C.gen, .string C.at', .int .i64 C.to, .int .i64 C.act, .slice sa sn sc] 39)
  obtain ⟨w1, hw1⟩ : ∃ w1, w.alloc (.cells #[.int .i64 C.kind, .int .i64 C.op.kind, .string C.op.row, .string C.op.hi, .bool C.op.cd.has, .bool C.op.cd.want, .string C.op.cd.col, .int .i64 C.op.cd.v.kind, .slice ca cn cc, .float .f64 C.op.cd.v.n, .slice la ln lc, .int .i64 C.op.most, .string C.lo, .string C.hi, .int .i64 C.gen, .string C.at', .int .i64 C.to, .int .i64 C.act, .slice sa sn sc] 39) = w1 := ⟨_, rfl⟩
  have n1 : Moves [] w w1 := by rw [← hw1]; exact (Moves.refl _ _).alloc _
  rw [hw1] at a1
  have hrt := crightM_w w1 C ca cn cc la ln lc sa sn sc
  obtain ⟨y0, _⟩ := c19 a1
  have HA : Hid _ := a1
  have HM : Hid _ := n1
  clear a1 n1
  have hk : C.kind = 7 ∨ C.kind = 8 ∨ C.kind = 9 ∨ C.kind = 10 ∨ (C.kind ≠ 7 ∧ C.kind ≠ 8 ∧ C.kind ≠ 9 ∧ C.kind ≠ 10) := by omega
  rcases hk with hk | hk | hk | hk | hk
  · have k7 : (C.kind == 7) = true := beq_iff_eq.2 hk
    obtain ⟨b, hb⟩ : ∃ b, rCmd C = b := ⟨_, rfl⟩
    replace hrt := hrt (by omega)
    rw [hb] at hrt
    have HV : Hid (mWhy C = if b = true then 0 else 1) := by
      unfold mWhy Hid
      rw [if_pos (by omega), hb]
    clear hb hk
    go_enter Tryz.func35, Tryz.ntmps35
    go_wp2_with (with_reducible refine stopLoad _ rfl ?_)
    unfold Hid
    try rw [hw1]
    refine wpList_loadCmd rfl _ rfl w.heap.size rfl _ HA.out rfl ?_
    go_wp2_with fail
    refine hrt.mono ?_
    rintro _ w2 ⟨rfl, m2⟩
    cases b
    · go_wp2_with fail
      go_ret
      exact ⟨by rw [HV.out]; rfl, HM.out.then m2⟩
    · go_wp2_with fail
      go_ret
      exact ⟨by rw [HV.out]; rfl, HM.out.then m2⟩
  · have k7 : (C.kind == 7) = false := beq_eq_false_iff_ne.2 (by omega)
    have k8 : (C.kind == 8) = true := beq_iff_eq.2 hk
    obtain ⟨b, hb⟩ : ∃ b, rCmd C = b := ⟨_, rfl⟩
    replace hrt := hrt (by omega)
    rw [hb] at hrt
    have HV : Hid (mWhy C = if b = true then 0 else 1) := by
      unfold mWhy Hid
      rw [if_pos (by omega), hb]
    clear hb hk
    go_enter Tryz.func35, Tryz.ntmps35
    go_wp2_with (with_reducible refine stopLoad _ rfl ?_)
    unfold Hid
    try rw [hw1]
    refine wpList_loadCmd rfl _ rfl w.heap.size rfl _ HA.out rfl ?_
    go_wp2_with fail
    refine hrt.mono ?_
    rintro _ w2 ⟨rfl, m2⟩
    cases b
    · go_wp2_with fail
      go_ret
      exact ⟨by rw [HV.out]; rfl, HM.out.then m2⟩
    · go_wp2_with fail
      go_ret
      exact ⟨by rw [HV.out]; rfl, HM.out.then m2⟩
  · have k7 : (C.kind == 7) = false := beq_eq_false_iff_ne.2 (by omega)
    have k8 : (C.kind == 8) = false := beq_eq_false_iff_ne.2 (by omega)
    have k9 : (C.kind == 9) = true := beq_iff_eq.2 hk
    obtain ⟨b, hb⟩ : ∃ b, rCmd C = b := ⟨_, rfl⟩
    replace hrt := hrt (by omega)
    rw [hb] at hrt
    have HV : Hid (mWhy C = if b = true then 0 else 1) := by
      unfold mWhy Hid
      rw [if_pos (by omega), hb]
    clear hb hk
    go_enter Tryz.func35, Tryz.ntmps35
    go_wp2_with (with_reducible refine stopLoad _ rfl ?_)
    unfold Hid
    try rw [hw1]
    refine wpList_loadCmd rfl _ rfl w.heap.size rfl _ HA.out rfl ?_
    go_wp2_with fail
    refine hrt.mono ?_
    rintro _ w2 ⟨rfl, m2⟩
    cases b
    · go_wp2_with fail
      go_ret
      exact ⟨by rw [HV.out]; rfl, HM.out.then m2⟩
    · go_wp2_with fail
      go_ret
      exact ⟨by rw [HV.out]; rfl, HM.out.then m2⟩
  · have k7 : (C.kind == 7) = false := beq_eq_false_iff_ne.2 (by omega)
    have k8 : (C.kind == 8) = false := beq_eq_false_iff_ne.2 (by omega)
    have k9 : (C.kind == 9) = false := beq_eq_false_iff_ne.2 (by omega)
    have k10 : (C.kind == 10) = true := beq_iff_eq.2 hk
    obtain ⟨b, hb⟩ : ∃ b, rCmd C = b := ⟨_, rfl⟩
    replace hrt := hrt (by omega)
    rw [hb] at hrt
    have HV : Hid (mWhy C = if b = true then 0 else 1) := by
      unfold mWhy Hid
      rw [if_pos (by omega), hb]
    clear hb hk
    go_enter Tryz.func35, Tryz.ntmps35
    go_wp2_with (with_reducible refine stopLoad _ rfl ?_)
    unfold Hid
    try rw [hw1]
    refine wpList_loadCmd rfl _ rfl w.heap.size rfl _ HA.out rfl ?_
    go_wp2_with fail
    refine hrt.mono ?_
    rintro _ w2 ⟨rfl, m2⟩
    cases b
    · go_wp2_with fail
      go_ret
      exact ⟨by rw [HV.out]; rfl, HM.out.then m2⟩
    · go_wp2_with fail
      go_ret
      exact ⟨by rw [HV.out]; rfl, HM.out.then m2⟩
  · have k7 : (C.kind == 7) = false := beq_eq_false_iff_ne.2 (by omega)
    have k8 : (C.kind == 8) = false := beq_eq_false_iff_ne.2 (by omega)
    have k9 : (C.kind == 9) = false := beq_eq_false_iff_ne.2 (by omega)
    have k10 : (C.kind == 10) = false := beq_eq_false_iff_ne.2 (by omega)
    have HV : Hid (mWhy C = 24) := by
      unfold mWhy Hid
      rw [if_neg (by omega)]
    clear hk hrt
    go_enter Tryz.func35, Tryz.ntmps35
    go_wp2_with fail
    go_ret
    exact ⟨by rw [HV.out]; rfl, HM.out⟩
set_option maxRecDepth 100000 in
set_option maxHeartbeats 16000000 in
theorem mdoNo_w (W w : World) (p q c : Nat) (a : Option Nat) (S : Pms) (h : MrIs W w p q c a S) (cl sq : Int) (C : Pcmd) (ca : Option Addr) (cn cc : Nat) (la : Option Addr) (ln lc : Nat) (sa : Option Addr) (sn sc : Nat) (hC : CmdW w #[.int .i64 C.kind, .int .i64 C.op.kind, .string C.op.row, .string C.op.hi, .bool C.op.cd.has, .bool C.op.cd.want, .string C.op.cd.col, .int .i64 C.op.cd.v.kind, .slice ca cn cc, .float .f64 C.op.cd.v.n, .slice la ln lc, .int .i64 C.op.most, .string C.lo, .string C.hi, .int .i64 C.gen, .string C.at', .int .i64 C.to, .int .i64 C.act, .slice sa sn sc].toList C) (hk : mWhy C ≠ 0) :
    Calls Tryz.prog 10 #[.pointer (some ⟨p, 0, none⟩), .int .i64 cl, .int .i64 sq, .agg #[.int .i64 C.kind, .int .i64 C.op.kind, .string C.op.row, .string C.op.hi, .bool C.op.cd.has, .bool C.op.cd.want, .string C.op.cd.col, .int .i64 C.op.cd.v.kind, .slice ca cn cc, .float .f64 C.op.cd.v.n, .slice la ln lc, .int .i64 C.op.most, .string C.lo, .string C.hi, .int .i64 C.gen, .string C.at', .int .i64 C.to, .int .i64 C.act, .slice sa sn sc]] w fun e w' => e = .returned (.agg (ansV (pTold (mWhy C)))) ∧ MrG W w p q c a S w' a S := by
  have a1 := heap_alloc_new w (.cells #[.int .i64 C.kind, .int .i64 C.op.kind, .string C.op.row, .string C.op.hi, .bool C.op.cd.has, .bool C.op.cd.want, .string C.op.cd.col, .int .i64 C.op.cd.v.kind, .slice ca cn cc, .float .f64 C.op.cd.v.n, .slice la ln lc, .int .i64 C.op.most, .string C.lo, .string C.hi, .int .i64 C.gen, .string C.at', .int .i64 C.to, .int .i64 C.act, .slice sa sn sc] 39)
  obtain ⟨w2, hw2⟩ : ∃ w2, w.alloc (.cells #[.int .i64 C.kind, .int .i64 C.op.kind, .string C.op.row, .string C.op.hi, .bool C.op.cd.has, .bool C.op.cd.want, .string C.op.cd.col, .int .i64 C.op.cd.v.kind, .slice ca cn cc, .float .f64 C.op.cd.v.n, .slice la ln lc, .int .i64 C.op.most, .string C.lo, .string C.hi, .int .i64 C.gen, .string C.at', .int .i64 C.to, .int .i64 C.act, .slice sa sn sc] 39) = w2 := ⟨_, rfl⟩
  have s2 : w2.heap.size = w.heap.size + 1 := by rw [← hw2]; simp
  have n2 : Moves [] w w2 := by rw [← hw2]; exact (Moves.refl _ _).alloc _
  rw [hw2] at a1
  have a2 := heap_alloc_new w2 (.cells #[.int .i64 0, .slice none 0 0, .string ⟨#[]⟩, .string ⟨#[]⟩, .int .i64 0, .int .i64 0, .int .i64 0, .int .i64 0, .int .i64 0, .string ⟨#[]⟩, .slice none 0 0] 48)
  obtain ⟨w3, hw3⟩ : ∃ w3, w2.alloc (.cells #[.int .i64 0, .slice none 0 0, .string ⟨#[]⟩, .string ⟨#[]⟩, .int .i64 0, .int .i64 0, .int .i64 0, .int .i64 0, .int .i64 0, .string ⟨#[]⟩, .slice none 0 0] 48) = w3 := ⟨_, rfl⟩
  have n3 : Moves [] w2 w3 := by rw [← hw3]; exact (Moves.refl _ _).alloc _
  rw [hw3] at a2
  have m03 := n2.then n3
  have b1 := n3.at a1 (by simp)
  rw [s2] at a2
  obtain ⟨B1, hB1⟩ : ∃ B1, w.heap.size = B1 := ⟨_, rfl⟩
  rw [hB1] at b1 a2
  have hI3 := h.moves0 m03
  have hno := mnone_w W w3 p q c a S hI3
  have hmd := mmayAny_w w3 C ca cn cc la ln lc sa sn sc (hC.moves m03)
  have HI : Hid (MrIs W w p q c a S) := h
  have HI3 : Hid (MrIs W w3 p q c a S) := hI3
  have HB1 : Hid _ := b1
  have HM : Hid (Moves [] w w3) := m03
  have HSZ : Hid (w.heap.size = B1) := hB1
  have HSZ3 : Hid (B1 + 1 < w3.heap.size) := lt_of_block a2
  have HA2 : Hid _ := a2
  obtain ⟨v, hv⟩ : ∃ v, mWhy C = v := ⟨_, rfl⟩
  rw [hv] at hk hmd ⊢
  have hv0 : (v == 0) = false := beq_eq_false_iff_ne.2 hk
  clear a1 n2 n3 m03 b1 h hC hk hI3 a2 hv
  go_enter Tryz.func10, Tryz.ntmps10
  go_wp2_with fail
  try rw [hw2]
  try rw [hw3]
  try rw [s2]
  try rw [hB1]
  refine hno.mono ?_
  rintro _ _ ⟨rfl, rfl⟩
  go_wp2_with (with_reducible refine stopLoad _ rfl ?_)
  unfold Hid
  refine wpList_loadCmd rfl _ rfl B1 rfl _ HB1.out rfl ?_
  go_wp2_with fail
  refine hmd.mono ?_
  rintro _ w4 ⟨rfl, m4⟩
  have HM4 : Hid (Moves [] w3 w4) := m4
  have HA4 : Hid _ := m4.at HA2.out (by simp)
  clear hmd hno m4 hw2 hw3 s2 hB1
  go_wp2_with fail
  refine (mtold_w _ _).mono ?_
  rintro _ w6 ⟨rfl, m6⟩
  have b6 := m6.at HA4.out (by simp)
  go_wp2_with (with_reducible refine stopA _ _ rfl ?_)
  unfold Hid
  refine wpList_storeAns rfl _ _ rfl (B1 + 1) (ansV (pTold v)).toList rfl rfl rfl (ansV_one _) b6 rfl ?_
  intro w99 h99 m99
  go_wp2_with fail
  refine bodyPost_ret (ret_ansL rfl _ _ _ _ rfl rfl h99) rfl ?_
  exact ⟨rfl, MrG.boxed HI.out HM.out (by have := HSZ.out; omega) HSZ3.out (MrG.same HI3.out (HM4.out.then m6)) m99⟩
set_option maxRecDepth 100000 in
set_option maxHeartbeats 16000000 in
theorem mdoNil_w (W w : World) (p q c : Nat) (a : Option Nat) (S : Pms) (h : MrIs W w p q c a S) (cl sq : Int) (C : Pcmd) (ca : Option Addr) (cn cc : Nat) (la : Option Addr) (ln lc : Nat) (sa : Option Addr) (sn sc : Nat) (hC : CmdW w #[.int .i64 C.kind, .int .i64 C.op.kind, .string C.op.row, .string C.op.hi, .bool C.op.cd.has, .bool C.op.cd.want, .string C.op.cd.col, .int .i64 C.op.cd.v.kind, .slice ca cn cc, .float .f64 C.op.cd.v.n, .slice la ln lc, .int .i64 C.op.most, .string C.lo, .string C.hi, .int .i64 C.gen, .string C.at', .int .i64 C.to, .int .i64 C.act, .slice sa sn sc].toList C) (hk : C.kind = 10) (hr : rCmd C = true) :
    Calls Tryz.prog 10 #[.pointer (some ⟨p, 0, none⟩), .int .i64 cl, .int .i64 sq, .agg #[.int .i64 C.kind, .int .i64 C.op.kind, .string C.op.row, .string C.op.hi, .bool C.op.cd.has, .bool C.op.cd.want, .string C.op.cd.col, .int .i64 C.op.cd.v.kind, .slice ca cn cc, .float .f64 C.op.cd.v.n, .slice la ln lc, .int .i64 C.op.most, .string C.lo, .string C.hi, .int .i64 C.gen, .string C.at', .int .i64 C.to, .int .i64 C.act, .slice sa sn sc]] w fun e w' => e = .returned (.agg (ansV (pTold 0))) ∧ MrG W w p q c a S w' a S := by
  have a1 := heap_alloc_new w (.cells #[.int .i64 C.kind, .int .i64 C.op.kind, .string C.op.row, .string C.op.hi, .bool C.op.cd.has, .bool C.op.cd.want, .string C.op.cd.col, .int .i64 C.op.cd.v.kind, .slice ca cn cc, .float .f64 C.op.cd.v.n, .slice la ln lc, .int .i64 C.op.most, .string C.lo, .string C.hi, .int .i64 C.gen, .string C.at', .int .i64 C.to, .int .i64 C.act, .slice sa sn sc] 39)
  obtain ⟨w2, hw2⟩ : ∃ w2, w.alloc (.cells #[.int .i64 C.kind, .int .i64 C.op.kind, .string C.op.row, .string C.op.hi, .bool C.op.cd.has, .bool C.op.cd.want, .string C.op.cd.col, .int .i64 C.op.cd.v.kind, .slice ca cn cc, .float .f64 C.op.cd.v.n, .slice la ln lc, .int .i64 C.op.most, .string C.lo, .string C.hi, .int .i64 C.gen, .string C.at', .int .i64 C.to, .int .i64 C.act, .slice sa sn sc] 39) = w2 := ⟨_, rfl⟩
  have s2 : w2.heap.size = w.heap.size + 1 := by rw [← hw2]; simp
  have n2 : Moves [] w w2 := by rw [← hw2]; exact (Moves.refl _ _).alloc _
  rw [hw2] at a1
  have a2 := heap_alloc_new w2 (.cells #[.int .i64 0, .slice none 0 0, .string ⟨#[]⟩, .string ⟨#[]⟩, .int .i64 0, .int .i64 0, .int .i64 0, .int .i64 0, .int .i64 0, .string ⟨#[]⟩, .slice none 0 0] 48)
  obtain ⟨w3, hw3⟩ : ∃ w3, w2.alloc (.cells #[.int .i64 0, .slice none 0 0, .string ⟨#[]⟩, .string ⟨#[]⟩, .int .i64 0, .int .i64 0, .int .i64 0, .int .i64 0, .int .i64 0, .string ⟨#[]⟩, .slice none 0 0] 48) = w3 := ⟨_, rfl⟩
  have n3 : Moves [] w2 w3 := by rw [← hw3]; exact (Moves.refl _ _).alloc _
  rw [hw3] at a2
  have m03 := n2.then n3
  have b1 := n3.at a1 (by simp)
  rw [s2] at a2
  obtain ⟨B1, hB1⟩ : ∃ B1, w.heap.size = B1 := ⟨_, rfl⟩
  rw [hB1] at b1 a2
  have hI3 := h.moves0 m03
  have hno := mnone_w W w3 p q c a S hI3
  have hmd := mmayAny_w w3 C ca cn cc la ln lc sa sn sc (hC.moves m03)
  rw [show mWhy C = 0 by unfold mWhy; rw [if_pos (by omega), if_pos hr]] at hmd
  have HI : Hid (MrIs W w p q c a S) := h
  have HI3 : Hid (MrIs W w3 p q c a S) := hI3
  have HB1 : Hid _ := b1
  have HM : Hid (Moves [] w w3) := m03
  obtain ⟨y0, _⟩ := c19 b1
  rw [hk] at y0
  have HSZ : Hid (w.heap.size = B1) := hB1
  have HSZ3 : Hid (B1 + 1 < w3.heap.size) := lt_of_block a2
  have HA2 : Hid _ := a2
  clear a1 n2 n3 m03 b1 h hC hk hr hI3 a2
  go_enter Tryz.func10, Tryz.ntmps10
  go_wp2_with fail
  try rw [hw2]
  try rw [hw3]
  try rw [s2]
  try rw [hB1]
  refine hno.mono ?_
  rintro _ _ ⟨rfl, rfl⟩
  go_wp2_with (with_reducible refine stopLoad _ rfl ?_)
  unfold Hid
  refine wpList_loadCmd rfl _ rfl B1 rfl _ HB1.out rfl ?_
  go_wp2_with fail
  refine hmd.mono ?_
  rintro _ w4 ⟨rfl, m4⟩
  have y0' := m4.cell y0
  have HM4 : Hid (Moves [] w3 w4) := m4
  have HA4 : Hid _ := m4.at HA2.out (by simp)
  clear y0 hmd hno m4 hw2 hw3 s2 hB1
  go_wp2_with fail
  refine (mtold_w _ _).mono ?_
  rintro _ w6 ⟨rfl, m6⟩
  have b6 := m6.at HA4.out (by simp)
  go_wp2_with (with_reducible refine stopA _ _ rfl ?_)
  unfold Hid
  refine wpList_storeAns rfl _ _ rfl (B1 + 1) (ansV (pTold 0)).toList rfl rfl rfl (ansV_one _) b6 rfl ?_
  intro w99 h99 m99
  go_wp2_with fail
  refine bodyPost_ret (ret_ansL rfl _ _ _ _ rfl rfl h99) rfl ?_
  exact ⟨rfl, MrG.boxed HI.out HM.out (by have := HSZ.out; omega) HSZ3.out (MrG.same HI3.out (HM4.out.then m6)) m99⟩
end Go.Proofs.YtilbbnmhnacnlaaGreat
/-
  Package master: locate, and Do of it.
-/
namespace Go.Proofs.YtilbbnmhnacnlaaGreat
open Go.RowKit

def pLoc (t : Ptb) : Pans := ⟨0, [], t.lo, t.hi, t.g, t.n, 0, 0, 0, ⟨#[]⟩, []⟩
set_option maxRecDepth 100000 in
set_option maxHeartbeats 16000000 in
theorem mlocate_w (W w : World) (p q c : Nat) (a : Option Nat) (S : Pms) (h : MrIs W w p q c a S) (ok : OkM S) (s : ByteArray) :
    Calls Tryz.prog 36 #[.pointer (some ⟨p, 0, none⟩), .string s] w fun e w' => e = .returned (.agg (ansV (pLoc (mTb S.xs s)))) ∧ Moves [] w w' := by
  have a1 := heap_alloc_new w (.cells #[.int .i64 0, .slice none 0 0, .string ⟨#[]⟩, .string ⟨#[]⟩, .int .i64 0, .int .i64 0, .int .i64 0, .int .i64 0, .int .i64 0, .string ⟨#[]⟩, .slice none 0 0] 48)
  obtain ⟨w1, hw1⟩ : ∃ w1, w.alloc (.cells #[.int .i64 0, .slice none 0 0, .string ⟨#[]⟩, .string ⟨#[]⟩, .int .i64 0, .int .i64 0, .int .i64 0, .int .i64 0, .int .i64 0, .string ⟨#[]⟩, .slice none 0 0] 48) = w1 := ⟨_, rfl⟩
  have s1 : w1.heap.size = w.heap.size + 1 := by rw [← hw1]; simp
  have n1 : Moves [] w w1 := by rw [← hw1]; exact (Moves.refl _ _).alloc _
  rw [hw1] at a1
  obtain ⟨B1, hB1⟩ : ∃ B1, w.heap.size = B1 := ⟨_, rfl⟩
  rw [hB1] at a1
  have HSZ : Hid (w.heap.size = B1) := hB1
  have hfind := fun w4 (m : Moves [] w1 w4) => mtFind_w w4 q S.xs (h.moves0 (n1.then m)).tab.is ok.cov (by have := ok.few; omega) s (mIx S.xs s) (mIx_last ok.cov s) (mTb S.xs s) (mTb_get ok.cov s)
  have hbx := n1.at h.box (by simp)
  obtain ⟨_, k1, _⟩ := c15 hbx
  have HM : Hid (Moves [] w w1) := n1
  obtain ⟨t, ht⟩ : ∃ t, mTb S.xs s = t := ⟨_, rfl⟩
  rw [ht] at hfind ⊢
  clear n1 h hbx ok ht
  go_enter Tryz.func36, Tryz.ntmps36
  go_wp2_with fail
  try rw [hw1]
  try rw [s1]
  try rw [hB1]
  clear hw1 s1 hB1
  refine (hfind w1 (Moves.refl _ _)).mono ?_
  rintro _ w4 ⟨rfl, m4⟩
  have a3 := heap_alloc_new w4 (.cells #[.string ⟨#[]⟩, .string ⟨#[]⟩, .int .i64 0, .int .i64 0] 54)
  obtain ⟨w5, hw5⟩ : ∃ w5, w4.alloc (.cells #[.string ⟨#[]⟩, .string ⟨#[]⟩, .int .i64 0, .int .i64 0] 54) = w5 := ⟨_, rfl⟩
  have n5 : Moves [] w4 w5 := by rw [← hw5]; exact (Moves.refl _ _).alloc _
  rw [hw5] at a3
  have hl4 : B1 < w4.heap.size := by have := m4.size; have := lt_of_block a1; omega
  obtain ⟨B2, hB2⟩ : ∃ B2, w4.heap.size = B2 := ⟨_, rfl⟩
  rw [hB2] at a3 hl4
  obtain ⟨_, _, _, _, f0, f1, f2, f3⟩ := four_cells a3
  obtain ⟨ti, mS0⟩ := four_info a3 (.string t.lo) (.string t.hi) (.int .i64 t.g) (.int .i64 t.n)
  obtain ⟨w6, hw6⟩ : ∃ w6, (((w5.setCell ⟨B2, 0, none⟩ (.string t.lo)).setCell ⟨B2, 1, none⟩ (.string t.hi)).setCell ⟨B2, 2, none⟩ (.int .i64 t.g)).setCell ⟨B2, 3, none⟩ (.int .i64 t.n) = w6 := ⟨_, rfl⟩
  rw [hw6] at ti mS0
  have HM6 : Hid (Moves [] w w6) := HM.out.then ((m4.then n5).trans mS0 (fun x hx => .inr (by have := m4.size; simp at hx; omega)))
  have a6 := mS0.at ((m4.then n5).at a1 (by simp)) (by simp; omega)
  obtain ⟨t0, t1, t2, t3, g0, g1, g2, g3⟩ := four_cells ti
  obtain ⟨z0, z1, z2, z3, z4, z5, z6, z7, z8, z9, z10⟩ := eleven_cells a6
  have zfz := eleven_fz a6
  clear g0 g1 g2 g3 k1 a1 ti a3 n5 mS0 m4 hfind
  go_wp2_with fail
  try rw [hw5]
  try rw [hB2]
  go_wp2_with fail
  try rw [hw6]
  go_wp2_with fail
  have so := stored11 a6 (.int .i64 (pLoc t).code) (.slice none 0 0) (.string (pLoc t).lo) (.string (pLoc t).hi) (.int .i64 (pLoc t).grp) (.int .i64 (pLoc t).gen) (.int .i64 (pLoc t).old) (.int .i64 (pLoc t).to) (.int .i64 (pLoc t).act) (.string (pLoc t).at') (.slice none 0 0)
  refine bodyPost_ret (ret_ans rfl _ _ _ _ _ _ _ _ _ _ _ _ _ _ rfl so.1) rfl ⟨rfl, HM6.out.trans so.2 (fun x hx => .inr (by have := HSZ.out; simp at hx; omega))⟩
set_option maxRecDepth 100000 in
set_option maxHeartbeats 16000000 in
theorem mdoLoc_w (W w : World) (p q c : Nat) (a : Option Nat) (S : Pms) (h : MrIs W w p q c a S) (ok : OkM S) (cl sq : Int) (C : Pcmd) (ca : Option Addr) (cn cc : Nat) (la : Option Addr) (ln lc : Nat) (sa : Option Addr) (sn sc : Nat) (hC : CmdW w #[.int .i64 C.kind, .int .i64 C.op.kind, .string C.op.row, .string C.op.hi, .bool C.op.cd.has, .bool C.op.cd.want, .string C.op.cd.col, .int .i64 C.op.cd.v.kind, .slice ca cn cc, .float .f64 C.op.cd.v.n, .slice la ln lc, .int .i64 C.op.most, .string C.lo, .string C.hi, .int .i64 C.gen, .string C.at', .int .i64 C.to, .int .i64 C.act, .slice sa sn sc].toList C) (hk : C.kind = 7) (hr : rCmd C = true) :
    Calls Tryz.prog 10 #[.pointer (some ⟨p, 0, none⟩), .int .i64 cl, .int .i64 sq, .agg #[.int .i64 C.kind, .int .i64 C.op.kind, .string C.op.row, .string C.op.hi, .bool C.op.cd.has, .bool C.op.cd.want, .string C.op.cd.col, .int .i64 C.op.cd.v.kind, .slice ca cn cc, .float .f64 C.op.cd.v.n, .slice la ln lc, .int .i64 C.op.most, .string C.lo, .string C.hi, .int .i64 C.gen, .string C.at', .int .i64 C.to, .int .i64 C.act, .slice sa sn sc]] w fun e w' => e = .returned (.agg (ansV (pLoc (mTb S.xs C.at')))) ∧ MrG W w p q c a S w' a S := by
  have a1 := heap_alloc_new w (.cells #[.int .i64 C.kind, .int .i64 C.op.kind, .string C.op.row, .string C.op.hi, .bool C.op.cd.has, .bool C.op.cd.want, .string C.op.cd.col, .int .i64 C.op.cd.v.kind, .slice ca cn cc, .float .f64 C.op.cd.v.n, .slice la ln lc, .int .i64 C.op.most, .string C.lo, .string C.hi, .int .i64 C.gen, .string C.at', .int .i64 C.to, .int .i64 C.act, .slice sa sn sc] 39)
  obtain ⟨w2, hw2⟩ : ∃ w2, w.alloc (.cells #[.int .i64 C.kind, .int .i64 C.op.kind, .string C.op.row, .string C.op.hi, .bool C.op.cd.has, .bool C.op.cd.want, .string C.op.cd.col, .int .i64 C.op.cd.v.kind, .slice ca cn cc, .float .f64 C.op.cd.v.n, .slice la ln lc, .int .i64 C.op.most, .string C.lo, .string C.hi, .int .i64 C.gen, .string C.at', .int .i64 C.to, .int .i64 C.act, .slice sa sn sc] 39) = w2 := ⟨_, rfl⟩
  have s2 : w2.heap.size = w.heap.size + 1 := by rw [← hw2]; simp
  have n2 : Moves [] w w2 := by rw [← hw2]; exact (Moves.refl _ _).alloc _
  rw [hw2] at a1
  have a2 := heap_alloc_new w2 (.cells #[.int .i64 0, .slice none 0 0, .string ⟨#[]⟩, .string ⟨#[]⟩, .int .i64 0, .int .i64 0, .int .i64 0, .int .i64 0, .int .i64 0, .string ⟨#[]⟩, .slice none 0 0] 48)
  obtain ⟨w3, hw3⟩ : ∃ w3, w2.alloc (.cells #[.int .i64 0, .slice none 0 0, .string ⟨#[]⟩, .string ⟨#[]⟩, .int .i64 0, .int .i64 0, .int .i64 0, .int .i64 0, .int .i64 0, .string ⟨#[]⟩, .slice none 0 0] 48) = w3 := ⟨_, rfl⟩
  have n3 : Moves [] w2 w3 := by rw [← hw3]; exact (Moves.refl _ _).alloc _
  rw [hw3] at a2
  have m03 := n2.then n3
  have b1 := n3.at a1 (by simp)
  rw [s2] at a2
  obtain ⟨B1, hB1⟩ : ∃ B1, w.heap.size = B1 := ⟨_, rfl⟩
  rw [hB1] at b1 a2
  have hI3 := h.moves0 m03
  have hno := mnone_w W w3 p q c a S hI3
  have hmd := mmayAny_w w3 C ca cn cc la ln lc sa sn sc (hC.moves m03)
  rw [show mWhy C = 0 by unfold mWhy; rw [if_pos (by omega), if_pos hr]] at hmd
  have hpl : ∀ w4, Moves [] w3 w4 → _ := fun w4 (m : Moves [] w3 w4) => mlocate_w W w4 p q c a S (hI3.moves0 m) ok C.at'
  have HI : Hid (MrIs W w p q c a S) := h
  have HI3 : Hid (MrIs W w3 p q c a S) := hI3
  have HB1 : Hid _ := b1
  have HM : Hid (Moves [] w w3) := m03
  obtain ⟨y0, _, _, _, _, _, _, _, _, _, _, _, _, _, _, y15, _, _, _⟩ := c19 b1
  rw [hk] at y0
  have HSZ : Hid (w.heap.size = B1) := hB1
  have HSZ3 : Hid (B1 + 1 < w3.heap.size) := lt_of_block a2
  have HA2 : Hid _ := a2
  obtain ⟨t, ht⟩ : ∃ t, mTb S.xs C.at' = t := ⟨_, rfl⟩
  rw [ht]
  simp only [ht] at hpl
  clear a1 n2 n3 m03 b1 h hC hk hr hI3 a2 ok ht
  go_enter Tryz.func10, Tryz.ntmps10
  go_wp2_with fail
  try rw [hw2]
  try rw [hw3]
  try rw [s2]
  try rw [hB1]
  refine hno.mono ?_
  rintro _ _ ⟨rfl, rfl⟩
  go_wp2_with (with_reducible refine stopLoad _ rfl ?_)
  unfold Hid
  refine wpList_loadCmd rfl _ rfl B1 rfl _ HB1.out rfl ?_
  go_wp2_with fail
  refine hmd.mono ?_
  rintro _ w4 ⟨rfl, m4⟩
  have y0' := m4.cell y0
  have y15' := m4.cell y15
  have hp4 := hpl w4 m4
  have HM4 : Hid (Moves [] w3 w4) := m4
  have HA4 : Hid _ := m4.at HA2.out (by simp)
  clear y0 y15 hmd hno hpl m4 hw2 hw3 s2 hB1
  go_wp2_with fail
  refine hp4.mono ?_
  rintro _ w6 ⟨rfl, m6⟩
  have b6 := m6.at HA4.out (by simp)
  go_wp2_with (with_reducible refine stopA _ _ rfl ?_)
  unfold Hid
  refine wpList_storeAns rfl _ _ rfl (B1 + 1) (ansV (pLoc t)).toList rfl rfl rfl (ansV_one _) b6 rfl ?_
  intro w99 h99 m99
  go_wp2_with fail
  refine bodyPost_ret (ret_ansL rfl _ _ _ _ rfl rfl h99) rfl ?_
  exact ⟨rfl, MrG.boxed HI.out HM.out (by have := HSZ.out; omega) HSZ3.out (MrG.same HI3.out (HM4.out.then m6)) m99⟩
end Go.Proofs.YtilbbnmhnacnlaaGreat
/-
  Package master: Do of any command.
-/
namespace Go.Proofs.YtilbbnmhnacnlaaGreat
open Go.RowKit

theorem mPub_told (S : Pms) (g to : Int) : pTold (mPub S g to).1.code = (mPub S g to).1 := by
  unfold mPub
  split
  · rfl
  · split <;> rfl
theorem rCmd_plan {C : Pcmd} (hk : C.kind = 8) (hr : rCmd C = true) : 0 ≤ C.act ∧ C.act ≤ 3 ∧ (C.act ≠ 0 → C.at'.size ≤ 16) := by
  have e : rCmd C = rPlan C := by unfold rCmd; simp [hk]
  rw [e] at hr
  simp only [rPlan, rPlace, wi, Bool.or_eq_true, Bool.and_eq_true, decide_eq_true_eq] at hr
  omega
theorem rCmd_pub {C : Pcmd} (hk : C.kind = 9) (hr : rCmd C = true) : 1 ≤ C.gen := by
  have e : rCmd C = rPub C := by unfold rCmd; simp [hk]
  rw [e] at hr
  simp only [rPub, wi, Bool.or_eq_true, Bool.and_eq_true, decide_eq_true_eq] at hr
  omega
theorem mdoAny_w (W w : World) (p q c : Nat) (a : Option Nat) (S : Pms) (h : MrIs W w p q c a S) (ok : OkM S) (hW : W.heap.size ≤ w.heap.size) (cl sq : Int) (C : Pcmd) (ca : Option Addr) (cn cc : Nat) (la : Option Addr) (ln lc : Nat) (sa : Option Addr) (sn sc : Nat) (hC : CmdW w #[.int .i64 C.kind, .int .i64 C.op.kind, .string C.op.row, .string C.op.hi, .bool C.op.cd.has, .bool C.op.cd.want, .string C.op.cd.col, .int .i64 C.op.cd.v.kind, .slice ca cn cc, .float .f64 C.op.cd.v.n, .slice la ln lc, .int .i64 C.op.most, .string C.lo, .string C.hi, .int .i64 C.gen, .string C.at', .int .i64 C.to, .int .i64 C.act, .slice sa sn sc].toList C) :
    Calls Tryz.prog 10 #[.pointer (some ⟨p, 0, none⟩), .int .i64 cl, .int .i64 sq, .agg #[.int .i64 C.kind, .int .i64 C.op.kind, .string C.op.row, .string C.op.hi, .bool C.op.cd.has, .bool C.op.cd.want, .string C.op.cd.col, .int .i64 C.op.cd.v.kind, .slice ca cn cc, .float .f64 C.op.cd.v.n, .slice la ln lc, .int .i64 C.op.most, .string C.lo, .string C.hi, .int .i64 C.gen, .string C.at', .int .i64 C.to, .int .i64 C.act, .slice sa sn sc]] w fun e w' => ∃ cs a', e = .returned (.agg cs.toArray) ∧ AnsC w' cs (mDo S cl sq C).1 ∧ MrG W w p q c a S w' a' (mDo S cl sq C).2 := by
  by_cases hk : C.kind = 7 ∨ C.kind = 8 ∨ C.kind = 9 ∨ C.kind = 10
  · by_cases hr : rCmd C = false
    · have e : mWhy C = 1 := by unfold mWhy; rw [if_pos hk, if_neg (by rw [hr]; decide)]
      have e2 : mDo S cl sq C = (pTold 1, S) := by unfold mDo; rw [if_pos hk, if_pos hr]
      rw [e2]
      refine (mdoNo_w W w p q c a S h cl sq C ca cn cc la ln lc sa sn sc hC (by rw [e]; decide)).mono ?_
      rintro _ w' ⟨rfl, hG⟩
      rw [e]
      exact ⟨(ansV (pTold 1)).toList, a, rfl, ansC_bare ⟨rfl, rfl⟩, hG⟩
    · have hr' : rCmd C = true := by simpa using hr
      rcases hk with hk | hk | hk | hk
      · have e2 : mDo S cl sq C = (pLoc (mTb S.xs C.at'), S) := by unfold mDo; rw [if_pos (by omega), if_neg hr, if_pos hk]; rfl
        rw [e2]
        refine (mdoLoc_w W w p q c a S h ok cl sq C ca cn cc la ln lc sa sn sc hC hk hr').mono ?_
        rintro _ w' ⟨rfl, hG⟩
        exact ⟨(ansV (pLoc (mTb S.xs C.at'))).toList, a, rfl, ansC_bare ⟨rfl, rfl⟩, hG⟩
      · have e2 : mDo S cl sq C = mPlan S cl sq C.act C.at' C.to := by unfold mDo; rw [if_pos (by omega), if_neg hr, if_neg (by omega), if_pos hk]
        rw [e2]
        obtain ⟨h0, h3, hat⟩ := rCmd_plan hk hr'
        exact mdoPlanG_w W w p q c a S h ok hW cl sq C ca cn cc la ln lc sa sn sc hC hk hr' h0 h3 hat
      · have e2 : mDo S cl sq C = mPub S C.gen C.to := by unfold mDo; rw [if_pos (by omega), if_neg hr, if_neg (by omega), if_neg (by omega), if_pos hk]
        rw [e2]
        refine (mdoPub_w W w p q c a S h ok cl sq C ca cn cc la ln lc sa sn sc hC hk hr' (rCmd_pub hk hr')).mono ?_
        rintro _ w' ⟨rfl, hG⟩
        rw [mPub_told]
        refine ⟨(ansV (mPub S C.gen C.to).1).toList, a, rfl, ansC_bare ?_, hG⟩
        rw [← mPub_told]
        exact ⟨rfl, rfl⟩
      · have e2 : mDo S cl sq C = (pTold 0, S) := by unfold mDo; rw [if_pos (by omega), if_neg hr, if_neg (by omega), if_neg (by omega), if_neg (by omega)]
        rw [e2]
        refine (mdoNil_w W w p q c a S h cl sq C ca cn cc la ln lc sa sn sc hC hk hr').mono ?_
        rintro _ w' ⟨rfl, hG⟩
        exact ⟨(ansV (pTold 0)).toList, a, rfl, ansC_bare ⟨rfl, rfl⟩, hG⟩
  · have e : mWhy C = 24 := by unfold mWhy; rw [if_neg hk]
    have e2 : mDo S cl sq C = (pTold 24, S) := by unfold mDo; rw [if_neg hk]
    rw [e2]
    refine (mdoNo_w W w p q c a S h cl sq C ca cn cc la ln lc sa sn sc hC (by rw [e]; decide)).mono ?_
    rintro _ w' ⟨rfl, hG⟩
    rw [e]
    exact ⟨(ansV (pTold 24)).toList, a, rfl, ansC_bare ⟨rfl, rfl⟩, hG⟩
end Go.Proofs.YtilbbnmhnacnlaaGreat
