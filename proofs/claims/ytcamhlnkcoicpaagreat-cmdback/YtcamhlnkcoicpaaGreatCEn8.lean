/-
  cmd.Encode of any command.
-/
import Derived.Test.YtcamhlnkcoicpaaGreatCWm8
namespace Go.Proofs.YtcamhlnkcoicpaaGreat
open Go.RowKit

theorem encOp_len {o : Pop} (h : rOp o = true) : (encOp o).length ≤ 600 := by
  unfold rOp at h
  unfold encOp
  by_cases k1 : o.kind = 1
  · rw [if_pos k1] at h
    have := pname_size h
    rw [if_neg (by omega), if_neg (by omega)]
    simp only [List.length_append, List.length_singleton, List.length_nil, encX_len]
    omega
  · rw [if_neg k1] at h
    by_cases k2 : o.kind = 2
    · rw [if_pos k2] at h
      simp only [Bool.and_eq_true] at h
      obtain ⟨⟨h1, h2⟩, h3⟩ := h
      have q1 := pname_size h1
      have q2 := cdenc_len (has := o.cd.has) (want := o.cd.want) (col := o.cd.col) (v := o.cd.v) h2
      unfold rChs at h3
      rw [Bool.and_eq_true, wi_iff] at h3
      have q3 := cencs_len (l := o.l) (fun x hx => of_decide_eq_true (List.all_eq_true.1 h3.2 x hx))
      rw [if_pos k2]
      simp only [List.length_append, List.length_singleton, encX_len]
      omega
    · rw [if_neg k2] at h
      by_cases k3 : o.kind = 3
      · rw [if_pos k3, Bool.and_eq_true] at h
        have := spR_size h.1
        rw [if_neg k2, if_pos k3]
        simp only [List.length_append, List.length_singleton, encX_len]
        omega
      · rw [if_neg k3] at h
        simp at h
theorem encCmd_len {P : Pcmd} (h : rCmd P = true) : (encCmd P).length ≤ 1100000 := by
  unfold rCmd at h
  unfold encCmd encCmdK
  rw [List.length_append, List.length_singleton]
  by_cases k1 : P.kind = 1
  · rw [if_pos k1] at h ⊢
    have := encOp_len h
    omega
  · rw [if_neg k1] at h ⊢
    by_cases k2 : P.kind = 2 ∨ P.kind = 4
    · rw [if_pos k2] at h ⊢
      have := encTab_len h
      omega
    · rw [if_neg k2] at h ⊢
      by_cases k3 : P.kind = 3
      · rw [if_pos k3] at h ⊢
        rw [Bool.and_eq_true] at h
        have := encTab_len h.1
        have := of_decide_eq_true h.2
        simp only [List.length_append, be_length]
        omega
      · rw [if_neg k3] at h ⊢
        by_cases k5 : P.kind = 5 ∨ P.kind = 6
        · rw [if_pos k5] at h ⊢
          rw [Bool.and_eq_true] at h
          have := encTab_len h.1
          have := spC_size h.2
          simp only [List.length_append, encX_len]
          omega
        · rw [if_neg k5] at h ⊢
          by_cases k7 : P.kind = 7
          · rw [if_pos k7] at h ⊢
            have : P.at'.size ≤ 16 := of_decide_eq_true h
            rw [encX_len]
            omega
          · rw [if_neg k7] at h ⊢
            by_cases k8 : P.kind = 8
            · rw [if_pos k8] at h ⊢
              unfold rPlan at h
              unfold encPlan
              by_cases ha : P.act = 0
              · rw [if_pos ha]; simp
              · rw [if_neg ha]
                have h2 : (wi P.act 1 3 = true ∧ rPlace P.at' = true) ∧ wi P.to 0 255 = true := by simpa [ha] using h
                have : P.at'.size ≤ 16 := of_decide_eq_true h2.1.2
                simp only [List.length_append, List.length_singleton, encX_len]
                omega
            · rw [if_neg k8] at h ⊢
              by_cases k9 : P.kind = 9
              · rw [if_pos k9]
                simp only [List.length_append, List.length_singleton, be_length]
                omega
              · rw [if_neg k9]
                simp

set_option maxRecDepth 100000 in
set_option maxHeartbeats 8000000 in
theorem cencM_w (W w : World) (c : List Value) (P : Pcmd) (h : CmdC W c P) (m : Moves [] W w) (hpos : 0 < W.heap.size) :
    Calls Tryz.prog 16 #[.agg c.toArray] w fun e w' => ∃ v', e = .returned (.tuple #[v', .int .i64 (if rCmd P then 0 else 1)]) ∧ Own w' v' (if rCmd P then encCmd P else []) ∧ Moves [] w w' := by
  have HC : Hid (CmdC W c P) := h
  obtain ⟨ca, cn, cc, la, ln, lc, sa, sn, sc, gs, rfl, -⟩ := h
  have ma : Moves [] w (w.alloc (.cells #[.int .i64 P.kind, .int .i64 P.op.kind, .string P.op.row, .string P.op.hi, .bool P.op.cd.has, .bool P.op.cd.want, .string P.op.cd.col, .int .i64 P.op.cd.v.kind, .slice ca cn cc, .float .f64 P.op.cd.v.n, .slice la ln lc, .int .i64 P.op.most, .string P.lo, .string P.hi, .int .i64 P.gen, .string P.at', .int .i64 P.to, .int .i64 P.act, .slice sa sn sc] 36)) := (Moves.refl [] w).alloc _
  have hbox := heap_alloc_new w (.cells #[.int .i64 P.kind, .int .i64 P.op.kind, .string P.op.row, .string P.op.hi, .bool P.op.cd.has, .bool P.op.cd.want, .string P.op.cd.col, .int .i64 P.op.cd.v.kind, .slice ca cn cc, .float .f64 P.op.cd.v.n, .slice la ln lc, .int .i64 P.op.most, .string P.lo, .string P.hi, .int .i64 P.gen, .string P.at', .int .i64 P.to, .int .i64 P.act, .slice sa sn sc] 36)
  have hright := cright_w W _ _ P HC.out (m.then ma)
  have hM := m.then ma
  obtain ⟨B, hB⟩ : ∃ B, w.heap.size = B := ⟨_, rfl⟩
  rw [hB] at hbox
  obtain ⟨w1, hw1⟩ : ∃ w1, w.alloc (.cells #[.int .i64 P.kind, .int .i64 P.op.kind, .string P.op.row, .string P.op.hi, .bool P.op.cd.has, .bool P.op.cd.want, .string P.op.cd.col, .int .i64 P.op.cd.v.kind, .slice ca cn cc, .float .f64 P.op.cd.v.n, .slice la ln lc, .int .i64 P.op.most, .string P.lo, .string P.hi, .int .i64 P.gen, .string P.at', .int .i64 P.to, .int .i64 P.act, .slice sa sn sc] 36) = w1 := ⟨_, rfl⟩
  rw [hw1] at hbox ma hright hM
  have HBX : Hid _ := hbox
  have HMA : Hid (Moves [] w w1) := ma
  have HM : Hid (Moves [] W w1) := hM
  clear hbox ma hM m
  cases hr : rCmd P with
  | false =>
    rw [hr] at hright
    go_enter Tryz.func16, Tryz.ntmps16
    go_wp2_with (with_reducible refine stopLoad _ rfl ?_)
    unfold Hid
    refine wpList_loadCmd rfl _ rfl B rfl _ HBX.out rfl ?_
    go_wp2_with fail
    refine hright.mono ?_
    rintro _ w2 ⟨rfl, m2⟩
    go_wp2_with fail
    go_ret2
    exact ⟨_, rfl, Own.nil _, HMA.out.then m2⟩
  | true =>
    rw [hr] at hright
    have hlA := encCmd_len hr
    go_enter Tryz.func16, Tryz.ntmps16
    go_wp2_with (with_reducible refine stopLoad _ rfl ?_)
    unfold Hid
    refine wpList_loadCmd rfl _ rfl B rfl _ HBX.out rfl ?_
    go_wp2_with fail
    refine hright.mono ?_
    rintro _ w2 ⟨rfl, m2⟩
    go_wp2_with fail
    refine (new_w w2).mono ?_
    rintro _ w3 ⟨rfl, hW3, m3⟩
    obtain ⟨q, hq⟩ : ∃ q, w2.heap.size = q := ⟨_, rfl⟩
    rw [hq] at hW3 ⊢
    have M2 := HM.out.then m2
    have s2 := M2.size
    have S3 : WrS W w3 q none [] := ⟨hW3, M2.then m3, by omega, by simp⟩
    have hwr := cwriteM_w W w3 q none _ P HC.out S3 hr hpos
    have HB3 : Hid _ := m3.at (m2.at HBX.out (by simp)) (by simp)
    have HM3 : Hid (Moves [] w w3) := (HMA.out.then m2).then m3
    have hqB : w.heap.size ≤ q := by have := (HMA.out.then m2).size; omega
    clear hright hW3 m3 m2 S3 M2 s2
    go_wp2_with (with_reducible refine stopLoad _ rfl ?_)
    unfold Hid
    refine wpList_loadCmd rfl _ rfl B rfl _ HB3.out rfl ?_
    go_wp2_with fail
    refine hwr.mono ?_
    rintro _ w4 ⟨rfl, a4, hS4⟩
    have hdn := done_w q a4 _ w4 hS4.wr (by omega)
    have HM4 : Hid (Moves [] w w4) := HM3.out.trans hS4.t.2.1 (fun x hx => .inr (by simp at hx; omega))
    clear hwr hS4
    go_wp2_with fail
    refine hdn.mono ?_
    rintro _ w5 ⟨v5, rfl, hO5, m5, f5⟩
    clear hdn
    go_wp2_with fail
    go_ret2
    exact ⟨_, rfl, hO5, HM4.out.then m5⟩
end Go.Proofs.YtcamhlnkcoicpaaGreat
