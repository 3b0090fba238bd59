/-
  cmd.writeTablet, writePlan, writeOp of what may be asked.
-/
import Derived.Test.YtcamhlnkcoicpaaGreatCCr8
import Derived.Test.YtcamhlnkcoicpaaGreatCCw6
import Derived.Test.YtcamhlnkcoicpaaGreatCB21
namespace Go.Proofs.YtcamhlnkcoicpaaGreat
open Go.RowKit

def encTab (P : Pcmd) : List Nat := encX P.lo ++ encX P.hi ++ be 4 P.gen.toNat
def encPlan (P : Pcmd) : List Nat := if P.act = 0 then [0] else [P.act.toNat] ++ encX P.at' ++ [P.to.toNat]
theorem encX_len (s : ByteArray) : (encX s).length = 4 + s.size := by unfold encX; rw [List.length_append, be_length, zbs_length]

set_option maxRecDepth 100000 in
set_option maxHeartbeats 8000000 in
theorem cwriteTab_w (W w : World) (p : Nat) (a : Option Nat) (bs : List Nat) (c : List Value) (P : Pcmd) (h : CmdC W c P) (hS : WrS W w p a bs) (hb : bs.length ≤ 900000) (hr : rTab P = true) :
    Calls Tryz.prog 100 #[.pointer (some ⟨p, 0, none⟩), .agg c.toArray] w fun e w' => e = .returned (.tuple #[]) ∧ ∃ a', WrS2 W w a w' p a' (bs ++ encTab P) := by
  unfold rTab at hr
  rw [Bool.and_eq_true, wi_iff] at hr
  obtain ⟨r1, r2⟩ := hr
  obtain ⟨hlo, hhi⟩ := spR_size r1
  obtain ⟨ca, cn, cc, la, ln, lc, sa, sn, sc, gs, rfl, hV, hL, hln, hB, hz⟩ := h
  have ma : Moves [] w (w.alloc (.cells #[.int .i64 P.kind, .int .i64 P.op.kind, .string P.op.row, .string P.op.hi, .bool P.op.cd.has, .bool P.op.cd.want, .string P.op.cd.col, .int .i64 P.op.cd.v.kind, .slice ca cn cc, .float .f64 P.op.cd.v.n, .slice la ln lc, .int .i64 P.op.most, .string P.lo, .string P.hi, .int .i64 P.gen, .string P.at', .int .i64 P.to, .int .i64 P.act, .slice sa sn sc] 36)) := (Moves.refl [] w).alloc _
  have hbox := heap_alloc_new w (.cells #[.int .i64 P.kind, .int .i64 P.op.kind, .string P.op.row, .string P.op.hi, .bool P.op.cd.has, .bool P.op.cd.want, .string P.op.cd.col, .int .i64 P.op.cd.v.kind, .slice ca cn cc, .float .f64 P.op.cd.v.n, .slice la ln lc, .int .i64 P.op.most, .string P.lo, .string P.hi, .int .i64 P.gen, .string P.at', .int .i64 P.to, .int .i64 P.act, .slice sa sn sc] 36)
  have hPn : w.heap.size ∉ p :: a.toList := zne hS.wr (Nat.le_refl _)
  obtain ⟨P0, hP0⟩ : ∃ P0, w.heap.size = P0 := ⟨_, rfl⟩
  rw [hP0] at hbox hPn
  have S0 := (WrS2.start hS).after ma
  obtain ⟨w0, hw0⟩ : ∃ w0, w.alloc (.cells #[.int .i64 P.kind, .int .i64 P.op.kind, .string P.op.row, .string P.op.hi, .bool P.op.cd.has, .bool P.op.cd.want, .string P.op.cd.col, .int .i64 P.op.cd.v.kind, .slice ca cn cc, .float .f64 P.op.cd.v.n, .slice la ln lc, .int .i64 P.op.most, .string P.lo, .string P.hi, .int .i64 P.gen, .string P.at', .int .i64 P.to, .int .i64 P.act, .slice sa sn sc] 36) = w0 := ⟨_, rfl⟩
  rw [hw0] at S0 hbox ma
  obtain ⟨q0, q1, q2, q3, q4, q5, q6, q7, q8, q9, q10, q11, q12, q13, q14, q15, q16, q17, q18⟩ := c19 hbox
  obtain ⟨gn, hgn⟩ : ∃ n : Nat, P.gen = (n : Int) := ⟨P.gen.toNat, by omega⟩
  have u4 : IntKind.u32.wrap P.gen = P.gen := by rw [wrap_u32]; omega
  have hc := spWriteF_w P.lo P.hi p a bs w0 S0.wr (by omega) (by omega) (by omega)
  have HS0 : Hid _ := S0
  have HBX : Hid _ := hbox
  have HGN : Hid (P.gen = (gn : Int)) := hgn
  clear hgn
  clear hV hL hln hB hz hS r1 q0 q1 q2 q3 q4 q5 q6 q7 q8 q9 q10 q11 q14 q15 q16 q17 q18 S0 hbox
  go_enter Tryz.func100, Tryz.ntmps100
  go_wp2_with fail
  refine hc.mono ?_
  rintro _ w2 ⟨rfl, a2, hW2⟩
  have S2 := HS0.out.wrote hW2
  have d14 := (c19 (hW2.2.1.at HBX.out hPn)).2.2.2.2.2.2.2.2.2.2.2.2.2.2.1
  have hc2 := wnum_w p a2 _ gn P.gen HGN.out w2 S2.wr (by rw [List.length_append, List.length_append, encX_len, encX_len]; omega) (by have := HGN.out; omega)
  have HS2 : Hid _ := S2
  clear hc q12 q13 hw0 S2 hW2
  go_wp2_with fail
  refine hc2.mono ?_
  rintro _ w3 ⟨rfl, a3, hW3⟩
  have S3 := HS2.out.wrote hW3
  have HS3 : Hid _ := S3
  clear hc2 S3 d14
  go_wp2_with fail
  go_end0
  refine ⟨rfl, a3, ?_⟩
  have e : bs ++ encTab P = bs ++ encX P.lo ++ encX P.hi ++ be 4 gn := by unfold encTab; rw [HGN.out]; simp
  rw [e]
  exact HS3.out

set_option maxRecDepth 100000 in
set_option maxHeartbeats 8000000 in
theorem cwritePlan_w (W w : World) (p : Nat) (a : Option Nat) (bs : List Nat) (c : List Value) (P : Pcmd) (h : CmdC W c P) (hS : WrS W w p a bs) (hb : bs.length ≤ 900000) (hr : rPlan P = true) :
    Calls Tryz.prog 101 #[.pointer (some ⟨p, 0, none⟩), .agg c.toArray] w fun e w' => e = .returned (.tuple #[]) ∧ ∃ a', WrS2 W w a w' p a' (bs ++ encPlan P) := by
  unfold rPlan at hr
  obtain ⟨ca, cn, cc, la, ln, lc, sa, sn, sc, gs, rfl, hV, hL, hln, hB, hz⟩ := h
  have ma : Moves [] w (w.alloc (.cells #[.int .i64 P.kind, .int .i64 P.op.kind, .string P.op.row, .string P.op.hi, .bool P.op.cd.has, .bool P.op.cd.want, .string P.op.cd.col, .int .i64 P.op.cd.v.kind, .slice ca cn cc, .float .f64 P.op.cd.v.n, .slice la ln lc, .int .i64 P.op.most, .string P.lo, .string P.hi, .int .i64 P.gen, .string P.at', .int .i64 P.to, .int .i64 P.act, .slice sa sn sc] 36)) := (Moves.refl [] w).alloc _
  have hbox := heap_alloc_new w (.cells #[.int .i64 P.kind, .int .i64 P.op.kind, .string P.op.row, .string P.op.hi, .bool P.op.cd.has, .bool P.op.cd.want, .string P.op.cd.col, .int .i64 P.op.cd.v.kind, .slice ca cn cc, .float .f64 P.op.cd.v.n, .slice la ln lc, .int .i64 P.op.most, .string P.lo, .string P.hi, .int .i64 P.gen, .string P.at', .int .i64 P.to, .int .i64 P.act, .slice sa sn sc] 36)
  have hPn : w.heap.size ∉ p :: a.toList := zne hS.wr (Nat.le_refl _)
  obtain ⟨P0, hP0⟩ : ∃ P0, w.heap.size = P0 := ⟨_, rfl⟩
  rw [hP0] at hbox hPn
  have S0 := (WrS2.start hS).after ma
  obtain ⟨w0, hw0⟩ : ∃ w0, w.alloc (.cells #[.int .i64 P.kind, .int .i64 P.op.kind, .string P.op.row, .string P.op.hi, .bool P.op.cd.has, .bool P.op.cd.want, .string P.op.cd.col, .int .i64 P.op.cd.v.kind, .slice ca cn cc, .float .f64 P.op.cd.v.n, .slice la ln lc, .int .i64 P.op.most, .string P.lo, .string P.hi, .int .i64 P.gen, .string P.at', .int .i64 P.to, .int .i64 P.act, .slice sa sn sc] 36) = w0 := ⟨_, rfl⟩
  rw [hw0] at S0 hbox ma
  obtain ⟨q0, q1, q2, q3, q4, q5, q6, q7, q8, q9, q10, q11, q12, q13, q14, q15, q16, q17, q18⟩ := c19 hbox
  by_cases h0 : P.act = 0
  · have hc := wbyte_w p a bs 0 0 rfl w0 S0.wr (by omega)
    have HS0 : Hid _ := S0
    have HBX : Hid _ := hbox
    rw [h0] at q17 hw0 HBX ⊢
    have e : bs ++ encPlan P = bs ++ [0] := by unfold encPlan; rw [if_pos h0]
    rw [e]
    clear hV hL hln hB hz hS hr q0 q1 q2 q3 q4 q5 q6 q7 q8 q9 q10 q11 q12 q13 q14 q15 q16 q18 S0 hbox h0 e
    go_enter Tryz.func101, Tryz.ntmps101
    go_wp2_with fail
    refine hc.mono ?_
    rintro _ w2 ⟨rfl, a2, hW2⟩
    have S2 := HS0.out.wrote hW2
    have d17 := (c19 (hW2.2.1.at HBX.out hPn)).2.2.2.2.2.2.2.2.2.2.2.2.2.2.2.2.2.1
    have HS2 : Hid _ := S2
    clear hc q17 hw0 S2 hW2
    go_wp2_with fail
    go_end0
    exact ⟨rfl, a2, HS2.out⟩
  · have hr2 : (wi P.act 1 3 = true ∧ rPlace P.at' = true) ∧ wi P.to 0 255 = true := by simpa [h0] using hr
    obtain ⟨⟨r1, r2⟩, r3⟩ := hr2
    rw [wi_iff] at r1 r3
    have hat : P.at'.size ≤ 16 := of_decide_eq_true r2
    obtain ⟨an, han⟩ : ∃ n : Nat, P.act = (n : Int) := ⟨P.act.toNat, by omega⟩
    obtain ⟨tn, htn⟩ : ∃ n : Nat, P.to = (n : Int) := ⟨P.to.toNat, by omega⟩
    have u1 : IntKind.u8.wrap P.act = P.act := by rw [wrap_u8]; omega
    have u2 : IntKind.u8.wrap P.to = P.to := by rw [wrap_u8]; omega
    have hne : (P.act != 0) = true := bne_iff_ne.2 h0
    have hc := wbyte_w p a bs an P.act han w0 S0.wr (by omega)
    have e : bs ++ encPlan P = bs ++ [an] ++ be 4 (zbs P.at').length ++ zbs P.at' ++ [tn] := by unfold encPlan encX; rw [if_neg h0, han, htn, zbs_length]; simp
    rw [e]
    have HS0 : Hid _ := S0
    have HBX : Hid _ := hbox
    have HTN : Hid (P.to = (tn : Int)) := htn
    clear han htn
    clear hV hL hln hB hz hS hr q0 q1 q2 q3 q4 q5 q6 q7 q8 q9 q10 q11 q12 q13 q14 q15 q16 q18 S0 hbox h0 e r1 r3
    go_enter Tryz.func101, Tryz.ntmps101
    go_wp2_with fail
    refine hc.mono ?_
    rintro _ w2 ⟨rfl, a2, hW2⟩
    have S2 := HS0.out.wrote hW2
    have bx2 := hW2.2.1.at HBX.out hPn
    have D := (c19 bx2).2.2.2.2.2.2.2.2.2.2.2.2.2.2.2
    have d15 := D.1
    have d17 := D.2.2.1
    obtain ⟨g3, cap3, w3, hrun3, hB3, m3, hg3⟩ := zbytes_run w2 P.at'
    have S3 := S2.after m3
    have hc2 := wtext_any p a2 (bs ++ [an]) (zbs P.at') g3 _ w3 S3.wr (by rw [List.length_append, List.length_singleton]; omega) hB3 (by rw [zbs_length]; omega) (zne S2.wr hg3)
    have HS3 : Hid _ := S3
    have HBX2 : Hid _ := m3.at bx2 (by simp)
    have hP2 : P0 ∉ p :: a2.toList := hW2.keep hPn (lt_of_block HBX.out)
    clear hc q17 hw0 S2 S3 hW2 D bx2 hB3 m3
    go_wp2_with fail
    refine hc2.mono ?_
    rintro _ w4 ⟨rfl, a4, hW4⟩
    have S4 := HS3.out.wrote hW4
    have d16 := (c19 (hW4.2.1.at HBX2.out hP2)).2.2.2.2.2.2.2.2.2.2.2.2.2.2.2.2.1
    have hc3 := wbyte_w p a4 _ tn P.to HTN.out w4 S4.wr (by rw [List.length_append, List.length_append, List.length_append, List.length_singleton, be_length, zbs_length]; omega)
    have HS4 : Hid _ := S4
    clear hc2 hrun3 S4 hW4 d15 d17
    go_wp2_with fail
    refine hc3.mono ?_
    rintro _ w5 ⟨rfl, a5, hW5⟩
    have S5 := HS4.out.wrote hW5
    have HS5 : Hid _ := S5
    clear hc3 S5 d16
    go_wp2_with fail
    go_end0
    exact ⟨rfl, a5, HS5.out⟩
end Go.Proofs.YtcamhlnkcoicpaaGreat
