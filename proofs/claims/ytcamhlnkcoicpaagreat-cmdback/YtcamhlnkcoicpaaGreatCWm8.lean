/-
  cmd.write of a command that may be asked; cmd.Encode of any command.
-/
import Derived.Test.YtcamhlnkcoicpaaGreatCWo8
import Derived.Test.YtcamhlnkcoicpaaGreatCTk8
namespace Go.Proofs.YtcamhlnkcoicpaaGreat
open Go.RowKit

def encCmdK (P : Pcmd) : List Nat := if P.kind = 1 then encOp P.op else if P.kind = 2 ∨ P.kind = 4 then encTab P else if P.kind = 3 then encTab P ++ (be 4 P.st.length ++ P.st) else if P.kind = 5 ∨ P.kind = 6 then encTab P ++ encX P.at' else if P.kind = 7 then encX P.at' else if P.kind = 8 then encPlan P else if P.kind = 9 then be 4 P.gen.toNat ++ [(-P.to).toNat] else []
/-- A command as bytes. -/
def encCmd (P : Pcmd) : List Nat := [P.kind.toNat] ++ encCmdK P
theorem encTab_len {P : Pcmd} (h : rTab P = true) : (encTab P).length ≤ 44 := by
  unfold rTab at h
  rw [Bool.and_eq_true] at h
  have := spR_size h.1
  unfold encTab
  rw [List.length_append, List.length_append, encX_len, encX_len, be_length]
  omega

theorem spC_size {lo hi t : ByteArray} (h : spC ⟨lo, hi⟩ t = true) : t.size ≤ 16 := by
  unfold spC at h
  simp only [Bool.and_eq_true] at h
  exact of_decide_eq_true h.1.1.2
set_option maxRecDepth 100000 in
set_option maxHeartbeats 32000000 in
theorem cwriteM_w (W w : World) (p : Nat) (a : Option Nat) (c : List Value) (P : Pcmd) (h : CmdC W c P) (hS : WrS W w p a []) (hr : rCmd P = true) (hpos : 0 < W.heap.size) :
    Calls Tryz.prog 54 #[.pointer (some ⟨p, 0, none⟩), .agg c.toArray] w fun e w' => e = .returned (.tuple #[]) ∧ ∃ a', WrS2 W w a w' p a' (encCmd P) := by
  have HC : Hid (CmdC W c P) := h
  obtain ⟨ca, cn, cc, la, ln, lc, sa, sn, sc, gs, rfl, hV, hL, hln, hB, hz⟩ := h
  have hOP : OpC W [.int .i64 P.op.kind, .string P.op.row, .string P.op.hi, .bool P.op.cd.has, .bool P.op.cd.want, .string P.op.cd.col, .int .i64 P.op.cd.v.kind, .slice ca cn cc, .float .f64 P.op.cd.v.n, .slice la ln lc, .int .i64 P.op.most] P.op := ⟨ca, cn, cc, la, ln, lc, rfl, hV, hL, hln⟩
  obtain ⟨gs, hgs, hB⟩ := isB_inA hB hpos
  have ma : Moves [] w (w.alloc (.cells #[.int .i64 P.kind, .int .i64 P.op.kind, .string P.op.row, .string P.op.hi, .bool P.op.cd.has, .bool P.op.cd.want, .string P.op.cd.col, .int .i64 P.op.cd.v.kind, .slice ca cn cc, .float .f64 P.op.cd.v.n, .slice la ln lc, .int .i64 P.op.most, .string P.lo, .string P.hi, .int .i64 P.gen, .string P.at', .int .i64 P.to, .int .i64 P.act, .slice sa sn sc] 36)) := (Moves.refl [] w).alloc _
  have hbox := heap_alloc_new w (.cells #[.int .i64 P.kind, .int .i64 P.op.kind, .string P.op.row, .string P.op.hi, .bool P.op.cd.has, .bool P.op.cd.want, .string P.op.cd.col, .int .i64 P.op.cd.v.kind, .slice ca cn cc, .float .f64 P.op.cd.v.n, .slice la ln lc, .int .i64 P.op.most, .string P.lo, .string P.hi, .int .i64 P.gen, .string P.at', .int .i64 P.to, .int .i64 P.act, .slice sa sn sc] 36)
  have hPn : w.heap.size ∉ p :: a.toList := zne hS.wr (Nat.le_refl _)
  obtain ⟨P0, hP0⟩ : ∃ P0, w.heap.size = P0 := ⟨_, rfl⟩
  rw [hP0] at hbox hPn
  have S0 := (WrS2.start hS).after ma
  obtain ⟨w0, hw0⟩ : ∃ w0, w.alloc (.cells #[.int .i64 P.kind, .int .i64 P.op.kind, .string P.op.row, .string P.op.hi, .bool P.op.cd.has, .bool P.op.cd.want, .string P.op.cd.col, .int .i64 P.op.cd.v.kind, .slice ca cn cc, .float .f64 P.op.cd.v.n, .slice la ln lc, .int .i64 P.op.most, .string P.lo, .string P.hi, .int .i64 P.gen, .string P.at', .int .i64 P.to, .int .i64 P.act, .slice sa sn sc] 36) = w0 := ⟨_, rfl⟩
  rw [hw0] at S0 hbox ma
  have q0 := (c19 hbox).1
  have hkk : 1 ≤ P.kind ∧ P.kind ≤ 10 := by
    by_cases hk : 1 ≤ P.kind ∧ P.kind ≤ 10
    · exact hk
    · unfold rCmd at hr
      rw [if_neg (by omega), if_neg (by omega), if_neg (by omega), if_neg (by omega), if_neg (by omega), if_neg (by omega), if_neg (by omega)] at hr
      have := of_decide_eq_true hr
      omega
  obtain ⟨kn, hkn⟩ : ∃ n : Nat, P.kind = (n : Int) := ⟨P.kind.toNat, by omega⟩
  have HKN : Hid (P.kind = (kn : Int)) := hkn
  have u0 : IntKind.u8.wrap P.kind = P.kind := by rw [wrap_u8]; omega
  have hc := wbyte_w p a [] kn P.kind hkn w0 S0.wr (by rw [List.length_nil]; omega)
  rw [List.nil_append] at hc
  have HS0 : Hid _ := S0
  have HBX : Hid _ := hbox
  have HOP : Hid _ := hOP
  have HIB : Hid (IsB W gs (.slice sa sn sc) P.st) := hB
  have HEN : Hid (encCmd P = [kn] ++ encCmdK P) := by unfold Hid encCmd; rw [hkn]; rfl
  clear hV hL hln hB hz hS S0 hbox hOP hkn
  go_enter Tryz.func54, Tryz.ntmps54
  go_wp2_with fail
  refine hc.mono ?_
  rintro _ w1 ⟨rfl, a1, hW1⟩
  have S1 := HS0.out.wrote hW1
  have bx1 := hW1.2.1.at HBX.out hPn
  have HP1 : Hid (P0 ∉ p :: a1.toList) := hW1.keep hPn (lt_of_block HBX.out)
  have HS1 : Hid (WrS2 W w a w1 p a1 [kn]) := S1
  have HB1 : Hid _ := bx1
  have y0 := (c19 bx1).1
  have Y := (c19 bx1)
  clear hc S1 hW1 hPn hw0 q0 HS0 HBX bx1 ma
  by_cases hK1 : P.kind = 1
  · have hK := hK1
    clear hK1
    have n1 : (P.kind == 1) = true := beq_iff_eq.2 hK
    have hr2 := hr
    unfold rCmd at hr2
    rw [if_pos hK] at hr2
    have EN2 := HEN.out
    unfold encCmdK at EN2
    rw [if_pos hK] at EN2
    have HE2 : Hid (encCmd P = _) := EN2
    clear EN2 HEN hr hK
    have k1 := Y.2.1
    have k2 := Y.2.2.1
    have k3 := Y.2.2.2.1
    have k4 := Y.2.2.2.2.1
    have k5 := Y.2.2.2.2.2.1
    have k6 := Y.2.2.2.2.2.2.1
    have k7 := Y.2.2.2.2.2.2.2.1
    have k8 := Y.2.2.2.2.2.2.2.2.1
    have k9 := Y.2.2.2.2.2.2.2.2.2.1
    have k10 := Y.2.2.2.2.2.2.2.2.2.2.1
    have k11 := Y.2.2.2.2.2.2.2.2.2.2.2.1
    clear Y
    have hc := cwriteOp_w W w1 p a1 [kn] _ P.op HOP.out HS1.out.s (by simp) hr2
    go_wp2_with fail
    refine hc.mono ?_
    rintro _ w2 ⟨rfl, a2, hW2⟩
    have HS2 : Hid _ := HS1.out.wrote hW2.t
    clear hc hW2 k1 k2 k3 k4 k5 k6 k7 k8 k9 k10 k11
    go_wp2_with fail
    go_end0
    refine ⟨rfl, a2, ?_⟩
    rw [HE2.out]
    have q := HS2.out
    exact q
  · skip
    by_cases hK2 : P.kind = 2
    · have hK := hK2
      clear hK2
      have n1 : (P.kind == 1) = false := beq_eq_false_iff_ne.2 (by omega)
      have n2 : (P.kind == 2) = true := beq_iff_eq.2 hK
      have hr2 := hr
      unfold rCmd at hr2
      rw [if_neg (by omega), if_pos (.inl hK)] at hr2
      have EN2 := HEN.out
      unfold encCmdK at EN2
      rw [if_neg (by omega), if_pos (.inl hK)] at EN2
      have HE2 : Hid (encCmd P = _) := EN2
      clear EN2 HEN hr hK
      have rT : rTab P = true := hr2
      have htl := encTab_len rT
      have hc := cwriteTab_w W w1 p a1 [kn] _ P HC.out HS1.out.s (by simp) rT
      clear Y
      go_wp2_with (with_reducible refine stopLoad _ rfl ?_)
      unfold Hid
      refine wpList_loadCmd rfl _ rfl P0 rfl _ HB1.out rfl ?_
      go_wp2_with fail
      refine hc.mono ?_
      rintro _ w2 ⟨rfl, a2, hW2⟩
      have HS2 : Hid (WrS2 W w a w2 p a2 ([kn] ++ encTab P)) := HS1.out.wrote hW2.t
      have bx2 := hW2.t.2.1.at HB1.out HP1.out
      have Y2 := c19 bx2
      clear hc hW2 bx2
      clear Y2
      go_wp2_with fail
      go_end0
      refine ⟨rfl, a2, ?_⟩
      rw [HE2.out]
      have q := HS2.out
      exact q
    · skip
      by_cases hK4 : P.kind = 4
      · have hK := hK4
        clear hK4
        have n1 : (P.kind == 1) = false := beq_eq_false_iff_ne.2 (by omega)
        have n2 : (P.kind == 2) = false := beq_eq_false_iff_ne.2 (by omega)
        have n4 : (P.kind == 4) = true := beq_iff_eq.2 hK
        have hr2 := hr
        unfold rCmd at hr2
        rw [if_neg (by omega), if_pos (.inr hK)] at hr2
        have EN2 := HEN.out
        unfold encCmdK at EN2
        rw [if_neg (by omega), if_pos (.inr hK)] at EN2
        have HE2 : Hid (encCmd P = _) := EN2
        clear EN2 HEN hr hK
        have rT : rTab P = true := hr2
        have htl := encTab_len rT
        have hc := cwriteTab_w W w1 p a1 [kn] _ P HC.out HS1.out.s (by simp) rT
        clear Y
        go_wp2_with (with_reducible refine stopLoad _ rfl ?_)
        unfold Hid
        refine wpList_loadCmd rfl _ rfl P0 rfl _ HB1.out rfl ?_
        go_wp2_with fail
        refine hc.mono ?_
        rintro _ w2 ⟨rfl, a2, hW2⟩
        have HS2 : Hid (WrS2 W w a w2 p a2 ([kn] ++ encTab P)) := HS1.out.wrote hW2.t
        have bx2 := hW2.t.2.1.at HB1.out HP1.out
        have Y2 := c19 bx2
        clear hc hW2 bx2
        clear Y2
        go_wp2_with fail
        go_end0
        refine ⟨rfl, a2, ?_⟩
        rw [HE2.out]
        have q := HS2.out
        exact q
      · skip
        by_cases hK3 : P.kind = 3
        · have hK := hK3
          clear hK3
          have n1 : (P.kind == 1) = false := beq_eq_false_iff_ne.2 (by omega)
          have n2 : (P.kind == 2) = false := beq_eq_false_iff_ne.2 (by omega)
          have n4 : (P.kind == 4) = false := beq_eq_false_iff_ne.2 (by omega)
          have n3 : (P.kind == 3) = true := beq_iff_eq.2 hK
          have hr2 := hr
          unfold rCmd at hr2
          rw [if_neg (by omega), if_neg (by omega), if_pos hK] at hr2
          have EN2 := HEN.out
          unfold encCmdK at EN2
          rw [if_neg (by omega), if_neg (by omega), if_pos hK] at EN2
          have HE2 : Hid (encCmd P = _) := EN2
          clear EN2 HEN hr hK
          rw [Bool.and_eq_true] at hr2
          have rT : rTab P = true := hr2.1
          have htl := encTab_len rT
          have hc := cwriteTab_w W w1 p a1 [kn] _ P HC.out HS1.out.s (by simp) rT
          clear Y
          go_wp2_with (with_reducible refine stopLoad _ rfl ?_)
          unfold Hid
          refine wpList_loadCmd rfl _ rfl P0 rfl _ HB1.out rfl ?_
          go_wp2_with fail
          refine hc.mono ?_
          rintro _ w2 ⟨rfl, a2, hW2⟩
          have HS2 : Hid (WrS2 W w a w2 p a2 ([kn] ++ encTab P)) := HS1.out.wrote hW2.t
          have bx2 := hW2.t.2.1.at HB1.out HP1.out
          have Y2 := c19 bx2
          clear hc hW2 bx2
          have k18 := Y2.2.2.2.2.2.2.2.2.2.2.2.2.2.2.2.2.2.2
          clear Y2
          have hsl : P.st.length ≤ 1048576 := of_decide_eq_true hr2.2
          have hc := wtext_any p a2 ([kn] ++ encTab P) P.st gs _ w2 HS2.out.wr (by rw [List.length_append, List.length_singleton]; omega) (HIB.out.moves HS2.out.moves (by simp)) hsl (HS2.out.s.past hgs)
          go_wp2_with fail
          refine hc.mono ?_
          rintro _ w3 ⟨rfl, a3, hW3⟩
          have HS3 : Hid _ := HS2.out.wrote hW3
          clear hc hW3 k18
          go_wp2_with fail
          go_end0
          refine ⟨rfl, a3, ?_⟩
          rw [HE2.out]
          have q := HS3.out
          simpa using q
        · skip
          by_cases hK5 : P.kind = 5
          · have hK := hK5
            clear hK5
            have n1 : (P.kind == 1) = false := beq_eq_false_iff_ne.2 (by omega)
            have n2 : (P.kind == 2) = false := beq_eq_false_iff_ne.2 (by omega)
            have n4 : (P.kind == 4) = false := beq_eq_false_iff_ne.2 (by omega)
            have n3 : (P.kind == 3) = false := beq_eq_false_iff_ne.2 (by omega)
            have n5 : (P.kind == 5) = true := beq_iff_eq.2 hK
            have hr2 := hr
            unfold rCmd at hr2
            rw [if_neg (by omega), if_neg (by omega), if_neg (by omega), if_pos (.inl hK)] at hr2
            have EN2 := HEN.out
            unfold encCmdK at EN2
            rw [if_neg (by omega), if_neg (by omega), if_neg (by omega), if_pos (.inl hK)] at EN2
            have HE2 : Hid (encCmd P = _) := EN2
            clear EN2 HEN hr hK
            rw [Bool.and_eq_true] at hr2
            have rT : rTab P = true := hr2.1
            have htl := encTab_len rT
            have hc := cwriteTab_w W w1 p a1 [kn] _ P HC.out HS1.out.s (by simp) rT
            clear Y
            go_wp2_with (with_reducible refine stopLoad _ rfl ?_)
            unfold Hid
            refine wpList_loadCmd rfl _ rfl P0 rfl _ HB1.out rfl ?_
            go_wp2_with fail
            refine hc.mono ?_
            rintro _ w2 ⟨rfl, a2, hW2⟩
            have HS2 : Hid (WrS2 W w a w2 p a2 ([kn] ++ encTab P)) := HS1.out.wrote hW2.t
            have bx2 := hW2.t.2.1.at HB1.out HP1.out
            have Y2 := c19 bx2
            clear hc hW2 bx2
            have k15 := Y2.2.2.2.2.2.2.2.2.2.2.2.2.2.2.2.1
            clear Y2
            obtain ⟨g3, cap3, w3, hrun3, hB3, m3, hg3⟩ := zbytes_run w2 P.at'
            have S3 := HS2.out.after m3
            have hat : P.at'.size ≤ 16 := spC_size hr2.2
            have hc := wtext_any p a2 ([kn] ++ encTab P) (zbs P.at') g3 _ w3 S3.wr (by rw [List.length_append, List.length_singleton]; omega) hB3 (by rw [zbs_length]; omega) (zne HS2.out.wr hg3)
            have HS3 : Hid _ := S3
            clear S3 hB3 m3
            go_wp2_with fail
            refine hc.mono ?_
            rintro _ w4 ⟨rfl, a4, hW4⟩
            have HS4 : Hid _ := HS3.out.wrote hW4
            clear hc hW4 k15 hrun3
            go_wp2_with fail
            go_end0
            refine ⟨rfl, a4, ?_⟩
            rw [HE2.out]
            have q := HS4.out
            unfold encX
            rw [zbs_length] at q
            simpa using q
          · skip
            by_cases hK6 : P.kind = 6
            · have hK := hK6
              clear hK6
              have n1 : (P.kind == 1) = false := beq_eq_false_iff_ne.2 (by omega)
              have n2 : (P.kind == 2) = false := beq_eq_false_iff_ne.2 (by omega)
              have n4 : (P.kind == 4) = false := beq_eq_false_iff_ne.2 (by omega)
              have n3 : (P.kind == 3) = false := beq_eq_false_iff_ne.2 (by omega)
              have n5 : (P.kind == 5) = false := beq_eq_false_iff_ne.2 (by omega)
              have n6 : (P.kind == 6) = true := beq_iff_eq.2 hK
              have hr2 := hr
              unfold rCmd at hr2
              rw [if_neg (by omega), if_neg (by omega), if_neg (by omega), if_pos (.inr hK)] at hr2
              have EN2 := HEN.out
              unfold encCmdK at EN2
              rw [if_neg (by omega), if_neg (by omega), if_neg (by omega), if_pos (.inr hK)] at EN2
              have HE2 : Hid (encCmd P = _) := EN2
              clear EN2 HEN hr hK
              rw [Bool.and_eq_true] at hr2
              have rT : rTab P = true := hr2.1
              have htl := encTab_len rT
              have hc := cwriteTab_w W w1 p a1 [kn] _ P HC.out HS1.out.s (by simp) rT
              clear Y
              go_wp2_with (with_reducible refine stopLoad _ rfl ?_)
              unfold Hid
              refine wpList_loadCmd rfl _ rfl P0 rfl _ HB1.out rfl ?_
              go_wp2_with fail
              refine hc.mono ?_
              rintro _ w2 ⟨rfl, a2, hW2⟩
              have HS2 : Hid (WrS2 W w a w2 p a2 ([kn] ++ encTab P)) := HS1.out.wrote hW2.t
              have bx2 := hW2.t.2.1.at HB1.out HP1.out
              have Y2 := c19 bx2
              clear hc hW2 bx2
              have k15 := Y2.2.2.2.2.2.2.2.2.2.2.2.2.2.2.2.1
              clear Y2
              obtain ⟨g3, cap3, w3, hrun3, hB3, m3, hg3⟩ := zbytes_run w2 P.at'
              have S3 := HS2.out.after m3
              have hat : P.at'.size ≤ 16 := spC_size hr2.2
              have hc := wtext_any p a2 ([kn] ++ encTab P) (zbs P.at') g3 _ w3 S3.wr (by rw [List.length_append, List.length_singleton]; omega) hB3 (by rw [zbs_length]; omega) (zne HS2.out.wr hg3)
              have HS3 : Hid _ := S3
              clear S3 hB3 m3
              go_wp2_with fail
              refine hc.mono ?_
              rintro _ w4 ⟨rfl, a4, hW4⟩
              have HS4 : Hid _ := HS3.out.wrote hW4
              clear hc hW4 k15 hrun3
              go_wp2_with fail
              go_end0
              refine ⟨rfl, a4, ?_⟩
              rw [HE2.out]
              have q := HS4.out
              unfold encX
              rw [zbs_length] at q
              simpa using q
            · skip
              by_cases hK7 : P.kind = 7
              · have hK := hK7
                clear hK7
                have n1 : (P.kind == 1) = false := beq_eq_false_iff_ne.2 (by omega)
                have n2 : (P.kind == 2) = false := beq_eq_false_iff_ne.2 (by omega)
                have n4 : (P.kind == 4) = false := beq_eq_false_iff_ne.2 (by omega)
                have n3 : (P.kind == 3) = false := beq_eq_false_iff_ne.2 (by omega)
                have n5 : (P.kind == 5) = false := beq_eq_false_iff_ne.2 (by omega)
                have n6 : (P.kind == 6) = false := beq_eq_false_iff_ne.2 (by omega)
                have n7 : (P.kind == 7) = true := beq_iff_eq.2 hK
                have hr2 := hr
                unfold rCmd at hr2
                rw [if_neg (by omega), if_neg (by omega), if_neg (by omega), if_neg (by omega), if_pos hK] at hr2
                have EN2 := HEN.out
                unfold encCmdK at EN2
                rw [if_neg (by omega), if_neg (by omega), if_neg (by omega), if_neg (by omega), if_pos hK] at EN2
                have HE2 : Hid (encCmd P = _) := EN2
                clear EN2 HEN hr hK
                have k15 := Y.2.2.2.2.2.2.2.2.2.2.2.2.2.2.2.1
                clear Y
                obtain ⟨g3, cap3, w3, hrun3, hB3, m3, hg3⟩ := zbytes_run w1 P.at'
                have S3 := HS1.out.after m3
                have hat : P.at'.size ≤ 16 := of_decide_eq_true hr2
                have hc := wtext_any p a1 [kn] (zbs P.at') g3 _ w3 S3.wr (by rw [List.length_singleton]; omega) hB3 (by rw [zbs_length]; omega) (zne HS1.out.wr hg3)
                have HS3 : Hid _ := S3
                clear S3 hB3 m3
                go_wp2_with fail
                refine hc.mono ?_
                rintro _ w4 ⟨rfl, a4, hW4⟩
                have HS4 : Hid _ := HS3.out.wrote hW4
                clear hc hW4 k15 hrun3
                go_wp2_with fail
                go_end0
                refine ⟨rfl, a4, ?_⟩
                rw [HE2.out]
                have q := HS4.out
                unfold encX
                rw [zbs_length] at q
                simpa using q
              · skip
                by_cases hK8 : P.kind = 8
                · have hK := hK8
                  clear hK8
                  have n1 : (P.kind == 1) = false := beq_eq_false_iff_ne.2 (by omega)
                  have n2 : (P.kind == 2) = false := beq_eq_false_iff_ne.2 (by omega)
                  have n4 : (P.kind == 4) = false := beq_eq_false_iff_ne.2 (by omega)
                  have n3 : (P.kind == 3) = false := beq_eq_false_iff_ne.2 (by omega)
                  have n5 : (P.kind == 5) = false := beq_eq_false_iff_ne.2 (by omega)
                  have n6 : (P.kind == 6) = false := beq_eq_false_iff_ne.2 (by omega)
                  have n7 : (P.kind == 7) = false := beq_eq_false_iff_ne.2 (by omega)
                  have n8 : (P.kind == 8) = true := beq_iff_eq.2 hK
                  have hr2 := hr
                  unfold rCmd at hr2
                  rw [if_neg (by omega), if_neg (by omega), if_neg (by omega), if_neg (by omega), if_neg (by omega), if_pos hK] at hr2
                  have EN2 := HEN.out
                  unfold encCmdK at EN2
                  rw [if_neg (by omega), if_neg (by omega), if_neg (by omega), if_neg (by omega), if_neg (by omega), if_pos hK] at EN2
                  have HE2 : Hid (encCmd P = _) := EN2
                  clear EN2 HEN hr hK
                  clear Y
                  have hc := cwritePlan_w W w1 p a1 [kn] _ P HC.out HS1.out.s (by simp) hr2
                  go_wp2_with (with_reducible refine stopLoad _ rfl ?_)
                  unfold Hid
                  refine wpList_loadCmd rfl _ rfl P0 rfl _ HB1.out rfl ?_
                  go_wp2_with fail
                  refine hc.mono ?_
                  rintro _ w2 ⟨rfl, a2, hW2⟩
                  have HS2 : Hid _ := HS1.out.wrote hW2.t
                  clear hc hW2
                  go_wp2_with fail
                  go_end0
                  refine ⟨rfl, a2, ?_⟩
                  rw [HE2.out]
                  have q := HS2.out
                  exact q
                · skip
                  by_cases hK9 : P.kind = 9
                  · have hK := hK9
                    clear hK9
                    have n1 : (P.kind == 1) = false := beq_eq_false_iff_ne.2 (by omega)
                    have n2 : (P.kind == 2) = false := beq_eq_false_iff_ne.2 (by omega)
                    have n4 : (P.kind == 4) = false := beq_eq_false_iff_ne.2 (by omega)
                    have n3 : (P.kind == 3) = false := beq_eq_false_iff_ne.2 (by omega)
                    have n5 : (P.kind == 5) = false := beq_eq_false_iff_ne.2 (by omega)
                    have n6 : (P.kind == 6) = false := beq_eq_false_iff_ne.2 (by omega)
                    have n7 : (P.kind == 7) = false := beq_eq_false_iff_ne.2 (by omega)
                    have n8 : (P.kind == 8) = false := beq_eq_false_iff_ne.2 (by omega)
                    have n9 : (P.kind == 9) = true := beq_iff_eq.2 hK
                    have hr2 := hr
                    unfold rCmd at hr2
                    rw [if_neg (by omega), if_neg (by omega), if_neg (by omega), if_neg (by omega), if_neg (by omega), if_neg (by omega), if_pos hK] at hr2
                    have EN2 := HEN.out
                    unfold encCmdK at EN2
                    rw [if_neg (by omega), if_neg (by omega), if_neg (by omega), if_neg (by omega), if_neg (by omega), if_neg (by omega), if_pos hK] at EN2
                    have HE2 : Hid (encCmd P = _) := EN2
                    clear EN2 HEN hr hK
                    unfold rPub at hr2
                    rw [Bool.and_eq_true, wi_iff] at hr2
                    obtain ⟨r1, r2⟩ := hr2
                    have r3 : P.to = 0 ∨ P.to = -1 := by simpa using r2
                    obtain ⟨gn, hgn⟩ : ∃ n : Nat, P.gen = (n : Int) := ⟨P.gen.toNat, by omega⟩
                    obtain ⟨tn, htn⟩ : ∃ n : Nat, -P.to = (n : Int) := ⟨(-P.to).toNat, by omega⟩
                    have u4 : IntKind.u32.wrap P.gen = P.gen := by rw [wrap_u32]; omega
                    have u5 : IntKind.i64.wrap (-P.to) = -P.to := by rw [IntWalk.i64_in _ (by omega)]
                    have u6 : IntKind.u8.wrap (-P.to) = -P.to := by rw [wrap_u8]; omega
                    have HGN : Hid (P.gen = (gn : Int)) := hgn
                    have HTN : Hid (-P.to = (tn : Int)) := htn
                    have k14 := Y.2.2.2.2.2.2.2.2.2.2.2.2.2.2.1
                    clear Y hgn htn r2 r3
                    have hc := wnum_w p a1 [kn] gn P.gen HGN.out w1 HS1.out.wr (by rw [List.length_singleton]; omega) (by have := HGN.out; omega)
                    go_wp2_with fail
                    refine hc.mono ?_
                    rintro _ w2 ⟨rfl, a2, hW2⟩
                    have HS2 : Hid _ := HS1.out.wrote hW2
                    have Y2 := c19 (hW2.2.1.at HB1.out HP1.out)
                    have k16 := Y2.2.2.2.2.2.2.2.2.2.2.2.2.2.2.2.2.1
                    clear Y2 hc hW2 k14
                    have hc := wbyte_w p a2 _ tn (-P.to) HTN.out w2 HS2.out.wr (by rw [List.length_append, List.length_singleton, be_length]; omega)
                    go_wp2_with fail
                    refine hc.mono ?_
                    rintro _ w3 ⟨rfl, a3, hW3⟩
                    have HS3 : Hid _ := HS2.out.wrote hW3
                    clear hc hW3 k16
                    go_wp2_with fail
                    go_end0
                    refine ⟨rfl, a3, ?_⟩
                    rw [HE2.out]
                    have q := HS3.out
                    rw [HGN.out, HTN.out]
                    simpa using q
                  · skip
                    have hK : P.kind = 10 := by omega
                    have n1 : (P.kind == 1) = false := beq_eq_false_iff_ne.2 (by omega)
                    have n2 : (P.kind == 2) = false := beq_eq_false_iff_ne.2 (by omega)
                    have n4 : (P.kind == 4) = false := beq_eq_false_iff_ne.2 (by omega)
                    have n3 : (P.kind == 3) = false := beq_eq_false_iff_ne.2 (by omega)
                    have n5 : (P.kind == 5) = false := beq_eq_false_iff_ne.2 (by omega)
                    have n6 : (P.kind == 6) = false := beq_eq_false_iff_ne.2 (by omega)
                    have n7 : (P.kind == 7) = false := beq_eq_false_iff_ne.2 (by omega)
                    have n8 : (P.kind == 8) = false := beq_eq_false_iff_ne.2 (by omega)
                    have n9 : (P.kind == 9) = false := beq_eq_false_iff_ne.2 (by omega)
                    have hr2 := hr
                    unfold rCmd at hr2
                    rw [if_neg (by omega), if_neg (by omega), if_neg (by omega), if_neg (by omega), if_neg (by omega), if_neg (by omega), if_neg (by omega)] at hr2
                    have EN2 := HEN.out
                    unfold encCmdK at EN2
                    rw [if_neg (by omega), if_neg (by omega), if_neg (by omega), if_neg (by omega), if_neg (by omega), if_neg (by omega), if_neg (by omega)] at EN2
                    have HE2 : Hid (encCmd P = _) := EN2
                    clear EN2 HEN hr hK
                    clear Y
                    go_wp2_with fail
                    go_end0
                    refine ⟨rfl, a1, ?_⟩
                    rw [HE2.out]
                    simpa using HS1.out
end Go.Proofs.YtcamhlnkcoicpaaGreat
