/-
  cmd.writeOp of an operation that may be asked.
-/
import Derived.Test.YtcamhlnkcoicpaaGreatCWw8
namespace Go.Proofs.YtcamhlnkcoicpaaGreat
open Go.RowKit

def encOp (o : Pop) : List Nat := [o.kind.toNat] ++ encX o.row ++ (if o.kind = 2 then cdenc o.cd.has o.cd.want o.cd.col o.cd.v ++ [o.l.length] ++ (o.l.map cenc).flatten else if o.kind = 3 then encX o.hi ++ [o.most.toNat] else [])
theorem cRight_parts {c : Pchg} (h : cRight c = 0) : (1 ≤ c.kind ∧ c.kind ≤ 5) ∧ (c.kind ≠ 4 → pname c.col = true) ∧ (c.kind = 1 ∨ c.kind = 5 → pvr c.v = true) := by
  have hw := cway c
  rw [h] at hw
  generalize hE : (0 : Int) = E at hw
  cases hw with
  | bad h => omega
  | row h => exact ⟨by omega, fun k => absurd h k, fun k => by omega⟩
  | name h h1 => omega
  | col h h1 => exact ⟨by omega, fun _ => h1, fun k => by omega⟩
  | time h h1 h2 => omega
  | drop h h1 h2 => exact ⟨by omega, fun _ => h1, fun k => by omega⟩
  | value h h1 h2 h3 => omega
  | put h h1 h2 h3 => exact ⟨by omega, fun _ => h1, fun _ => h3⟩
  | kind h h1 h2 h3 h4 => omega
  | add h h1 h2 h3 h4 => exact ⟨by omega, fun _ => h1, fun _ => h3⟩
theorem cenc_len {c : Pchg} (h : cRight c = 0) : (cenc c).length ≤ 50 := by
  obtain ⟨h1, h2, h3⟩ := cRight_parts h
  unfold cenc
  by_cases k4 : c.kind = 4
  · rw [if_pos k4]; simp
  · have hsz := pname_size (h2 k4)
    rw [if_neg k4]
    by_cases k3 : c.kind = 3
    · rw [if_pos k3]
      simp only [List.length_append, List.length_singleton, List.length_nil, be_length, sbs_length]
      omega
    · rw [if_neg k3]
      by_cases k2 : c.kind = 2
      · rw [if_pos k2]
        simp only [List.length_append, List.length_singleton, List.length_nil, be_length, sbs_length]
        omega
      · rw [if_neg k2]
        have := penc_len (h3 (by omega))
        simp only [List.length_append, List.length_singleton, be_length, sbs_length]
        omega
theorem cdenc_len {has want : Bool} {col : ByteArray} {v : Pv} (h : rCd ⟨has, want, col, v⟩ = true) : (cdenc has want col v).length ≤ 50 := by
  unfold rCd at h
  unfold cdenc
  cases has with
  | false => simp
  | true =>
    simp at h
    have hsz := pname_size h.1
    cases want with
    | false =>
      simp only [if_true, Bool.false_eq_true, if_false, List.length_append, List.length_singleton, be_length, sbs_length]
      omega
    | true =>
      have h2 := h.2
      simp at h2
      have := penc_len h2
      simp only [if_true, List.length_append, List.length_singleton, be_length, sbs_length]
      omega
theorem cencs_len : ∀ {l : List Pchg}, (∀ c ∈ l, cRight c = 0) → ((l.map cenc).flatten).length ≤ l.length * 50
  | [], _ => by simp
  | c :: l, h => by
    have h1 := cenc_len (h c (by simp))
    have h2 := cencs_len (l := l) (fun x hx => h x (by simp [hx]))
    rw [List.map_cons, List.flatten_cons, List.length_append, List.length_cons, Nat.succ_mul]
    omega

set_option maxRecDepth 100000 in
set_option maxHeartbeats 16000000 in
theorem cwriteOp_w (W w : World) (p : Nat) (a : Option Nat) (bs : List Nat) (c : List Value) (o : Pop) (h : OpC W c o) (hS : WrS W w p a bs) (hb : bs.length ≤ 10) (hr : rOp o = true) :
    Calls Tryz.prog 99 #[.pointer (some ⟨p, 0, none⟩), .agg c.toArray] w fun e w' => e = .returned (.tuple #[]) ∧ ∃ a', WrS2 W w a w' p a' (bs ++ encOp o) := by
  obtain ⟨ca, cn, cc, la, ln, lc, rfl, hV, hL, hln⟩ := h
  have ma : Moves [] w (w.alloc (.cells #[.int .i64 o.kind, .string o.row, .string o.hi, .bool o.cd.has, .bool o.cd.want, .string o.cd.col, .int .i64 o.cd.v.kind, .slice ca cn cc, .float .f64 o.cd.v.n, .slice la ln lc, .int .i64 o.most] 32)) := (Moves.refl [] w).alloc _
  have hbox := heap_alloc_new w (.cells #[.int .i64 o.kind, .string o.row, .string o.hi, .bool o.cd.has, .bool o.cd.want, .string o.cd.col, .int .i64 o.cd.v.kind, .slice ca cn cc, .float .f64 o.cd.v.n, .slice la ln lc, .int .i64 o.most] 32)
  have hPn : w.heap.size ∉ p :: a.toList := zne hS.wr (Nat.le_refl _)
  obtain ⟨P0, hP0⟩ : ∃ P0, w.heap.size = P0 := ⟨_, rfl⟩
  rw [hP0] at hbox hPn
  have S0 := (WrS2.start hS).after ma
  obtain ⟨w0, hw0⟩ : ∃ w0, w.alloc (.cells #[.int .i64 o.kind, .string o.row, .string o.hi, .bool o.cd.has, .bool o.cd.want, .string o.cd.col, .int .i64 o.cd.v.kind, .slice ca cn cc, .float .f64 o.cd.v.n, .slice la ln lc, .int .i64 o.most] 32) = w0 := ⟨_, rfl⟩
  rw [hw0] at S0 hbox ma
  have HS0 : Hid _ := S0
  have HBX : Hid _ := hbox
  have HPN : Hid _ := hPn
  obtain ⟨y0, y1, y2, y3, y4, y5, y6, y7, y8, y9, y10⟩ := eleven_cells hbox
  have hk3 : o.kind = 1 ∨ o.kind = 2 ∨ o.kind = 3 := by
    unfold rOp at hr
    by_cases k1 : o.kind = 1
    · exact .inl k1
    · by_cases k2 : o.kind = 2
      · exact .inr (.inl k2)
      · by_cases k3 : o.kind = 3
        · exact .inr (.inr k3)
        · rw [if_neg k1, if_neg k2, if_neg k3] at hr
          simp at hr
  have hrow : o.row.size ≤ 16 := by
    unfold rOp at hr
    rcases hk3 with k | k | k
    · rw [if_pos k] at hr; have := pname_size hr; omega
    · rw [if_neg (by omega), if_pos k] at hr
      simp only [Bool.and_eq_true] at hr
      have := pname_size hr.1.1
      omega
    · rw [if_neg (by omega), if_neg (by omega), if_pos k] at hr
      simp only [Bool.and_eq_true] at hr
      exact (spR_size hr.1).1
  obtain ⟨kn, hkn⟩ : ∃ n : Nat, o.kind = (n : Int) := ⟨o.kind.toNat, by omega⟩
  have HKN : Hid (o.kind = (kn : Int)) := hkn
  have HRW : Hid (o.row.size ≤ 16) := hrow
  have HV : Hid _ := hV
  have HL : Hid (ChgsAt W la o.l) := hL
  have HLN : Hid (ln = o.l.length) := hln
  have u0 : IntKind.u8.wrap o.kind = o.kind := by rw [wrap_u8]; omega
  clear hV hL hln S0 hbox hPn hS hkn hrow
  rcases hk3 with k1 | k2 | k3
  · have n2 : (o.kind == 2) = false := beq_eq_false_iff_ne.2 (by omega)
    have n3 : (o.kind == 3) = false := beq_eq_false_iff_ne.2 (by omega)
    have HK : Hid (o.kind = 1) := k1
    clear k1 hr
    have hc := wbyte_w p a bs kn o.kind HKN.out w0 HS0.out.wr (by omega)
    go_enter Tryz.func99, Tryz.ntmps99
    go_wp2_with fail
    refine hc.mono ?_
    rintro _ w1 ⟨rfl, a1, hW1⟩
    have S1 := HS0.out.wrote hW1
    have bx1 := hW1.2.1.at HBX.out HPN.out
    have hP1 : P0 ∉ p :: a1.toList := hW1.keep HPN.out (lt_of_block HBX.out)
    obtain ⟨q0, q1, q2, q3, q4, q5, q6, q7, q8, q9, q10⟩ := eleven_cells bx1
    obtain ⟨g2, cap2, w2, hrun2, hB2, m2, hg2⟩ := zbytes_run w1 o.row
    have S2 := S1.after m2
    have hc2 := wtext_any p a1 (bs ++ [kn]) (zbs o.row) g2 _ w2 S2.wr (by rw [List.length_append, List.length_singleton]; omega) hB2 (by rw [zbs_length]; have := HRW.out; omega) (zne S1.wr hg2)
    have HS2 : Hid _ := S2
    have HB2 : Hid _ := m2.at bx1 (by simp)
    clear hc S1 S2 hW1 bx1 hB2 m2
    go_wp2_with fail
    refine hc2.mono ?_
    rintro _ w3 ⟨rfl, a3, hW3⟩
    obtain ⟨D, hD⟩ : ∃ D, bs ++ [kn] ++ be 4 (zbs o.row).length ++ zbs o.row = D := ⟨_, rfl⟩
    have hDl : D.length ≤ 100 := by rw [← hD, List.length_append, List.length_append, List.length_append, List.length_singleton, be_length, zbs_length]; have := HRW.out; omega
    have HDD : Hid (D = bs ++ [kn] ++ encX o.row) := by unfold Hid; rw [← hD]; unfold encX; rw [zbs_length]; simp
    rw [hD] at hW3
    have S3 := HS2.out.wrote hW3
    have bx3 := hW3.2.1.at HB2.out hP1
    have HP3 : Hid (P0 ∉ p :: a3.toList) := hW3.keep hP1 (lt_of_block HB2.out)
    have HS3 : Hid (WrS2 W w a w3 p a3 D) := S3
    have HBX3 : Hid _ := bx3
    obtain ⟨d0, d1, d2, d3, d4, d5, d6, d7, d8, d9, d10⟩ := eleven_cells bx3
    clear hc2 hrun2 S3 hW3 bx3 hD q0 q1 q2 q3 q4 q5 q6 q7 q8 q9 q10 HS2 HB2
    go_wp2_with fail
    go_end0
    refine ⟨rfl, a3, ?_⟩
    have e : bs ++ encOp o = D := by unfold encOp; rw [HDD.out, if_neg (by have := HK.out; omega), if_neg (by have := HK.out; omega), HKN.out]; simp
    rw [e]
    exact HS3.out
  · have n2 : (o.kind == 2) = true := beq_iff_eq.2 k2
    have HK : Hid (o.kind = 2) := k2
    unfold rOp at hr
    rw [if_neg (by omega), if_pos k2] at hr
    simp only [Bool.and_eq_true] at hr
    obtain ⟨⟨_, r2⟩, r3⟩ := hr
    unfold rChs at r3
    rw [Bool.and_eq_true, wi_iff] at r3
    have hl8 : o.l.length ≤ 8 := by omega
    have HRX : Hid (∀ x ∈ o.l, cRight x = 0) := fun x hx => of_decide_eq_true (List.all_eq_true.1 r3.2 x hx)
    have hcol : o.cd.has = true → o.cd.col.size ≤ 16 := fun hh => by
      unfold rCd at r2
      rw [hh] at r2
      simp at r2
      exact pname_size r2.1
    have hcdl := cdenc_len (has := o.cd.has) (want := o.cd.want) (col := o.cd.col) (v := o.cd.v) r2
    have HCO : Hid _ := hcol
    have hln8 : ln ≤ 8 := by have := HLN.out; omega
    clear k2 r2 r3 hcol
    have hc := wbyte_w p a bs kn o.kind HKN.out w0 HS0.out.wr (by omega)
    go_enter Tryz.func99, Tryz.ntmps99
    go_wp2_with fail
    refine hc.mono ?_
    rintro _ w1 ⟨rfl, a1, hW1⟩
    have S1 := HS0.out.wrote hW1
    have bx1 := hW1.2.1.at HBX.out HPN.out
    have hP1 : P0 ∉ p :: a1.toList := hW1.keep HPN.out (lt_of_block HBX.out)
    obtain ⟨q0, q1, q2, q3, q4, q5, q6, q7, q8, q9, q10⟩ := eleven_cells bx1
    obtain ⟨g2, cap2, w2, hrun2, hB2, m2, hg2⟩ := zbytes_run w1 o.row
    have S2 := S1.after m2
    have hc2 := wtext_any p a1 (bs ++ [kn]) (zbs o.row) g2 _ w2 S2.wr (by rw [List.length_append, List.length_singleton]; omega) hB2 (by rw [zbs_length]; have := HRW.out; omega) (zne S1.wr hg2)
    have HS2 : Hid _ := S2
    have HB2 : Hid _ := m2.at bx1 (by simp)
    clear hc S1 S2 hW1 bx1 hB2 m2
    go_wp2_with fail
    refine hc2.mono ?_
    rintro _ w3 ⟨rfl, a3, hW3⟩
    obtain ⟨D, hD⟩ : ∃ D, bs ++ [kn] ++ be 4 (zbs o.row).length ++ zbs o.row = D := ⟨_, rfl⟩
    have hDl : D.length ≤ 100 := by rw [← hD, List.length_append, List.length_append, List.length_append, List.length_singleton, be_length, zbs_length]; have := HRW.out; omega
    have HDD : Hid (D = bs ++ [kn] ++ encX o.row) := by unfold Hid; rw [← hD]; unfold encX; rw [zbs_length]; simp
    rw [hD] at hW3
    have S3 := HS2.out.wrote hW3
    have bx3 := hW3.2.1.at HB2.out hP1
    have HP3 : Hid (P0 ∉ p :: a3.toList) := hW3.keep hP1 (lt_of_block HB2.out)
    have HS3 : Hid (WrS2 W w a w3 p a3 D) := S3
    have HBX3 : Hid _ := bx3
    obtain ⟨d0, d1, d2, d3, d4, d5, d6, d7, d8, d9, d10⟩ := eleven_cells bx3
    clear hc2 hrun2 S3 hW3 bx3 hD q0 q1 q2 q3 q4 q5 q6 q7 q8 q9 q10 HS2 HB2
    have hc := condWriteF_w W w3 p a3 D o.cd.has o.cd.want o.cd.col o.cd.v ca cn cc HV.out HCO.out HS3.out.s (by omega)
    obtain ⟨C, hC⟩ : ∃ C, cdenc o.cd.has o.cd.want o.cd.col o.cd.v = C := ⟨_, rfl⟩
    rw [hC] at hc hcdl
    have HC : Hid (cdenc o.cd.has o.cd.want o.cd.col o.cd.v = C) := hC
    clear hC
    go_wp2_with fail
    refine hc.mono ?_
    rintro _ w4 ⟨rfl, a4, hW4⟩
    have S4 := HS3.out.wrote hW4.t
    have bx4 := hW4.t.2.1.at HBX3.out HP3.out
    have HP4 : Hid (P0 ∉ p :: a4.toList) := hW4.t.keep HP3.out (lt_of_block HBX3.out)
    have HS4 : Hid (WrS2 W w a w4 p a4 (D ++ C)) := S4
    have HBX4 : Hid _ := bx4
    have f9 := (eleven_cells bx4).2.2.2.2.2.2.2.2.2.1
    have u5 : IntKind.u8.wrap (ln : Int) = (ln : Int) := by rw [wrap_u8]; omega
    clear hc S4 hW4 bx4 d0 d1 d2 d3 d4 d5 d6 d7 d8 d9 d10 HBX3 HS3
    have hc := wbyte_w p a4 (D ++ C) ln (ln : Int) rfl w4 HS4.out.wr (by rw [List.length_append]; omega)
    go_wp2_with fail
    refine hc.mono ?_
    rintro _ w5 ⟨rfl, a5, hW5⟩
    obtain ⟨E1, hE1⟩ : ∃ E1, D ++ C ++ [ln] = E1 := ⟨_, rfl⟩
    have hE1l : E1.length ≤ 200 := by rw [← hE1, List.length_append, List.length_append, List.length_singleton]; omega
    have HE1 : Hid (D ++ C ++ [ln] = E1) := hE1
    rw [hE1] at hW5
    have HS5 : Hid (WrS2 W w a w5 p a5 E1) := HS4.out.wrote hW5
    have j9 := (eleven_cells (hW5.2.1.at HBX4.out HP4.out)).2.2.2.2.2.2.2.2.2.1
    clear hc hW5 hE1 f9 HBX4 HS4
    go_wp2_with fail
    go_loopw [33] (fun iv wr => ∃ (k : Nat) (a' : Option Nat), k ≤ ln ∧ iv = .int .i64 (k : Int) ∧ WrS2 W w a wr p a' (E1 ++ ((o.l.take k).map cenc).flatten)) (fun iv _ => (ln - intOf iv).toNat)
    case atStart => exact ⟨0, a5, Nat.zero_le _, rfl, by simpa using HS5.out⟩
    case round =>
      obtain ⟨k, a6', hk, rfl, hS6⟩ := hrel
      have hlen : (((o.l.take k).map cenc).flatten).length ≤ 400 := by
        have h1 := cencs_len (l := o.l.take k) (fun x hx => HRX.out x (List.mem_of_mem_take hx))
        rw [List.length_take] at h1
        omega
      by_cases hlt : k < ln
      · have hk3 : (k : Int) < ln := by omega
        obtain ⟨x, hx⟩ : ∃ x, o.l[k]? = some x := ⟨_, List.getElem?_eq_getElem (by have := HLN.out; omega)⟩
        obtain ⟨g6, off6, a6, n6, c6, rfl, z0, z1, z2, z3, z4, z5, hv6⟩ := HL.out k x hx
        have M6 := hS6.moves
        have t0 := M6.cell z0
        have t1 := M6.cell z1
        have t2 := M6.cell z2
        have t3 := M6.cell z3
        have t4 := M6.cell z4
        have t5 := M6.cell z5
        obtain ⟨F, hF⟩ : ∃ F, E1 ++ ((o.l.take k).map cenc).flatten = F := ⟨_, rfl⟩
        have hFl : F.length ≤ 900000 := by rw [← hF, List.length_append]; omega
        have HF : Hid (F ++ cenc x = E1 ++ ((o.l.take (k + 1)).map cenc).flatten) := by
          unfold Hid
          rw [← hF, List.take_add_one, hx]
          simp
        rw [hF] at hS6
        have mb : Moves [] wr (wr.alloc (.cells #[.int .i64 x.kind, .string x.col, .int .i64 x.t, .int .i64 x.v.kind, .slice a6 n6 c6, .float .f64 x.v.n] 27)) := (Moves.refl [] wr).alloc _
        have S7 := hS6.after mb
        have hc := chgWriteF_w W (wr.alloc (.cells #[.int .i64 x.kind, .string x.col, .int .i64 x.t, .int .i64 x.v.kind, .slice a6 n6 c6, .float .f64 x.v.n] 27)) p a6' F x a6 n6 c6 hv6 (HRX.out x (List.mem_of_getElem? hx)) S7.s hFl
        have HS7 : Hid _ := S7
        clear z0 z1 z2 z3 z4 z5 hv6 hx hF S7 hS6 M6 mb
        go_wp2_with fail
        refine hc.mono ?_
        rintro _ w8 ⟨rfl, a8, hW8⟩
        have S8 := HS7.out.wrote hW8.t
        rw [HF.out] at S8
        have HS8 : Hid _ := S8
        clear hc S8 hW8 HS7
        go_wp2_with fail
        go_roundw
        case rel => exact ⟨k + 1, a8, by omega, by go_num, HS8.out⟩
        case measure => simp [intOf]; omega
      · have hk3 : ¬ (k : Int) < ln := by omega
        have HFIN : Hid (bs ++ encOp o = E1 ++ ((o.l.take k).map cenc).flatten) := by
          unfold Hid encOp
          have e : o.l.take k = o.l := List.take_of_length_le (by have := HLN.out; omega)
          rw [e, ← HE1.out, HDD.out, ← HC.out, if_pos HK.out, HKN.out, HLN.out]
          simp
        have HS6 : Hid _ := hS6
        clear hS6
        go_wp2_with fail
        go_end0
        exact ⟨rfl, a6', by rw [HFIN.out]; exact HS6.out⟩
  · have n2 : (o.kind == 2) = false := beq_eq_false_iff_ne.2 (by omega)
    have n3 : (o.kind == 3) = true := beq_iff_eq.2 k3
    have HK : Hid (o.kind = 3) := k3
    unfold rOp at hr
    rw [if_neg (by omega), if_neg (by omega), if_pos k3] at hr
    rw [Bool.and_eq_true, wi_iff] at hr
    have hhi := (spR_size hr.1).2
    obtain ⟨mn, hmn⟩ : ∃ n : Nat, o.most = (n : Int) := ⟨o.most.toNat, by omega⟩
    have u6 : IntKind.u8.wrap o.most = o.most := by rw [wrap_u8]; omega
    have HMN : Hid (o.most = (mn : Int)) := hmn
    have HHI : Hid (o.hi.size ≤ 16) := hhi
    clear k3 hr hmn hhi
    have hc := wbyte_w p a bs kn o.kind HKN.out w0 HS0.out.wr (by omega)
    go_enter Tryz.func99, Tryz.ntmps99
    go_wp2_with fail
    refine hc.mono ?_
    rintro _ w1 ⟨rfl, a1, hW1⟩
    have S1 := HS0.out.wrote hW1
    have bx1 := hW1.2.1.at HBX.out HPN.out
    have hP1 : P0 ∉ p :: a1.toList := hW1.keep HPN.out (lt_of_block HBX.out)
    obtain ⟨q0, q1, q2, q3, q4, q5, q6, q7, q8, q9, q10⟩ := eleven_cells bx1
    obtain ⟨g2, cap2, w2, hrun2, hB2, m2, hg2⟩ := zbytes_run w1 o.row
    have S2 := S1.after m2
    have hc2 := wtext_any p a1 (bs ++ [kn]) (zbs o.row) g2 _ w2 S2.wr (by rw [List.length_append, List.length_singleton]; omega) hB2 (by rw [zbs_length]; have := HRW.out; omega) (zne S1.wr hg2)
    have HS2 : Hid _ := S2
    have HB2 : Hid _ := m2.at bx1 (by simp)
    clear hc S1 S2 hW1 bx1 hB2 m2
    go_wp2_with fail
    refine hc2.mono ?_
    rintro _ w3 ⟨rfl, a3, hW3⟩
    obtain ⟨D, hD⟩ : ∃ D, bs ++ [kn] ++ be 4 (zbs o.row).length ++ zbs o.row = D := ⟨_, rfl⟩
    have hDl : D.length ≤ 100 := by rw [← hD, List.length_append, List.length_append, List.length_append, List.length_singleton, be_length, zbs_length]; have := HRW.out; omega
    have HDD : Hid (D = bs ++ [kn] ++ encX o.row) := by unfold Hid; rw [← hD]; unfold encX; rw [zbs_length]; simp
    rw [hD] at hW3
    have S3 := HS2.out.wrote hW3
    have bx3 := hW3.2.1.at HB2.out hP1
    have HP3 : Hid (P0 ∉ p :: a3.toList) := hW3.keep hP1 (lt_of_block HB2.out)
    have HS3 : Hid (WrS2 W w a w3 p a3 D) := S3
    have HBX3 : Hid _ := bx3
    obtain ⟨d0, d1, d2, d3, d4, d5, d6, d7, d8, d9, d10⟩ := eleven_cells bx3
    clear hc2 hrun2 S3 hW3 bx3 hD q0 q1 q2 q3 q4 q5 q6 q7 q8 q9 q10 HS2 HB2
    obtain ⟨g4, cap4, w4, hrun4, hB4, m4, hg4⟩ := zbytes_run w3 o.hi
    have S4 := HS3.out.after m4
    have hc := wtext_any p a3 D (zbs o.hi) g4 _ w4 S4.wr (by omega) hB4 (by rw [zbs_length]; have := HHI.out; omega) (zne HS3.out.wr hg4)
    have HS4 : Hid _ := S4
    have HB4 : Hid _ := m4.at HBX3.out (by simp)
    clear S4 hB4 m4
    go_wp2_with fail
    refine hc.mono ?_
    rintro _ w5 ⟨rfl, a5, hW5⟩
    have S5 := HS4.out.wrote hW5
    have f10 := (eleven_cells (hW5.2.1.at HB4.out HP3.out)).2.2.2.2.2.2.2.2.2.2
    have hc2 := wbyte_w p a5 _ mn o.most HMN.out w5 S5.wr (by rw [List.length_append, List.length_append, be_length, zbs_length]; have := HHI.out; omega)
    have HS5 : Hid _ := S5
    clear hc hrun4 S5 hW5 d0 d1 d2 d3 d4 d5 d6 d7 d8 d9 d10
    go_wp2_with fail
    refine hc2.mono ?_
    rintro _ w6 ⟨rfl, a6, hW6⟩
    have HS6 : Hid _ := HS5.out.wrote hW6
    clear hc2 hW6 f10
    go_wp2_with fail
    go_end0
    refine ⟨rfl, a6, ?_⟩
    have e : bs ++ encOp o = D ++ be 4 (zbs o.hi).length ++ zbs o.hi ++ [mn] := by
      unfold encOp
      rw [HDD.out, if_neg (by have := HK.out; omega), if_pos HK.out, HKN.out, HMN.out]
      unfold encX
      rw [zbs_length]
      simp
    rw [e]
    exact HS6.out
end Go.Proofs.YtcamhlnkcoicpaaGreat
