/-
  ChangeConds' walk.
-/
import Derived.Test.YtfegflimnngfaabCMade5
import Derived.Test.YtfegflimnngfaabCKnown5
import Derived.Test.YtfegflimnngfaabCTimes4
namespace Go.Proofs.Ytfegflimnngfaab
open Go.RowKit

theorem va_zero (w : World) : VA w [.int .i64 0, .slice none 0 0, .float .f64 0] ⟨0, [], 0⟩ := ⟨none, 0, 0, 0, rfl, isB_nil _ _, fits_zero, by simp, by simp⟩
theorem psame_left (p q : Pv) : psame (pcanon p) q = psame p q := by
  unfold psame vord Pv.vm pcanon
  simp only [kd_kd]
  rcases kd_cases p.kind with ⟨_, e⟩ | ⟨_, e⟩ | ⟨_, _, e⟩ <;> rw [e] <;> simp
  unfold Pl.ord Pl.rank
  rw [Pl.canon_canon]
theorem conds_plain (R : List Pcol) (p : Pv) (hp : pvr p = true) : ∃ R1, cApplyE R [⟨4, ⟨#[]⟩, 0, ⟨0, [], 0⟩⟩, ⟨1, sC, 7, p⟩] = 0 ∧ cApply R [⟨4, ⟨#[]⟩, 0, ⟨0, [], 0⟩⟩, ⟨1, sC, 7, p⟩] = R1 ∧ pAt R1 sC 1099511627776 = some (pcanon p) ∧ cApplyE R1 [⟨3, sC, 0, ⟨0, [], 0⟩⟩] = 0 ∧ cApply R1 [⟨3, sC, 0, ⟨0, [], 0⟩⟩] = [] := by
  have hs : pname sC = true := by decide
  have ht : ptime 7 = true := by decide
  have r1 : cRight ⟨4, ⟨#[]⟩, 0, ⟨0, [], 0⟩⟩ = 0 := by unfold cRight; rw [if_neg (by simp), if_pos rfl]
  have r2 : cRight ⟨1, sC, 7, p⟩ = 0 := by
    unfold cRight
    rw [if_neg (by simp), if_neg (by simp), if_neg (by simp [hs]), if_neg (by simp), if_neg (by simp [ht]), if_neg (by simp), if_neg (by simp [hp]), if_neg (by simp)]
  have r3 : cRight ⟨3, sC, 0, ⟨0, [], 0⟩⟩ = 0 := by
    unfold cRight
    rw [if_neg (by simp), if_neg (by simp), if_neg (by simp [hs]), if_pos rfl]
  obtain ⟨e1, e2⟩ := pPut_first hs ht hp
  have hl : prightV [⟨7, pcanon p⟩] = true := by rw [prightV_one]; simp [ht, pvr_canon, hp]
  have hL : cListE [⟨4, ⟨#[]⟩, 0, ⟨0, [], 0⟩⟩, ⟨1, sC, 7, p⟩] = 0 := by unfold cListE; simp [r1, r2]
  have hF : cFold [⟨4, ⟨#[]⟩, 0, ⟨0, [], 0⟩⟩, ⟨1, sC, 7, p⟩] (pcopy R) = (0, [⟨sC, [⟨7, pcanon p⟩]⟩]) := by
    rw [cFold_cons, cApE_4 rfl, if_pos rfl, cAp_4 rfl, cFold_cons, cApE_1 rfl, cAp_1 rfl, if_pos e1, cFold_nil]
    exact congrArg _ e2
  refine ⟨[⟨sC, [⟨7, pcanon p⟩]⟩], ?_, ?_, ?_, ?_, ?_⟩
  · unfold cApplyE
    rw [if_pos hL, hF]
  · unfold cApply
    rw [if_pos hL, hF]
  · rw [pAt_single hs hl]
    simp [pcanon_pcanon]
  · exact (apply_one r3 (cApE_3 rfl)).1
  · rw [(apply_one r3 (cApE_3 rfl)).2, cAp_3 rfl, pcopy_single hs hl]
    exact pDropCol_single hs (prightV_canon hl)

set_option maxRecDepth 100000 in
set_option maxHeartbeats 16000000 in
theorem condsLaw_w (u0 u1 u2 : Value) (w : World) (h0 : ChArgs w u0) (h1 : KArg w u1) (h2 : KArg w u2) :
    Calls Try.prog 5 #[u0, u1, u2] w fun e w' => e = .returned (.bool true) ∧ Moves [] w w' := by
  have hmade := fun w1 (m1 : Moves [] w w1) => made5_w w w1 u0 h0 m1
  obtain ⟨adv, nv, cv, rfl, hcv, _⟩ := h0
  have k0 := h1
  have k1 := h2
  obtain ⟨t0, n0, x0, ad0, len0, cap0, gk, bk, rfl, _⟩ := h1.out
  obtain ⟨t1, n1, x1, ad1, len1, cap1, gk1, bk1, rfl, _⟩ := h2.out
  clear h1 h2
  obtain ⟨p0, p1, mb⟩ := boxes (Moves.refl [] ((w.alloc (.cells #[.bool t0, .int .i64 n0, .float .f64 x0, .slice ad0 len0 cap0] 45)).alloc (.cells #[.bool t1, .int .i64 n1, .float .f64 x1, .slice ad1 len1 cap1] 45)))
  go_enter Try.func5, Try.ntmps5
  go_wp2_with (go_at_call 6; refine (hmade _ mb).mono ?_; rintro _ wm ⟨adr, nr, capr, R, rfl, hR, _, mm⟩; have HR : Hid (RowAt wm (.agg #[.slice adr nr capr]) R) := hR; clear hR)
  obtain ⟨W1, hW1⟩ : ∃ W1, wm.alloc (.cells #[.slice adr nr capr] 25) = W1 := ⟨_, rfl⟩
  have m3 : Moves [] wm W1 := by rw [← hW1]; exact (Moves.refl _ _).alloc _
  have q3 : W1.heap[wm.heap.size]? = some (.cells #[.slice adr nr capr] 25 (0, 0)) := by rw [← hW1]; exact heap_alloc_new _ _
  rw [hW1]
  obtain ⟨pr, hpr⟩ : ∃ pr, wm.heap.size = pr := ⟨_, rfl⟩
  have hlr : w.heap.size ≤ pr := by rw [← hpr]; exact (mb.then mm).size
  rw [hpr] at q3 ⊢
  have M1 := (mb.then mm).then m3
  replace p0 := (mm.then m3).at p0 (by simp)
  replace p1 := (mm.then m3).at p1 (by simp)
  have HR1 : Hid (RowAt W1 (.agg #[.slice adr nr capr]) R) := HR.out.moves m3
  clear hW1 hpr hmade HR mm m3 mb
  refine par2_wp (by kernel_rfl) (F := fun _ => 17) (S := fun j => 4 + j) (L := fun j => 13 + 2 * j) (C := fun j => 14 + 2 * j) (D := fun j => 8 + j) (tv := 45) (T := 35) (Z := #[.int .i64 0, .slice none 0 0, .float .f64 0]) (B := fun j => w.heap.size + j)
    (scs := fun j => match j with | 0 => #[.bool t0, .int .i64 n0, .float .f64 x0, .slice ad0 len0 cap0] | _ => #[.bool t1, .int .i64 n1, .float .f64 x1, .slice ad1 len1 cap1]) (R := fun _ => Drew w) (W := W1) ?_ (Moves.refl _ _) ?_
  · refine ⟨rfl, by kernel_rfl, by kernel_rfl, ?_, ?_, ?_, ?_, ?_, ?_, ?_, ?_, ?_, ⟨_, Try.underlying45⟩, fun _ _ _ _ => rfl, fun _ => rfl, by kernel_rfl, ?_⟩
    · intro j hj; simp; omega
    · intro j k hj hk; omega
    · intro j k hj hk hne; omega
    · intro j k hj hk; omega
    · intro j hj; match j, hj with | 0, _ => exact ⟨_, rfl, rfl, rfl, rfl⟩ | 1, _ => exact ⟨_, rfl, rfl, rfl, rfl⟩
    · intro j hj; match j, hj with | 0, _ => exact ⟨_, _, rfl, rfl, rfl, rfl⟩ | 1, _ => exact ⟨_, _, rfl, rfl, rfl, rfl⟩
    · intro j hj; match j, hj with | 0, _ => exact ⟨_, rfl, rfl, rfl, rfl⟩ | 1, _ => exact ⟨_, rfl, rfl, rfl, rfl⟩
    · intro j hj; match j, hj with | 0, _ => exact ⟨_, rfl, rfl, rfl, rfl⟩ | 1, _ => exact ⟨_, rfl, rfl, rfl, rfl⟩
    · intro j hj; match j, hj with | 0, _ => exact ⟨rfl, p0, by kernel_rfl⟩ | 1, _ => exact ⟨rfl, p1, by kernel_rfl⟩
    · intro j hj w' _; match j, hj with | 0, _ => exact drew_b w w' _ k0 | 1, _ => exact drew_b w w' _ k1
  clear k0 k1 p0 p1
  rintro l0 c0 l1 c1 q0 q1 cs0 cs1 w2 m2 ⟨A, adA, lenA, capA, rfl, hA, yA⟩ z0 b0 ⟨B, adB, lenB, capB, rfl, hB, yB⟩ z1 b1
  have HA0 : Hid (VA w [.int .i64 A.kind, .slice adA lenA capA, .float .f64 A.n] A.pv) := hA.va (by have := yA.len16; omega)
  have HB0 : Hid (VA w [.int .i64 B.kind, .slice adB lenB capB, .float .f64 B.n] B.pv) := hB.va (by have := yB.len16; omega)
  obtain ⟨R1, hE1, hR1, hN1, hE2, hR2⟩ := conds_plain R A.pv yA.right
  simp only [List.setIfInBounds_toArray, List.set_cons_zero, List.set_cons_succ]
  have qr := m2.at q3 (by simp)
  have HR2 : Hid (RowAt w2 (.agg #[.slice adr nr capr]) R) := HR1.out.moves m2
  have M2 : Moves [] w w2 := M1.then m2
  have HA : Hid (VA w2 [.int .i64 A.kind, .slice adA lenA capA, .float .f64 A.n] A.pv) := HA0.out.moves M2
  have hlt : pr < W1.heap.size := lt_of_block q3
  obtain ⟨c00, c01, c02, _, _, _⟩ := three_cells b0
  obtain ⟨r0, r1⟩ := one_cell qr
  have hA1 : Calls Try.prog 8 #[.agg #[.slice adr nr capr], .slice (some ⟨w2.heap.size, 0, none⟩) 2 2] (w2.alloc (.cells #[.int .i64 4, .string ⟨#[]⟩, .int .i64 0, .int .i64 0, .slice none 0 0, .float .f64 0, .int .i64 1, .string ⟨#[99]⟩, .int .i64 7, .int .i64 A.kind, .slice adA lenA capA, .float .f64 A.n] 37)) (fun e w' => ∃ ad n cap, e = .returned (.tuple #[.agg #[.slice ad n cap], .int .i64 0]) ∧ ColsAt w' (.slice ad n cap) R1 ∧ Moves [] (w2.alloc (.cells #[.int .i64 4, .string ⟨#[]⟩, .int .i64 0, .int .i64 0, .slice none 0 0, .float .f64 0, .int .i64 1, .string ⟨#[99]⟩, .int .i64 7, .int .i64 A.kind, .slice adA lenA capA, .float .f64 A.n] 37)) w') := by
    have h := cApply_w (w2.alloc (.cells #[.int .i64 4, .string ⟨#[]⟩, .int .i64 0, .int .i64 0, .slice none 0 0, .float .f64 0, .int .i64 1, .string ⟨#[99]⟩, .int .i64 7, .int .i64 A.kind, .slice adA lenA capA, .float .f64 A.n] 37)) (w2.alloc (.cells #[.int .i64 4, .string ⟨#[]⟩, .int .i64 0, .int .i64 0, .slice none 0 0, .float .f64 0, .int .i64 1, .string ⟨#[99]⟩, .int .i64 7, .int .i64 A.kind, .slice adA lenA capA, .float .f64 A.n] 37)) (.agg #[.slice adr nr capr]) R (some ⟨w2.heap.size, 0, none⟩) 2 2 [⟨4, ⟨#[]⟩, 0, ⟨0, [], 0⟩⟩, ⟨1, sC, 7, A.pv⟩] (HR2.out.moves ((Moves.refl _ _).alloc _)) (chgs_two w2 ⟨4, ⟨#[]⟩, 0, ⟨0, [], 0⟩⟩ ⟨1, sC, 7, A.pv⟩ none adA 0 0 lenA capA (va_zero _) HA.out) rfl (by decide) (Moves.refl _ _)
    rw [hE1, hR1] at h
    exact h
  have mch : Moves [] w2 (w2.alloc (.cells #[.int .i64 4, .string ⟨#[]⟩, .int .i64 0, .int .i64 0, .slice none 0 0, .float .f64 0, .int .i64 1, .string ⟨#[99]⟩, .int .i64 7, .int .i64 A.kind, .slice adA lenA capA, .float .f64 A.n] 37)) := (Moves.refl _ _).alloc _
  have HH1 : Hid (cHolds R1 true true sC A.pv = true) := by
    unfold Hid cHolds
    rw [if_pos rfl, if_pos rfl, hN1]
    exact psame_canon _
  have HH2 : Hid (cHolds R1 true false sC ⟨0, [], 0⟩ = false) := by
    unfold Hid cHolds
    rw [if_pos rfl, if_neg (by simp), hN1]
    rfl
  have HH3 : Hid (cHolds R1 true true sC B.pv = psame A.pv B.pv) := by
    unfold Hid cHolds
    rw [if_pos rfl, if_pos rfl, hN1]
    exact psame_left _ _
  have HE2 : Hid (cApplyE R1 [⟨3, sC, 0, ⟨0, [], 0⟩⟩] = 0) := hE2
  have HR2' : Hid (cApply R1 [⟨3, sC, 0, ⟨0, [], 0⟩⟩] = []) := hR2
  clear hE1 hR1 hN1 hE2 hR2 hA hB yA yB z0 z1
  go_wp2_with (go_at_call 8; refine hA1.mono ?_; rintro _ w4 ⟨ad4, n4, cap4, rfl, hc4, m4⟩; have HC4 : Hid (RowAt w4 (.agg #[.slice ad4 n4 cap4]) R1) := ⟨_, rfl, hc4⟩; clear hc4; have qr4 := (mch.then m4).at qr (by simp); obtain ⟨f0, f1⟩ := one_cell qr4)
  obtain ⟨ws, hws⟩ : ∃ ws, w4.setCell ⟨pr, 0, none⟩ (.slice ad4 n4 cap4) = ws := ⟨_, rfl⟩
  have qs : ws.heap[pr]? = some (.cells #[.slice ad4 n4 cap4] 25 (0, 0)) := by rw [← hws]; exact set_one qr4 _
  have HRs : Hid (RowAt ws (.agg #[.slice ad4 n4 cap4]) R1) := by rw [← hws]; exact HC4.out.setRow qr4 _
  have hmv : Moves [pr] w4 ws := by rw [← hws]; exact moves_set _ _ _ _
  have MW : Hid (Moves [] w ws) := by rw [← hws]; exact (M2.then (mch.then m4)).setCell (.inr hlr) _
  have n0' : ¬ q0 = pr := fun h => by rw [h, qr] at b0; simp at b0
  have n1' : ¬ q1 = pr := fun h => by rw [h, qr] at b1; simp at b1
  have b0s := hmv.at ((mch.then m4).at b0 (by simp)) (by simpa using n0')
  have b1s := hmv.at ((mch.then m4).at b1 (by simp)) (by simpa using n1')
  have HAs : Hid (VA ws [.int .i64 A.kind, .slice adA lenA capA, .float .f64 A.n] A.pv) := HA0.out.moves MW.out
  have HBs : Hid (VA ws [.int .i64 B.kind, .slice adB lenB capB, .float .f64 B.n] B.pv) := HB0.out.moves MW.out
  rw [hws]
  obtain ⟨s0, _⟩ := one_cell qs
  obtain ⟨a0, a1, a2, _⟩ := three_cells b0s
  obtain ⟨e0, e1, e2, _⟩ := three_cells b1s
  have hS : ∀ w', Moves [] ws w' → ((fun w' => w'.cell? ⟨pr, 0, none⟩ = some (.slice ad4 n4 cap4) ∧ w'.cell? ⟨q0, 0, none⟩ = some (.int .i64 A.kind) ∧ w'.cell? ⟨q0, 1, none⟩ = some (.slice adA lenA capA) ∧ w'.cell? ⟨q0, 2, none⟩ = some (.float .f64 A.n) ∧ w'.cell? ⟨q1, 0, none⟩ = some (.int .i64 B.kind) ∧ w'.cell? ⟨q1, 1, none⟩ = some (.slice adB lenB capB) ∧ w'.cell? ⟨q1, 2, none⟩ = some (.float .f64 B.n)) w') := fun w' m' => ⟨m'.cell s0, m'.cell a0, m'.cell a1, m'.cell a2, m'.cell e0, m'.cell e1, m'.cell e2⟩
  have mW : Moves [] ws ws.drew := (Moves.refl _ _).drew
  clear hws hmv HA b0 b1 hA1 mch m4 HC4 qr4 f0 f1 r0 r1 c00 c01 c02 M2 M1 m2 q3 qr HR1 HR2
  refine wp_some [28, 29, 30, 31, 32, 33, 34, 35, 36, 37, 38, 39, 40, 41, 42, 43, 44, 45, 46, 47] (fun u w' => u 47 = .bool false ∧ Moves [] ws w') ?_ ?_
  · refine wp_region_noPanic ?_
    refine wp_region_held_drew (S := (fun w' => w'.cell? ⟨pr, 0, none⟩ = some (.slice ad4 n4 cap4) ∧ w'.cell? ⟨q0, 0, none⟩ = some (.int .i64 A.kind) ∧ w'.cell? ⟨q0, 1, none⟩ = some (.slice adA lenA capA) ∧ w'.cell? ⟨q0, 2, none⟩ = some (.float .f64 A.n) ∧ w'.cell? ⟨q1, 0, none⟩ = some (.int .i64 B.kind) ∧ w'.cell? ⟨q1, 1, none⟩ = some (.slice adB lenB capB) ∧ w'.cell? ⟨q1, 2, none⟩ = some (.float .f64 B.n))) (by kernel_rfl) ?_ (fun hHeld => ?_)
    · first | (go_keep; done) | exact hS _ mW
    refine wpAnyH_take (i := 0) (oi := { dst := some 28, op := Op.load 25 (Operand.tmp 7), type := 25, pos := "law.go:197", after := #[], guard := none }) (v := ?_) rfl (by kernel_rfl) (by kernel_rfl) (by kernel_rfl) (fun _ _ _ h => h) (Or.inl ⟨by rfl, ?_⟩) (by assumption) ?_
    rotate_left
    · (intro w hSw; (try dsimp only at hSw); go_simp; try (with_reducible rfl))
    try simp only [Act.put, List.setIfInBounds_toArray, List.set_cons_zero, List.set_cons_succ]
    refine wpAnyH_take (i := 1) (oi := { dst := some 29, op := Op.load 35 (Operand.tmp 8), type := 35, pos := "law.go:197", after := #[], guard := none }) (v := ?_) rfl (by kernel_rfl) (by kernel_rfl) (by kernel_rfl) (fun _ _ _ h => h) (Or.inl ⟨by rfl, ?_⟩) (by assumption) ?_
    rotate_left
    · (intro w hSw; (try dsimp only at hSw); go_simp; try (with_reducible rfl))
    try simp only [Act.put, List.setIfInBounds_toArray, List.set_cons_zero, List.set_cons_succ]
    refine wpAnyH_take (i := 2) (oi := { dst := some 30, op := Op.build 56 #[(0, Operand.const (Value.bool true)), (1, Operand.const (Value.bool true)), (2, Operand.const (Value.string { data := #[99] })), (3, Operand.tmp 29)], type := 56, pos := "law.go:197", after := #[{ on := 1, ground := Ground.data }], guard := none }) (v := ?_) rfl (by kernel_rfl) (by kernel_rfl) (by kernel_rfl) (fun _ _ _ h => h) (Or.inl ⟨by rfl, ?_⟩) (by assumption) ?_
    rotate_left
    · (intro w hSw; (try dsimp only at hSw); go_simp; try (with_reducible rfl))
    try simp only [Act.put, List.setIfInBounds_toArray, List.set_cons_zero, List.set_cons_succ]
    refine wpAnyH_ready (rs := [3]) (by kernel_rfl) (by simp) ?_
    refine AllReadyH.cons (o := { dst := some 31, op := Op.call { callee := Callee.value (Operand.func 18), args := #[Operand.tmp 28, Operand.tmp 30], argTypes := #[25, 56] }, type := 4, pos := "law.go:197", after := #[{ on := 0, ground := Ground.data }, { on := 2, ground := Ground.data }], guard := none }) rfl (fun K hK => ?_) AllReadyH.nil
    go_simp
    go_at_call 18
    refine (cHolds_w ws _ _ R1 true true sC _ _ _ _ _ A.pv HRs.out HAs.out mW).mono ?_
    rintro _ w103 ⟨rfl, m103⟩
    rw [HH1.out]
    replace mW := mW.then m103
    refine hK.out _ _ ?_ (fun hHeld => ?_)
    · exact hS _ mW
    clear hK K
    try simp only [Act.put, List.setIfInBounds_toArray, List.set_cons_zero, List.set_cons_succ]
    refine wpAnyH_take (i := 4) (oi := { dst := some 32, op := Op.unOp UnOp.not 4 (Operand.tmp 31), type := 4, pos := "law.go:197", after := #[{ on := 3, ground := Ground.data }], guard := none }) (v := ?_) rfl (by kernel_rfl) (by kernel_rfl) (by kernel_rfl) (fun _ _ _ h => h) (Or.inl ⟨by rfl, ?_⟩) (by assumption) ?_
    rotate_left
    · (intro w hSw; (try dsimp only at hSw); go_simp; try (with_reducible rfl))
    try simp only [Act.put, List.setIfInBounds_toArray, List.set_cons_zero, List.set_cons_succ]
    refine wpAnyH_take (i := 5) (oi := { dst := some 33, op := Op.move (Operand.tmp 32), type := 4, pos := "law.go:197", after := #[{ on := 4, ground := Ground.data }, { on := 3, ground := Ground.chain }], guard := none }) (v := ?_) rfl (by kernel_rfl) (by kernel_rfl) (by kernel_rfl) (fun _ _ _ h => h) (Or.inl ⟨by rfl, ?_⟩) (by assumption) ?_
    rotate_left
    · (intro w hSw; (try dsimp only at hSw); go_simp; try (with_reducible rfl))
    try simp only [Act.put, List.setIfInBounds_toArray, List.set_cons_zero, List.set_cons_succ]
    refine wpAnyH_take (i := 6) (oi := { dst := some 34, op := Op.load 25 (Operand.tmp 7), type := 25, pos := "law.go:197", after := #[{ on := 5, ground := Ground.guard }], guard := some (5, false) }) (v := ?_) rfl (by kernel_rfl) (by kernel_rfl) (by kernel_rfl) (fun _ _ _ h => h) (Or.inl ⟨by rfl, ?_⟩) (by assumption) ?_
    rotate_left
    · (intro w hSw; (try dsimp only at hSw); go_simp; try (with_reducible rfl))
    try simp only [Act.put, List.setIfInBounds_toArray, List.set_cons_zero, List.set_cons_succ]
    refine wpAnyH_take (i := 7) (oi := { dst := some 35, op := Op.build 56 #[(0, Operand.const (Value.bool true)), (2, Operand.const (Value.string { data := #[99] }))], type := 56, pos := "law.go:197", after := #[{ on := 5, ground := Ground.guard }], guard := some (5, false) }) (v := ?_) rfl (by kernel_rfl) (by kernel_rfl) (by kernel_rfl) (fun _ _ _ h => h) (Or.inl ⟨by rfl, ?_⟩) (by assumption) ?_
    rotate_left
    · (intro w hSw; (try dsimp only at hSw); go_simp; try (with_reducible rfl))
    try simp only [Act.put, List.setIfInBounds_toArray, List.set_cons_zero, List.set_cons_succ]
    refine wpAnyH_ready (rs := [8]) (by kernel_rfl) (by simp) ?_
    refine AllReadyH.cons (o := { dst := some 36, op := Op.call { callee := Callee.value (Operand.func 18), args := #[Operand.tmp 34, Operand.tmp 35], argTypes := #[25, 56] }, type := 4, pos := "law.go:197", after := #[{ on := 6, ground := Ground.data }, { on := 7, ground := Ground.data }, { on := 5, ground := Ground.chain }, { on := 5, ground := Ground.guard }], guard := some (5, false) }) rfl (fun K hK => ?_) AllReadyH.nil
    go_simp
    go_at_call 18
    refine (cHolds_w ws _ _ R1 true false sC _ _ _ _ _ ⟨0, [], 0⟩ HRs.out (va_zero _) mW).mono ?_
    rintro _ w108 ⟨rfl, m108⟩
    rw [HH2.out]
    replace mW := mW.then m108
    refine hK.out _ _ ?_ (fun hHeld => ?_)
    · exact hS _ mW
    clear hK K
    try simp only [Act.put, List.setIfInBounds_toArray, List.set_cons_zero, List.set_cons_succ]
    refine wpAnyH_take (i := 9) (oi := { dst := some 37, op := Op.pick (Operand.tmp 33) (Operand.const (Value.bool true)) (Operand.tmp 36), type := 4, pos := "law.go:197", after := #[{ on := 5, ground := Ground.data }, { on := 8, ground := Ground.data }], guard := none }) (v := ?_) rfl (by kernel_rfl) (by kernel_rfl) (by kernel_rfl) (fun _ _ _ h => h) (Or.inl ⟨by rfl, ?_⟩) (by assumption) ?_
    rotate_left
    · (intro w hSw; (try dsimp only at hSw); go_simp; try (with_reducible rfl))
    try simp only [Act.put, List.setIfInBounds_toArray, List.set_cons_zero, List.set_cons_succ]
    refine wpAnyH_take (i := 10) (oi := { dst := some 38, op := Op.move (Operand.tmp 37), type := 4, pos := "law.go:197", after := #[{ on := 9, ground := Ground.data }, { on := 8, ground := Ground.chain }], guard := none }) (v := ?_) rfl (by kernel_rfl) (by kernel_rfl) (by kernel_rfl) (fun _ _ _ h => h) (Or.inl ⟨by rfl, ?_⟩) (by assumption) ?_
    rotate_left
    · (intro w hSw; (try dsimp only at hSw); go_simp; try (with_reducible rfl))
    try simp only [Act.put, List.setIfInBounds_toArray, List.set_cons_zero, List.set_cons_succ]
    refine wpAnyH_take (i := 11) (oi := { dst := some 39, op := Op.load 25 (Operand.tmp 7), type := 25, pos := "law.go:197", after := #[{ on := 10, ground := Ground.guard }], guard := some (10, false) }) (v := ?_) rfl (by kernel_rfl) (by kernel_rfl) (by kernel_rfl) (fun _ _ _ h => h) (Or.inl ⟨by rfl, ?_⟩) (by assumption) ?_
    rotate_left
    · (intro w hSw; (try dsimp only at hSw); go_simp; try (with_reducible rfl))
    try simp only [Act.put, List.setIfInBounds_toArray, List.set_cons_zero, List.set_cons_succ]
    refine wpAnyH_take (i := 12) (oi := { dst := some 40, op := Op.load 35 (Operand.tmp 9), type := 35, pos := "law.go:197", after := #[{ on := 10, ground := Ground.guard }], guard := some (10, false) }) (v := ?_) rfl (by kernel_rfl) (by kernel_rfl) (by kernel_rfl) (fun _ _ _ h => h) (Or.inl ⟨by rfl, ?_⟩) (by assumption) ?_
    rotate_left
    · (intro w hSw; (try dsimp only at hSw); go_simp; try (with_reducible rfl))
    try simp only [Act.put, List.setIfInBounds_toArray, List.set_cons_zero, List.set_cons_succ]
    refine wpAnyH_take (i := 13) (oi := { dst := some 41, op := Op.build 56 #[(0, Operand.const (Value.bool true)), (1, Operand.const (Value.bool true)), (2, Operand.const (Value.string { data := #[99] })), (3, Operand.tmp 40)], type := 56, pos := "law.go:197", after := #[{ on := 12, ground := Ground.data }, { on := 10, ground := Ground.guard }], guard := some (10, false) }) (v := ?_) rfl (by kernel_rfl) (by kernel_rfl) (by kernel_rfl) (fun _ _ _ h => h) (Or.inl ⟨by rfl, ?_⟩) (by assumption) ?_
    rotate_left
    · (intro w hSw; (try dsimp only at hSw); go_simp; try (with_reducible rfl))
    try simp only [Act.put, List.setIfInBounds_toArray, List.set_cons_zero, List.set_cons_succ]
    refine wpAnyH_take (i := 15) (oi := { dst := some 43, op := Op.load 35 (Operand.tmp 8), type := 35, pos := "law.go:197", after := #[{ on := 10, ground := Ground.guard }], guard := some (10, false) }) (v := ?_) rfl (by kernel_rfl) (by kernel_rfl) (by kernel_rfl) (fun _ _ _ h => h) (Or.inl ⟨by rfl, ?_⟩) (by assumption) ?_
    rotate_left
    · (intro w hSw; (try dsimp only at hSw); go_simp; try (with_reducible rfl))
    try simp only [Act.put, List.setIfInBounds_toArray, List.set_cons_zero, List.set_cons_succ]
    refine wpAnyH_take (i := 16) (oi := { dst := some 44, op := Op.load 35 (Operand.tmp 9), type := 35, pos := "law.go:197", after := #[{ on := 10, ground := Ground.guard }], guard := some (10, false) }) (v := ?_) rfl (by kernel_rfl) (by kernel_rfl) (by kernel_rfl) (fun _ _ _ h => h) (Or.inl ⟨by rfl, ?_⟩) (by assumption) ?_
    rotate_left
    · (intro w hSw; (try dsimp only at hSw); go_simp; try (with_reducible rfl))
    try simp only [Act.put, List.setIfInBounds_toArray, List.set_cons_zero, List.set_cons_succ]
    refine wpAnyH_ready (rs := [14]) (by kernel_rfl) (by simp) ?_
    refine AllReadyH.cons (o := { dst := some 42, op := Op.call { callee := Callee.value (Operand.func 18), args := #[Operand.tmp 39, Operand.tmp 41], argTypes := #[25, 56] }, type := 4, pos := "law.go:197", after := #[{ on := 11, ground := Ground.data }, { on := 13, ground := Ground.data }, { on := 10, ground := Ground.chain }, { on := 10, ground := Ground.guard }], guard := some (10, false) }) rfl (fun K hK => ?_) AllReadyH.nil
    go_simp
    go_at_call 18
    refine (cHolds_w ws _ _ R1 true true sC _ _ _ _ _ B.pv HRs.out HBs.out mW).mono ?_
    rintro _ w114 ⟨rfl, m114⟩
    rw [HH3.out]
    replace mW := mW.then m114
    refine hK.out _ _ ?_ (fun hHeld => ?_)
    · exact hS _ mW
    clear hK K
    try simp only [Act.put, List.setIfInBounds_toArray, List.set_cons_zero, List.set_cons_succ]
    refine wpAnyH_ready (rs := [17]) (by kernel_rfl) (by simp) ?_
    refine AllReadyH.cons (o := { dst := some 45, op := Op.call { callee := Callee.value (Operand.func 16), args := #[Operand.tmp 43, Operand.tmp 44], argTypes := #[35, 35] }, type := 4, pos := "law.go:197", after := #[{ on := 15, ground := Ground.data }, { on := 16, ground := Ground.data }, { on := 14, ground := Ground.chain }, { on := 10, ground := Ground.guard }], guard := some (10, false) }) rfl (fun K hK => ?_) AllReadyH.nil
    go_simp
    go_at_call 16
    refine (rsame_p ws _ _ _ _ _ _ _ _ _ _ _ A.pv B.pv HAs.out HBs.out mW).mono ?_
    rintro _ w117 ⟨rfl, m117⟩
    replace mW := mW.then m117
    refine hK.out _ _ ?_ (fun hHeld => ?_)
    · exact hS _ mW
    clear hK K
    try simp only [Act.put, List.setIfInBounds_toArray, List.set_cons_zero, List.set_cons_succ]
    refine wpAnyH_take (i := 18) (oi := { dst := some 46, op := Op.binOp BinOp.neq 4 (Operand.tmp 42) (Operand.tmp 45) 4, type := 4, pos := "law.go:197", after := #[{ on := 14, ground := Ground.data }, { on := 17, ground := Ground.data }, { on := 10, ground := Ground.guard }], guard := some (10, false) }) (v := ?_) rfl (by kernel_rfl) (by kernel_rfl) (by kernel_rfl) (fun _ _ _ h => h) (Or.inl ⟨by rfl, ?_⟩) (by assumption) ?_
    rotate_left
    · (intro w hSw; (try dsimp only at hSw); go_simp; try (with_reducible rfl))
    try simp only [Act.put, List.setIfInBounds_toArray, List.set_cons_zero, List.set_cons_succ]
    refine wpAnyH_take (i := 19) (oi := { dst := some 47, op := Op.pick (Operand.tmp 38) (Operand.const (Value.bool true)) (Operand.tmp 46), type := 4, pos := "law.go:197", after := #[{ on := 10, ground := Ground.data }, { on := 18, ground := Ground.data }], guard := none }) (v := ?_) rfl (by kernel_rfl) (by kernel_rfl) (by kernel_rfl) (fun _ _ _ h => h) (Or.inl ⟨by rfl, ?_⟩) (by assumption) ?_
    rotate_left
    · (intro w hSw; (try dsimp only at hSw); go_simp; try (with_reducible rfl))
    try simp only [Act.put, List.setIfInBounds_toArray, List.set_cons_zero, List.set_cons_succ]
    refine wpAnyH_done (by kernel_rfl) ?_ _
    refine NoPanic.normal ?_
    exact ⟨rfl, by kernel_rfl, by first | kernel_rfl | (simp), mW⟩
  · rintro u wx ⟨hu47, mx⟩
    simp only [List.foldl_cons, List.foldl_nil, List.setIfInBounds_toArray, List.set_cons_zero, List.set_cons_succ, hu47]
    clear hu47
    generalize u 28 = u28
    generalize u 29 = u29
    generalize u 30 = u30
    generalize u 31 = u31
    generalize u 32 = u32
    generalize u 33 = u33
    generalize u 34 = u34
    generalize u 35 = u35
    generalize u 36 = u36
    generalize u 37 = u37
    generalize u 38 = u38
    generalize u 39 = u39
    generalize u 40 = u40
    generalize u 41 = u41
    generalize u 42 = u42
    generalize u 43 = u43
    generalize u 44 = u44
    generalize u 45 = u45
    generalize u 46 = u46
    have qx := mx.at qs (by simp)
    obtain ⟨g0, g1⟩ := one_cell qx
    obtain ⟨h0, h1, h2, _⟩ := three_cells (mx.at b0s (by simp))
    have mc3 : Moves [] wx (wx.alloc (.cells #[.int .i64 3, .string ⟨#[99]⟩, .int .i64 0, .int .i64 0, .slice none 0 0, .float .f64 0] 37)) := (Moves.refl _ _).alloc _
    have hA2 : Calls Try.prog 8 #[.agg #[.slice ad4 n4 cap4], .slice (some ⟨wx.heap.size, 0, none⟩) 1 1] (wx.alloc (.cells #[.int .i64 3, .string ⟨#[99]⟩, .int .i64 0, .int .i64 0, .slice none 0 0, .float .f64 0] 37)) (fun e w' => ∃ ad n cap, e = .returned (.tuple #[.agg #[.slice ad n cap], .int .i64 0]) ∧ ColsAt w' (.slice ad n cap) [] ∧ Moves [] (wx.alloc (.cells #[.int .i64 3, .string ⟨#[99]⟩, .int .i64 0, .int .i64 0, .slice none 0 0, .float .f64 0] 37)) w') := by
      have h := cApply_w (wx.alloc (.cells #[.int .i64 3, .string ⟨#[99]⟩, .int .i64 0, .int .i64 0, .slice none 0 0, .float .f64 0] 37)) (wx.alloc (.cells #[.int .i64 3, .string ⟨#[99]⟩, .int .i64 0, .int .i64 0, .slice none 0 0, .float .f64 0] 37)) (.agg #[.slice ad4 n4 cap4]) R1 (some ⟨wx.heap.size, 0, none⟩) 1 1 [⟨3, sC, 0, ⟨0, [], 0⟩⟩] (HRs.out.moves (mx.then mc3)) (chgs_one wx ⟨3, sC, 0, ⟨0, [], 0⟩⟩ none 0 0 (va_zero _)) rfl (by decide) (Moves.refl _ _)
      rw [HE2.out, HR2'.out] at h
      exact h
    have HF1 : Hid (cHolds [] true false sC ⟨0, [], 0⟩ = true) := by unfold Hid cHolds; rw [pAt_nil]; rfl
    have HF2 : Hid (cHolds [] true true sC A.pv = false) := by unfold Hid cHolds; rw [pAt_nil]; rfl
    clear hS mW
    go_wp2_with (go_at_call 8; refine hA2.mono ?_; rintro _ w7 ⟨ad7, n7, cap7, rfl, hc7, m7⟩; obtain rfl : n7 = 0 := hc7.len; have qr7 := (mc3.then m7).at qx (by simp); obtain ⟨j0, j1⟩ := one_cell qr7; have hm7 : Moves [pr] w7 (w7.setCell ⟨pr, 0, none⟩ (.slice ad7 0 cap7)) := moves_set _ _ _ _; have qs7 := set_one qr7 (.slice ad7 0 cap7); have b07 := hm7.at ((mx.then (mc3.then m7)).at b0s (by simp)) (by simpa using n0'); obtain ⟨i0, i1, i2, _⟩ := three_cells b07; obtain ⟨o0, _⟩ := one_cell qs7)
    obtain ⟨wy, hwy⟩ : ∃ wy, w7.setCell ⟨pr, 0, none⟩ (.slice ad7 0 cap7) = wy := ⟨_, rfl⟩
    have HRy : Hid (RowAt wy (.agg #[.slice ad7 0 cap7]) []) := by rw [← hwy]; exact RowAt.setRow ⟨_, rfl, hc7⟩ qr7 _
    have MY : Hid (Moves [] w wy) := by rw [← hwy]; exact (MW.out.then (mx.then (mc3.then m7))).setCell (.inr hlr) _
    have HAy : Hid (VA wy [.int .i64 A.kind, .slice adA lenA capA, .float .f64 A.n] A.pv) := HA0.out.moves MY.out
    rw [hwy] at qs7 b07 i0 i1 i2 o0
    try rw [hwy]
    clear hwy hA2 hm7
    go_wp2_with (first | (go_at_call 10; refine (known5_w _).mono ?_; rintro _ w10 ⟨rfl, m10⟩) | (go_at_call 18; have qq := m8; refine (cHolds_w wy _ _ [] true true sC _ _ _ _ _ A.pv HRy.out HAy.out m8).mono ?_; rintro _ w9 ⟨rfl, m9⟩; rw [HF2.out]; have o2 := (m8.then m9).cell o0) | (go_at_call 18; refine (cHolds_w wy _ _ [] true false sC _ _ _ _ _ ⟨0, [], 0⟩ HRy.out (va_zero _) (Moves.refl _ _)).mono ?_; rintro _ w8 ⟨rfl, m8⟩; rw [HF1.out]; have o1 := m8.cell o0; have ii0 := m8.cell i0; have ii1 := m8.cell i1; have ii2 := m8.cell i2))
    go_ret
    exact ⟨rfl, ((MY.out.then m8).then m9).then m10⟩
end Go.Proofs.Ytfegflimnngfaab
