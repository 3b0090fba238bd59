/-
  The law's own tells: of two rows that are the same, and may be, the program and the document say the same.
-/
import Derived.Test.YtfegflimnngfaaaCRef6
import Derived.Test.YtfegflimnngfaaaCRef7
import Derived.Test.YtfegflimnngfaaaCRow13
namespace Go.Proofs.Ytfegflimnngfaaa
open Go.RowKit

set_option maxRecDepth 100000 in
set_option maxHeartbeats 16000000 in
theorem tells_yes (W w : World) (u v : Value) (R : List Pcol) (s : ByteArray) (t : Int) (h : RowAt W u R) (h' : RowAt W v R) (m : Moves [] W w) (hr : pright R = true) :
    Calls Try.prog 28 #[u, v, .string s, .int .i64 t] w fun e w' => e = .returned (.bool true) ∧ Moves [] w w' := by
  have hN1 := fun w1 (m1 : Moves [] W w1) => newest_w W w1 u R s h m1
  have hN2 := fun w1 (m1 : Moves [] W w1) => refNewest_yes W w1 v R s h' m1 hr
  have hN3 := fun w1 (m1 : Moves [] W w1) => at_w W w1 u R s t h m1
  have hN4 := fun w1 (m1 : Moves [] W w1) => refAt_yes W w1 v R s t h' m1 hr
  obtain ⟨A1, hA1⟩ : ∃ A1, Hid (pAt R s 1099511627776 = A1) := ⟨_, rfl⟩
  obtain ⟨A2, hA2⟩ : ∃ A2, Hid (pAt R s t = A2) := ⟨_, rfl⟩
  rw [hA1.out] at hN1 hN2
  rw [hA2.out] at hN3 hN4
  obtain ⟨B1, hB1⟩ : ∃ B1, Hid (A1.getD ⟨0, [], 0⟩ = B1) := ⟨_, rfl⟩
  obtain ⟨B2, hB2⟩ : ∃ B2, Hid (A2.getD ⟨0, [], 0⟩ = B2) := ⟨_, rfl⟩
  rw [hB1.out] at hN1 hN2
  rw [hB2.out] at hN3 hN4
  obtain ⟨lu, rfl, hl⟩ := h
  obtain ⟨lv, rfl, hl'⟩ := h'
  obtain ⟨adr, capr, elu, _⟩ := hl.slice
  obtain ⟨adm, capm, elv, _⟩ := hl'.slice
  obtain ⟨nr, hnr⟩ : ∃ nr, Hid (nr = R.length) := ⟨_, rfl⟩
  rw [← hnr.out] at elu elv
  subst elu elv
  have HR : Hid (RowAt W (.agg #[.slice adr nr capr]) R) := ⟨_, rfl, hl⟩
  have HM : Hid (RowAt W (.agg #[.slice adm nr capm]) R) := ⟨_, rfl, hl'⟩
  have HPr : Hid (pright R = true) := hr
  have HB1 : Hid (R.length ≤ 1048576) := by have := pright_len4 hr; unfold Hid; omega
  have HB2 : Hid (∀ x ∈ R, x.l.length ≤ 1048576) := fun x hx => by have := (prightV_two (pright_at hr hx).2).2; omega
  have HB3 : Hid ((R.map pcanonC).length ≤ 1048576) := by unfold Hid; rw [List.length_map]; exact HB1.out
  have HB4 : Hid (∀ x ∈ R.map pcanonC, x.l.length ≤ 1048576) := fun x hx => by
    obtain ⟨y, hy, rfl⟩ := List.mem_map.1 hx
    show (y.l.map pcanonV).length ≤ _
    rw [List.length_map]
    exact HB2.out y hy
  have HW : Hid (Moves [] W w) := m
  clear hl hl' hr m
  go_enter Try.func28, Try.ntmps28
  go_wp2_with fail
  obtain ⟨w1, hw1⟩ : ∃ w1, (w.alloc (.cells #[.slice adr nr capr] 28)).alloc (.cells #[.slice adm nr capm] 28) = w1 := ⟨_, rfl⟩
  obtain ⟨p0, p1, m1⟩ : w1.heap[w.heap.size]? = some (.cells #[.slice adr nr capr] 28 (0, 0)) ∧ w1.heap[w.heap.size + 1]? = some (.cells #[.slice adm nr capm] 28 (0, 0)) ∧ Moves [] w w1 := by rw [← hw1]; exact boxes (Moves.refl _ _)
  rw [hw1]
  obtain ⟨pr, hpr⟩ : ∃ pr, w.heap.size = pr := ⟨_, rfl⟩
  obtain ⟨pm, hpm⟩ : ∃ pm, w.heap.size + 1 = pm := ⟨_, rfl⟩
  rw [hpm] at p1
  rw [hpr] at p0
  rw [hpm, hpr]
  clear hw1 hpr hpm
  have M1 := HW.out.then m1
  obtain ⟨z0, _⟩ := one_cell p0
  obtain ⟨z1, _⟩ := one_cell p1
  go_wp2_with (first | (go_at_call 17; refine (hN1 _ M1).mono ?_; rintro _ w2 ⟨k2, ad2, n2, c2, x2, rfl, hV2, m2⟩; have HV2 : Hid (VC w2 [.int .i64 k2, .slice ad2 n2 c2, .float .f64 x2] B1) := hV2; clear hV2; have ma : Moves [] w2 (w2.alloc (.cells #[.int .i64 k2, .slice ad2 n2 c2, .float .f64 x2] 39)) := (Moves.refl _ _).alloc _; have Ma := m2.then ma; have za0 := Ma.cell z0; have za1 := Ma.cell z1) | (go_at_call 61; refine (hN2 _ (M1.then Ma)).mono ?_; rintro _ w3 ⟨k3, ad3, n3, c3, x3, rfl, hV3, m3⟩; have HV3 : Hid (VC w3 [.int .i64 k3, .slice ad3 n3 c3, .float .f64 x3] B1) := hV3; clear hV3; have mb : Moves [] w3 (w3.alloc (.cells #[.int .i64 k3, .slice ad3 n3 c3, .float .f64 x3] 39)) := (Moves.refl _ _).alloc _; have Mb := m3.then mb; have zb0 := Mb.cell za0; have zb1 := Mb.cell za1) | (go_at_call 21; refine (hN3 _ ((M1.then Ma).then Mb)).mono ?_; rintro _ w4 ⟨k4, ad4, n4, c4, x4, rfl, hV4, m4⟩; have HV4 : Hid (VC w4 [.int .i64 k4, .slice ad4 n4 c4, .float .f64 x4] B2) := hV4; clear hV4; have mc : Moves [] w4 (w4.alloc (.cells #[.int .i64 k4, .slice ad4 n4 c4, .float .f64 x4] 39)) := (Moves.refl _ _).alloc _; have Mc := m4.then mc; have zc0 := Mc.cell zb0; have zc1 := Mc.cell zb1) | (go_at_call 62; refine (hN4 _ (((M1.then Ma).then Mb).then Mc)).mono ?_; rintro _ w5 ⟨k5, ad5, n5, c5, x5, rfl, hV5, m5⟩; have HV5 : Hid (VC w5 [.int .i64 k5, .slice ad5 n5 c5, .float .f64 x5] B2) := hV5; clear hV5; have mz : Moves [] w5 (w5.alloc (.cells #[.int .i64 k5, .slice ad5 n5 c5, .float .f64 x5] 39)) := (Moves.refl _ _).alloc _; have Mz := m5.then mz; have zz0 := Mz.cell zc0; have zz1 := Mz.cell zc1))
  have b2 := heap_alloc_new w2 (.cells #[.int .i64 k2, .slice ad2 n2 c2, .float .f64 x2] 39)
  have b3 := heap_alloc_new w3 (.cells #[.int .i64 k3, .slice ad3 n3 c3, .float .f64 x3] 39)
  have b4 := heap_alloc_new w4 (.cells #[.int .i64 k4, .slice ad4 n4 c4, .float .f64 x4] 39)
  have b5 := heap_alloc_new w5 (.cells #[.int .i64 k5, .slice ad5 n5 c5, .float .f64 x5] 39)
  obtain ⟨wz, hwz⟩ : ∃ wz, w5.alloc (.cells #[.int .i64 k5, .slice ad5 n5 c5, .float .f64 x5] 39) = wz := ⟨_, rfl⟩
  rw [hwz] at b5 mz Mz zz0 zz1 ⊢
  obtain ⟨p5, hp5⟩ : ∃ p5, w5.heap.size = p5 := ⟨_, rfl⟩
  rw [hp5] at b5 ⊢
  obtain ⟨p4, hp4⟩ : ∃ p4, w4.heap.size = p4 := ⟨_, rfl⟩
  rw [hp4] at b4 ⊢
  obtain ⟨p3, hp3⟩ : ∃ p3, w3.heap.size = p3 := ⟨_, rfl⟩
  rw [hp3] at b3 ⊢
  obtain ⟨p2, hp2⟩ : ∃ p2, w2.heap.size = p2 := ⟨_, rfl⟩
  rw [hp2] at b2 ⊢
  obtain ⟨i20, i21, i22, _⟩ := three_cells ((Mb.then (Mc.then Mz)).at b2 (by simp))
  obtain ⟨i30, i31, i32, _⟩ := three_cells ((Mc.then Mz).at b3 (by simp))
  obtain ⟨i40, i41, i42, _⟩ := three_cells (Mz.at b4 (by simp))
  obtain ⟨i50, i51, i52, _⟩ := three_cells b5
  have MA := (((Ma.then Mb).then Mc).then Mz)
  have HRz : Hid (RowAt wz (.agg #[.slice adr nr capr]) R) := HR.out.moves (M1.then MA)
  have HMz : Hid (RowAt wz (.agg #[.slice adm nr capm]) R) := HM.out.moves (M1.then MA)
  replace HV2 : Hid (VC wz [.int .i64 k2, .slice ad2 n2 c2, .float .f64 x2] B1) := HV2.out.moves (ma.then (Mb.then (Mc.then Mz)))
  replace HV3 : Hid (VC wz [.int .i64 k3, .slice ad3 n3 c3, .float .f64 x3] B1) := HV3.out.moves (mb.then (Mc.then Mz))
  replace HV4 : Hid (VC wz [.int .i64 k4, .slice ad4 n4 c4, .float .f64 x4] B2) := HV4.out.moves (mc.then Mz)
  replace HV5 : Hid (VC wz [.int .i64 k5, .slice ad5 n5 c5, .float .f64 x5] B2) := HV5.out.moves mz
  have HS1 : Hid (psame B1 B1 = true) := psame_self _
  have HS2 : Hid (psame B2 B2 = true) := psame_self _
  have HMW : Hid (Moves [] w wz) := m1.then MA
  have hS : ∀ w', Moves [] wz w' → ((fun w' => w'.cell? ⟨pr, 0, none⟩ = some (.slice adr nr capr) ∧ w'.cell? ⟨pm, 0, none⟩ = some (.slice adm nr capm) ∧ w'.cell? ⟨p2, 0, none⟩ = some (.int .i64 k2) ∧ w'.cell? ⟨p2, 1, none⟩ = some (.slice ad2 n2 c2) ∧ w'.cell? ⟨p2, 2, none⟩ = some (.float .f64 x2) ∧ w'.cell? ⟨p3, 0, none⟩ = some (.int .i64 k3) ∧ w'.cell? ⟨p3, 1, none⟩ = some (.slice ad3 n3 c3) ∧ w'.cell? ⟨p3, 2, none⟩ = some (.float .f64 x3) ∧ w'.cell? ⟨p4, 0, none⟩ = some (.int .i64 k4) ∧ w'.cell? ⟨p4, 1, none⟩ = some (.slice ad4 n4 c4) ∧ w'.cell? ⟨p4, 2, none⟩ = some (.float .f64 x4) ∧ w'.cell? ⟨p5, 0, none⟩ = some (.int .i64 k5) ∧ w'.cell? ⟨p5, 1, none⟩ = some (.slice ad5 n5 c5) ∧ w'.cell? ⟨p5, 2, none⟩ = some (.float .f64 x5)) w') := fun w' m' => ⟨m'.cell zz0, m'.cell zz1, m'.cell i20, m'.cell i21, m'.cell i22, m'.cell i30, m'.cell i31, m'.cell i32, m'.cell i40, m'.cell i41, m'.cell i42, m'.cell i50, m'.cell i51, m'.cell i52⟩
  have mW : Moves [] wz wz.drew := (Moves.refl _ _).drew
  clear hwz hp5 hp4 hp3 hp2 b2 b3 b4 b5 Ma Mb Mc Mz MA m1 m2 m3 m4 m5 ma mb mc mz z0 z1 za0 za1 zb0 zb1 zc0 zc1 zz0 zz1 i20 i21 i22 i30 i31 i32 i40 i41 i42 i50 i51 i52 p0 p1 M1 HR HM hN1 hN2 hN3 hN4
  refine wp_some [43, 44, 45, 46, 47, 48, 49, 50, 51, 52, 53, 54, 55, 56, 57, 58, 59, 60, 61, 62, 63, 64, 65, 66, 67, 68, 69, 70, 71, 72, 73, 74, 75, 76, 77, 78, 79, 80, 81, 82, 83, 8] (fun u w' => u 8 = .bool true ∧ Moves [] wz w') ?_ ?_
  · refine wp_region_noPanic ?_
    refine wp_region_held_drew (S := (fun w' => w'.cell? ⟨pr, 0, none⟩ = some (.slice adr nr capr) ∧ w'.cell? ⟨pm, 0, none⟩ = some (.slice adm nr capm) ∧ w'.cell? ⟨p2, 0, none⟩ = some (.int .i64 k2) ∧ w'.cell? ⟨p2, 1, none⟩ = some (.slice ad2 n2 c2) ∧ w'.cell? ⟨p2, 2, none⟩ = some (.float .f64 x2) ∧ w'.cell? ⟨p3, 0, none⟩ = some (.int .i64 k3) ∧ w'.cell? ⟨p3, 1, none⟩ = some (.slice ad3 n3 c3) ∧ w'.cell? ⟨p3, 2, none⟩ = some (.float .f64 x3) ∧ w'.cell? ⟨p4, 0, none⟩ = some (.int .i64 k4) ∧ w'.cell? ⟨p4, 1, none⟩ = some (.slice ad4 n4 c4) ∧ w'.cell? ⟨p4, 2, none⟩ = some (.float .f64 x4) ∧ w'.cell? ⟨p5, 0, none⟩ = some (.int .i64 k5) ∧ w'.cell? ⟨p5, 1, none⟩ = some (.slice ad5 n5 c5) ∧ w'.cell? ⟨p5, 2, none⟩ = some (.float .f64 x5))) (by kernel_rfl) ?_ (fun hHeld => ?_)
    · first | (go_keep; done) | exact hS _ mW
    refine wpAnyH_take (i := 0) (oi := { dst := some 43, op := Op.move (Operand.tmp 10), type := 4, pos := "law.go:45", after := #[], guard := none }) (v := ?_) rfl (by kernel_rfl) (by kernel_rfl) (by kernel_rfl) (fun _ _ _ h => h) (Or.inl ⟨by rfl, ?_⟩) (by assumption) ?_
    rotate_left
    · (intro w hSw; (try dsimp only at hSw); go_simp; try (with_reducible rfl))
    try simp only [Act.put, List.setIfInBounds_toArray, List.set_cons_zero, List.set_cons_succ]
    refine wpAnyH_take (i := 1) (oi := { dst := some 44, op := Op.move (Operand.tmp 12), type := 4, pos := "law.go:45", after := #[], guard := none }) (v := ?_) rfl (by kernel_rfl) (by kernel_rfl) (by kernel_rfl) (fun _ _ _ h => h) (Or.inl ⟨by rfl, ?_⟩) (by assumption) ?_
    rotate_left
    · (intro w hSw; (try dsimp only at hSw); go_simp; try (with_reducible rfl))
    try simp only [Act.put, List.setIfInBounds_toArray, List.set_cons_zero, List.set_cons_succ]
    refine wpAnyH_take (i := 2) (oi := { dst := some 45, op := Op.binOp BinOp.eql 4 (Operand.tmp 43) (Operand.tmp 44) 4, type := 4, pos := "law.go:45", after := #[{ on := 0, ground := Ground.data }, { on := 1, ground := Ground.data }], guard := none }) (v := ?_) rfl (by kernel_rfl) (by kernel_rfl) (by kernel_rfl) (fun _ _ _ h => h) (Or.inl ⟨by rfl, ?_⟩) (by assumption) ?_
    rotate_left
    · (intro w hSw; (try dsimp only at hSw); go_simp; try (with_reducible rfl))
    try simp only [Act.put, List.setIfInBounds_toArray, List.set_cons_zero, List.set_cons_succ]
    refine wpAnyH_take (i := 3) (oi := { dst := some 46, op := Op.move (Operand.tmp 45), type := 4, pos := "law.go:45", after := #[{ on := 2, ground := Ground.data }], guard := none }) (v := ?_) rfl (by kernel_rfl) (by kernel_rfl) (by kernel_rfl) (fun _ _ _ h => h) (Or.inl ⟨by rfl, ?_⟩) (by assumption) ?_
    rotate_left
    · (intro w hSw; (try dsimp only at hSw); go_simp; try (with_reducible rfl))
    try simp only [Act.put, List.setIfInBounds_toArray, List.set_cons_zero, List.set_cons_succ]
    refine wpAnyH_take (i := 4) (oi := { dst := some 47, op := Op.load 39 (Operand.tmp 9), type := 39, pos := "law.go:45", after := #[{ on := 3, ground := Ground.guard }], guard := some (3, true) }) (v := ?_) rfl (by kernel_rfl) (by kernel_rfl) (by kernel_rfl) (fun _ _ _ h => h) (Or.inl ⟨by rfl, ?_⟩) (by assumption) ?_
    rotate_left
    · (intro w hSw; (try dsimp only at hSw); go_simp; try (with_reducible rfl))
    try simp only [Act.put, List.setIfInBounds_toArray, List.set_cons_zero, List.set_cons_succ]
    refine wpAnyH_take (i := 5) (oi := { dst := some 48, op := Op.load 39 (Operand.tmp 11), type := 39, pos := "law.go:45", after := #[{ on := 3, ground := Ground.guard }], guard := some (3, true) }) (v := ?_) rfl (by kernel_rfl) (by kernel_rfl) (by kernel_rfl) (fun _ _ _ h => h) (Or.inl ⟨by rfl, ?_⟩) (by assumption) ?_
    rotate_left
    · (intro w hSw; (try dsimp only at hSw); go_simp; try (with_reducible rfl))
    try simp only [Act.put, List.setIfInBounds_toArray, List.set_cons_zero, List.set_cons_succ]
    refine wpAnyH_ready (rs := [6]) (by kernel_rfl) (by simp) ?_
    refine AllReadyH.cons (o := { dst := some 49, op := Op.call { callee := Callee.value (Operand.func 18), args := #[Operand.tmp 47, Operand.tmp 48], argTypes := #[39, 39] }, type := 4, pos := "law.go:45", after := #[{ on := 4, ground := Ground.data }, { on := 5, ground := Ground.data }, { on := 3, ground := Ground.chain }, { on := 3, ground := Ground.guard }], guard := some (3, true) }) rfl (fun K hK => ?_) AllReadyH.nil
    go_simp
    go_at_call 18
    refine (rsame_p wz _ _ _ _ _ _ _ _ _ _ _ _ _ HV2.out.va HV3.out.va mW).mono ?_
    rintro _ w106 ⟨rfl, m106⟩
    rw [HS1.out]
    replace mW := mW.then m106
    refine hK.out _ _ ?_ (fun hHeld => ?_)
    · exact hS _ mW
    clear hK K
    try simp only [Act.put, List.setIfInBounds_toArray, List.set_cons_zero, List.set_cons_succ]
    refine wpAnyH_take (i := 7) (oi := { dst := some 50, op := Op.pick (Operand.tmp 46) (Operand.tmp 49) (Operand.const (Value.bool false)), type := 4, pos := "law.go:45", after := #[{ on := 3, ground := Ground.data }, { on := 6, ground := Ground.data }], guard := none }) (v := ?_) rfl (by kernel_rfl) (by kernel_rfl) (by kernel_rfl) (fun _ _ _ h => h) (Or.inl ⟨by rfl, ?_⟩) (by assumption) ?_
    rotate_left
    · (intro w hSw; (try dsimp only at hSw); go_simp; try (with_reducible rfl))
    try simp only [Act.put, List.setIfInBounds_toArray, List.set_cons_zero, List.set_cons_succ]
    refine wpAnyH_take (i := 8) (oi := { dst := some 51, op := Op.move (Operand.tmp 50), type := 4, pos := "law.go:45", after := #[{ on := 7, ground := Ground.data }, { on := 6, ground := Ground.chain }], guard := none }) (v := ?_) rfl (by kernel_rfl) (by kernel_rfl) (by kernel_rfl) (fun _ _ _ h => h) (Or.inl ⟨by rfl, ?_⟩) (by assumption) ?_
    rotate_left
    · (intro w hSw; (try dsimp only at hSw); go_simp; try (with_reducible rfl))
    try simp only [Act.put, List.setIfInBounds_toArray, List.set_cons_zero, List.set_cons_succ]
    refine wpAnyH_take (i := 9) (oi := { dst := some 52, op := Op.move (Operand.tmp 14), type := 4, pos := "law.go:45", after := #[{ on := 8, ground := Ground.guard }], guard := some (8, true) }) (v := ?_) rfl (by kernel_rfl) (by kernel_rfl) (by kernel_rfl) (fun _ _ _ h => h) (Or.inl ⟨by rfl, ?_⟩) (by assumption) ?_
    rotate_left
    · (intro w hSw; (try dsimp only at hSw); go_simp; try (with_reducible rfl))
    try simp only [Act.put, List.setIfInBounds_toArray, List.set_cons_zero, List.set_cons_succ]
    refine wpAnyH_take (i := 10) (oi := { dst := some 53, op := Op.move (Operand.tmp 16), type := 4, pos := "law.go:45", after := #[{ on := 8, ground := Ground.guard }], guard := some (8, true) }) (v := ?_) rfl (by kernel_rfl) (by kernel_rfl) (by kernel_rfl) (fun _ _ _ h => h) (Or.inl ⟨by rfl, ?_⟩) (by assumption) ?_
    rotate_left
    · (intro w hSw; (try dsimp only at hSw); go_simp; try (with_reducible rfl))
    try simp only [Act.put, List.setIfInBounds_toArray, List.set_cons_zero, List.set_cons_succ]
    refine wpAnyH_take (i := 11) (oi := { dst := some 54, op := Op.binOp BinOp.eql 4 (Operand.tmp 52) (Operand.tmp 53) 4, type := 4, pos := "law.go:45", after := #[{ on := 9, ground := Ground.data }, { on := 10, ground := Ground.data }, { on := 8, ground := Ground.guard }], guard := some (8, true) }) (v := ?_) rfl (by kernel_rfl) (by kernel_rfl) (by kernel_rfl) (fun _ _ _ h => h) (Or.inl ⟨by rfl, ?_⟩) (by assumption) ?_
    rotate_left
    · (intro w hSw; (try dsimp only at hSw); go_simp; try (with_reducible rfl))
    try simp only [Act.put, List.setIfInBounds_toArray, List.set_cons_zero, List.set_cons_succ]
    refine wpAnyH_take (i := 12) (oi := { dst := some 55, op := Op.pick (Operand.tmp 51) (Operand.tmp 54) (Operand.const (Value.bool false)), type := 4, pos := "law.go:45", after := #[{ on := 8, ground := Ground.data }, { on := 11, ground := Ground.data }], guard := none }) (v := ?_) rfl (by kernel_rfl) (by kernel_rfl) (by kernel_rfl) (fun _ _ _ h => h) (Or.inl ⟨by rfl, ?_⟩) (by assumption) ?_
    rotate_left
    · (intro w hSw; (try dsimp only at hSw); go_simp; try (with_reducible rfl))
    try simp only [Act.put, List.setIfInBounds_toArray, List.set_cons_zero, List.set_cons_succ]
    refine wpAnyH_take (i := 13) (oi := { dst := some 56, op := Op.move (Operand.tmp 55), type := 4, pos := "law.go:45", after := #[{ on := 12, ground := Ground.data }, { on := 8, ground := Ground.chain }], guard := none }) (v := ?_) rfl (by kernel_rfl) (by kernel_rfl) (by kernel_rfl) (fun _ _ _ h => h) (Or.inl ⟨by rfl, ?_⟩) (by assumption) ?_
    rotate_left
    · (intro w hSw; (try dsimp only at hSw); go_simp; try (with_reducible rfl))
    try simp only [Act.put, List.setIfInBounds_toArray, List.set_cons_zero, List.set_cons_succ]
    refine wpAnyH_take (i := 14) (oi := { dst := some 57, op := Op.load 39 (Operand.tmp 13), type := 39, pos := "law.go:45", after := #[{ on := 13, ground := Ground.guard }], guard := some (13, true) }) (v := ?_) rfl (by kernel_rfl) (by kernel_rfl) (by kernel_rfl) (fun _ _ _ h => h) (Or.inl ⟨by rfl, ?_⟩) (by assumption) ?_
    rotate_left
    · (intro w hSw; (try dsimp only at hSw); go_simp; try (with_reducible rfl))
    try simp only [Act.put, List.setIfInBounds_toArray, List.set_cons_zero, List.set_cons_succ]
    refine wpAnyH_take (i := 15) (oi := { dst := some 58, op := Op.load 39 (Operand.tmp 15), type := 39, pos := "law.go:45", after := #[{ on := 13, ground := Ground.guard }], guard := some (13, true) }) (v := ?_) rfl (by kernel_rfl) (by kernel_rfl) (by kernel_rfl) (fun _ _ _ h => h) (Or.inl ⟨by rfl, ?_⟩) (by assumption) ?_
    rotate_left
    · (intro w hSw; (try dsimp only at hSw); go_simp; try (with_reducible rfl))
    try simp only [Act.put, List.setIfInBounds_toArray, List.set_cons_zero, List.set_cons_succ]
    refine wpAnyH_ready (rs := [16]) (by kernel_rfl) (by simp) ?_
    refine AllReadyH.cons (o := { dst := some 59, op := Op.call { callee := Callee.value (Operand.func 18), args := #[Operand.tmp 57, Operand.tmp 58], argTypes := #[39, 39] }, type := 4, pos := "law.go:45", after := #[{ on := 14, ground := Ground.data }, { on := 15, ground := Ground.data }, { on := 13, ground := Ground.chain }, { on := 13, ground := Ground.guard }], guard := some (13, true) }) rfl (fun K hK => ?_) AllReadyH.nil
    go_simp
    go_at_call 18
    refine (rsame_p wz _ _ _ _ _ _ _ _ _ _ _ _ _ HV4.out.va HV5.out.va mW).mono ?_
    rintro _ w116 ⟨rfl, m116⟩
    rw [HS2.out]
    replace mW := mW.then m116
    refine hK.out _ _ ?_ (fun hHeld => ?_)
    · exact hS _ mW
    clear hK K
    try simp only [Act.put, List.setIfInBounds_toArray, List.set_cons_zero, List.set_cons_succ]
    refine wpAnyH_take (i := 17) (oi := { dst := some 60, op := Op.pick (Operand.tmp 56) (Operand.tmp 59) (Operand.const (Value.bool false)), type := 4, pos := "law.go:45", after := #[{ on := 13, ground := Ground.data }, { on := 16, ground := Ground.data }], guard := none }) (v := ?_) rfl (by kernel_rfl) (by kernel_rfl) (by kernel_rfl) (fun _ _ _ h => h) (Or.inl ⟨by rfl, ?_⟩) (by assumption) ?_
    rotate_left
    · (intro w hSw; (try dsimp only at hSw); go_simp; try (with_reducible rfl))
    try simp only [Act.put, List.setIfInBounds_toArray, List.set_cons_zero, List.set_cons_succ]
    refine wpAnyH_take (i := 18) (oi := { dst := some 61, op := Op.move (Operand.tmp 60), type := 4, pos := "law.go:45", after := #[{ on := 17, ground := Ground.data }, { on := 16, ground := Ground.chain }], guard := none }) (v := ?_) rfl (by kernel_rfl) (by kernel_rfl) (by kernel_rfl) (fun _ _ _ h => h) (Or.inl ⟨by rfl, ?_⟩) (by assumption) ?_
    rotate_left
    · (intro w hSw; (try dsimp only at hSw); go_simp; try (with_reducible rfl))
    try simp only [Act.put, List.setIfInBounds_toArray, List.set_cons_zero, List.set_cons_succ]
    refine wpAnyH_take (i := 19) (oi := { dst := some 62, op := Op.load 28 (Operand.tmp 4), type := 28, pos := "law.go:45", after := #[{ on := 18, ground := Ground.guard }], guard := some (18, true) }) (v := ?_) rfl (by kernel_rfl) (by kernel_rfl) (by kernel_rfl) (fun _ _ _ h => h) (Or.inl ⟨by rfl, ?_⟩) (by assumption) ?_
    rotate_left
    · (intro w hSw; (try dsimp only at hSw); go_simp; try (with_reducible rfl))
    try simp only [Act.put, List.setIfInBounds_toArray, List.set_cons_zero, List.set_cons_succ]
    refine wpAnyH_take (i := 21) (oi := { dst := some 64, op := Op.load 28 (Operand.tmp 4), type := 28, pos := "law.go:45", after := #[{ on := 18, ground := Ground.guard }], guard := some (18, true) }) (v := ?_) rfl (by kernel_rfl) (by kernel_rfl) (by kernel_rfl) (fun _ _ _ h => h) (Or.inl ⟨by rfl, ?_⟩) (by assumption) ?_
    rotate_left
    · (intro w hSw; (try dsimp only at hSw); go_simp; try (with_reducible rfl))
    try simp only [Act.put, List.setIfInBounds_toArray, List.set_cons_zero, List.set_cons_succ]
    refine wpAnyH_ready (rs := [20]) (by kernel_rfl) (by simp) ?_
    refine AllReadyH.cons (o := { dst := some 63, op := Op.call { callee := Callee.value (Operand.func 19), args := #[Operand.tmp 62], argTypes := #[28] }, type := 4, pos := "law.go:45", after := #[{ on := 19, ground := Ground.data }, { on := 18, ground := Ground.chain }, { on := 18, ground := Ground.guard }], guard := some (18, true) }) rfl (fun K hK => ?_) AllReadyH.nil
    go_simp
    go_at_call 19
    refine (right_w wz _ _ R HRz.out mW).mono ?_
    rintro _ w120 ⟨rfl, m120⟩
    rw [HPr.out]
    replace mW := mW.then m120
    refine hK.out _ _ ?_ (fun hHeld => ?_)
    · exact hS _ mW
    clear hK K
    try simp only [Act.put, List.setIfInBounds_toArray, List.set_cons_zero, List.set_cons_succ]
    refine wpAnyH_ready (rs := [22]) (by kernel_rfl) (by simp) ?_
    refine AllReadyH.cons (o := { dst := some 65, op := Op.call { callee := Callee.value (Operand.func 63), args := #[Operand.tmp 64], argTypes := #[28] }, type := 4, pos := "law.go:45", after := #[{ on := 21, ground := Ground.data }, { on := 20, ground := Ground.chain }, { on := 18, ground := Ground.guard }], guard := some (18, true) }) rfl (fun K hK => ?_) AllReadyH.nil
    go_simp
    go_at_call 63
    refine (refRight_yes wz _ _ R HRz.out mW HPr.out).mono ?_
    rintro _ w122 ⟨rfl, m122⟩
    replace mW := mW.then m122
    refine hK.out _ _ ?_ (fun hHeld => ?_)
    · exact hS _ mW
    clear hK K
    try simp only [Act.put, List.setIfInBounds_toArray, List.set_cons_zero, List.set_cons_succ]
    refine wpAnyH_take (i := 23) (oi := { dst := some 66, op := Op.binOp BinOp.eql 4 (Operand.tmp 63) (Operand.tmp 65) 4, type := 4, pos := "law.go:45", after := #[{ on := 20, ground := Ground.data }, { on := 22, ground := Ground.data }, { on := 18, ground := Ground.guard }], guard := some (18, true) }) (v := ?_) rfl (by kernel_rfl) (by kernel_rfl) (by kernel_rfl) (fun _ _ _ h => h) (Or.inl ⟨by rfl, ?_⟩) (by assumption) ?_
    rotate_left
    · (intro w hSw; (try dsimp only at hSw); go_simp; try (with_reducible rfl))
    try simp only [Act.put, List.setIfInBounds_toArray, List.set_cons_zero, List.set_cons_succ]
    refine wpAnyH_take (i := 24) (oi := { dst := some 67, op := Op.pick (Operand.tmp 61) (Operand.tmp 66) (Operand.const (Value.bool false)), type := 4, pos := "law.go:45", after := #[{ on := 18, ground := Ground.data }, { on := 23, ground := Ground.data }], guard := none }) (v := ?_) rfl (by kernel_rfl) (by kernel_rfl) (by kernel_rfl) (fun _ _ _ h => h) (Or.inl ⟨by rfl, ?_⟩) (by assumption) ?_
    rotate_left
    · (intro w hSw; (try dsimp only at hSw); go_simp; try (with_reducible rfl))
    try simp only [Act.put, List.setIfInBounds_toArray, List.set_cons_zero, List.set_cons_succ]
    refine wpAnyH_take (i := 25) (oi := { dst := some 68, op := Op.move (Operand.tmp 67), type := 4, pos := "law.go:45", after := #[{ on := 24, ground := Ground.data }, { on := 22, ground := Ground.chain }], guard := none }) (v := ?_) rfl (by kernel_rfl) (by kernel_rfl) (by kernel_rfl) (fun _ _ _ h => h) (Or.inl ⟨by rfl, ?_⟩) (by assumption) ?_
    rotate_left
    · (intro w hSw; (try dsimp only at hSw); go_simp; try (with_reducible rfl))
    try simp only [Act.put, List.setIfInBounds_toArray, List.set_cons_zero, List.set_cons_succ]
    refine wpAnyH_take (i := 26) (oi := { dst := some 69, op := Op.load 28 (Operand.tmp 4), type := 28, pos := "law.go:45", after := #[{ on := 25, ground := Ground.guard }], guard := some (25, true) }) (v := ?_) rfl (by kernel_rfl) (by kernel_rfl) (by kernel_rfl) (fun _ _ _ h => h) (Or.inl ⟨by rfl, ?_⟩) (by assumption) ?_
    rotate_left
    · (intro w hSw; (try dsimp only at hSw); go_simp; try (with_reducible rfl))
    try simp only [Act.put, List.setIfInBounds_toArray, List.set_cons_zero, List.set_cons_succ]
    refine wpAnyH_take (i := 27) (oi := { dst := some 70, op := Op.load 28 (Operand.tmp 5), type := 28, pos := "law.go:45", after := #[{ on := 25, ground := Ground.guard }], guard := some (25, true) }) (v := ?_) rfl (by kernel_rfl) (by kernel_rfl) (by kernel_rfl) (fun _ _ _ h => h) (Or.inl ⟨by rfl, ?_⟩) (by assumption) ?_
    rotate_left
    · (intro w hSw; (try dsimp only at hSw); go_simp; try (with_reducible rfl))
    try simp only [Act.put, List.setIfInBounds_toArray, List.set_cons_zero, List.set_cons_succ]
    refine wpAnyH_ready (rs := [28]) (by kernel_rfl) (by simp) ?_
    refine AllReadyH.cons (o := { dst := some 71, op := Op.call { callee := Callee.value (Operand.func 64), args := #[Operand.tmp 69, Operand.tmp 70], argTypes := #[28, 28] }, type := 4, pos := "law.go:45", after := #[{ on := 26, ground := Ground.data }, { on := 27, ground := Ground.data }, { on := 25, ground := Ground.chain }, { on := 25, ground := Ground.guard }], guard := some (25, true) }) rfl (fun K hK => ?_) AllReadyH.nil
    go_simp
    go_at_call 64
    refine (rowSame_yes wz _ _ _ R R HRz.out HMz.out mW (SameR.refl R) HB1.out HB2.out).mono ?_
    rintro _ w128 ⟨rfl, m128⟩
    replace mW := mW.then m128
    refine hK.out _ _ ?_ (fun hHeld => ?_)
    · exact hS _ mW
    clear hK K
    try simp only [Act.put, List.setIfInBounds_toArray, List.set_cons_zero, List.set_cons_succ]
    refine wpAnyH_take (i := 29) (oi := { dst := some 72, op := Op.pick (Operand.tmp 68) (Operand.tmp 71) (Operand.const (Value.bool false)), type := 4, pos := "law.go:45", after := #[{ on := 25, ground := Ground.data }, { on := 28, ground := Ground.data }], guard := none }) (v := ?_) rfl (by kernel_rfl) (by kernel_rfl) (by kernel_rfl) (fun _ _ _ h => h) (Or.inl ⟨by rfl, ?_⟩) (by assumption) ?_
    rotate_left
    · (intro w hSw; (try dsimp only at hSw); go_simp; try (with_reducible rfl))
    try simp only [Act.put, List.setIfInBounds_toArray, List.set_cons_zero, List.set_cons_succ]
    refine wpAnyH_take (i := 30) (oi := { dst := some 73, op := Op.move (Operand.tmp 72), type := 4, pos := "law.go:45", after := #[{ on := 29, ground := Ground.data }, { on := 28, ground := Ground.chain }], guard := none }) (v := ?_) rfl (by kernel_rfl) (by kernel_rfl) (by kernel_rfl) (fun _ _ _ h => h) (Or.inl ⟨by rfl, ?_⟩) (by assumption) ?_
    rotate_left
    · (intro w hSw; (try dsimp only at hSw); go_simp; try (with_reducible rfl))
    try simp only [Act.put, List.setIfInBounds_toArray, List.set_cons_zero, List.set_cons_succ]
    refine wpAnyH_take (i := 31) (oi := { dst := some 74, op := Op.load 28 (Operand.tmp 4), type := 28, pos := "law.go:45", after := #[{ on := 30, ground := Ground.guard }], guard := some (30, true) }) (v := ?_) rfl (by kernel_rfl) (by kernel_rfl) (by kernel_rfl) (fun _ _ _ h => h) (Or.inl ⟨by rfl, ?_⟩) (by assumption) ?_
    rotate_left
    · (intro w hSw; (try dsimp only at hSw); go_simp; try (with_reducible rfl))
    try simp only [Act.put, List.setIfInBounds_toArray, List.set_cons_zero, List.set_cons_succ]
    refine wpAnyH_take (i := 32) (oi := { dst := some 75, op := Op.load 28 (Operand.tmp 5), type := 28, pos := "law.go:45", after := #[{ on := 30, ground := Ground.guard }], guard := some (30, true) }) (v := ?_) rfl (by kernel_rfl) (by kernel_rfl) (by kernel_rfl) (fun _ _ _ h => h) (Or.inl ⟨by rfl, ?_⟩) (by assumption) ?_
    rotate_left
    · (intro w hSw; (try dsimp only at hSw); go_simp; try (with_reducible rfl))
    try simp only [Act.put, List.setIfInBounds_toArray, List.set_cons_zero, List.set_cons_succ]
    refine wpAnyH_ready (rs := [33]) (by kernel_rfl) (by simp) ?_
    refine AllReadyH.cons (o := { dst := some 76, op := Op.call { callee := Callee.value (Operand.func 23), args := #[Operand.tmp 74, Operand.tmp 75], argTypes := #[28, 28] }, type := 4, pos := "law.go:45", after := #[{ on := 31, ground := Ground.data }, { on := 32, ground := Ground.data }, { on := 30, ground := Ground.chain }, { on := 30, ground := Ground.guard }], guard := some (30, true) }) rfl (fun K hK => ?_) AllReadyH.nil
    go_simp
    go_at_call 23
    refine (rfSame_yes wz _ _ _ R R HRz.out HMz.out mW (SameR.refl R) HB1.out HB2.out).mono ?_
    rintro _ w133 ⟨rfl, m133⟩
    replace mW := mW.then m133
    refine hK.out _ _ ?_ (fun hHeld => ?_)
    · exact hS _ mW
    clear hK K
    try simp only [Act.put, List.setIfInBounds_toArray, List.set_cons_zero, List.set_cons_succ]
    refine wpAnyH_take (i := 34) (oi := { dst := some 77, op := Op.pick (Operand.tmp 73) (Operand.tmp 76) (Operand.const (Value.bool false)), type := 4, pos := "law.go:45", after := #[{ on := 30, ground := Ground.data }, { on := 33, ground := Ground.data }], guard := none }) (v := ?_) rfl (by kernel_rfl) (by kernel_rfl) (by kernel_rfl) (fun _ _ _ h => h) (Or.inl ⟨by rfl, ?_⟩) (by assumption) ?_
    rotate_left
    · (intro w hSw; (try dsimp only at hSw); go_simp; try (with_reducible rfl))
    try simp only [Act.put, List.setIfInBounds_toArray, List.set_cons_zero, List.set_cons_succ]
    refine wpAnyH_take (i := 35) (oi := { dst := some 78, op := Op.move (Operand.tmp 77), type := 4, pos := "law.go:45", after := #[{ on := 34, ground := Ground.data }, { on := 33, ground := Ground.chain }], guard := none }) (v := ?_) rfl (by kernel_rfl) (by kernel_rfl) (by kernel_rfl) (fun _ _ _ h => h) (Or.inl ⟨by rfl, ?_⟩) (by assumption) ?_
    rotate_left
    · (intro w hSw; (try dsimp only at hSw); go_simp; try (with_reducible rfl))
    try simp only [Act.put, List.setIfInBounds_toArray, List.set_cons_zero, List.set_cons_succ]
    refine wpAnyH_take (i := 36) (oi := { dst := some 79, op := Op.load 28 (Operand.tmp 4), type := 28, pos := "law.go:45", after := #[{ on := 35, ground := Ground.guard }], guard := some (35, true) }) (v := ?_) rfl (by kernel_rfl) (by kernel_rfl) (by kernel_rfl) (fun _ _ _ h => h) (Or.inl ⟨by rfl, ?_⟩) (by assumption) ?_
    rotate_left
    · (intro w hSw; (try dsimp only at hSw); go_simp; try (with_reducible rfl))
    try simp only [Act.put, List.setIfInBounds_toArray, List.set_cons_zero, List.set_cons_succ]
    refine wpAnyH_take (i := 38) (oi := { dst := some 81, op := Op.load 28 (Operand.tmp 5), type := 28, pos := "law.go:45", after := #[{ on := 35, ground := Ground.guard }], guard := some (35, true) }) (v := ?_) rfl (by kernel_rfl) (by kernel_rfl) (by kernel_rfl) (fun _ _ _ h => h) (Or.inl ⟨by rfl, ?_⟩) (by assumption) ?_
    rotate_left
    · (intro w hSw; (try dsimp only at hSw); go_simp; try (with_reducible rfl))
    try simp only [Act.put, List.setIfInBounds_toArray, List.set_cons_zero, List.set_cons_succ]
    refine wpAnyH_ready (rs := [37]) (by kernel_rfl) (by simp) ?_
    refine AllReadyH.cons (o := { dst := some 80, op := Op.call { callee := Callee.value (Operand.func 47), args := #[Operand.tmp 79], argTypes := #[28] }, type := 28, pos := "law.go:45", after := #[{ on := 36, ground := Ground.data }, { on := 35, ground := Ground.chain }, { on := 35, ground := Ground.guard }], guard := some (35, true) }) rfl (fun K hK => ?_) AllReadyH.nil
    go_simp
    go_at_call 47
    refine (copy_w wz _ _ R HRz.out mW).mono ?_
    rintro _ w137 ⟨lv, rfl, hG, m137⟩
    have HG : Hid (RowAt w137 (.agg #[lv]) (R.map pcanonC)) := by have h := hG.at; rw [pcopy_of HPr.out] at h; exact ⟨_, rfl, h⟩
    clear hG
    replace mW := mW.then m137
    refine hK.out _ _ ?_ (fun hHeld => ?_)
    · exact hS _ mW
    clear hK K
    try simp only [Act.put, List.setIfInBounds_toArray, List.set_cons_zero, List.set_cons_succ]
    refine wpAnyH_ready (rs := [39]) (by kernel_rfl) (by simp) ?_
    refine AllReadyH.cons (o := { dst := some 82, op := Op.call { callee := Callee.value (Operand.func 23), args := #[Operand.tmp 80, Operand.tmp 81], argTypes := #[28, 28] }, type := 4, pos := "law.go:45", after := #[{ on := 37, ground := Ground.data }, { on := 38, ground := Ground.data }, { on := 37, ground := Ground.chain }, { on := 35, ground := Ground.guard }], guard := some (35, true) }) rfl (fun K hK => ?_) AllReadyH.nil
    go_simp
    go_at_call 23
    refine (rfSame_yes w137 _ _ _ (R.map pcanonC) R HG.out (HMz.out.moves mW) (Moves.refl _ _) (SameR.canon R) HB3.out HB4.out).mono ?_
    rintro _ w139 ⟨rfl, m139⟩
    replace mW := mW.then m139
    refine hK.out _ _ ?_ (fun hHeld => ?_)
    · exact hS _ mW
    clear hK K
    try simp only [Act.put, List.setIfInBounds_toArray, List.set_cons_zero, List.set_cons_succ]
    refine wpAnyH_take (i := 40) (oi := { dst := some 83, op := Op.pick (Operand.tmp 78) (Operand.tmp 82) (Operand.const (Value.bool false)), type := 4, pos := "law.go:45", after := #[{ on := 35, ground := Ground.data }, { on := 39, ground := Ground.data }], guard := none }) (v := ?_) rfl (by kernel_rfl) (by kernel_rfl) (by kernel_rfl) (fun _ _ _ h => h) (Or.inl ⟨by rfl, ?_⟩) (by assumption) ?_
    rotate_left
    · (intro w hSw; (try dsimp only at hSw); go_simp; try (with_reducible rfl))
    try simp only [Act.put, List.setIfInBounds_toArray, List.set_cons_zero, List.set_cons_succ]
    refine wpAnyH_take (i := 41) (oi := { dst := some 8, op := Op.assign (Operand.tmp 83), type := 4, pos := "law.go:45", after := #[{ on := 40, ground := Ground.data }, { on := 39, ground := Ground.chain }, { on := 0, ground := Ground.phase }, { on := 1, ground := Ground.phase }, { on := 2, ground := Ground.phase }, { on := 3, ground := Ground.phase }, { on := 4, ground := Ground.phase }, { on := 5, ground := Ground.phase }, { on := 6, ground := Ground.phase }, { on := 7, ground := Ground.phase }, { on := 8, ground := Ground.phase }, { on := 9, ground := Ground.phase }, { on := 10, ground := Ground.phase }, { on := 11, ground := Ground.phase }, { on := 12, ground := Ground.phase }, { on := 13, ground := Ground.phase }, { on := 14, ground := Ground.phase }, { on := 15, ground := Ground.phase }, { on := 16, ground := Ground.phase }, { on := 17, ground := Ground.phase }, { on := 18, ground := Ground.phase }, { on := 19, ground := Ground.phase }, { on := 20, ground := Ground.phase }, { on := 21, ground := Ground.phase }, { on := 22, ground := Ground.phase }, { on := 23, ground := Ground.phase }, { on := 24, ground := Ground.phase }, { on := 25, ground := Ground.phase }, { on := 26, ground := Ground.phase }, { on := 27, ground := Ground.phase }, { on := 28, ground := Ground.phase }, { on := 29, ground := Ground.phase }, { on := 30, ground := Ground.phase }, { on := 31, ground := Ground.phase }, { on := 32, ground := Ground.phase }, { on := 33, ground := Ground.phase }, { on := 34, ground := Ground.phase }, { on := 35, ground := Ground.phase }, { on := 36, ground := Ground.phase }, { on := 37, ground := Ground.phase }, { on := 38, ground := Ground.phase }, { on := 39, ground := Ground.phase }, { on := 40, ground := Ground.phase }], guard := none }) (v := ?_) rfl (by kernel_rfl) (by kernel_rfl) (by kernel_rfl) (fun _ _ _ h => h) (Or.inl ⟨by rfl, ?_⟩) (by assumption) ?_
    rotate_left
    · (intro w hSw; (try dsimp only at hSw); go_simp; try (with_reducible rfl))
    try simp only [Act.put, List.setIfInBounds_toArray, List.set_cons_zero, List.set_cons_succ]
    refine wpAnyH_done (by kernel_rfl) ?_ _
    refine NoPanic.normal ?_
    exact ⟨rfl, by kernel_rfl, by kernel_rfl, mW⟩
  · rintro u wx ⟨hu8, mx⟩
    simp only [List.foldl_cons, List.foldl_nil, List.setIfInBounds_toArray, List.set_cons_zero, List.set_cons_succ, hu8]
    clear hu8
    go_wp2_with fail
    go_ret
    exact ⟨rfl, HMW.out.then mx⟩
end Go.Proofs.Ytfegflimnngfaaa
