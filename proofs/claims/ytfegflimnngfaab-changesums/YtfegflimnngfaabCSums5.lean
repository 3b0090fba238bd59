/-
  ChangeSums' walk.
-/
import Derived.Test.YtfegflimnngfaabCSum5
import Derived.Test.YtfegflimnngfaabCKnown5
import Derived.Test.YtfegflimnngfaabCRef7
namespace Go.Proofs.Ytfegflimnngfaab
open Go.RowKit

def sS : ByteArray := ⟨#[115, 117, 109]⟩
theorem VC.text0 (w : World) : VC w [.int .i64 1, .slice none 0 0, .float .f64 0] ⟨1, [], 0⟩ := ⟨none, 0, 0, 0, rfl, isB_nil _ _, fits_zero, by simp, by simp, .inl rfl⟩

theorem rcanonN (w : World) (x : Nat) (hx : Pl.Fits x) : Calls Try.prog 13 #[.agg #[.int .i64 2, .slice none 0 0, .float .f64 x]] w fun e w' => ∃ ad n cap, e = .returned (.agg #[.int .i64 2, .slice ad n cap, .float .f64 (Pl.canon x)]) ∧ VC w' [.int .i64 2, .slice ad n cap, .float .f64 (Pl.canon x)] (pnum (Pl.canon x)) ∧ Moves [] w w' := by
  refine (rcanonC_w w w 2 none 0 0 x (pnum x) (VC.num w hx).va (Moves.refl _ _)).mono ?_
  rintro e w' ⟨ad, n, cap, rfl, h, m, _⟩
  rw [pcanon_num] at h ⊢
  exact ⟨ad, n, cap, rfl, h, m⟩
theorem rplusN (w : World) (ad : Option Addr) (n cap xw ww x : Nat) (h : VA w [.int .i64 2, .slice ad n cap, .float .f64 xw] (pnum ww)) (hx : Pl.Fits x) : Calls Try.prog 14 #[.agg #[.int .i64 2, .slice ad n cap, .float .f64 xw], .agg #[.int .i64 2, .slice none 0 0, .float .f64 x]] w fun e w' => e = .returned (.tuple #[.agg #[.int .i64 2, .slice none 0 0, .float .f64 (Pl.sum ww x)], .int .i64 0]) ∧ Moves [] w w' :=
  rplus_p w w 2 2 ad none n 0 cap 0 xw x (pnum ww) (pnum x) h (VC.num w hx).va (Moves.refl _ _)

set_option maxRecDepth 100000 in
set_option maxHeartbeats 16000000 in
theorem sumsLaw_w (u0 u1 : Value) (w : World) (h0 : KArgs w u0) (h1 : IArg u1) :
    Calls Try.prog 4 #[u0, u1] w fun e w' => e = .returned (.bool true) ∧ Moves [] w w' := by
  obtain ⟨adv, nv, cv, rfl, hcv, hV⟩ := h0
  obtain ⟨tt, rfl⟩ := h1
  have HVs := hV
  have hsS : pname sS = true := by decide
  have HsS : Hid (pname sS = true) := hsS
  clear hV hsS
  go_enter Try.func4, Try.ntmps4
  go_wp2_with fail
  obtain ⟨w1, hw1⟩ : ∃ w1, (w.alloc (.cells #[.slice none 0 0] 25)).alloc (.cells #[.int .i64 0, .slice none 0 0, .float .f64 0] 35) = w1 := ⟨_, rfl⟩
  obtain ⟨p0, p1, m1⟩ : w1.heap[w.heap.size]? = some (.cells #[.slice none 0 0] 25 (0, 0)) ∧ w1.heap[w.heap.size + 1]? = some (.cells #[.int .i64 0, .slice none 0 0, .float .f64 0] 35 (0, 0)) ∧ Moves [] w w1 := by rw [← hw1]; exact boxes (Moves.refl _ _)
  rw [hw1]
  obtain ⟨pw, hpw⟩ : ∃ pw, w.heap.size + 1 = pw := ⟨_, rfl⟩
  obtain ⟨pr, hpr⟩ : ∃ pr, w.heap.size = pr := ⟨_, rfl⟩
  rw [hpw] at p1
  rw [hpr] at p0
  rw [hpw, hpr]
  have hpw' : w.heap.size < pw := by omega
  have hpr' : w.heap.size ≤ pr := by omega
  have hne : ¬ pr = pw := by omega
  have hne' : ¬ pw = pr := by omega
  clear hw1 hpw hpr
  go_loopw [7] (fun i wr => ∃ (k : Nat) (lv : Value) (kd : Int) (ad : Option Addr) (n c x : Nat) (R : List Pcol) (ww : Nat), (k ≤ 15 ∧ k ≤ nv) ∧ i = .int .i64 k ∧ Moves [] w wr ∧ wr.heap[pr]? = some (.cells #[lv] 25 (0, 0)) ∧ wr.heap[pw]? = some (.cells #[.int .i64 kd, .slice ad n c, .float .f64 x] 35 (0, 0)) ∧ RowAt wr (.agg #[lv]) R ∧ SumInv sS k R ww ∧ (0 < k → kd = 2 ∧ VA wr [.int .i64 kd, .slice ad n c, .float .f64 x] (pnum ww))) (fun i _ => 15 - (intOf i).toNat)
  case atStart => exact ⟨0, _, _, _, _, _, _, [], 0, ⟨by omega, by omega⟩, rfl, m1, p0, p1, RowAt.nil _, .inl ⟨rfl, rfl⟩, fun h => absurd h (by omega)⟩
  case round =>
    obtain ⟨k, lv, kd, adw, nw, cw, xw, R, ww, ⟨hk1, hk2⟩, rfl, mr, q0', q1', hR, hI, hWV⟩ := hrel
    obtain ⟨_, elv, hCr⟩ := id hR
    simp at elv
    subst elv
    obtain ⟨adr, capr, elv, _⟩ := hCr.slice
    obtain ⟨nr, hnr⟩ : ∃ nr, Hid (nr = R.length) := ⟨_, rfl⟩
    rw [← hnr.out] at elv
    subst elv
    have HI : Hid (SumInv sS k R ww) := hI
    have HRr : Hid (RowAt wr (.agg #[.slice adr nr capr]) R) := hR
    have HWr : Hid (0 < k → kd = 2 ∧ VA wr [.int .i64 kd, .slice adw nw cw, .float .f64 xw] (pnum ww)) := hWV
    obtain ⟨r0, _⟩ := one_cell q0'
    clear hR hCr hI hWV p0 p1
    by_cases hc : k < nv ∧ k < 15
    · obtain ⟨hc1, hc2⟩ := hc
      have hc1' : (k : Int) < nv := by omega
      have hc2' : (k : Int) < 15 := by omega
      obtain ⟨b, off, tb, tn, tx, a2, l2, c2, rfl, e0, e1, e2, e3, hK⟩ := HVs k hc1
      have v1 := mr.cell e1
      have v2 := mr.cell e2
      obtain ⟨_, _, _, _, _, _, _, _, hKe, htx0, _⟩ := hK.out
      have htx : Pl.Fits tx := by
        simp only [Value.agg.injEq, Array.mk.injEq, List.cons.injEq, Value.float.injEq, and_true, true_and] at hKe
        rw [hKe.2.2.1]
        exact htx0
      have hS : ∀ w', Moves [] wr w' → ((fun w' => w'.cell? ⟨b, off + k * 4 + 1, none⟩ = some (.int .i64 tn) ∧ w'.cell? ⟨b, off + k * 4 + 2, none⟩ = some (.float .f64 tx)) w') := fun w' m' => ⟨m'.cell v1, m'.cell v2⟩
      have mW : Moves [] wr wr.drew := (Moves.refl _ _).drew
      clear e0 e1 e2 e3 hK hKe htx0
      go_wp2_with fail
      refine wp_some [25, 26, 27, 28, 29, 30, 31, 32, 33, 34, 35, 36, 8] (fun u w' => ∃ (x pb : Nat), Pl.Fits x ∧ u 8 = .pointer (some ⟨pb, 0, none⟩) ∧ w'.heap[pb]? = some (.cells #[.int .i64 2, .slice none 0 0, .float .f64 x] 35 (0, 0)) ∧ wr.heap.size ≤ pb ∧ Moves [] wr w') ?_ ?_
      · refine wp_region_noPanic ?_
        refine wp_region_held_drew (S := (fun w' => w'.cell? ⟨b, off + k * 4 + 1, none⟩ = some (.int .i64 tn) ∧ w'.cell? ⟨b, off + k * 4 + 2, none⟩ = some (.float .f64 tx))) (by kernel_rfl) ?_ (fun hHeld => ?_)
        · first | (go_keep; done) | first | exact hS _ mW | exact hS _ st2
        refine wpAnyH_take (i := 0) (oi := { dst := some 25, op := Op.move (Operand.tmp 0), type := 41, pos := "law.go:169", after := #[], guard := none }) (v := ?_) rfl (by kernel_rfl) (by kernel_rfl) (by kernel_rfl) (fun _ _ _ h => h) (Or.inl ⟨by rfl, ?_⟩) (by assumption) ?_
        rotate_left
        · (intro w hSw; (try dsimp only at hSw); go_simp; try (with_reducible rfl))
        try simp only [Act.put, List.setIfInBounds_toArray, List.set_cons_zero, List.set_cons_succ]
        refine wpAnyH_take (i := 1) (oi := { dst := some 26, op := Op.move (Operand.tmp 7), type := 3, pos := "law.go:169", after := #[], guard := none }) (v := ?_) rfl (by kernel_rfl) (by kernel_rfl) (by kernel_rfl) (fun _ _ _ h => h) (Or.inl ⟨by rfl, ?_⟩) (by assumption) ?_
        rotate_left
        · (intro w hSw; (try dsimp only at hSw); go_simp; try (with_reducible rfl))
        try simp only [Act.put, List.setIfInBounds_toArray, List.set_cons_zero, List.set_cons_succ]
        refine wpAnyH_take (i := 2) (oi := { dst := some 27, op := Op.indexAddr 41 (Operand.tmp 25) (Operand.tmp 26), type := 0, pos := "law.go:169", after := #[{ on := 0, ground := Ground.data }, { on := 1, ground := Ground.data }], guard := none }) (v := ?_) rfl (by kernel_rfl) (by kernel_rfl) (by kernel_rfl) (fun _ _ _ h => h) (Or.inl ⟨by rfl, ?_⟩) (by assumption) ?_
        rotate_left
        · (intro w hSw; (try dsimp only at hSw); go_simp; try (with_reducible rfl))
        try simp only [Act.put, List.setIfInBounds_toArray, List.set_cons_zero, List.set_cons_succ]
        refine wpAnyH_take (i := 3) (oi := { dst := some 28, op := Op.fieldAddr 45 (Operand.tmp 27) 1, type := 0, pos := "law.go:169", after := #[{ on := 2, ground := Ground.data }], guard := none }) (v := ?_) rfl (by kernel_rfl) (by kernel_rfl) (by kernel_rfl) (fun _ _ _ h => h) (Or.inl ⟨by rfl, ?_⟩) (by assumption) ?_
        rotate_left
        · (intro w hSw; (try dsimp only at hSw); go_simp; try (with_reducible rfl))
        try simp only [Act.put, List.setIfInBounds_toArray, List.set_cons_zero, List.set_cons_succ]
        refine wpAnyH_take (i := 4) (oi := { dst := some 29, op := Op.load 3 (Operand.tmp 28), type := 3, pos := "law.go:169", after := #[{ on := 3, ground := Ground.data }], guard := none }) (v := ?_) rfl (by kernel_rfl) (by kernel_rfl) (by kernel_rfl) (fun _ _ _ h => h) (Or.inl ⟨by rfl, ?_⟩) (by assumption) ?_
        rotate_left
        · (intro w hSw; (try dsimp only at hSw); go_simp; try (with_reducible rfl))
        try simp only [Act.put, List.setIfInBounds_toArray, List.set_cons_zero, List.set_cons_succ]
        refine wpAnyH_take (i := 5) (oi := { dst := some 30, op := Op.move (Operand.tmp 0), type := 41, pos := "law.go:169", after := #[], guard := none }) (v := ?_) rfl (by kernel_rfl) (by kernel_rfl) (by kernel_rfl) (fun _ _ _ h => h) (Or.inl ⟨by rfl, ?_⟩) (by assumption) ?_
        rotate_left
        · (intro w hSw; (try dsimp only at hSw); go_simp; try (with_reducible rfl))
        try simp only [Act.put, List.setIfInBounds_toArray, List.set_cons_zero, List.set_cons_succ]
        refine wpAnyH_take (i := 6) (oi := { dst := some 31, op := Op.move (Operand.tmp 7), type := 3, pos := "law.go:169", after := #[], guard := none }) (v := ?_) rfl (by kernel_rfl) (by kernel_rfl) (by kernel_rfl) (fun _ _ _ h => h) (Or.inl ⟨by rfl, ?_⟩) (by assumption) ?_
        rotate_left
        · (intro w hSw; (try dsimp only at hSw); go_simp; try (with_reducible rfl))
        try simp only [Act.put, List.setIfInBounds_toArray, List.set_cons_zero, List.set_cons_succ]
        refine wpAnyH_take (i := 7) (oi := { dst := some 32, op := Op.indexAddr 41 (Operand.tmp 30) (Operand.tmp 31), type := 0, pos := "law.go:169", after := #[{ on := 5, ground := Ground.data }, { on := 6, ground := Ground.data }], guard := none }) (v := ?_) rfl (by kernel_rfl) (by kernel_rfl) (by kernel_rfl) (fun _ _ _ h => h) (Or.inl ⟨by rfl, ?_⟩) (by assumption) ?_
        rotate_left
        · (intro w hSw; (try dsimp only at hSw); go_simp; try (with_reducible rfl))
        try simp only [Act.put, List.setIfInBounds_toArray, List.set_cons_zero, List.set_cons_succ]
        refine wpAnyH_take (i := 8) (oi := { dst := some 33, op := Op.fieldAddr 45 (Operand.tmp 32) 2, type := 0, pos := "law.go:169", after := #[{ on := 7, ground := Ground.data }], guard := none }) (v := ?_) rfl (by kernel_rfl) (by kernel_rfl) (by kernel_rfl) (fun _ _ _ h => h) (Or.inl ⟨by rfl, ?_⟩) (by assumption) ?_
        rotate_left
        · (intro w hSw; (try dsimp only at hSw); go_simp; try (with_reducible rfl))
        try simp only [Act.put, List.setIfInBounds_toArray, List.set_cons_zero, List.set_cons_succ]
        refine wpAnyH_take (i := 9) (oi := { dst := some 34, op := Op.load 33 (Operand.tmp 33), type := 33, pos := "law.go:169", after := #[{ on := 8, ground := Ground.data }], guard := none }) (v := ?_) rfl (by kernel_rfl) (by kernel_rfl) (by kernel_rfl) (fun _ _ _ h => h) (Or.inl ⟨by rfl, ?_⟩) (by assumption) ?_
        rotate_left
        · (intro w hSw; (try dsimp only at hSw); go_simp; try (with_reducible rfl))
        try simp only [Act.put, List.setIfInBounds_toArray, List.set_cons_zero, List.set_cons_succ]
        refine wpAnyH_ready (rs := [10, 12]) (by kernel_rfl) (by simp) ?_
        refine AllReadyH.cons (o := { dst := some 35, op := Op.call { callee := Callee.value (Operand.func 12), args := #[Operand.tmp 29, Operand.tmp 34], argTypes := #[3, 33] }, type := 33, pos := "law.go:169", after := #[{ on := 4, ground := Ground.data }, { on := 9, ground := Ground.data }], guard := none }) rfl (fun K hK => ?_) (AllReadyH.cons (o := { dst := some 8, op := Op.alloc 35, type := 0, pos := "law.go:169", after := #[], guard := none }) rfl (fun K hK => ?_) AllReadyH.nil)
        · go_simp
          go_at_call 12
          refine (float_w _ _ htx _).mono ?_
          rintro _ _ ⟨x, hx, rfl, rfl⟩
          refine hK.out _ _ ?_ (fun hHeld => ?_)
          · first | exact hS _ mW | exact hS _ st2
          clear hK K
          try simp only [Act.put, List.setIfInBounds_toArray, List.set_cons_zero, List.set_cons_succ]
          refine wpAnyH_ready (rs := [11, 12]) (by kernel_rfl) (by simp) ?_
          refine AllReadyH.cons (o := { dst := some 36, op := Op.call { callee := Callee.value (Operand.func 11), args := #[Operand.tmp 35], argTypes := #[33] }, type := 35, pos := "law.go:169", after := #[{ on := 10, ground := Ground.data }, { on := 10, ground := Ground.chain }], guard := none }) rfl (fun K hK => ?_) (AllReadyH.cons (o := { dst := some 8, op := Op.alloc 35, type := 0, pos := "law.go:169", after := #[], guard := none }) rfl (fun K hK => ?_) AllReadyH.nil)
          · go_simp
            go_at_call 11
            refine (num5_w _ _).mono ?_
            rintro _ w11 ⟨rfl, m11⟩
            replace mW := mW.then m11
            refine hK.out _ _ ?_ (fun hHeld => ?_)
            · first | exact hS _ mW | exact hS _ st2
            clear hK K
            try simp only [Act.put, List.setIfInBounds_toArray, List.set_cons_zero, List.set_cons_succ]
            refine wpAnyH_ready (rs := [12]) (by kernel_rfl) (by simp) ?_
            refine AllReadyH.cons (o := { dst := some 8, op := Op.alloc 35, type := 0, pos := "law.go:169", after := #[], guard := none }) rfl (fun K hK => ?_) AllReadyH.nil
            go_simp
            have hle := mW.size
            obtain ⟨w12, hwa⟩ : ∃ w12, w11.alloc (.cells #[.int .i64 0, .slice none 0 0, .float .f64 0] 35) = w12 := ⟨_, rfl⟩
            have hb : w12.heap[w11.heap.size]? = some (.cells #[.int .i64 0, .slice none 0 0, .float .f64 0] 35 (0, 0)) := by rw [← hwa]; exact heap_alloc_new w11 _
            have mA : Moves [] w11 w12 := by rw [← hwa]; exact (Moves.refl _ _).alloc _
            rw [hwa]
            obtain ⟨pb, hpb⟩ : ∃ pb, w11.heap.size = pb := ⟨_, rfl⟩
            rw [hpb] at hb ⊢
            have hle : wr.heap.size ≤ pb := by rw [← hpb]; first | exact hle | exact Nat.le_refl _
            replace mW := mW.then mA
            clear hwa hpb
            refine hK.out _ _ ?_ (fun hHeld => ?_)
            · first | exact hS _ mW | exact hS _ st2
            clear hK K
            try simp only [Act.put, List.setIfInBounds_toArray, List.set_cons_zero, List.set_cons_succ]
            refine wpAnyH_ready (rs := [13]) (by kernel_rfl) (by simp) ?_
            refine AllReadyH.cons (o := { dst := none, op := Op.store 35 (Operand.tmp 8) (Operand.tmp 36), type := 0, pos := "law.go:169", after := #[{ on := 12, ground := Ground.data }, { on := 11, ground := Ground.data }, { on := 11, ground := Ground.chain }, { on := 0, ground := Ground.phase }, { on := 1, ground := Ground.phase }, { on := 2, ground := Ground.phase }, { on := 3, ground := Ground.phase }, { on := 4, ground := Ground.phase }, { on := 5, ground := Ground.phase }, { on := 6, ground := Ground.phase }, { on := 7, ground := Ground.phase }, { on := 8, ground := Ground.phase }, { on := 9, ground := Ground.phase }, { on := 10, ground := Ground.phase }, { on := 11, ground := Ground.phase }, { on := 12, ground := Ground.phase }], guard := none }) rfl (fun K hK => ?_) AllReadyH.nil
            obtain ⟨f0, f1, f2, g0, g1, g2⟩ := three_cells hb
            obtain ⟨st1, st2, st3⟩ := stored3 hb mW hle (.int .i64 2) (.slice none 0 0) (.float .f64 x)
            go_simp
            refine hK.out _ _ ?_ (fun hHeld => ?_)
            · first | exact hS _ mW | exact hS _ st2
            clear hK K
            refine wpAnyH_done (by kernel_rfl) ?_ _
            refine NoPanic.normal ?_
            exact ⟨rfl, by kernel_rfl, x, pb, hx, by kernel_rfl, st1, hle, st2⟩
          · go_simp
            have hle := mW.size
            obtain ⟨w12, hwa⟩ : ∃ w12, (wr.alloc (.cells #[.int .i64 0, .slice none 0 0, .float .f64 0] 35)).drew = w12 := ⟨_, rfl⟩
            have hb : w12.heap[wr.heap.size]? = some (.cells #[.int .i64 0, .slice none 0 0, .float .f64 0] 35 (0, 0)) := by rw [← hwa]; exact heap_alloc_new wr _
            have mA : Moves [] wr w12 := by rw [← hwa]; exact ((Moves.refl _ _).alloc _).drew
            rw [hwa]
            obtain ⟨pb, hpb⟩ : ∃ pb, wr.heap.size = pb := ⟨_, rfl⟩
            rw [hpb] at hb ⊢
            have hle : wr.heap.size ≤ pb := by rw [← hpb]; first | exact hle | exact Nat.le_refl _
            replace mW := mA
            clear hwa hpb
            refine hK.out _ _ ?_ (fun hHeld => ?_)
            · first | exact hS _ mW | exact hS _ st2
            clear hK K
            try simp only [Act.put, List.setIfInBounds_toArray, List.set_cons_zero, List.set_cons_succ]
            refine wpAnyH_ready (rs := [11]) (by kernel_rfl) (by simp) ?_
            refine AllReadyH.cons (o := { dst := some 36, op := Op.call { callee := Callee.value (Operand.func 11), args := #[Operand.tmp 35], argTypes := #[33] }, type := 35, pos := "law.go:169", after := #[{ on := 10, ground := Ground.data }, { on := 10, ground := Ground.chain }], guard := none }) rfl (fun K hK => ?_) AllReadyH.nil
            go_simp
            go_at_call 11
            refine (num5_w _ _).mono ?_
            rintro _ w11 ⟨rfl, m11⟩
            replace mW := mW.then m11
            have hb := m11.at hb (by simp)
            refine hK.out _ _ ?_ (fun hHeld => ?_)
            · first | exact hS _ mW | exact hS _ st2
            clear hK K
            try simp only [Act.put, List.setIfInBounds_toArray, List.set_cons_zero, List.set_cons_succ]
            refine wpAnyH_ready (rs := [13]) (by kernel_rfl) (by simp) ?_
            refine AllReadyH.cons (o := { dst := none, op := Op.store 35 (Operand.tmp 8) (Operand.tmp 36), type := 0, pos := "law.go:169", after := #[{ on := 12, ground := Ground.data }, { on := 11, ground := Ground.data }, { on := 11, ground := Ground.chain }, { on := 0, ground := Ground.phase }, { on := 1, ground := Ground.phase }, { on := 2, ground := Ground.phase }, { on := 3, ground := Ground.phase }, { on := 4, ground := Ground.phase }, { on := 5, ground := Ground.phase }, { on := 6, ground := Ground.phase }, { on := 7, ground := Ground.phase }, { on := 8, ground := Ground.phase }, { on := 9, ground := Ground.phase }, { on := 10, ground := Ground.phase }, { on := 11, ground := Ground.phase }, { on := 12, ground := Ground.phase }], guard := none }) rfl (fun K hK => ?_) AllReadyH.nil
            obtain ⟨f0, f1, f2, g0, g1, g2⟩ := three_cells hb
            obtain ⟨st1, st2, st3⟩ := stored3 hb mW hle (.int .i64 2) (.slice none 0 0) (.float .f64 x)
            go_simp
            refine hK.out _ _ ?_ (fun hHeld => ?_)
            · first | exact hS _ mW | exact hS _ st2
            clear hK K
            refine wpAnyH_done (by kernel_rfl) ?_ _
            refine NoPanic.normal ?_
            exact ⟨rfl, by kernel_rfl, x, pb, hx, by kernel_rfl, st1, hle, st2⟩
        · go_simp
          have hle := mW.size
          obtain ⟨w12, hwa⟩ : ∃ w12, (wr.alloc (.cells #[.int .i64 0, .slice none 0 0, .float .f64 0] 35)).drew = w12 := ⟨_, rfl⟩
          have hb : w12.heap[wr.heap.size]? = some (.cells #[.int .i64 0, .slice none 0 0, .float .f64 0] 35 (0, 0)) := by rw [← hwa]; exact heap_alloc_new wr _
          have mA : Moves [] wr w12 := by rw [← hwa]; exact ((Moves.refl _ _).alloc _).drew
          rw [hwa]
          obtain ⟨pb, hpb⟩ : ∃ pb, wr.heap.size = pb := ⟨_, rfl⟩
          rw [hpb] at hb ⊢
          have hle : wr.heap.size ≤ pb := by rw [← hpb]; first | exact hle | exact Nat.le_refl _
          replace mW := mA
          clear hwa hpb
          refine hK.out _ _ ?_ (fun hHeld => ?_)
          · first | exact hS _ mW | exact hS _ st2
          clear hK K
          try simp only [Act.put, List.setIfInBounds_toArray, List.set_cons_zero, List.set_cons_succ]
          refine wpAnyH_ready (rs := [10]) (by kernel_rfl) (by simp) ?_
          refine AllReadyH.cons (o := { dst := some 35, op := Op.call { callee := Callee.value (Operand.func 12), args := #[Operand.tmp 29, Operand.tmp 34], argTypes := #[3, 33] }, type := 33, pos := "law.go:169", after := #[{ on := 4, ground := Ground.data }, { on := 9, ground := Ground.data }], guard := none }) rfl (fun K hK => ?_) AllReadyH.nil
          go_simp
          go_at_call 12
          refine (float_w _ _ htx _).mono ?_
          rintro _ _ ⟨x, hx, rfl, rfl⟩
          refine hK.out _ _ ?_ (fun hHeld => ?_)
          · first | exact hS _ mW | exact hS _ st2
          clear hK K
          try simp only [Act.put, List.setIfInBounds_toArray, List.set_cons_zero, List.set_cons_succ]
          refine wpAnyH_ready (rs := [11]) (by kernel_rfl) (by simp) ?_
          refine AllReadyH.cons (o := { dst := some 36, op := Op.call { callee := Callee.value (Operand.func 11), args := #[Operand.tmp 35], argTypes := #[33] }, type := 35, pos := "law.go:169", after := #[{ on := 10, ground := Ground.data }, { on := 10, ground := Ground.chain }], guard := none }) rfl (fun K hK => ?_) AllReadyH.nil
          go_simp
          go_at_call 11
          refine (num5_w _ _).mono ?_
          rintro _ w11 ⟨rfl, m11⟩
          replace mW := mW.then m11
          have hb := m11.at hb (by simp)
          refine hK.out _ _ ?_ (fun hHeld => ?_)
          · first | exact hS _ mW | exact hS _ st2
          clear hK K
          try simp only [Act.put, List.setIfInBounds_toArray, List.set_cons_zero, List.set_cons_succ]
          refine wpAnyH_ready (rs := [13]) (by kernel_rfl) (by simp) ?_
          refine AllReadyH.cons (o := { dst := none, op := Op.store 35 (Operand.tmp 8) (Operand.tmp 36), type := 0, pos := "law.go:169", after := #[{ on := 12, ground := Ground.data }, { on := 11, ground := Ground.data }, { on := 11, ground := Ground.chain }, { on := 0, ground := Ground.phase }, { on := 1, ground := Ground.phase }, { on := 2, ground := Ground.phase }, { on := 3, ground := Ground.phase }, { on := 4, ground := Ground.phase }, { on := 5, ground := Ground.phase }, { on := 6, ground := Ground.phase }, { on := 7, ground := Ground.phase }, { on := 8, ground := Ground.phase }, { on := 9, ground := Ground.phase }, { on := 10, ground := Ground.phase }, { on := 11, ground := Ground.phase }, { on := 12, ground := Ground.phase }], guard := none }) rfl (fun K hK => ?_) AllReadyH.nil
          obtain ⟨f0, f1, f2, g0, g1, g2⟩ := three_cells hb
          obtain ⟨st1, st2, st3⟩ := stored3 hb mW hle (.int .i64 2) (.slice none 0 0) (.float .f64 x)
          go_simp
          refine hK.out _ _ ?_ (fun hHeld => ?_)
          · first | exact hS _ mW | exact hS _ st2
          clear hK K
          refine wpAnyH_done (by kernel_rfl) ?_ _
          refine NoPanic.normal ?_
          exact ⟨rfl, by kernel_rfl, x, pb, hx, by kernel_rfl, st1, hle, st2⟩
      · rintro u wx ⟨x, pb, hx, hu8, qb, hle, mx⟩
        simp only [List.foldl_cons, List.foldl_nil, List.setIfInBounds_toArray, List.set_cons_zero, List.set_cons_succ, hu8]
        clear hu8
        generalize u 25 = u25
        generalize u 26 = u26
        generalize u 27 = u27
        generalize u 28 = u28
        generalize u 29 = u29
        generalize u 30 = u30
        generalize u 31 = u31
        generalize u 32 = u32
        generalize u 33 = u33
        generalize u 34 = u34
        generalize u 35 = u35
        generalize u 36 = u36
        have q0 := mx.at q0' (by simp)
        have q1 := mx.at q1' (by simp)
        have hlp : pr < wr.heap.size := lt_of_block q0'
        have hlw : pw < wr.heap.size := lt_of_block q1'
        have hlx := mx.size
        have n1 : ¬ pb = pr := by omega
        have n2 : ¬ pr = pb := by omega
        have n3 : ¬ pb = pw := by omega
        have n4 : ¬ pw = pb := by omega
        have MWx : Hid (Moves [] w wx) := mr.then mx
        obtain ⟨g0, _⟩ := one_cell q0
        obtain ⟨g1, g2, g3, _⟩ := three_cells qb
        obtain ⟨hE, R', hR', hI', hRR, hNN⟩ := sum_step HI.out HsS.out (by omega : k < 1000) hx
        have mch : Moves [] wx (wx.alloc (.cells #[.int .i64 5, .string sS, .int .i64 k, .int .i64 2, .slice none 0 0, .float .f64 x] 37)) := (Moves.refl _ _).alloc _
        have hAp : Calls Try.prog 8 #[.agg #[.slice adr nr capr], .slice (some ⟨wx.heap.size, 0, none⟩) 1 1] (wx.alloc (.cells #[.int .i64 5, .string sS, .int .i64 k, .int .i64 2, .slice none 0 0, .float .f64 x] 37)) (fun e w' => ∃ ad n cap, e = .returned (.tuple #[.agg #[.slice ad n cap], .int .i64 0]) ∧ ColsAt w' (.slice ad n cap) R' ∧ Moves [] (wx.alloc (.cells #[.int .i64 5, .string sS, .int .i64 k, .int .i64 2, .slice none 0 0, .float .f64 x] 37)) w') := by
          have h := cApply_w (wx.alloc (.cells #[.int .i64 5, .string sS, .int .i64 k, .int .i64 2, .slice none 0 0, .float .f64 x] 37)) (wx.alloc (.cells #[.int .i64 5, .string sS, .int .i64 k, .int .i64 2, .slice none 0 0, .float .f64 x] 37)) (.agg #[.slice adr nr capr]) R (some ⟨wx.heap.size, 0, none⟩) 1 1 [⟨5, sS, k, pnum x⟩] (HRr.out.moves (mx.then mch)) (chgs_one wx ⟨5, sS, k, pnum x⟩ none 0 0 (VC.num wx hx).va) rfl (by decide) (Moves.refl _ _)
          rw [hE, hR'] at h
          exact h
        have HRR : Hid (pright R' = true) := hRR
        clear hE hR' hRR hS mW
        by_cases hk0 : k = 0
        · rw [if_pos hk0] at hI' hNN
          subst hk0
          have HI' : Hid (SumInv sS (0 + 1) R' (Pl.canon x)) := hI'
          have HNN : Hid (pAt R' sS 1099511627776 = some (pnum (Pl.canon x))) := hNN
          clear hI' hNN
          go_wp2_with (first | (go_at_call 8; refine hAp.mono ?_; rintro _ w7 ⟨ad7, n7, cap7, rfl, hc7, m7⟩; have HC7 : Hid (RowAt w7 (.agg #[.slice ad7 n7 cap7]) R') := ⟨_, rfl, hc7⟩; clear hc7; have mx7 : Moves [] w7 (w7.alloc (.cells #[.slice ad7 n7 cap7] 25)) := (Moves.refl _ _).alloc _; have M7 := mch.then (m7.then mx7); have a0 := M7.at q0 (by simp); have a1 := M7.at q1 (by simp); have a2 := M7.at qb (by simp); obtain ⟨y0, y1⟩ := one_cell a0; obtain ⟨z0, _⟩ := one_cell (heap_alloc_new w7 (.cells #[.slice ad7 n7 cap7] 25)); have hl7 : wx.heap.size ≤ w7.heap.size := (mch.then m7).size; have ne1 : ¬ w7.heap.size = pr := (by omega); have ne2 : ¬ pr = w7.heap.size := (by omega); have s0 := set_one a0 (.slice ad7 n7 cap7); have s1 := (moves_set (w7.alloc (.cells #[.slice ad7 n7 cap7] 25)) pr 0 (.slice ad7 n7 cap7)).at a1 (by simp; omega); have s2 := (moves_set (w7.alloc (.cells #[.slice ad7 n7 cap7] 25)) pr 0 (.slice ad7 n7 cap7)).at a2 (by simp; omega); obtain ⟨v0, v1, v2, _⟩ := three_cells s2; obtain ⟨i0, i1, i2, i3, i4, i5⟩ := three_cells s1; have M8 : Moves [] w ((w7.alloc (.cells #[.slice ad7 n7 cap7] 25)).setCell ⟨pr, 0, none⟩ (.slice ad7 n7 cap7)) := ((MWx.out.then M7).setCell (.inr (by show w.heap.size ≤ pr; omega)) _); have HR8 : Hid (RowAt ((w7.alloc (.cells #[.slice ad7 n7 cap7] 25)).setCell ⟨pr, 0, none⟩ (.slice ad7 n7 cap7)) (.agg #[.slice ad7 n7 cap7]) R') := (HC7.out.moves mx7).setRow a0 _) | (go_at_call 13; refine (rcanonN ((w7.alloc (.cells #[.slice ad7 n7 cap7] 25)).setCell ⟨pr, 0, none⟩ (.slice ad7 n7 cap7)) x hx).mono ?_; rintro _ w9 ⟨ad9, n9, cap9, rfl, hc9, m9⟩; have HC9 : Hid (VC w9 [.int .i64 2, .slice ad9 n9 cap9, .float .f64 (Pl.canon x)] (pnum (Pl.canon x))) := hc9; clear hc9; have b0 := m9.at s0 (by simp); obtain ⟨bq0, _⟩ := one_cell b0; have b1 := m9.at s1 (by simp); obtain ⟨j0, j1, j2, j3, j4, j5⟩ := three_cells b1; obtain ⟨st1, st2, st3⟩ := stored3 b1 (M8.then m9) (by omega) (.int .i64 2) (.slice ad9 n9 cap9) (.float .f64 (Pl.canon x)); have b00 := st3.at b0 (by simp; omega); obtain ⟨bb0, _⟩ := one_cell b00))
          obtain ⟨wt, hwt⟩ : ∃ wt, ((w9.setCell ⟨pw, 0, none⟩ (.int .i64 2)).setCell ⟨pw, 1, none⟩ (.slice ad9 n9 cap9)).setCell ⟨pw, 2, none⟩ (.float .f64 (Pl.canon x)) = wt := ⟨_, rfl⟩
          rw [hwt] at st1 st2 st3 b00 bb0
          try rw [hwt]
          have HRt : Hid (RowAt wt (.agg #[.slice ad7 n7 cap7]) R') := (HR8.out.moves m9).box3 b1 st3
          have HVt : Hid (VC wt [.int .i64 2, .slice ad9 n9 cap9, .float .f64 (Pl.canon x)] (pnum (Pl.canon x))) := HC9.out.box3 b1 st3
          obtain ⟨k0, k1, k2, _⟩ := three_cells st1
          have hNw := fun w1 (m1 : Moves [] wt w1) => refNewest_yes wt w1 (.agg #[.slice ad7 n7 cap7]) R' sS HRt.out m1 HRR.out
          rw [HNN.out] at hNw
          have HS : Hid (psame (pnum (Pl.canon x)) (pnum (Pl.canon x)) = true) := psame_self _
          clear hwt st3 b0 b1 j0 j1 j2 j3 j4 j5 i0 i1 i2 i3 i4 i5 v0 v1 v2 s0 s1 s2 a0 a1 a2 y0 y1 z0 M8 HR8 HC7
          go_wp2_with (first | (go_at_call 15; refine (hNw _ (Moves.refl _ _)).mono ?_; rintro _ w10 ⟨k10, ad10, n10, cap10, x10, rfl, hV10, m10⟩; have HV10 : Hid (VC w10 [.int .i64 k10, .slice ad10 n10 cap10, .float .f64 x10] (pnum (Pl.canon x))) := hV10; clear hV10; have mz : Moves [] w10 (w10.alloc (.cells #[.int .i64 k10, .slice ad10 n10 cap10, .float .f64 x10] 35)) := (Moves.refl _ _).alloc _; obtain ⟨t0, t1, t2, _⟩ := three_cells ((m10.then mz).at st1 (by simp))) | (go_at_call 16; refine (rsame_p _ _ _ _ _ _ _ _ _ _ _ _ _ _ (HV10.out.va.moves mz) (HVt.out.va.moves (m10.then mz)) (Moves.refl _ _)).mono ?_; rintro _ w11 ⟨rfl, m11⟩; rw [HS.out]))
          go_roundw
          case rel => exact ⟨0 + 1, _, _, _, _, _, _, R', (Pl.canon x), ⟨by omega, by omega⟩, by go_num, st2.then ((m10.then mz).then m11), ((m10.then mz).then m11).at b00 (by simp), ((m10.then mz).then m11).at st1 (by simp), HRt.out.moves ((m10.then mz).then m11), HI'.out, fun _ => ⟨rfl, HVt.out.va.moves ((m10.then mz).then m11)⟩⟩
          case measure => simp [intOf]
        · rw [if_neg hk0] at hI' hNN
          have HI' : Hid (SumInv sS (k + 1) R' (Pl.sum ww x)) := hI'
          have HNN : Hid (pAt R' sS 1099511627776 = some (pnum (Pl.sum ww x))) := hNN
          have hk0' : ¬ (k : Int) = 0 := by omega
          obtain ⟨rfl, hwv⟩ := HWr.out (by omega)
          have HWV0 : Hid (VA wr [.int .i64 2, .slice adw nw cw, .float .f64 xw] (pnum ww)) := hwv
          clear hI' hNN hwv
          go_wp2_with (first | (go_at_call 8; refine hAp.mono ?_; rintro _ w7 ⟨ad7, n7, cap7, rfl, hc7, m7⟩; have HC7 : Hid (RowAt w7 (.agg #[.slice ad7 n7 cap7]) R') := ⟨_, rfl, hc7⟩; clear hc7; have mx7 : Moves [] w7 (w7.alloc (.cells #[.slice ad7 n7 cap7] 25)) := (Moves.refl _ _).alloc _; have M7 := mch.then (m7.then mx7); have a0 := M7.at q0 (by simp); have a1 := M7.at q1 (by simp); have a2 := M7.at qb (by simp); obtain ⟨y0, y1⟩ := one_cell a0; obtain ⟨z0, _⟩ := one_cell (heap_alloc_new w7 (.cells #[.slice ad7 n7 cap7] 25)); have hl7 : wx.heap.size ≤ w7.heap.size := (mch.then m7).size; have ne1 : ¬ w7.heap.size = pr := (by omega); have ne2 : ¬ pr = w7.heap.size := (by omega); have s0 := set_one a0 (.slice ad7 n7 cap7); have s1 := (moves_set (w7.alloc (.cells #[.slice ad7 n7 cap7] 25)) pr 0 (.slice ad7 n7 cap7)).at a1 (by simp; omega); have s2 := (moves_set (w7.alloc (.cells #[.slice ad7 n7 cap7] 25)) pr 0 (.slice ad7 n7 cap7)).at a2 (by simp; omega); obtain ⟨v0, v1, v2, _⟩ := three_cells s2; obtain ⟨i0, i1, i2, i3, i4, i5⟩ := three_cells s1; have M8 : Moves [] w ((w7.alloc (.cells #[.slice ad7 n7 cap7] 25)).setCell ⟨pr, 0, none⟩ (.slice ad7 n7 cap7)) := ((MWx.out.then M7).setCell (.inr (by show w.heap.size ≤ pr; omega)) _); have HR8 : Hid (RowAt ((w7.alloc (.cells #[.slice ad7 n7 cap7] 25)).setCell ⟨pr, 0, none⟩ (.slice ad7 n7 cap7)) (.agg #[.slice ad7 n7 cap7]) R') := (HC7.out.moves mx7).setRow a0 _) | (go_at_call 14; refine (rplusN ((w7.alloc (.cells #[.slice ad7 n7 cap7] 25)).setCell ⟨pr, 0, none⟩ (.slice ad7 n7 cap7)) _ _ _ _ ww x (VA.anyNum HWV0.out _) hx).mono ?_; rintro _ w9 ⟨rfl, m9⟩; have b0 := m9.at s0 (by simp); obtain ⟨bq0, _⟩ := one_cell b0; have b1 := m9.at s1 (by simp); obtain ⟨j0, j1, j2, j3, j4, j5⟩ := three_cells b1; obtain ⟨st1, st2, st3⟩ := stored3 b1 (M8.then m9) (by omega) (.int .i64 2) (.slice none 0 0) (.float .f64 (Pl.sum ww x)); have b00 := st3.at b0 (by simp; omega); obtain ⟨bb0, _⟩ := one_cell b00))
          obtain ⟨wt, hwt⟩ : ∃ wt, ((w9.setCell ⟨pw, 0, none⟩ (.int .i64 2)).setCell ⟨pw, 1, none⟩ (.slice none 0 0)).setCell ⟨pw, 2, none⟩ (.float .f64 (Pl.sum ww x)) = wt := ⟨_, rfl⟩
          rw [hwt] at st1 st2 st3 b00 bb0
          try rw [hwt]
          have HRt : Hid (RowAt wt (.agg #[.slice ad7 n7 cap7]) R') := (HR8.out.moves m9).box3 b1 st3
          have HVt : Hid (VC wt [.int .i64 2, .slice none 0 0, .float .f64 (Pl.sum ww x)] (pnum (Pl.sum ww x))) := VC.num _ (fits_sum _ _)
          obtain ⟨k0, k1, k2, _⟩ := three_cells st1
          have hNw := fun w1 (m1 : Moves [] wt w1) => refNewest_yes wt w1 (.agg #[.slice ad7 n7 cap7]) R' sS HRt.out m1 HRR.out
          rw [HNN.out] at hNw
          have HS : Hid (psame (pnum (Pl.sum ww x)) (pnum (Pl.sum ww x)) = true) := psame_self _
          clear hwt st3 b0 b1 j0 j1 j2 j3 j4 j5 i0 i1 i2 i3 i4 i5 v0 v1 v2 s0 s1 s2 a0 a1 a2 y0 y1 z0 M8 HR8 HC7
          go_wp2_with (first | (go_at_call 15; refine (hNw _ (Moves.refl _ _)).mono ?_; rintro _ w10 ⟨k10, ad10, n10, cap10, x10, rfl, hV10, m10⟩; have HV10 : Hid (VC w10 [.int .i64 k10, .slice ad10 n10 cap10, .float .f64 x10] (pnum (Pl.sum ww x))) := hV10; clear hV10; have mz : Moves [] w10 (w10.alloc (.cells #[.int .i64 k10, .slice ad10 n10 cap10, .float .f64 x10] 35)) := (Moves.refl _ _).alloc _; obtain ⟨t0, t1, t2, _⟩ := three_cells ((m10.then mz).at st1 (by simp))) | (go_at_call 16; refine (rsame_p _ _ _ _ _ _ _ _ _ _ _ _ _ _ (HV10.out.va.moves mz) (HVt.out.va.moves (m10.then mz)) (Moves.refl _ _)).mono ?_; rintro _ w11 ⟨rfl, m11⟩; rw [HS.out]))
          go_roundw
          case rel => exact ⟨k + 1, _, _, _, _, _, _, R', (Pl.sum ww x), ⟨by omega, by omega⟩, by go_num, st2.then ((m10.then mz).then m11), ((m10.then mz).then m11).at b00 (by simp), ((m10.then mz).then m11).at st1 (by simp), HRt.out.moves ((m10.then mz).then m11), HI'.out, fun _ => ⟨rfl, HVt.out.va.moves ((m10.then mz).then m11)⟩⟩
          case measure => simp [intOf]; omega
    · have hways : (¬ (k : Int) < nv) ∨ ((k : Int) < nv ∧ ¬ (k : Int) < 15) := by omega
      obtain ⟨hT1, hT2⟩ := text_step HI.out HsS.out (by omega : k < 50) 4607182418800017408
      have HT1 : Hid (cApplyE R [⟨1, sS, 99, ⟨1, [], 0⟩⟩, ⟨5, sS, 100, pnum 4607182418800017408⟩] = 24) := hT1
      have HT2 : Hid (cApply R [⟨1, sS, 99, ⟨1, [], 0⟩⟩, ⟨5, sS, 100, pnum 4607182418800017408⟩] = []) := hT2
      have hS : ∀ w', Moves [] wr w' → ((fun w' => w'.cell? ⟨pr, 0, none⟩ = some (.slice adr nr capr)) w') := fun w' m' => m'.cell r0
      have mW : Moves [] wr wr.drew := (Moves.refl _ _).drew
      clear HVs hT1 hT2
      rcases hways with g1 | ⟨g1, g2⟩
      all_goals go_wp2_with fail
      all_goals refine wp_some [72, 73, 74, 75, 76, 77, 78, 79, 80, 81, 13, 14] (fun u w' => ∃ (pb : Nat) (ad : Option Addr) (cap : Nat), u 14 = .int .i64 24 ∧ u 13 = .pointer (some ⟨pb, 0, none⟩) ∧ w'.heap[pb]? = some (.cells #[.slice ad 0 cap] 25 (0, 0)) ∧ Moves [] wr w') ?_ ?_
      · refine wp_region_noPanic ?_
        refine wp_region_held_drew (S := (fun w' => w'.cell? ⟨pr, 0, none⟩ = some (.slice adr nr capr))) (by kernel_rfl) ?_ (fun hHeld => ?_)
        · first | (go_keep; done) | first | exact hS _ mW | exact hS _ (mW.setCell (.inr (by show wr.heap.size ≤ pb; omega)) _)
        refine wpAnyH_take (i := 0) (oi := { dst := some 73, op := Op.load 25 (Operand.tmp 5), type := 25, pos := "law.go:185", after := #[], guard := none }) (v := ?_) rfl (by kernel_rfl) (by kernel_rfl) (by kernel_rfl) (fun _ _ _ h => h) (Or.inl ⟨by rfl, ?_⟩) (by assumption) ?_
        rotate_left
        · (intro w hSw; (try dsimp only at hSw); go_simp; try (with_reducible rfl))
        try simp only [Act.put, List.setIfInBounds_toArray, List.set_cons_zero, List.set_cons_succ]
        refine wpAnyH_take (i := 1) (oi := { dst := some 74, op := Op.build 35 #[(0, Operand.const (Value.int IntKind.i64 1))], type := 35, pos := "law.go:185", after := #[], guard := none }) (v := ?_) rfl (by kernel_rfl) (by kernel_rfl) (by kernel_rfl) (fun _ _ _ h => h) (Or.inl ⟨by rfl, ?_⟩) (by assumption) ?_
        rotate_left
        · (intro w hSw; (try dsimp only at hSw); go_simp; try (with_reducible rfl))
        try simp only [Act.put, List.setIfInBounds_toArray, List.set_cons_zero, List.set_cons_succ]
        refine wpAnyH_take (i := 2) (oi := { dst := some 75, op := Op.build 37 #[(0, Operand.const (Value.int IntKind.i64 1)), (1, Operand.const (Value.string { data := #[115, 117, 109] })), (2, Operand.const (Value.int IntKind.i64 99)), (3, Operand.tmp 74)], type := 37, pos := "law.go:185", after := #[{ on := 1, ground := Ground.data }], guard := none }) (v := ?_) rfl (by kernel_rfl) (by kernel_rfl) (by kernel_rfl) (fun _ _ _ h => h) (Or.inl ⟨by rfl, ?_⟩) (by assumption) ?_
        rotate_left
        · (intro w hSw; (try dsimp only at hSw); go_simp; try (with_reducible rfl))
        try simp only [Act.put, List.setIfInBounds_toArray, List.set_cons_zero, List.set_cons_succ]
        refine wpAnyH_ready (rs := [3, 10]) (by kernel_rfl) (by simp) ?_
        refine AllReadyH.cons (o := { dst := some 76, op := Op.call { callee := Callee.value (Operand.func 11), args := #[Operand.const (Value.float FloatKind.f64 4607182418800017408)], argTypes := #[33] }, type := 35, pos := "law.go:185", after := #[], guard := none }) rfl (fun K hK => ?_) (AllReadyH.cons (o := { dst := some 13, op := Op.alloc 25, type := 0, pos := "law.go:185", after := #[], guard := none }) rfl (fun K hK => ?_) AllReadyH.nil)
        · go_simp
          go_at_call 11
          refine (num5_w _ _).mono ?_
          rintro _ w3 ⟨rfl, m3⟩
          replace mW := mW.then m3
          refine hK.out _ _ ?_ (fun hHeld => ?_)
          · first | exact hS _ mW | exact hS _ (mW.setCell (.inr (by show wr.heap.size ≤ pb; omega)) _)
          clear hK K
          try simp only [Act.put, List.setIfInBounds_toArray, List.set_cons_zero, List.set_cons_succ]
          refine wpAnyH_take (i := 4) (oi := { dst := some 77, op := Op.build 37 #[(0, Operand.const (Value.int IntKind.i64 5)), (1, Operand.const (Value.string { data := #[115, 117, 109] })), (2, Operand.const (Value.int IntKind.i64 100)), (3, Operand.tmp 76)], type := 37, pos := "law.go:185", after := #[{ on := 3, ground := Ground.data }], guard := none }) (v := ?_) rfl (by kernel_rfl) (by kernel_rfl) (by kernel_rfl) (fun _ _ _ h => h) (Or.inl ⟨by rfl, ?_⟩) (by assumption) ?_
          rotate_left
          · (intro w hSw; (try dsimp only at hSw); go_simp; try (with_reducible rfl))
          try simp only [Act.put, List.setIfInBounds_toArray, List.set_cons_zero, List.set_cons_succ]
          refine wpAnyH_ready (rs := [5, 10]) (by kernel_rfl) (by simp) ?_
          refine AllReadyH.cons (o := { dst := some 78, op := Op.buildSlice 27 2 #[(0, Operand.tmp 75), (1, Operand.tmp 77)], type := 27, pos := "law.go:185", after := #[{ on := 2, ground := Ground.data }, { on := 4, ground := Ground.data }], guard := none }) rfl (fun K hK => ?_) (AllReadyH.cons (o := { dst := some 13, op := Op.alloc 25, type := 0, pos := "law.go:185", after := #[], guard := none }) rfl (fun K hK => ?_) AllReadyH.nil)
          · go_simp
            have hCA := chgs_two w3 ⟨1, sS, 99, ⟨1, [], 0⟩⟩ ⟨5, sS, 100, pnum 4607182418800017408⟩ none none 0 0 0 0 (VC.text0 _).va (VC.num _ fits_one).va
            obtain ⟨w5, hw5⟩ : ∃ w5, w3.alloc (.cells #[.int .i64 1, .string ⟨#[115, 117, 109]⟩, .int .i64 99, .int .i64 1, .slice none 0 0, .float .f64 0, .int .i64 5, .string ⟨#[115, 117, 109]⟩, .int .i64 100, .int .i64 2, .slice none 0 0, .float .f64 4607182418800017408] 37) = w5 := ⟨_, rfl⟩
            have m5 : Moves [] w3 w5 := by rw [← hw5]; exact (Moves.refl _ _).alloc _
            have HCA : Hid (ChgsAt w5 (some ⟨w3.heap.size, 0, none⟩) [⟨1, sS, 99, ⟨1, [], 0⟩⟩, ⟨5, sS, 100, pnum 4607182418800017408⟩]) := by rw [← hw5]; exact hCA
            rw [show (w3.alloc (.cells #[.int .i64 1, .string ⟨#[115, 117, 109]⟩, .int .i64 99, .int .i64 1, .slice none 0 0, .float .f64 0, .int .i64 5, .string ⟨#[115, 117, 109]⟩, .int .i64 100, .int .i64 2, .slice none 0 0, .float .f64 4607182418800017408] 37)) = w5 from hw5]
            clear hCA hw5
            replace mW := mW.then m5
            refine hK.out _ _ ?_ (fun hHeld => ?_)
            · first | exact hS _ mW | exact hS _ (mW.setCell (.inr (by show wr.heap.size ≤ pb; omega)) _)
            clear hK K
            try simp only [Act.put, List.setIfInBounds_toArray, List.set_cons_zero, List.set_cons_succ]
            refine wpAnyH_ready (rs := [6, 10]) (by kernel_rfl) (by simp) ?_
            refine AllReadyH.cons (o := { dst := some 79, op := Op.call { callee := Callee.value (Operand.func 8), args := #[Operand.tmp 73, Operand.tmp 78], argTypes := #[25, 27] }, type := 30, pos := "law.go:185", after := #[{ on := 0, ground := Ground.data }, { on := 5, ground := Ground.data }, { on := 3, ground := Ground.chain }], guard := none }) rfl (fun K hK => ?_) (AllReadyH.cons (o := { dst := some 13, op := Op.alloc 25, type := 0, pos := "law.go:185", after := #[], guard := none }) rfl (fun K hK => ?_) AllReadyH.nil)
            · go_simp
              go_at_call 8
              refine (cApply_w w5 _ _ R _ _ _ _ (HRr.out.moves mW) HCA.out rfl (by decide) (Moves.refl _ _)).mono ?_
              rintro _ w6 ⟨ad6, n6, cap6, rfl, hc6, m6⟩
              rw [HT1.out]
              rw [HT2.out] at hc6
              obtain rfl : n6 = 0 := hc6.len
              replace mW := mW.then m6
              refine hK.out _ _ ?_ (fun hHeld => ?_)
              · first | exact hS _ mW | exact hS _ (mW.setCell (.inr (by show wr.heap.size ≤ pb; omega)) _)
              clear hK K
              try simp only [Act.put, List.setIfInBounds_toArray, List.set_cons_zero, List.set_cons_succ]
              refine wpAnyH_take (i := 7) (oi := { dst := some 72, op := Op.move (Operand.tmp 79), type := 30, pos := "law.go:185", after := #[{ on := 6, ground := Ground.data }], guard := none }) (v := ?_) rfl (by kernel_rfl) (by kernel_rfl) (by kernel_rfl) (fun _ _ _ h => h) (Or.inl ⟨by rfl, ?_⟩) (by assumption) ?_
              rotate_left
              · (intro w hSw; (try dsimp only at hSw); go_simp; try (with_reducible rfl))
              try simp only [Act.put, List.setIfInBounds_toArray, List.set_cons_zero, List.set_cons_succ]
              refine wpAnyH_take (i := 8) (oi := { dst := some 80, op := Op.extract (Operand.tmp 72) 0, type := 25, pos := "law.go:185", after := #[{ on := 7, ground := Ground.data }], guard := none }) (v := ?_) rfl (by kernel_rfl) (by kernel_rfl) (by kernel_rfl) (fun _ _ _ h => h) (Or.inl ⟨by rfl, ?_⟩) (by assumption) ?_
              rotate_left
              · (intro w hSw; (try dsimp only at hSw); go_simp; try (with_reducible rfl))
              try simp only [Act.put, List.setIfInBounds_toArray, List.set_cons_zero, List.set_cons_succ]
              refine wpAnyH_take (i := 9) (oi := { dst := some 81, op := Op.extract (Operand.tmp 72) 1, type := 29, pos := "law.go:185", after := #[{ on := 7, ground := Ground.data }, { on := 11, ground := Ground.gcOnly Departure.lateStores }], guard := none }) (v := ?_) rfl (by kernel_rfl) (by kernel_rfl) (by kernel_rfl) (fun _ _ _ h => h) (Or.inl ⟨by rfl, ?_⟩) (by assumption) ?_
              rotate_left
              · (intro w hSw; (try dsimp only at hSw); go_simp; try (with_reducible rfl))
              try simp only [Act.put, List.setIfInBounds_toArray, List.set_cons_zero, List.set_cons_succ]
              refine wpAnyH_ready (rs := [10]) (by kernel_rfl) (by simp) ?_
              refine AllReadyH.cons (o := { dst := some 13, op := Op.alloc 25, type := 0, pos := "law.go:185", after := #[], guard := none }) rfl (fun K hK => ?_) AllReadyH.nil
              go_simp
              have hle := mW.size
              obtain ⟨w10, hwa⟩ : ∃ w10, w6.alloc (.cells #[.slice none 0 0] 25) = w10 := ⟨_, rfl⟩
              have hb : w10.heap[w6.heap.size]? = some (.cells #[.slice none 0 0] 25 (0, 0)) := by rw [← hwa]; exact heap_alloc_new w6 _
              have mA : Moves [] w6 w10 := by rw [← hwa]; exact (Moves.refl _ _).alloc _
              rw [hwa]
              obtain ⟨pb, hpb⟩ : ∃ pb, w6.heap.size = pb := ⟨_, rfl⟩
              rw [hpb] at hb ⊢
              have hle : wr.heap.size ≤ pb := by rw [← hpb]; first | exact hle | exact Nat.le_refl _
              replace mW := mW.then mA
              clear hwa hpb
              refine hK.out _ _ ?_ (fun hHeld => ?_)
              · first | exact hS _ mW | exact hS _ (mW.setCell (.inr (by show wr.heap.size ≤ pb; omega)) _)
              clear hK K
              try simp only [Act.put, List.setIfInBounds_toArray, List.set_cons_zero, List.set_cons_succ]
              refine wpAnyH_ready (rs := [11]) (by kernel_rfl) (by simp) ?_
              refine AllReadyH.cons (o := { dst := none, op := Op.store 25 (Operand.tmp 13) (Operand.tmp 80), type := 0, pos := "law.go:185", after := #[{ on := 10, ground := Ground.data }, { on := 8, ground := Ground.data }, { on := 6, ground := Ground.chain }, { on := 0, ground := Ground.phase }, { on := 1, ground := Ground.phase }, { on := 2, ground := Ground.phase }, { on := 3, ground := Ground.phase }, { on := 4, ground := Ground.phase }, { on := 5, ground := Ground.phase }, { on := 6, ground := Ground.phase }, { on := 7, ground := Ground.phase }, { on := 8, ground := Ground.phase }, { on := 9, ground := Ground.textOnly Departure.lateStores }, { on := 10, ground := Ground.phase }], guard := none }) rfl (fun K hK => ?_) AllReadyH.nil
              obtain ⟨f0, f1⟩ := one_cell hb
              go_simp
              refine hK.out _ _ ?_ (fun hHeld => ?_)
              · first | exact hS _ mW | exact hS _ (mW.setCell (.inr (by show wr.heap.size ≤ pb; omega)) _)
              clear hK K
              refine wpAnyH_take (i := 12) (oi := { dst := some 14, op := Op.assign (Operand.tmp 81), type := 29, pos := "law.go:185", after := #[{ on := 9, ground := Ground.data }, { on := 11, ground := Ground.chain }, { on := 0, ground := Ground.phase }, { on := 1, ground := Ground.phase }, { on := 2, ground := Ground.phase }, { on := 3, ground := Ground.phase }, { on := 4, ground := Ground.phase }, { on := 5, ground := Ground.phase }, { on := 6, ground := Ground.phase }, { on := 7, ground := Ground.phase }, { on := 8, ground := Ground.phase }, { on := 9, ground := Ground.phase }, { on := 10, ground := Ground.phase }, { on := 11, ground := Ground.phase }], guard := none }) (v := ?_) rfl (by kernel_rfl) (by kernel_rfl) (by kernel_rfl) (fun _ _ _ h => h) (Or.inl ⟨by rfl, ?_⟩) (by assumption) ?_
              rotate_left
              · (intro w hSw; (try dsimp only at hSw); go_simp; try (with_reducible rfl))
              try simp only [Act.put, List.setIfInBounds_toArray, List.set_cons_zero, List.set_cons_succ]
              refine wpAnyH_done (by kernel_rfl) ?_ _
              refine NoPanic.normal ?_
              exact ⟨rfl, by kernel_rfl, pb, ad6, cap6, by kernel_rfl, by kernel_rfl, set_one hb _, mW.setCell (.inr (by show wr.heap.size ≤ pb; omega)) _⟩
            · go_simp
              have hle := mW.size
              obtain ⟨w10, hwa⟩ : ∃ w10, w5.alloc (.cells #[.slice none 0 0] 25) = w10 := ⟨_, rfl⟩
              have hb : w10.heap[w5.heap.size]? = some (.cells #[.slice none 0 0] 25 (0, 0)) := by rw [← hwa]; exact heap_alloc_new w5 _
              have mA : Moves [] w5 w10 := by rw [← hwa]; exact (Moves.refl _ _).alloc _
              rw [hwa]
              obtain ⟨pb, hpb⟩ : ∃ pb, w5.heap.size = pb := ⟨_, rfl⟩
              rw [hpb] at hb ⊢
              have hle : wr.heap.size ≤ pb := by rw [← hpb]; first | exact hle | exact Nat.le_refl _
              replace mW := mW.then mA
              clear hwa hpb
              refine hK.out _ _ ?_ (fun hHeld => ?_)
              · first | exact hS _ mW | exact hS _ (mW.setCell (.inr (by show wr.heap.size ≤ pb; omega)) _)
              clear hK K
              try simp only [Act.put, List.setIfInBounds_toArray, List.set_cons_zero, List.set_cons_succ]
              refine wpAnyH_ready (rs := [6]) (by kernel_rfl) (by simp) ?_
              refine AllReadyH.cons (o := { dst := some 79, op := Op.call { callee := Callee.value (Operand.func 8), args := #[Operand.tmp 73, Operand.tmp 78], argTypes := #[25, 27] }, type := 30, pos := "law.go:185", after := #[{ on := 0, ground := Ground.data }, { on := 5, ground := Ground.data }, { on := 3, ground := Ground.chain }], guard := none }) rfl (fun K hK => ?_) AllReadyH.nil
              go_simp
              go_at_call 8
              refine (cApply_w w10 _ _ R _ _ _ _ (HRr.out.moves mW) (HCA.out.moves mA) rfl (by decide) (Moves.refl _ _)).mono ?_
              rintro _ w6 ⟨ad6, n6, cap6, rfl, hc6, m6⟩
              rw [HT1.out]
              rw [HT2.out] at hc6
              obtain rfl : n6 = 0 := hc6.len
              replace mW := mW.then m6
              have hb := m6.at hb (by simp)
              refine hK.out _ _ ?_ (fun hHeld => ?_)
              · first | exact hS _ mW | exact hS _ (mW.setCell (.inr (by show wr.heap.size ≤ pb; omega)) _)
              clear hK K
              try simp only [Act.put, List.setIfInBounds_toArray, List.set_cons_zero, List.set_cons_succ]
              refine wpAnyH_take (i := 7) (oi := { dst := some 72, op := Op.move (Operand.tmp 79), type := 30, pos := "law.go:185", after := #[{ on := 6, ground := Ground.data }], guard := none }) (v := ?_) rfl (by kernel_rfl) (by kernel_rfl) (by kernel_rfl) (fun _ _ _ h => h) (Or.inl ⟨by rfl, ?_⟩) (by assumption) ?_
              rotate_left
              · (intro w hSw; (try dsimp only at hSw); go_simp; try (with_reducible rfl))
              try simp only [Act.put, List.setIfInBounds_toArray, List.set_cons_zero, List.set_cons_succ]
              refine wpAnyH_take (i := 8) (oi := { dst := some 80, op := Op.extract (Operand.tmp 72) 0, type := 25, pos := "law.go:185", after := #[{ on := 7, ground := Ground.data }], guard := none }) (v := ?_) rfl (by kernel_rfl) (by kernel_rfl) (by kernel_rfl) (fun _ _ _ h => h) (Or.inl ⟨by rfl, ?_⟩) (by assumption) ?_
              rotate_left
              · (intro w hSw; (try dsimp only at hSw); go_simp; try (with_reducible rfl))
              try simp only [Act.put, List.setIfInBounds_toArray, List.set_cons_zero, List.set_cons_succ]
              refine wpAnyH_take (i := 9) (oi := { dst := some 81, op := Op.extract (Operand.tmp 72) 1, type := 29, pos := "law.go:185", after := #[{ on := 7, ground := Ground.data }, { on := 11, ground := Ground.gcOnly Departure.lateStores }], guard := none }) (v := ?_) rfl (by kernel_rfl) (by kernel_rfl) (by kernel_rfl) (fun _ _ _ h => h) (Or.inl ⟨by rfl, ?_⟩) (by assumption) ?_
              rotate_left
              · (intro w hSw; (try dsimp only at hSw); go_simp; try (with_reducible rfl))
              try simp only [Act.put, List.setIfInBounds_toArray, List.set_cons_zero, List.set_cons_succ]
              refine wpAnyH_ready (rs := [11]) (by kernel_rfl) (by simp) ?_
              refine AllReadyH.cons (o := { dst := none, op := Op.store 25 (Operand.tmp 13) (Operand.tmp 80), type := 0, pos := "law.go:185", after := #[{ on := 10, ground := Ground.data }, { on := 8, ground := Ground.data }, { on := 6, ground := Ground.chain }, { on := 0, ground := Ground.phase }, { on := 1, ground := Ground.phase }, { on := 2, ground := Ground.phase }, { on := 3, ground := Ground.phase }, { on := 4, ground := Ground.phase }, { on := 5, ground := Ground.phase }, { on := 6, ground := Ground.phase }, { on := 7, ground := Ground.phase }, { on := 8, ground := Ground.phase }, { on := 9, ground := Ground.textOnly Departure.lateStores }, { on := 10, ground := Ground.phase }], guard := none }) rfl (fun K hK => ?_) AllReadyH.nil
              obtain ⟨f0, f1⟩ := one_cell hb
              go_simp
              refine hK.out _ _ ?_ (fun hHeld => ?_)
              · first | exact hS _ mW | exact hS _ (mW.setCell (.inr (by show wr.heap.size ≤ pb; omega)) _)
              clear hK K
              refine wpAnyH_take (i := 12) (oi := { dst := some 14, op := Op.assign (Operand.tmp 81), type := 29, pos := "law.go:185", after := #[{ on := 9, ground := Ground.data }, { on := 11, ground := Ground.chain }, { on := 0, ground := Ground.phase }, { on := 1, ground := Ground.phase }, { on := 2, ground := Ground.phase }, { on := 3, ground := Ground.phase }, { on := 4, ground := Ground.phase }, { on := 5, ground := Ground.phase }, { on := 6, ground := Ground.phase }, { on := 7, ground := Ground.phase }, { on := 8, ground := Ground.phase }, { on := 9, ground := Ground.phase }, { on := 10, ground := Ground.phase }, { on := 11, ground := Ground.phase }], guard := none }) (v := ?_) rfl (by kernel_rfl) (by kernel_rfl) (by kernel_rfl) (fun _ _ _ h => h) (Or.inl ⟨by rfl, ?_⟩) (by assumption) ?_
              rotate_left
              · (intro w hSw; (try dsimp only at hSw); go_simp; try (with_reducible rfl))
              try simp only [Act.put, List.setIfInBounds_toArray, List.set_cons_zero, List.set_cons_succ]
              refine wpAnyH_done (by kernel_rfl) ?_ _
              refine NoPanic.normal ?_
              exact ⟨rfl, by kernel_rfl, pb, ad6, cap6, by kernel_rfl, by kernel_rfl, set_one hb _, mW.setCell (.inr (by show wr.heap.size ≤ pb; omega)) _⟩
          · go_simp
            have hle := mW.size
            obtain ⟨w10, hwa⟩ : ∃ w10, w3.alloc (.cells #[.slice none 0 0] 25) = w10 := ⟨_, rfl⟩
            have hb : w10.heap[w3.heap.size]? = some (.cells #[.slice none 0 0] 25 (0, 0)) := by rw [← hwa]; exact heap_alloc_new w3 _
            have mA : Moves [] w3 w10 := by rw [← hwa]; exact (Moves.refl _ _).alloc _
            rw [hwa]
            obtain ⟨pb, hpb⟩ : ∃ pb, w3.heap.size = pb := ⟨_, rfl⟩
            rw [hpb] at hb ⊢
            have hle : wr.heap.size ≤ pb := by rw [← hpb]; first | exact hle | exact Nat.le_refl _
            replace mW := mW.then mA
            clear hwa hpb
            refine hK.out _ _ ?_ (fun hHeld => ?_)
            · first | exact hS _ mW | exact hS _ (mW.setCell (.inr (by show wr.heap.size ≤ pb; omega)) _)
            clear hK K
            try simp only [Act.put, List.setIfInBounds_toArray, List.set_cons_zero, List.set_cons_succ]
            refine wpAnyH_ready (rs := [5]) (by kernel_rfl) (by simp) ?_
            refine AllReadyH.cons (o := { dst := some 78, op := Op.buildSlice 27 2 #[(0, Operand.tmp 75), (1, Operand.tmp 77)], type := 27, pos := "law.go:185", after := #[{ on := 2, ground := Ground.data }, { on := 4, ground := Ground.data }], guard := none }) rfl (fun K hK => ?_) AllReadyH.nil
            go_simp
            have hCA := chgs_two w10 ⟨1, sS, 99, ⟨1, [], 0⟩⟩ ⟨5, sS, 100, pnum 4607182418800017408⟩ none none 0 0 0 0 (VC.text0 _).va (VC.num _ fits_one).va
            obtain ⟨w5, hw5⟩ : ∃ w5, w10.alloc (.cells #[.int .i64 1, .string ⟨#[115, 117, 109]⟩, .int .i64 99, .int .i64 1, .slice none 0 0, .float .f64 0, .int .i64 5, .string ⟨#[115, 117, 109]⟩, .int .i64 100, .int .i64 2, .slice none 0 0, .float .f64 4607182418800017408] 37) = w5 := ⟨_, rfl⟩
            have m5 : Moves [] w10 w5 := by rw [← hw5]; exact (Moves.refl _ _).alloc _
            have HCA : Hid (ChgsAt w5 (some ⟨w10.heap.size, 0, none⟩) [⟨1, sS, 99, ⟨1, [], 0⟩⟩, ⟨5, sS, 100, pnum 4607182418800017408⟩]) := by rw [← hw5]; exact hCA
            rw [show (w10.alloc (.cells #[.int .i64 1, .string ⟨#[115, 117, 109]⟩, .int .i64 99, .int .i64 1, .slice none 0 0, .float .f64 0, .int .i64 5, .string ⟨#[115, 117, 109]⟩, .int .i64 100, .int .i64 2, .slice none 0 0, .float .f64 4607182418800017408] 37)) = w5 from hw5]
            clear hCA hw5
            replace mW := mW.then m5
            have hb := m5.at hb (by simp)
            refine hK.out _ _ ?_ (fun hHeld => ?_)
            · first | exact hS _ mW | exact hS _ (mW.setCell (.inr (by show wr.heap.size ≤ pb; omega)) _)
            clear hK K
            try simp only [Act.put, List.setIfInBounds_toArray, List.set_cons_zero, List.set_cons_succ]
            refine wpAnyH_ready (rs := [6]) (by kernel_rfl) (by simp) ?_
            refine AllReadyH.cons (o := { dst := some 79, op := Op.call { callee := Callee.value (Operand.func 8), args := #[Operand.tmp 73, Operand.tmp 78], argTypes := #[25, 27] }, type := 30, pos := "law.go:185", after := #[{ on := 0, ground := Ground.data }, { on := 5, ground := Ground.data }, { on := 3, ground := Ground.chain }], guard := none }) rfl (fun K hK => ?_) AllReadyH.nil
            go_simp
            go_at_call 8
            refine (cApply_w w5 _ _ R _ _ _ _ (HRr.out.moves mW) HCA.out rfl (by decide) (Moves.refl _ _)).mono ?_
            rintro _ w6 ⟨ad6, n6, cap6, rfl, hc6, m6⟩
            rw [HT1.out]
            rw [HT2.out] at hc6
            obtain rfl : n6 = 0 := hc6.len
            replace mW := mW.then m6
            have hb := m6.at hb (by simp)
            refine hK.out _ _ ?_ (fun hHeld => ?_)
            · first | exact hS _ mW | exact hS _ (mW.setCell (.inr (by show wr.heap.size ≤ pb; omega)) _)
            clear hK K
            try simp only [Act.put, List.setIfInBounds_toArray, List.set_cons_zero, List.set_cons_succ]
            refine wpAnyH_take (i := 7) (oi := { dst := some 72, op := Op.move (Operand.tmp 79), type := 30, pos := "law.go:185", after := #[{ on := 6, ground := Ground.data }], guard := none }) (v := ?_) rfl (by kernel_rfl) (by kernel_rfl) (by kernel_rfl) (fun _ _ _ h => h) (Or.inl ⟨by rfl, ?_⟩) (by assumption) ?_
            rotate_left
            · (intro w hSw; (try dsimp only at hSw); go_simp; try (with_reducible rfl))
            try simp only [Act.put, List.setIfInBounds_toArray, List.set_cons_zero, List.set_cons_succ]
            refine wpAnyH_take (i := 8) (oi := { dst := some 80, op := Op.extract (Operand.tmp 72) 0, type := 25, pos := "law.go:185", after := #[{ on := 7, ground := Ground.data }], guard := none }) (v := ?_) rfl (by kernel_rfl) (by kernel_rfl) (by kernel_rfl) (fun _ _ _ h => h) (Or.inl ⟨by rfl, ?_⟩) (by assumption) ?_
            rotate_left
            · (intro w hSw; (try dsimp only at hSw); go_simp; try (with_reducible rfl))
            try simp only [Act.put, List.setIfInBounds_toArray, List.set_cons_zero, List.set_cons_succ]
            refine wpAnyH_take (i := 9) (oi := { dst := some 81, op := Op.extract (Operand.tmp 72) 1, type := 29, pos := "law.go:185", after := #[{ on := 7, ground := Ground.data }, { on := 11, ground := Ground.gcOnly Departure.lateStores }], guard := none }) (v := ?_) rfl (by kernel_rfl) (by kernel_rfl) (by kernel_rfl) (fun _ _ _ h => h) (Or.inl ⟨by rfl, ?_⟩) (by assumption) ?_
            rotate_left
            · (intro w hSw; (try dsimp only at hSw); go_simp; try (with_reducible rfl))
            try simp only [Act.put, List.setIfInBounds_toArray, List.set_cons_zero, List.set_cons_succ]
            refine wpAnyH_ready (rs := [11]) (by kernel_rfl) (by simp) ?_
            refine AllReadyH.cons (o := { dst := none, op := Op.store 25 (Operand.tmp 13) (Operand.tmp 80), type := 0, pos := "law.go:185", after := #[{ on := 10, ground := Ground.data }, { on := 8, ground := Ground.data }, { on := 6, ground := Ground.chain }, { on := 0, ground := Ground.phase }, { on := 1, ground := Ground.phase }, { on := 2, ground := Ground.phase }, { on := 3, ground := Ground.phase }, { on := 4, ground := Ground.phase }, { on := 5, ground := Ground.phase }, { on := 6, ground := Ground.phase }, { on := 7, ground := Ground.phase }, { on := 8, ground := Ground.phase }, { on := 9, ground := Ground.textOnly Departure.lateStores }, { on := 10, ground := Ground.phase }], guard := none }) rfl (fun K hK => ?_) AllReadyH.nil
            obtain ⟨f0, f1⟩ := one_cell hb
            go_simp
            refine hK.out _ _ ?_ (fun hHeld => ?_)
            · first | exact hS _ mW | exact hS _ (mW.setCell (.inr (by show wr.heap.size ≤ pb; omega)) _)
            clear hK K
            refine wpAnyH_take (i := 12) (oi := { dst := some 14, op := Op.assign (Operand.tmp 81), type := 29, pos := "law.go:185", after := #[{ on := 9, ground := Ground.data }, { on := 11, ground := Ground.chain }, { on := 0, ground := Ground.phase }, { on := 1, ground := Ground.phase }, { on := 2, ground := Ground.phase }, { on := 3, ground := Ground.phase }, { on := 4, ground := Ground.phase }, { on := 5, ground := Ground.phase }, { on := 6, ground := Ground.phase }, { on := 7, ground := Ground.phase }, { on := 8, ground := Ground.phase }, { on := 9, ground := Ground.phase }, { on := 10, ground := Ground.phase }, { on := 11, ground := Ground.phase }], guard := none }) (v := ?_) rfl (by kernel_rfl) (by kernel_rfl) (by kernel_rfl) (fun _ _ _ h => h) (Or.inl ⟨by rfl, ?_⟩) (by assumption) ?_
            rotate_left
            · (intro w hSw; (try dsimp only at hSw); go_simp; try (with_reducible rfl))
            try simp only [Act.put, List.setIfInBounds_toArray, List.set_cons_zero, List.set_cons_succ]
            refine wpAnyH_done (by kernel_rfl) ?_ _
            refine NoPanic.normal ?_
            exact ⟨rfl, by kernel_rfl, pb, ad6, cap6, by kernel_rfl, by kernel_rfl, set_one hb _, mW.setCell (.inr (by show wr.heap.size ≤ pb; omega)) _⟩
        · go_simp
          have hle := mW.size
          obtain ⟨w10, hwa⟩ : ∃ w10, (wr.alloc (.cells #[.slice none 0 0] 25)).drew = w10 := ⟨_, rfl⟩
          have hb : w10.heap[wr.heap.size]? = some (.cells #[.slice none 0 0] 25 (0, 0)) := by rw [← hwa]; exact heap_alloc_new wr _
          have mA : Moves [] wr w10 := by rw [← hwa]; exact ((Moves.refl _ _).alloc _).drew
          rw [hwa]
          obtain ⟨pb, hpb⟩ : ∃ pb, wr.heap.size = pb := ⟨_, rfl⟩
          rw [hpb] at hb ⊢
          have hle : wr.heap.size ≤ pb := by rw [← hpb]; first | exact hle | exact Nat.le_refl _
          replace mW := mA
          clear hwa hpb
          refine hK.out _ _ ?_ (fun hHeld => ?_)
          · first | exact hS _ mW | exact hS _ (mW.setCell (.inr (by show wr.heap.size ≤ pb; omega)) _)
          clear hK K
          try simp only [Act.put, List.setIfInBounds_toArray, List.set_cons_zero, List.set_cons_succ]
          refine wpAnyH_ready (rs := [3]) (by kernel_rfl) (by simp) ?_
          refine AllReadyH.cons (o := { dst := some 76, op := Op.call { callee := Callee.value (Operand.func 11), args := #[Operand.const (Value.float FloatKind.f64 4607182418800017408)], argTypes := #[33] }, type := 35, pos := "law.go:185", after := #[], guard := none }) rfl (fun K hK => ?_) AllReadyH.nil
          go_simp
          go_at_call 11
          refine (num5_w _ _).mono ?_
          rintro _ w3 ⟨rfl, m3⟩
          replace mW := mW.then m3
          have hb := m3.at hb (by simp)
          refine hK.out _ _ ?_ (fun hHeld => ?_)
          · first | exact hS _ mW | exact hS _ (mW.setCell (.inr (by show wr.heap.size ≤ pb; omega)) _)
          clear hK K
          try simp only [Act.put, List.setIfInBounds_toArray, List.set_cons_zero, List.set_cons_succ]
          refine wpAnyH_take (i := 4) (oi := { dst := some 77, op := Op.build 37 #[(0, Operand.const (Value.int IntKind.i64 5)), (1, Operand.const (Value.string { data := #[115, 117, 109] })), (2, Operand.const (Value.int IntKind.i64 100)), (3, Operand.tmp 76)], type := 37, pos := "law.go:185", after := #[{ on := 3, ground := Ground.data }], guard := none }) (v := ?_) rfl (by kernel_rfl) (by kernel_rfl) (by kernel_rfl) (fun _ _ _ h => h) (Or.inl ⟨by rfl, ?_⟩) (by assumption) ?_
          rotate_left
          · (intro w hSw; (try dsimp only at hSw); go_simp; try (with_reducible rfl))
          try simp only [Act.put, List.setIfInBounds_toArray, List.set_cons_zero, List.set_cons_succ]
          refine wpAnyH_ready (rs := [5]) (by kernel_rfl) (by simp) ?_
          refine AllReadyH.cons (o := { dst := some 78, op := Op.buildSlice 27 2 #[(0, Operand.tmp 75), (1, Operand.tmp 77)], type := 27, pos := "law.go:185", after := #[{ on := 2, ground := Ground.data }, { on := 4, ground := Ground.data }], guard := none }) rfl (fun K hK => ?_) AllReadyH.nil
          go_simp
          have hCA := chgs_two w3 ⟨1, sS, 99, ⟨1, [], 0⟩⟩ ⟨5, sS, 100, pnum 4607182418800017408⟩ none none 0 0 0 0 (VC.text0 _).va (VC.num _ fits_one).va
          obtain ⟨w5, hw5⟩ : ∃ w5, w3.alloc (.cells #[.int .i64 1, .string ⟨#[115, 117, 109]⟩, .int .i64 99, .int .i64 1, .slice none 0 0, .float .f64 0, .int .i64 5, .string ⟨#[115, 117, 109]⟩, .int .i64 100, .int .i64 2, .slice none 0 0, .float .f64 4607182418800017408] 37) = w5 := ⟨_, rfl⟩
          have m5 : Moves [] w3 w5 := by rw [← hw5]; exact (Moves.refl _ _).alloc _
          have HCA : Hid (ChgsAt w5 (some ⟨w3.heap.size, 0, none⟩) [⟨1, sS, 99, ⟨1, [], 0⟩⟩, ⟨5, sS, 100, pnum 4607182418800017408⟩]) := by rw [← hw5]; exact hCA
          rw [show (w3.alloc (.cells #[.int .i64 1, .string ⟨#[115, 117, 109]⟩, .int .i64 99, .int .i64 1, .slice none 0 0, .float .f64 0, .int .i64 5, .string ⟨#[115, 117, 109]⟩, .int .i64 100, .int .i64 2, .slice none 0 0, .float .f64 4607182418800017408] 37)) = w5 from hw5]
          clear hCA hw5
          replace mW := mW.then m5
          have hb := m5.at hb (by simp)
          refine hK.out _ _ ?_ (fun hHeld => ?_)
          · first | exact hS _ mW | exact hS _ (mW.setCell (.inr (by show wr.heap.size ≤ pb; omega)) _)
          clear hK K
          try simp only [Act.put, List.setIfInBounds_toArray, List.set_cons_zero, List.set_cons_succ]
          refine wpAnyH_ready (rs := [6]) (by kernel_rfl) (by simp) ?_
          refine AllReadyH.cons (o := { dst := some 79, op := Op.call { callee := Callee.value (Operand.func 8), args := #[Operand.tmp 73, Operand.tmp 78], argTypes := #[25, 27] }, type := 30, pos := "law.go:185", after := #[{ on := 0, ground := Ground.data }, { on := 5, ground := Ground.data }, { on := 3, ground := Ground.chain }], guard := none }) rfl (fun K hK => ?_) AllReadyH.nil
          go_simp
          go_at_call 8
          refine (cApply_w w5 _ _ R _ _ _ _ (HRr.out.moves mW) HCA.out rfl (by decide) (Moves.refl _ _)).mono ?_
          rintro _ w6 ⟨ad6, n6, cap6, rfl, hc6, m6⟩
          rw [HT1.out]
          rw [HT2.out] at hc6
          obtain rfl : n6 = 0 := hc6.len
          replace mW := mW.then m6
          have hb := m6.at hb (by simp)
          refine hK.out _ _ ?_ (fun hHeld => ?_)
          · first | exact hS _ mW | exact hS _ (mW.setCell (.inr (by show wr.heap.size ≤ pb; omega)) _)
          clear hK K
          try simp only [Act.put, List.setIfInBounds_toArray, List.set_cons_zero, List.set_cons_succ]
          refine wpAnyH_take (i := 7) (oi := { dst := some 72, op := Op.move (Operand.tmp 79), type := 30, pos := "law.go:185", after := #[{ on := 6, ground := Ground.data }], guard := none }) (v := ?_) rfl (by kernel_rfl) (by kernel_rfl) (by kernel_rfl) (fun _ _ _ h => h) (Or.inl ⟨by rfl, ?_⟩) (by assumption) ?_
          rotate_left
          · (intro w hSw; (try dsimp only at hSw); go_simp; try (with_reducible rfl))
          try simp only [Act.put, List.setIfInBounds_toArray, List.set_cons_zero, List.set_cons_succ]
          refine wpAnyH_take (i := 8) (oi := { dst := some 80, op := Op.extract (Operand.tmp 72) 0, type := 25, pos := "law.go:185", after := #[{ on := 7, ground := Ground.data }], guard := none }) (v := ?_) rfl (by kernel_rfl) (by kernel_rfl) (by kernel_rfl) (fun _ _ _ h => h) (Or.inl ⟨by rfl, ?_⟩) (by assumption) ?_
          rotate_left
          · (intro w hSw; (try dsimp only at hSw); go_simp; try (with_reducible rfl))
          try simp only [Act.put, List.setIfInBounds_toArray, List.set_cons_zero, List.set_cons_succ]
          refine wpAnyH_take (i := 9) (oi := { dst := some 81, op := Op.extract (Operand.tmp 72) 1, type := 29, pos := "law.go:185", after := #[{ on := 7, ground := Ground.data }, { on := 11, ground := Ground.gcOnly Departure.lateStores }], guard := none }) (v := ?_) rfl (by kernel_rfl) (by kernel_rfl) (by kernel_rfl) (fun _ _ _ h => h) (Or.inl ⟨by rfl, ?_⟩) (by assumption) ?_
          rotate_left
          · (intro w hSw; (try dsimp only at hSw); go_simp; try (with_reducible rfl))
          try simp only [Act.put, List.setIfInBounds_toArray, List.set_cons_zero, List.set_cons_succ]
          refine wpAnyH_ready (rs := [11]) (by kernel_rfl) (by simp) ?_
          refine AllReadyH.cons (o := { dst := none, op := Op.store 25 (Operand.tmp 13) (Operand.tmp 80), type := 0, pos := "law.go:185", after := #[{ on := 10, ground := Ground.data }, { on := 8, ground := Ground.data }, { on := 6, ground := Ground.chain }, { on := 0, ground := Ground.phase }, { on := 1, ground := Ground.phase }, { on := 2, ground := Ground.phase }, { on := 3, ground := Ground.phase }, { on := 4, ground := Ground.phase }, { on := 5, ground := Ground.phase }, { on := 6, ground := Ground.phase }, { on := 7, ground := Ground.phase }, { on := 8, ground := Ground.phase }, { on := 9, ground := Ground.textOnly Departure.lateStores }, { on := 10, ground := Ground.phase }], guard := none }) rfl (fun K hK => ?_) AllReadyH.nil
          obtain ⟨f0, f1⟩ := one_cell hb
          go_simp
          refine hK.out _ _ ?_ (fun hHeld => ?_)
          · first | exact hS _ mW | exact hS _ (mW.setCell (.inr (by show wr.heap.size ≤ pb; omega)) _)
          clear hK K
          refine wpAnyH_take (i := 12) (oi := { dst := some 14, op := Op.assign (Operand.tmp 81), type := 29, pos := "law.go:185", after := #[{ on := 9, ground := Ground.data }, { on := 11, ground := Ground.chain }, { on := 0, ground := Ground.phase }, { on := 1, ground := Ground.phase }, { on := 2, ground := Ground.phase }, { on := 3, ground := Ground.phase }, { on := 4, ground := Ground.phase }, { on := 5, ground := Ground.phase }, { on := 6, ground := Ground.phase }, { on := 7, ground := Ground.phase }, { on := 8, ground := Ground.phase }, { on := 9, ground := Ground.phase }, { on := 10, ground := Ground.phase }, { on := 11, ground := Ground.phase }], guard := none }) (v := ?_) rfl (by kernel_rfl) (by kernel_rfl) (by kernel_rfl) (fun _ _ _ h => h) (Or.inl ⟨by rfl, ?_⟩) (by assumption) ?_
          rotate_left
          · (intro w hSw; (try dsimp only at hSw); go_simp; try (with_reducible rfl))
          try simp only [Act.put, List.setIfInBounds_toArray, List.set_cons_zero, List.set_cons_succ]
          refine wpAnyH_done (by kernel_rfl) ?_ _
          refine NoPanic.normal ?_
          exact ⟨rfl, by kernel_rfl, pb, ad6, cap6, by kernel_rfl, by kernel_rfl, set_one hb _, mW.setCell (.inr (by show wr.heap.size ≤ pb; omega)) _⟩
      · rintro u wx ⟨pb, adx, capx, hu14, hu13, qb, mx⟩
        simp only [List.foldl_cons, List.foldl_nil, List.setIfInBounds_toArray, List.set_cons_zero, List.set_cons_succ, hu14, hu13]
        clear hu14 hu13
        generalize u 72 = u72
        generalize u 73 = u73
        generalize u 74 = u74
        generalize u 75 = u75
        generalize u 76 = u76
        generalize u 77 = u77
        generalize u 78 = u78
        generalize u 79 = u79
        generalize u 80 = u80
        generalize u 81 = u81
        obtain ⟨b0, _⟩ := one_cell qb
        go_wp2_with (go_at_call 10; refine (known5_w _).mono ?_; rintro _ w8 ⟨rfl, m8⟩)
        go_ret
        exact ⟨rfl, (mr.then mx).then m8⟩
      · refine wp_region_noPanic ?_
        refine wp_region_held_drew (S := (fun w' => w'.cell? ⟨pr, 0, none⟩ = some (.slice adr nr capr))) (by kernel_rfl) ?_ (fun hHeld => ?_)
        · first | (go_keep; done) | first | exact hS _ mW | exact hS _ (mW.setCell (.inr (by show wr.heap.size ≤ pb; omega)) _)
        refine wpAnyH_take (i := 0) (oi := { dst := some 73, op := Op.load 25 (Operand.tmp 5), type := 25, pos := "law.go:185", after := #[], guard := none }) (v := ?_) rfl (by kernel_rfl) (by kernel_rfl) (by kernel_rfl) (fun _ _ _ h => h) (Or.inl ⟨by rfl, ?_⟩) (by assumption) ?_
        rotate_left
        · (intro w hSw; (try dsimp only at hSw); go_simp; try (with_reducible rfl))
        try simp only [Act.put, List.setIfInBounds_toArray, List.set_cons_zero, List.set_cons_succ]
        refine wpAnyH_take (i := 1) (oi := { dst := some 74, op := Op.build 35 #[(0, Operand.const (Value.int IntKind.i64 1))], type := 35, pos := "law.go:185", after := #[], guard := none }) (v := ?_) rfl (by kernel_rfl) (by kernel_rfl) (by kernel_rfl) (fun _ _ _ h => h) (Or.inl ⟨by rfl, ?_⟩) (by assumption) ?_
        rotate_left
        · (intro w hSw; (try dsimp only at hSw); go_simp; try (with_reducible rfl))
        try simp only [Act.put, List.setIfInBounds_toArray, List.set_cons_zero, List.set_cons_succ]
        refine wpAnyH_take (i := 2) (oi := { dst := some 75, op := Op.build 37 #[(0, Operand.const (Value.int IntKind.i64 1)), (1, Operand.const (Value.string { data := #[115, 117, 109] })), (2, Operand.const (Value.int IntKind.i64 99)), (3, Operand.tmp 74)], type := 37, pos := "law.go:185", after := #[{ on := 1, ground := Ground.data }], guard := none }) (v := ?_) rfl (by kernel_rfl) (by kernel_rfl) (by kernel_rfl) (fun _ _ _ h => h) (Or.inl ⟨by rfl, ?_⟩) (by assumption) ?_
        rotate_left
        · (intro w hSw; (try dsimp only at hSw); go_simp; try (with_reducible rfl))
        try simp only [Act.put, List.setIfInBounds_toArray, List.set_cons_zero, List.set_cons_succ]
        refine wpAnyH_ready (rs := [3, 10]) (by kernel_rfl) (by simp) ?_
        refine AllReadyH.cons (o := { dst := some 76, op := Op.call { callee := Callee.value (Operand.func 11), args := #[Operand.const (Value.float FloatKind.f64 4607182418800017408)], argTypes := #[33] }, type := 35, pos := "law.go:185", after := #[], guard := none }) rfl (fun K hK => ?_) (AllReadyH.cons (o := { dst := some 13, op := Op.alloc 25, type := 0, pos := "law.go:185", after := #[], guard := none }) rfl (fun K hK => ?_) AllReadyH.nil)
        · go_simp
          go_at_call 11
          refine (num5_w _ _).mono ?_
          rintro _ w3 ⟨rfl, m3⟩
          replace mW := mW.then m3
          refine hK.out _ _ ?_ (fun hHeld => ?_)
          · first | exact hS _ mW | exact hS _ (mW.setCell (.inr (by show wr.heap.size ≤ pb; omega)) _)
          clear hK K
          try simp only [Act.put, List.setIfInBounds_toArray, List.set_cons_zero, List.set_cons_succ]
          refine wpAnyH_take (i := 4) (oi := { dst := some 77, op := Op.build 37 #[(0, Operand.const (Value.int IntKind.i64 5)), (1, Operand.const (Value.string { data := #[115, 117, 109] })), (2, Operand.const (Value.int IntKind.i64 100)), (3, Operand.tmp 76)], type := 37, pos := "law.go:185", after := #[{ on := 3, ground := Ground.data }], guard := none }) (v := ?_) rfl (by kernel_rfl) (by kernel_rfl) (by kernel_rfl) (fun _ _ _ h => h) (Or.inl ⟨by rfl, ?_⟩) (by assumption) ?_
          rotate_left
          · (intro w hSw; (try dsimp only at hSw); go_simp; try (with_reducible rfl))
          try simp only [Act.put, List.setIfInBounds_toArray, List.set_cons_zero, List.set_cons_succ]
          refine wpAnyH_ready (rs := [5, 10]) (by kernel_rfl) (by simp) ?_
          refine AllReadyH.cons (o := { dst := some 78, op := Op.buildSlice 27 2 #[(0, Operand.tmp 75), (1, Operand.tmp 77)], type := 27, pos := "law.go:185", after := #[{ on := 2, ground := Ground.data }, { on := 4, ground := Ground.data }], guard := none }) rfl (fun K hK => ?_) (AllReadyH.cons (o := { dst := some 13, op := Op.alloc 25, type := 0, pos := "law.go:185", after := #[], guard := none }) rfl (fun K hK => ?_) AllReadyH.nil)
          · go_simp
            have hCA := chgs_two w3 ⟨1, sS, 99, ⟨1, [], 0⟩⟩ ⟨5, sS, 100, pnum 4607182418800017408⟩ none none 0 0 0 0 (VC.text0 _).va (VC.num _ fits_one).va
            obtain ⟨w5, hw5⟩ : ∃ w5, w3.alloc (.cells #[.int .i64 1, .string ⟨#[115, 117, 109]⟩, .int .i64 99, .int .i64 1, .slice none 0 0, .float .f64 0, .int .i64 5, .string ⟨#[115, 117, 109]⟩, .int .i64 100, .int .i64 2, .slice none 0 0, .float .f64 4607182418800017408] 37) = w5 := ⟨_, rfl⟩
            have m5 : Moves [] w3 w5 := by rw [← hw5]; exact (Moves.refl _ _).alloc _
            have HCA : Hid (ChgsAt w5 (some ⟨w3.heap.size, 0, none⟩) [⟨1, sS, 99, ⟨1, [], 0⟩⟩, ⟨5, sS, 100, pnum 4607182418800017408⟩]) := by rw [← hw5]; exact hCA
            rw [show (w3.alloc (.cells #[.int .i64 1, .string ⟨#[115, 117, 109]⟩, .int .i64 99, .int .i64 1, .slice none 0 0, .float .f64 0, .int .i64 5, .string ⟨#[115, 117, 109]⟩, .int .i64 100, .int .i64 2, .slice none 0 0, .float .f64 4607182418800017408] 37)) = w5 from hw5]
            clear hCA hw5
            replace mW := mW.then m5
            refine hK.out _ _ ?_ (fun hHeld => ?_)
            · first | exact hS _ mW | exact hS _ (mW.setCell (.inr (by show wr.heap.size ≤ pb; omega)) _)
            clear hK K
            try simp only [Act.put, List.setIfInBounds_toArray, List.set_cons_zero, List.set_cons_succ]
            refine wpAnyH_ready (rs := [6, 10]) (by kernel_rfl) (by simp) ?_
            refine AllReadyH.cons (o := { dst := some 79, op := Op.call { callee := Callee.value (Operand.func 8), args := #[Operand.tmp 73, Operand.tmp 78], argTypes := #[25, 27] }, type := 30, pos := "law.go:185", after := #[{ on := 0, ground := Ground.data }, { on := 5, ground := Ground.data }, { on := 3, ground := Ground.chain }], guard := none }) rfl (fun K hK => ?_) (AllReadyH.cons (o := { dst := some 13, op := Op.alloc 25, type := 0, pos := "law.go:185", after := #[], guard := none }) rfl (fun K hK => ?_) AllReadyH.nil)
            · go_simp
              go_at_call 8
              refine (cApply_w w5 _ _ R _ _ _ _ (HRr.out.moves mW) HCA.out rfl (by decide) (Moves.refl _ _)).mono ?_
              rintro _ w6 ⟨ad6, n6, cap6, rfl, hc6, m6⟩
              rw [HT1.out]
              rw [HT2.out] at hc6
              obtain rfl : n6 = 0 := hc6.len
              replace mW := mW.then m6
              refine hK.out _ _ ?_ (fun hHeld => ?_)
              · first | exact hS _ mW | exact hS _ (mW.setCell (.inr (by show wr.heap.size ≤ pb; omega)) _)
              clear hK K
              try simp only [Act.put, List.setIfInBounds_toArray, List.set_cons_zero, List.set_cons_succ]
              refine wpAnyH_take (i := 7) (oi := { dst := some 72, op := Op.move (Operand.tmp 79), type := 30, pos := "law.go:185", after := #[{ on := 6, ground := Ground.data }], guard := none }) (v := ?_) rfl (by kernel_rfl) (by kernel_rfl) (by kernel_rfl) (fun _ _ _ h => h) (Or.inl ⟨by rfl, ?_⟩) (by assumption) ?_
              rotate_left
              · (intro w hSw; (try dsimp only at hSw); go_simp; try (with_reducible rfl))
              try simp only [Act.put, List.setIfInBounds_toArray, List.set_cons_zero, List.set_cons_succ]
              refine wpAnyH_take (i := 8) (oi := { dst := some 80, op := Op.extract (Operand.tmp 72) 0, type := 25, pos := "law.go:185", after := #[{ on := 7, ground := Ground.data }], guard := none }) (v := ?_) rfl (by kernel_rfl) (by kernel_rfl) (by kernel_rfl) (fun _ _ _ h => h) (Or.inl ⟨by rfl, ?_⟩) (by assumption) ?_
              rotate_left
              · (intro w hSw; (try dsimp only at hSw); go_simp; try (with_reducible rfl))
              try simp only [Act.put, List.setIfInBounds_toArray, List.set_cons_zero, List.set_cons_succ]
              refine wpAnyH_take (i := 9) (oi := { dst := some 81, op := Op.extract (Operand.tmp 72) 1, type := 29, pos := "law.go:185", after := #[{ on := 7, ground := Ground.data }, { on := 11, ground := Ground.gcOnly Departure.lateStores }], guard := none }) (v := ?_) rfl (by kernel_rfl) (by kernel_rfl) (by kernel_rfl) (fun _ _ _ h => h) (Or.inl ⟨by rfl, ?_⟩) (by assumption) ?_
              rotate_left
              · (intro w hSw; (try dsimp only at hSw); go_simp; try (with_reducible rfl))
              try simp only [Act.put, List.setIfInBounds_toArray, List.set_cons_zero, List.set_cons_succ]
              refine wpAnyH_ready (rs := [10]) (by kernel_rfl) (by simp) ?_
              refine AllReadyH.cons (o := { dst := some 13, op := Op.alloc 25, type := 0, pos := "law.go:185", after := #[], guard := none }) rfl (fun K hK => ?_) AllReadyH.nil
              go_simp
              have hle := mW.size
              obtain ⟨w10, hwa⟩ : ∃ w10, w6.alloc (.cells #[.slice none 0 0] 25) = w10 := ⟨_, rfl⟩
              have hb : w10.heap[w6.heap.size]? = some (.cells #[.slice none 0 0] 25 (0, 0)) := by rw [← hwa]; exact heap_alloc_new w6 _
              have mA : Moves [] w6 w10 := by rw [← hwa]; exact (Moves.refl _ _).alloc _
              rw [hwa]
              obtain ⟨pb, hpb⟩ : ∃ pb, w6.heap.size = pb := ⟨_, rfl⟩
              rw [hpb] at hb ⊢
              have hle : wr.heap.size ≤ pb := by rw [← hpb]; first | exact hle | exact Nat.le_refl _
              replace mW := mW.then mA
              clear hwa hpb
              refine hK.out _ _ ?_ (fun hHeld => ?_)
              · first | exact hS _ mW | exact hS _ (mW.setCell (.inr (by show wr.heap.size ≤ pb; omega)) _)
              clear hK K
              try simp only [Act.put, List.setIfInBounds_toArray, List.set_cons_zero, List.set_cons_succ]
              refine wpAnyH_ready (rs := [11]) (by kernel_rfl) (by simp) ?_
              refine AllReadyH.cons (o := { dst := none, op := Op.store 25 (Operand.tmp 13) (Operand.tmp 80), type := 0, pos := "law.go:185", after := #[{ on := 10, ground := Ground.data }, { on := 8, ground := Ground.data }, { on := 6, ground := Ground.chain }, { on := 0, ground := Ground.phase }, { on := 1, ground := Ground.phase }, { on := 2, ground := Ground.phase }, { on := 3, ground := Ground.phase }, { on := 4, ground := Ground.phase }, { on := 5, ground := Ground.phase }, { on := 6, ground := Ground.phase }, { on := 7, ground := Ground.phase }, { on := 8, ground := Ground.phase }, { on := 9, ground := Ground.textOnly Departure.lateStores }, { on := 10, ground := Ground.phase }], guard := none }) rfl (fun K hK => ?_) AllReadyH.nil
              obtain ⟨f0, f1⟩ := one_cell hb
              go_simp
              refine hK.out _ _ ?_ (fun hHeld => ?_)
              · first | exact hS _ mW | exact hS _ (mW.setCell (.inr (by show wr.heap.size ≤ pb; omega)) _)
              clear hK K
              refine wpAnyH_take (i := 12) (oi := { dst := some 14, op := Op.assign (Operand.tmp 81), type := 29, pos := "law.go:185", after := #[{ on := 9, ground := Ground.data }, { on := 11, ground := Ground.chain }, { on := 0, ground := Ground.phase }, { on := 1, ground := Ground.phase }, { on := 2, ground := Ground.phase }, { on := 3, ground := Ground.phase }, { on := 4, ground := Ground.phase }, { on := 5, ground := Ground.phase }, { on := 6, ground := Ground.phase }, { on := 7, ground := Ground.phase }, { on := 8, ground := Ground.phase }, { on := 9, ground := Ground.phase }, { on := 10, ground := Ground.phase }, { on := 11, ground := Ground.phase }], guard := none }) (v := ?_) rfl (by kernel_rfl) (by kernel_rfl) (by kernel_rfl) (fun _ _ _ h => h) (Or.inl ⟨by rfl, ?_⟩) (by assumption) ?_
              rotate_left
              · (intro w hSw; (try dsimp only at hSw); go_simp; try (with_reducible rfl))
              try simp only [Act.put, List.setIfInBounds_toArray, List.set_cons_zero, List.set_cons_succ]
              refine wpAnyH_done (by kernel_rfl) ?_ _
              refine NoPanic.normal ?_
              exact ⟨rfl, by kernel_rfl, pb, ad6, cap6, by kernel_rfl, by kernel_rfl, set_one hb _, mW.setCell (.inr (by show wr.heap.size ≤ pb; omega)) _⟩
            · go_simp
              have hle := mW.size
              obtain ⟨w10, hwa⟩ : ∃ w10, w5.alloc (.cells #[.slice none 0 0] 25) = w10 := ⟨_, rfl⟩
              have hb : w10.heap[w5.heap.size]? = some (.cells #[.slice none 0 0] 25 (0, 0)) := by rw [← hwa]; exact heap_alloc_new w5 _
              have mA : Moves [] w5 w10 := by rw [← hwa]; exact (Moves.refl _ _).alloc _
              rw [hwa]
              obtain ⟨pb, hpb⟩ : ∃ pb, w5.heap.size = pb := ⟨_, rfl⟩
              rw [hpb] at hb ⊢
              have hle : wr.heap.size ≤ pb := by rw [← hpb]; first | exact hle | exact Nat.le_refl _
              replace mW := mW.then mA
              clear hwa hpb
              refine hK.out _ _ ?_ (fun hHeld => ?_)
              · first | exact hS _ mW | exact hS _ (mW.setCell (.inr (by show wr.heap.size ≤ pb; omega)) _)
              clear hK K
              try simp only [Act.put, List.setIfInBounds_toArray, List.set_cons_zero, List.set_cons_succ]
              refine wpAnyH_ready (rs := [6]) (by kernel_rfl) (by simp) ?_
              refine AllReadyH.cons (o := { dst := some 79, op := Op.call { callee := Callee.value (Operand.func 8), args := #[Operand.tmp 73, Operand.tmp 78], argTypes := #[25, 27] }, type := 30, pos := "law.go:185", after := #[{ on := 0, ground := Ground.data }, { on := 5, ground := Ground.data }, { on := 3, ground := Ground.chain }], guard := none }) rfl (fun K hK => ?_) AllReadyH.nil
              go_simp
              go_at_call 8
              refine (cApply_w w10 _ _ R _ _ _ _ (HRr.out.moves mW) (HCA.out.moves mA) rfl (by decide) (Moves.refl _ _)).mono ?_
              rintro _ w6 ⟨ad6, n6, cap6, rfl, hc6, m6⟩
              rw [HT1.out]
              rw [HT2.out] at hc6
              obtain rfl : n6 = 0 := hc6.len
              replace mW := mW.then m6
              have hb := m6.at hb (by simp)
              refine hK.out _ _ ?_ (fun hHeld => ?_)
              · first | exact hS _ mW | exact hS _ (mW.setCell (.inr (by show wr.heap.size ≤ pb; omega)) _)
              clear hK K
              try simp only [Act.put, List.setIfInBounds_toArray, List.set_cons_zero, List.set_cons_succ]
              refine wpAnyH_take (i := 7) (oi := { dst := some 72, op := Op.move (Operand.tmp 79), type := 30, pos := "law.go:185", after := #[{ on := 6, ground := Ground.data }], guard := none }) (v := ?_) rfl (by kernel_rfl) (by kernel_rfl) (by kernel_rfl) (fun _ _ _ h => h) (Or.inl ⟨by rfl, ?_⟩) (by assumption) ?_
              rotate_left
              · (intro w hSw; (try dsimp only at hSw); go_simp; try (with_reducible rfl))
              try simp only [Act.put, List.setIfInBounds_toArray, List.set_cons_zero, List.set_cons_succ]
              refine wpAnyH_take (i := 8) (oi := { dst := some 80, op := Op.extract (Operand.tmp 72) 0, type := 25, pos := "law.go:185", after := #[{ on := 7, ground := Ground.data }], guard := none }) (v := ?_) rfl (by kernel_rfl) (by kernel_rfl) (by kernel_rfl) (fun _ _ _ h => h) (Or.inl ⟨by rfl, ?_⟩) (by assumption) ?_
              rotate_left
              · (intro w hSw; (try dsimp only at hSw); go_simp; try (with_reducible rfl))
              try simp only [Act.put, List.setIfInBounds_toArray, List.set_cons_zero, List.set_cons_succ]
              refine wpAnyH_take (i := 9) (oi := { dst := some 81, op := Op.extract (Operand.tmp 72) 1, type := 29, pos := "law.go:185", after := #[{ on := 7, ground := Ground.data }, { on := 11, ground := Ground.gcOnly Departure.lateStores }], guard := none }) (v := ?_) rfl (by kernel_rfl) (by kernel_rfl) (by kernel_rfl) (fun _ _ _ h => h) (Or.inl ⟨by rfl, ?_⟩) (by assumption) ?_
              rotate_left
              · (intro w hSw; (try dsimp only at hSw); go_simp; try (with_reducible rfl))
              try simp only [Act.put, List.setIfInBounds_toArray, List.set_cons_zero, List.set_cons_succ]
              refine wpAnyH_ready (rs := [11]) (by kernel_rfl) (by simp) ?_
              refine AllReadyH.cons (o := { dst := none, op := Op.store 25 (Operand.tmp 13) (Operand.tmp 80), type := 0, pos := "law.go:185", after := #[{ on := 10, ground := Ground.data }, { on := 8, ground := Ground.data }, { on := 6, ground := Ground.chain }, { on := 0, ground := Ground.phase }, { on := 1, ground := Ground.phase }, { on := 2, ground := Ground.phase }, { on := 3, ground := Ground.phase }, { on := 4, ground := Ground.phase }, { on := 5, ground := Ground.phase }, { on := 6, ground := Ground.phase }, { on := 7, ground := Ground.phase }, { on := 8, ground := Ground.phase }, { on := 9, ground := Ground.textOnly Departure.lateStores }, { on := 10, ground := Ground.phase }], guard := none }) rfl (fun K hK => ?_) AllReadyH.nil
              obtain ⟨f0, f1⟩ := one_cell hb
              go_simp
              refine hK.out _ _ ?_ (fun hHeld => ?_)
              · first | exact hS _ mW | exact hS _ (mW.setCell (.inr (by show wr.heap.size ≤ pb; omega)) _)
              clear hK K
              refine wpAnyH_take (i := 12) (oi := { dst := some 14, op := Op.assign (Operand.tmp 81), type := 29, pos := "law.go:185", after := #[{ on := 9, ground := Ground.data }, { on := 11, ground := Ground.chain }, { on := 0, ground := Ground.phase }, { on := 1, ground := Ground.phase }, { on := 2, ground := Ground.phase }, { on := 3, ground := Ground.phase }, { on := 4, ground := Ground.phase }, { on := 5, ground := Ground.phase }, { on := 6, ground := Ground.phase }, { on := 7, ground := Ground.phase }, { on := 8, ground := Ground.phase }, { on := 9, ground := Ground.phase }, { on := 10, ground := Ground.phase }, { on := 11, ground := Ground.phase }], guard := none }) (v := ?_) rfl (by kernel_rfl) (by kernel_rfl) (by kernel_rfl) (fun _ _ _ h => h) (Or.inl ⟨by rfl, ?_⟩) (by assumption) ?_
              rotate_left
              · (intro w hSw; (try dsimp only at hSw); go_simp; try (with_reducible rfl))
              try simp only [Act.put, List.setIfInBounds_toArray, List.set_cons_zero, List.set_cons_succ]
              refine wpAnyH_done (by kernel_rfl) ?_ _
              refine NoPanic.normal ?_
              exact ⟨rfl, by kernel_rfl, pb, ad6, cap6, by kernel_rfl, by kernel_rfl, set_one hb _, mW.setCell (.inr (by show wr.heap.size ≤ pb; omega)) _⟩
          · go_simp
            have hle := mW.size
            obtain ⟨w10, hwa⟩ : ∃ w10, w3.alloc (.cells #[.slice none 0 0] 25) = w10 := ⟨_, rfl⟩
            have hb : w10.heap[w3.heap.size]? = some (.cells #[.slice none 0 0] 25 (0, 0)) := by rw [← hwa]; exact heap_alloc_new w3 _
            have mA : Moves [] w3 w10 := by rw [← hwa]; exact (Moves.refl _ _).alloc _
            rw [hwa]
            obtain ⟨pb, hpb⟩ : ∃ pb, w3.heap.size = pb := ⟨_, rfl⟩
            rw [hpb] at hb ⊢
            have hle : wr.heap.size ≤ pb := by rw [← hpb]; first | exact hle | exact Nat.le_refl _
            replace mW := mW.then mA
            clear hwa hpb
            refine hK.out _ _ ?_ (fun hHeld => ?_)
            · first | exact hS _ mW | exact hS _ (mW.setCell (.inr (by show wr.heap.size ≤ pb; omega)) _)
            clear hK K
            try simp only [Act.put, List.setIfInBounds_toArray, List.set_cons_zero, List.set_cons_succ]
            refine wpAnyH_ready (rs := [5]) (by kernel_rfl) (by simp) ?_
            refine AllReadyH.cons (o := { dst := some 78, op := Op.buildSlice 27 2 #[(0, Operand.tmp 75), (1, Operand.tmp 77)], type := 27, pos := "law.go:185", after := #[{ on := 2, ground := Ground.data }, { on := 4, ground := Ground.data }], guard := none }) rfl (fun K hK => ?_) AllReadyH.nil
            go_simp
            have hCA := chgs_two w10 ⟨1, sS, 99, ⟨1, [], 0⟩⟩ ⟨5, sS, 100, pnum 4607182418800017408⟩ none none 0 0 0 0 (VC.text0 _).va (VC.num _ fits_one).va
            obtain ⟨w5, hw5⟩ : ∃ w5, w10.alloc (.cells #[.int .i64 1, .string ⟨#[115, 117, 109]⟩, .int .i64 99, .int .i64 1, .slice none 0 0, .float .f64 0, .int .i64 5, .string ⟨#[115, 117, 109]⟩, .int .i64 100, .int .i64 2, .slice none 0 0, .float .f64 4607182418800017408] 37) = w5 := ⟨_, rfl⟩
            have m5 : Moves [] w10 w5 := by rw [← hw5]; exact (Moves.refl _ _).alloc _
            have HCA : Hid (ChgsAt w5 (some ⟨w10.heap.size, 0, none⟩) [⟨1, sS, 99, ⟨1, [], 0⟩⟩, ⟨5, sS, 100, pnum 4607182418800017408⟩]) := by rw [← hw5]; exact hCA
            rw [show (w10.alloc (.cells #[.int .i64 1, .string ⟨#[115, 117, 109]⟩, .int .i64 99, .int .i64 1, .slice none 0 0, .float .f64 0, .int .i64 5, .string ⟨#[115, 117, 109]⟩, .int .i64 100, .int .i64 2, .slice none 0 0, .float .f64 4607182418800017408] 37)) = w5 from hw5]
            clear hCA hw5
            replace mW := mW.then m5
            have hb := m5.at hb (by simp)
            refine hK.out _ _ ?_ (fun hHeld => ?_)
            · first | exact hS _ mW | exact hS _ (mW.setCell (.inr (by show wr.heap.size ≤ pb; omega)) _)
            clear hK K
            try simp only [Act.put, List.setIfInBounds_toArray, List.set_cons_zero, List.set_cons_succ]
            refine wpAnyH_ready (rs := [6]) (by kernel_rfl) (by simp) ?_
            refine AllReadyH.cons (o := { dst := some 79, op := Op.call { callee := Callee.value (Operand.func 8), args := #[Operand.tmp 73, Operand.tmp 78], argTypes := #[25, 27] }, type := 30, pos := "law.go:185", after := #[{ on := 0, ground := Ground.data }, { on := 5, ground := Ground.data }, { on := 3, ground := Ground.chain }], guard := none }) rfl (fun K hK => ?_) AllReadyH.nil
            go_simp
            go_at_call 8
            refine (cApply_w w5 _ _ R _ _ _ _ (HRr.out.moves mW) HCA.out rfl (by decide) (Moves.refl _ _)).mono ?_
            rintro _ w6 ⟨ad6, n6, cap6, rfl, hc6, m6⟩
            rw [HT1.out]
            rw [HT2.out] at hc6
            obtain rfl : n6 = 0 := hc6.len
            replace mW := mW.then m6
            have hb := m6.at hb (by simp)
            refine hK.out _ _ ?_ (fun hHeld => ?_)
            · first | exact hS _ mW | exact hS _ (mW.setCell (.inr (by show wr.heap.size ≤ pb; omega)) _)
            clear hK K
            try simp only [Act.put, List.setIfInBounds_toArray, List.set_cons_zero, List.set_cons_succ]
            refine wpAnyH_take (i := 7) (oi := { dst := some 72, op := Op.move (Operand.tmp 79), type := 30, pos := "law.go:185", after := #[{ on := 6, ground := Ground.data }], guard := none }) (v := ?_) rfl (by kernel_rfl) (by kernel_rfl) (by kernel_rfl) (fun _ _ _ h => h) (Or.inl ⟨by rfl, ?_⟩) (by assumption) ?_
            rotate_left
            · (intro w hSw; (try dsimp only at hSw); go_simp; try (with_reducible rfl))
            try simp only [Act.put, List.setIfInBounds_toArray, List.set_cons_zero, List.set_cons_succ]
            refine wpAnyH_take (i := 8) (oi := { dst := some 80, op := Op.extract (Operand.tmp 72) 0, type := 25, pos := "law.go:185", after := #[{ on := 7, ground := Ground.data }], guard := none }) (v := ?_) rfl (by kernel_rfl) (by kernel_rfl) (by kernel_rfl) (fun _ _ _ h => h) (Or.inl ⟨by rfl, ?_⟩) (by assumption) ?_
            rotate_left
            · (intro w hSw; (try dsimp only at hSw); go_simp; try (with_reducible rfl))
            try simp only [Act.put, List.setIfInBounds_toArray, List.set_cons_zero, List.set_cons_succ]
            refine wpAnyH_take (i := 9) (oi := { dst := some 81, op := Op.extract (Operand.tmp 72) 1, type := 29, pos := "law.go:185", after := #[{ on := 7, ground := Ground.data }, { on := 11, ground := Ground.gcOnly Departure.lateStores }], guard := none }) (v := ?_) rfl (by kernel_rfl) (by kernel_rfl) (by kernel_rfl) (fun _ _ _ h => h) (Or.inl ⟨by rfl, ?_⟩) (by assumption) ?_
            rotate_left
            · (intro w hSw; (try dsimp only at hSw); go_simp; try (with_reducible rfl))
            try simp only [Act.put, List.setIfInBounds_toArray, List.set_cons_zero, List.set_cons_succ]
            refine wpAnyH_ready (rs := [11]) (by kernel_rfl) (by simp) ?_
            refine AllReadyH.cons (o := { dst := none, op := Op.store 25 (Operand.tmp 13) (Operand.tmp 80), type := 0, pos := "law.go:185", after := #[{ on := 10, ground := Ground.data }, { on := 8, ground := Ground.data }, { on := 6, ground := Ground.chain }, { on := 0, ground := Ground.phase }, { on := 1, ground := Ground.phase }, { on := 2, ground := Ground.phase }, { on := 3, ground := Ground.phase }, { on := 4, ground := Ground.phase }, { on := 5, ground := Ground.phase }, { on := 6, ground := Ground.phase }, { on := 7, ground := Ground.phase }, { on := 8, ground := Ground.phase }, { on := 9, ground := Ground.textOnly Departure.lateStores }, { on := 10, ground := Ground.phase }], guard := none }) rfl (fun K hK => ?_) AllReadyH.nil
            obtain ⟨f0, f1⟩ := one_cell hb
            go_simp
            refine hK.out _ _ ?_ (fun hHeld => ?_)
            · first | exact hS _ mW | exact hS _ (mW.setCell (.inr (by show wr.heap.size ≤ pb; omega)) _)
            clear hK K
            refine wpAnyH_take (i := 12) (oi := { dst := some 14, op := Op.assign (Operand.tmp 81), type := 29, pos := "law.go:185", after := #[{ on := 9, ground := Ground.data }, { on := 11, ground := Ground.chain }, { on := 0, ground := Ground.phase }, { on := 1, ground := Ground.phase }, { on := 2, ground := Ground.phase }, { on := 3, ground := Ground.phase }, { on := 4, ground := Ground.phase }, { on := 5, ground := Ground.phase }, { on := 6, ground := Ground.phase }, { on := 7, ground := Ground.phase }, { on := 8, ground := Ground.phase }, { on := 9, ground := Ground.phase }, { on := 10, ground := Ground.phase }, { on := 11, ground := Ground.phase }], guard := none }) (v := ?_) rfl (by kernel_rfl) (by kernel_rfl) (by kernel_rfl) (fun _ _ _ h => h) (Or.inl ⟨by rfl, ?_⟩) (by assumption) ?_
            rotate_left
            · (intro w hSw; (try dsimp only at hSw); go_simp; try (with_reducible rfl))
            try simp only [Act.put, List.setIfInBounds_toArray, List.set_cons_zero, List.set_cons_succ]
            refine wpAnyH_done (by kernel_rfl) ?_ _
            refine NoPanic.normal ?_
            exact ⟨rfl, by kernel_rfl, pb, ad6, cap6, by kernel_rfl, by kernel_rfl, set_one hb _, mW.setCell (.inr (by show wr.heap.size ≤ pb; omega)) _⟩
        · go_simp
          have hle := mW.size
          obtain ⟨w10, hwa⟩ : ∃ w10, (wr.alloc (.cells #[.slice none 0 0] 25)).drew = w10 := ⟨_, rfl⟩
          have hb : w10.heap[wr.heap.size]? = some (.cells #[.slice none 0 0] 25 (0, 0)) := by rw [← hwa]; exact heap_alloc_new wr _
          have mA : Moves [] wr w10 := by rw [← hwa]; exact ((Moves.refl _ _).alloc _).drew
          rw [hwa]
          obtain ⟨pb, hpb⟩ : ∃ pb, wr.heap.size = pb := ⟨_, rfl⟩
          rw [hpb] at hb ⊢
          have hle : wr.heap.size ≤ pb := by rw [← hpb]; first | exact hle | exact Nat.le_refl _
          replace mW := mA
          clear hwa hpb
          refine hK.out _ _ ?_ (fun hHeld => ?_)
          · first | exact hS _ mW | exact hS _ (mW.setCell (.inr (by show wr.heap.size ≤ pb; omega)) _)
          clear hK K
          try simp only [Act.put, List.setIfInBounds_toArray, List.set_cons_zero, List.set_cons_succ]
          refine wpAnyH_ready (rs := [3]) (by kernel_rfl) (by simp) ?_
          refine AllReadyH.cons (o := { dst := some 76, op := Op.call { callee := Callee.value (Operand.func 11), args := #[Operand.const (Value.float FloatKind.f64 4607182418800017408)], argTypes := #[33] }, type := 35, pos := "law.go:185", after := #[], guard := none }) rfl (fun K hK => ?_) AllReadyH.nil
          go_simp
          go_at_call 11
          refine (num5_w _ _).mono ?_
          rintro _ w3 ⟨rfl, m3⟩
          replace mW := mW.then m3
          have hb := m3.at hb (by simp)
          refine hK.out _ _ ?_ (fun hHeld => ?_)
          · first | exact hS _ mW | exact hS _ (mW.setCell (.inr (by show wr.heap.size ≤ pb; omega)) _)
          clear hK K
          try simp only [Act.put, List.setIfInBounds_toArray, List.set_cons_zero, List.set_cons_succ]
          refine wpAnyH_take (i := 4) (oi := { dst := some 77, op := Op.build 37 #[(0, Operand.const (Value.int IntKind.i64 5)), (1, Operand.const (Value.string { data := #[115, 117, 109] })), (2, Operand.const (Value.int IntKind.i64 100)), (3, Operand.tmp 76)], type := 37, pos := "law.go:185", after := #[{ on := 3, ground := Ground.data }], guard := none }) (v := ?_) rfl (by kernel_rfl) (by kernel_rfl) (by kernel_rfl) (fun _ _ _ h => h) (Or.inl ⟨by rfl, ?_⟩) (by assumption) ?_
          rotate_left
          · (intro w hSw; (try dsimp only at hSw); go_simp; try (with_reducible rfl))
          try simp only [Act.put, List.setIfInBounds_toArray, List.set_cons_zero, List.set_cons_succ]
          refine wpAnyH_ready (rs := [5]) (by kernel_rfl) (by simp) ?_
          refine AllReadyH.cons (o := { dst := some 78, op := Op.buildSlice 27 2 #[(0, Operand.tmp 75), (1, Operand.tmp 77)], type := 27, pos := "law.go:185", after := #[{ on := 2, ground := Ground.data }, { on := 4, ground := Ground.data }], guard := none }) rfl (fun K hK => ?_) AllReadyH.nil
          go_simp
          have hCA := chgs_two w3 ⟨1, sS, 99, ⟨1, [], 0⟩⟩ ⟨5, sS, 100, pnum 4607182418800017408⟩ none none 0 0 0 0 (VC.text0 _).va (VC.num _ fits_one).va
          obtain ⟨w5, hw5⟩ : ∃ w5, w3.alloc (.cells #[.int .i64 1, .string ⟨#[115, 117, 109]⟩, .int .i64 99, .int .i64 1, .slice none 0 0, .float .f64 0, .int .i64 5, .string ⟨#[115, 117, 109]⟩, .int .i64 100, .int .i64 2, .slice none 0 0, .float .f64 4607182418800017408] 37) = w5 := ⟨_, rfl⟩
          have m5 : Moves [] w3 w5 := by rw [← hw5]; exact (Moves.refl _ _).alloc _
          have HCA : Hid (ChgsAt w5 (some ⟨w3.heap.size, 0, none⟩) [⟨1, sS, 99, ⟨1, [], 0⟩⟩, ⟨5, sS, 100, pnum 4607182418800017408⟩]) := by rw [← hw5]; exact hCA
          rw [show (w3.alloc (.cells #[.int .i64 1, .string ⟨#[115, 117, 109]⟩, .int .i64 99, .int .i64 1, .slice none 0 0, .float .f64 0, .int .i64 5, .string ⟨#[115, 117, 109]⟩, .int .i64 100, .int .i64 2, .slice none 0 0, .float .f64 4607182418800017408] 37)) = w5 from hw5]
          clear hCA hw5
          replace mW := mW.then m5
          have hb := m5.at hb (by simp)
          refine hK.out _ _ ?_ (fun hHeld => ?_)
          · first | exact hS _ mW | exact hS _ (mW.setCell (.inr (by show wr.heap.size ≤ pb; omega)) _)
          clear hK K
          try simp only [Act.put, List.setIfInBounds_toArray, List.set_cons_zero, List.set_cons_succ]
          refine wpAnyH_ready (rs := [6]) (by kernel_rfl) (by simp) ?_
          refine AllReadyH.cons (o := { dst := some 79, op := Op.call { callee := Callee.value (Operand.func 8), args := #[Operand.tmp 73, Operand.tmp 78], argTypes := #[25, 27] }, type := 30, pos := "law.go:185", after := #[{ on := 0, ground := Ground.data }, { on := 5, ground := Ground.data }, { on := 3, ground := Ground.chain }], guard := none }) rfl (fun K hK => ?_) AllReadyH.nil
          go_simp
          go_at_call 8
          refine (cApply_w w5 _ _ R _ _ _ _ (HRr.out.moves mW) HCA.out rfl (by decide) (Moves.refl _ _)).mono ?_
          rintro _ w6 ⟨ad6, n6, cap6, rfl, hc6, m6⟩
          rw [HT1.out]
          rw [HT2.out] at hc6
          obtain rfl : n6 = 0 := hc6.len
          replace mW := mW.then m6
          have hb := m6.at hb (by simp)
          refine hK.out _ _ ?_ (fun hHeld => ?_)
          · first | exact hS _ mW | exact hS _ (mW.setCell (.inr (by show wr.heap.size ≤ pb; omega)) _)
          clear hK K
          try simp only [Act.put, List.setIfInBounds_toArray, List.set_cons_zero, List.set_cons_succ]
          refine wpAnyH_take (i := 7) (oi := { dst := some 72, op := Op.move (Operand.tmp 79), type := 30, pos := "law.go:185", after := #[{ on := 6, ground := Ground.data }], guard := none }) (v := ?_) rfl (by kernel_rfl) (by kernel_rfl) (by kernel_rfl) (fun _ _ _ h => h) (Or.inl ⟨by rfl, ?_⟩) (by assumption) ?_
          rotate_left
          · (intro w hSw; (try dsimp only at hSw); go_simp; try (with_reducible rfl))
          try simp only [Act.put, List.setIfInBounds_toArray, List.set_cons_zero, List.set_cons_succ]
          refine wpAnyH_take (i := 8) (oi := { dst := some 80, op := Op.extract (Operand.tmp 72) 0, type := 25, pos := "law.go:185", after := #[{ on := 7, ground := Ground.data }], guard := none }) (v := ?_) rfl (by kernel_rfl) (by kernel_rfl) (by kernel_rfl) (fun _ _ _ h => h) (Or.inl ⟨by rfl, ?_⟩) (by assumption) ?_
          rotate_left
          · (intro w hSw; (try dsimp only at hSw); go_simp; try (with_reducible rfl))
          try simp only [Act.put, List.setIfInBounds_toArray, List.set_cons_zero, List.set_cons_succ]
          refine wpAnyH_take (i := 9) (oi := { dst := some 81, op := Op.extract (Operand.tmp 72) 1, type := 29, pos := "law.go:185", after := #[{ on := 7, ground := Ground.data }, { on := 11, ground := Ground.gcOnly Departure.lateStores }], guard := none }) (v := ?_) rfl (by kernel_rfl) (by kernel_rfl) (by kernel_rfl) (fun _ _ _ h => h) (Or.inl ⟨by rfl, ?_⟩) (by assumption) ?_
          rotate_left
          · (intro w hSw; (try dsimp only at hSw); go_simp; try (with_reducible rfl))
          try simp only [Act.put, List.setIfInBounds_toArray, List.set_cons_zero, List.set_cons_succ]
          refine wpAnyH_ready (rs := [11]) (by kernel_rfl) (by simp) ?_
          refine AllReadyH.cons (o := { dst := none, op := Op.store 25 (Operand.tmp 13) (Operand.tmp 80), type := 0, pos := "law.go:185", after := #[{ on := 10, ground := Ground.data }, { on := 8, ground := Ground.data }, { on := 6, ground := Ground.chain }, { on := 0, ground := Ground.phase }, { on := 1, ground := Ground.phase }, { on := 2, ground := Ground.phase }, { on := 3, ground := Ground.phase }, { on := 4, ground := Ground.phase }, { on := 5, ground := Ground.phase }, { on := 6, ground := Ground.phase }, { on := 7, ground := Ground.phase }, { on := 8, ground := Ground.phase }, { on := 9, ground := Ground.textOnly Departure.lateStores }, { on := 10, ground := Ground.phase }], guard := none }) rfl (fun K hK => ?_) AllReadyH.nil
          obtain ⟨f0, f1⟩ := one_cell hb
          go_simp
          refine hK.out _ _ ?_ (fun hHeld => ?_)
          · first | exact hS _ mW | exact hS _ (mW.setCell (.inr (by show wr.heap.size ≤ pb; omega)) _)
          clear hK K
          refine wpAnyH_take (i := 12) (oi := { dst := some 14, op := Op.assign (Operand.tmp 81), type := 29, pos := "law.go:185", after := #[{ on := 9, ground := Ground.data }, { on := 11, ground := Ground.chain }, { on := 0, ground := Ground.phase }, { on := 1, ground := Ground.phase }, { on := 2, ground := Ground.phase }, { on := 3, ground := Ground.phase }, { on := 4, ground := Ground.phase }, { on := 5, ground := Ground.phase }, { on := 6, ground := Ground.phase }, { on := 7, ground := Ground.phase }, { on := 8, ground := Ground.phase }, { on := 9, ground := Ground.phase }, { on := 10, ground := Ground.phase }, { on := 11, ground := Ground.phase }], guard := none }) (v := ?_) rfl (by kernel_rfl) (by kernel_rfl) (by kernel_rfl) (fun _ _ _ h => h) (Or.inl ⟨by rfl, ?_⟩) (by assumption) ?_
          rotate_left
          · (intro w hSw; (try dsimp only at hSw); go_simp; try (with_reducible rfl))
          try simp only [Act.put, List.setIfInBounds_toArray, List.set_cons_zero, List.set_cons_succ]
          refine wpAnyH_done (by kernel_rfl) ?_ _
          refine NoPanic.normal ?_
          exact ⟨rfl, by kernel_rfl, pb, ad6, cap6, by kernel_rfl, by kernel_rfl, set_one hb _, mW.setCell (.inr (by show wr.heap.size ≤ pb; omega)) _⟩
      · rintro u wx ⟨pb, adx, capx, hu14, hu13, qb, mx⟩
        simp only [List.foldl_cons, List.foldl_nil, List.setIfInBounds_toArray, List.set_cons_zero, List.set_cons_succ, hu14, hu13]
        clear hu14 hu13
        generalize u 72 = u72
        generalize u 73 = u73
        generalize u 74 = u74
        generalize u 75 = u75
        generalize u 76 = u76
        generalize u 77 = u77
        generalize u 78 = u78
        generalize u 79 = u79
        generalize u 80 = u80
        generalize u 81 = u81
        obtain ⟨b0, _⟩ := one_cell qb
        go_wp2_with (go_at_call 10; refine (known5_w _).mono ?_; rintro _ w8 ⟨rfl, m8⟩)
        go_ret
        exact ⟨rfl, (mr.then mx).then m8⟩
end Go.Proofs.Ytfegflimnngfaab
