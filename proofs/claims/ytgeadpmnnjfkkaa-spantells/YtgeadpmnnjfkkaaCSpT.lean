/-
  SpanTells' walk.
-/
import Derived.Test.YtgeadpmnnjfkkaaCSpN
import Derived.Test.YtgeadpmnnjfkkaaCPeel
import Derived.Test.YtgeadpmnnjfkkaaCSp11
namespace Go.Proofs.Ytgeadpmnnjfkkaa
open Go.RowKit

/-- What a piece of code leaves, told by the slots that it may have written: the rest is walked once. -/
theorem wp_some7 {P : Program} {c : Code} {Q : Exit → Act → World → Prop} {a0 : Act} {w0 : World} (sl : List Nat) (H : (Nat → Value) → World → Prop)
    (h1 : c.wp P (fun e a w => e = .normal ∧ a = { tmps := sl.foldl (fun t s => t.setIfInBounds s (a.tmps.getD s undef)) a0.tmps, defers := a0.defers } ∧ H (fun s => a.tmps.getD s undef) w) a0 w0)
    (h2 : ∀ (u : Nat → Value) w, H u w → Q .normal { tmps := sl.foldl (fun t s => t.setIfInBounds s (u s)) a0.tmps, defers := a0.defers } w) : c.wp P Q a0 w0 :=
  Code.wp_mono (fun e a w ⟨he, ha, hH⟩ => by subst he; rw [ha]; exact h2 _ w hH) h1

theorem cell_of {S : List Nat} {w w' : World} (m : Moves S w w') {a : Addr} {v : Value} (h : w.cell? a = some v) (hn : a.block ∉ S) : w'.cell? a = some v :=
  (World.cell?_of_block (w := w) (m.block a.block (lt_of_cell h) hn)).trans h
set_option maxRecDepth 100000 in
set_option maxHeartbeats 16000000 in
theorem spanTells_w (la ha lb hb t : ByteArray) (v : Value) (W w : World) (hv : IArgs W v) (mW : Moves [] W w) : Calls Try.prog 4 #[.agg #[.string la, .string ha], .agg #[.string lb, .string hb], .string t, v] w fun e w' => e = .returned (.bool true) ∧ Moves [] w w' := by
  obtain ⟨adv, nv, cv, rfl, hcv, hV⟩ := hv
  have HV : Hid (∀ k, k < nv → ∃ b off n, adv = some ⟨b, off, none⟩ ∧ W.cell? ⟨b, off + k, none⟩ = some (.int .i64 n)) := hV
  have MW : Hid (Moves [] W w) := mW
  clear hV mW
  obtain ⟨xa, hxa⟩ : ∃ x, phead la 20 = x := ⟨_, rfl⟩
  obtain ⟨ya, hya⟩ : ∃ x, phead ha 20 = x := ⟨_, rfl⟩
  obtain ⟨xb, hxb⟩ : ∃ x, phead lb 20 = x := ⟨_, rfl⟩
  obtain ⟨yb, hyb⟩ : ∃ x, phead hb 20 = x := ⟨_, rfl⟩
  obtain ⟨t2, ht2⟩ : ∃ x, phead t 20 = x := ⟨_, rfl⟩
  obtain ⟨M, b3, b4⟩ := spBoxes2 w #[.string la, .string ha] #[.string lb, .string hb] 27
  obtain ⟨P, hP⟩ : ∃ P, w.heap.size = P := ⟨_, rfl⟩
  have hPP : w.heap.size ≤ P := by omega
  rw [hP] at b3 b4
  go_enter Try.func4, Try.ntmps4
  go_wp2_with fail
  generalize ((w.alloc (.cells #[.string la, .string ha] 27)).alloc (.cells #[.string lb, .string hb] 27)) = w1 at *
  obtain ⟨c0, c1, f0, f1⟩ := sp_cells b3
  obtain ⟨d0, d1, g0, g1⟩ := sp_cells b4
  have st1 := spStored (a := .string xa) (b := .string ya) (c := .string xb) (d := .string yb) b3 b4 (by simp)
  have st0 := (spStored1 (a := .string xa) (b := .string ya) b3).2.at b4 (by simp)
  obtain ⟨e0, e1, h0, h1⟩ := sp_cells st0
  refine wp_some7 [12, 13, 14, 15, 16, 17, 18, 19, 20, 21, 22, 23, 24, 25] (fun _ w' => w'.heap[P]? = some (.cells #[.string xa, .string ya] 27 (0, 0)) ∧ w'.heap[P + 1]? = some (.cells #[.string xb, .string yb] 27 (0, 0)) ∧ Moves [] w w') ?_ ?_
  · refine wp_region_noPanic ?_
    refine region_peel (S := (fun w' => w'.cell? ⟨P + 1, 0, none⟩ = some (.string lb) ∧ w'.cell? ⟨P + 1, 1, none⟩ = some (.string hb))) (pre := #[{ dst := some 12, op := Op.fieldAddr 27 (Operand.tmp 4) 0, type := 0, pos := "law.go:69", after := #[], guard := none }, { dst := some 13, op := Op.load 9 (Operand.tmp 12), type := 9, pos := "law.go:69", after := #[{ on := 0, ground := Ground.data }], guard := none }, { dst := some 14, op := Op.call { callee := Callee.value (Operand.func 12), args := #[Operand.tmp 13, Operand.const (Value.int IntKind.i64 20)], argTypes := #[9, 3] }, type := 9, pos := "law.go:69", after := #[{ on := 1, ground := Ground.data }], guard := none }, { dst := some 15, op := Op.fieldAddr 27 (Operand.tmp 4) 1, type := 0, pos := "law.go:69", after := #[], guard := none }, { dst := some 16, op := Op.load 9 (Operand.tmp 15), type := 9, pos := "law.go:69", after := #[{ on := 3, ground := Ground.data }], guard := none }, { dst := some 17, op := Op.call { callee := Callee.value (Operand.func 12), args := #[Operand.tmp 16, Operand.const (Value.int IntKind.i64 20)], argTypes := #[9, 3] }, type := 9, pos := "law.go:69", after := #[{ on := 4, ground := Ground.data }, { on := 2, ground := Ground.chain }], guard := none }, { dst := some 18, op := Op.build 27 #[(0, Operand.tmp 14), (1, Operand.tmp 17)], type := 27, pos := "law.go:69", after := #[{ on := 2, ground := Ground.data }, { on := 5, ground := Ground.data }], guard := none }, { dst := some 19, op := Op.fieldAddr 27 (Operand.tmp 5) 0, type := 0, pos := "law.go:69", after := #[], guard := none }, { dst := some 20, op := Op.load 9 (Operand.tmp 19), type := 9, pos := "law.go:69", after := #[{ on := 7, ground := Ground.data }], guard := none }, { dst := some 21, op := Op.call { callee := Callee.value (Operand.func 12), args := #[Operand.tmp 20, Operand.const (Value.int IntKind.i64 20)], argTypes := #[9, 3] }, type := 9, pos := "law.go:69", after := #[{ on := 8, ground := Ground.data }, { on := 5, ground := Ground.chain }], guard := none }, { dst := some 22, op := Op.fieldAddr 27 (Operand.tmp 5) 1, type := 0, pos := "law.go:69", after := #[], guard := none }, { dst := some 23, op := Op.load 9 (Operand.tmp 22), type := 9, pos := "law.go:69", after := #[{ on := 10, ground := Ground.data }], guard := none }, { dst := some 24, op := Op.call { callee := Callee.value (Operand.func 12), args := #[Operand.tmp 23, Operand.const (Value.int IntKind.i64 20)], argTypes := #[9, 3] }, type := 9, pos := "law.go:69", after := #[{ on := 11, ground := Ground.data }, { on := 9, ground := Ground.chain }], guard := none }, { dst := some 25, op := Op.build 27 #[(0, Operand.tmp 21), (1, Operand.tmp 24)], type := 27, pos := "law.go:69", after := #[{ on := 9, ground := Ground.data }, { on := 12, ground := Ground.data }, { on := 14, ground := Ground.gcOnly Departure.lateStores }], guard := none }, { dst := none, op := Op.store 27 (Operand.tmp 4) (Operand.tmp 18), type := 0, pos := "law.go:69", after := #[{ on := 6, ground := Ground.data }, { on := 12, ground := Ground.chain }, { on := 0, ground := Ground.phase }, { on := 1, ground := Ground.phase }, { on := 2, ground := Ground.phase }, { on := 3, ground := Ground.phase }, { on := 4, ground := Ground.phase }, { on := 5, ground := Ground.phase }, { on := 6, ground := Ground.phase }, { on := 7, ground := Ground.textOnly Departure.lateStores }, { on := 8, ground := Ground.textOnly Departure.lateStores }, { on := 9, ground := Ground.textOnly Departure.lateStoresUnsure }, { on := 10, ground := Ground.textOnly Departure.lateStores }, { on := 11, ground := Ground.textOnly Departure.lateStores }, { on := 12, ground := Ground.textOnly Departure.lateStoresUnsure }, { on := 13, ground := Ground.textOnly Departure.lateStores }], guard := none }]) (o := { dst := none, op := Op.store 27 (Operand.tmp 5) (Operand.tmp 25), type := 0, pos := "law.go:69", after := #[{ on := 13, ground := Ground.data }, { on := 14, ground := Ground.chain }, { on := 0, ground := Ground.phase }, { on := 1, ground := Ground.phase }, { on := 2, ground := Ground.phase }, { on := 3, ground := Ground.phase }, { on := 4, ground := Ground.phase }, { on := 5, ground := Ground.phase }, { on := 6, ground := Ground.phase }, { on := 7, ground := Ground.phase }, { on := 8, ground := Ground.phase }, { on := 9, ground := Ground.phase }, { on := 10, ground := Ground.phase }, { on := 11, ground := Ground.phase }, { on := 12, ground := Ground.phase }, { on := 13, ground := Ground.phase }, { on := 14, ground := Ground.phase }], guard := none }) (by kernel_rfl) (by kernel_rfl) (by kernel_rfl) ?_ (fun hHeld => ?_)
    · first | exact ⟨d0, d1⟩ | exact ⟨e0, e1⟩
    refine wpAnyH_take (i := 0) (oi := { dst := some 12, op := Op.fieldAddr 27 (Operand.tmp 4) 0, type := 0, pos := "law.go:69", after := #[], guard := none }) (v := ?_) rfl (by kernel_rfl) (by kernel_rfl) (by kernel_rfl) (fun _ _ _ h => h) (Or.inl ⟨by rfl, ?_⟩) (by assumption) ?_
    rotate_left
    · (intro w hSw; (try dsimp only at hSw); go_simp; try (with_reducible rfl))
    try simp only [Act.put, List.setIfInBounds_toArray, List.set_cons_zero, List.set_cons_succ]
    refine wpAnyH_take (i := 3) (oi := { dst := some 15, op := Op.fieldAddr 27 (Operand.tmp 4) 1, type := 0, pos := "law.go:69", after := #[], guard := none }) (v := ?_) rfl (by kernel_rfl) (by kernel_rfl) (by kernel_rfl) (fun _ _ _ h => h) (Or.inl ⟨by rfl, ?_⟩) (by assumption) ?_
    rotate_left
    · (intro w hSw; (try dsimp only at hSw); go_simp; try (with_reducible rfl))
    try simp only [Act.put, List.setIfInBounds_toArray, List.set_cons_zero, List.set_cons_succ]
    refine wpAnyH_take (i := 7) (oi := { dst := some 19, op := Op.fieldAddr 27 (Operand.tmp 5) 0, type := 0, pos := "law.go:69", after := #[], guard := none }) (v := ?_) rfl (by kernel_rfl) (by kernel_rfl) (by kernel_rfl) (fun _ _ _ h => h) (Or.inl ⟨by rfl, ?_⟩) (by assumption) ?_
    rotate_left
    · (intro w hSw; (try dsimp only at hSw); go_simp; try (with_reducible rfl))
    try simp only [Act.put, List.setIfInBounds_toArray, List.set_cons_zero, List.set_cons_succ]
    refine wpAnyH_take (i := 8) (oi := { dst := some 20, op := Op.load 9 (Operand.tmp 19), type := 9, pos := "law.go:69", after := #[{ on := 7, ground := Ground.data }], guard := none }) (v := ?_) rfl (by kernel_rfl) (by kernel_rfl) (by kernel_rfl) (fun _ _ _ h => h) (Or.inl ⟨by rfl, ?_⟩) (by assumption) ?_
    rotate_left
    · (intro w hSw; (try dsimp only at hSw); go_simp; try (with_reducible rfl))
    try simp only [Act.put, List.setIfInBounds_toArray, List.set_cons_zero, List.set_cons_succ]
    refine wpAnyH_take (i := 10) (oi := { dst := some 22, op := Op.fieldAddr 27 (Operand.tmp 5) 1, type := 0, pos := "law.go:69", after := #[], guard := none }) (v := ?_) rfl (by kernel_rfl) (by kernel_rfl) (by kernel_rfl) (fun _ _ _ h => h) (Or.inl ⟨by rfl, ?_⟩) (by assumption) ?_
    rotate_left
    · (intro w hSw; (try dsimp only at hSw); go_simp; try (with_reducible rfl))
    try simp only [Act.put, List.setIfInBounds_toArray, List.set_cons_zero, List.set_cons_succ]
    refine wpAnyH_take (i := 11) (oi := { dst := some 23, op := Op.load 9 (Operand.tmp 22), type := 9, pos := "law.go:69", after := #[{ on := 10, ground := Ground.data }], guard := none }) (v := ?_) rfl (by kernel_rfl) (by kernel_rfl) (by kernel_rfl) (fun _ _ _ h => h) (Or.inl ⟨by rfl, ?_⟩) (by assumption) ?_
    rotate_left
    · (intro w hSw; (try dsimp only at hSw); go_simp; try (with_reducible rfl))
    try simp only [Act.put, List.setIfInBounds_toArray, List.set_cons_zero, List.set_cons_succ]
    refine wpAnyH_ready (rs := [1, 4]) (by kernel_rfl) (by simp) ?_
    refine AllReadyH.cons (o := { dst := some 13, op := Op.load 9 (Operand.tmp 12), type := 9, pos := "law.go:69", after := #[{ on := 0, ground := Ground.data }], guard := none }) rfl (fun K hK => ?_) (AllReadyH.cons (o := { dst := some 16, op := Op.load 9 (Operand.tmp 15), type := 9, pos := "law.go:69", after := #[{ on := 3, ground := Ground.data }], guard := none }) rfl (fun K hK => ?_) AllReadyH.nil)
    · go_simp
      refine hK.out _ _ ?_ (fun hHeld => ?_)
      · first | exact ⟨d0, d1⟩ | exact ⟨e0, e1⟩
      clear hK K
      refine wpAnyH_ready (rs := [2, 4]) (by kernel_rfl) (by simp) ?_
      refine AllReadyH.cons (o := { dst := some 14, op := Op.call { callee := Callee.value (Operand.func 12), args := #[Operand.tmp 13, Operand.const (Value.int IntKind.i64 20)], argTypes := #[9, 3] }, type := 9, pos := "law.go:69", after := #[{ on := 1, ground := Ground.data }], guard := none }) rfl (fun K hK => ?_) (AllReadyH.cons (o := { dst := some 16, op := Op.load 9 (Operand.tmp 15), type := 9, pos := "law.go:69", after := #[{ on := 3, ground := Ground.data }], guard := none }) rfl (fun K hK => ?_) AllReadyH.nil)
      · go_simp
        refine (head_d _ _ 20).mono ?_
        rintro _ _ ⟨rfl, rfl⟩
        rw [hxa]
        refine hK.out _ _ ?_ (fun hHeld => ?_)
        · first | exact ⟨d0, d1⟩ | exact ⟨e0, e1⟩
        clear hK K
        try simp only [Act.put, List.setIfInBounds_toArray, List.set_cons_zero, List.set_cons_succ]
        refine wpAnyH_ready (rs := [4]) (by kernel_rfl) (by simp) ?_
        refine AllReadyH.cons (o := { dst := some 16, op := Op.load 9 (Operand.tmp 15), type := 9, pos := "law.go:69", after := #[{ on := 3, ground := Ground.data }], guard := none }) rfl (fun K hK => ?_) AllReadyH.nil
        go_simp
        refine hK.out _ _ ?_ (fun hHeld => ?_)
        · first | exact ⟨d0, d1⟩ | exact ⟨e0, e1⟩
        clear hK K
        refine wpAnyH_ready (rs := [5]) (by kernel_rfl) (by simp) ?_
        refine AllReadyH.cons (o := { dst := some 17, op := Op.call { callee := Callee.value (Operand.func 12), args := #[Operand.tmp 16, Operand.const (Value.int IntKind.i64 20)], argTypes := #[9, 3] }, type := 9, pos := "law.go:69", after := #[{ on := 4, ground := Ground.data }, { on := 2, ground := Ground.chain }], guard := none }) rfl (fun K hK => ?_) AllReadyH.nil
        go_simp
        refine (head_d _ _ 20).mono ?_
        rintro _ _ ⟨rfl, rfl⟩
        rw [hya]
        refine hK.out _ _ ?_ (fun hHeld => ?_)
        · first | exact ⟨d0, d1⟩ | exact ⟨e0, e1⟩
        clear hK K
        try simp only [Act.put, List.setIfInBounds_toArray, List.set_cons_zero, List.set_cons_succ]
        refine wpAnyH_take (i := 6) (oi := { dst := some 18, op := Op.build 27 #[(0, Operand.tmp 14), (1, Operand.tmp 17)], type := 27, pos := "law.go:69", after := #[{ on := 2, ground := Ground.data }, { on := 5, ground := Ground.data }], guard := none }) (v := ?_) rfl (by kernel_rfl) (by kernel_rfl) (by kernel_rfl) (fun _ _ _ h => h) (Or.inl ⟨by rfl, ?_⟩) (by assumption) ?_
        rotate_left
        · (intro w hSw; (try dsimp only at hSw); go_simp; try (with_reducible rfl))
        try simp only [Act.put, List.setIfInBounds_toArray, List.set_cons_zero, List.set_cons_succ]
        refine wpAnyH_ready (rs := [9]) (by kernel_rfl) (by simp) ?_
        refine AllReadyH.cons (o := { dst := some 21, op := Op.call { callee := Callee.value (Operand.func 12), args := #[Operand.tmp 20, Operand.const (Value.int IntKind.i64 20)], argTypes := #[9, 3] }, type := 9, pos := "law.go:69", after := #[{ on := 8, ground := Ground.data }, { on := 5, ground := Ground.chain }], guard := none }) rfl (fun K hK => ?_) AllReadyH.nil
        go_simp
        refine (head_d _ _ 20).mono ?_
        rintro _ _ ⟨rfl, rfl⟩
        rw [hxb]
        refine hK.out _ _ ?_ (fun hHeld => ?_)
        · first | exact ⟨d0, d1⟩ | exact ⟨e0, e1⟩
        clear hK K
        try simp only [Act.put, List.setIfInBounds_toArray, List.set_cons_zero, List.set_cons_succ]
        refine wpAnyH_ready (rs := [12]) (by kernel_rfl) (by simp) ?_
        refine AllReadyH.cons (o := { dst := some 24, op := Op.call { callee := Callee.value (Operand.func 12), args := #[Operand.tmp 23, Operand.const (Value.int IntKind.i64 20)], argTypes := #[9, 3] }, type := 9, pos := "law.go:69", after := #[{ on := 11, ground := Ground.data }, { on := 9, ground := Ground.chain }], guard := none }) rfl (fun K hK => ?_) AllReadyH.nil
        go_simp
        refine (head_d _ _ 20).mono ?_
        rintro _ _ ⟨rfl, rfl⟩
        rw [hyb]
        refine hK.out _ _ ?_ (fun hHeld => ?_)
        · first | exact ⟨d0, d1⟩ | exact ⟨e0, e1⟩
        clear hK K
        try simp only [Act.put, List.setIfInBounds_toArray, List.set_cons_zero, List.set_cons_succ]
        refine wpAnyH_take (i := 13) (oi := { dst := some 25, op := Op.build 27 #[(0, Operand.tmp 21), (1, Operand.tmp 24)], type := 27, pos := "law.go:69", after := #[{ on := 9, ground := Ground.data }, { on := 12, ground := Ground.data }, { on := 14, ground := Ground.gcOnly Departure.lateStores }], guard := none }) (v := ?_) rfl (by kernel_rfl) (by kernel_rfl) (by kernel_rfl) (fun _ _ _ h => h) (Or.inl ⟨by rfl, ?_⟩) (by assumption) ?_
        rotate_left
        · (intro w hSw; (try dsimp only at hSw); go_simp; try (with_reducible rfl))
        try simp only [Act.put, List.setIfInBounds_toArray, List.set_cons_zero, List.set_cons_succ]
        refine wpAnyH_ready (rs := [14]) (by kernel_rfl) (by simp) ?_
        refine AllReadyH.cons (o := { dst := none, op := Op.store 27 (Operand.tmp 4) (Operand.tmp 18), type := 0, pos := "law.go:69", after := #[{ on := 6, ground := Ground.data }, { on := 12, ground := Ground.chain }, { on := 0, ground := Ground.phase }, { on := 1, ground := Ground.phase }, { on := 2, ground := Ground.phase }, { on := 3, ground := Ground.phase }, { on := 4, ground := Ground.phase }, { on := 5, ground := Ground.phase }, { on := 6, ground := Ground.phase }, { on := 7, ground := Ground.textOnly Departure.lateStores }, { on := 8, ground := Ground.textOnly Departure.lateStores }, { on := 9, ground := Ground.textOnly Departure.lateStoresUnsure }, { on := 10, ground := Ground.textOnly Departure.lateStores }, { on := 11, ground := Ground.textOnly Departure.lateStores }, { on := 12, ground := Ground.textOnly Departure.lateStoresUnsure }, { on := 13, ground := Ground.textOnly Departure.lateStores }], guard := none }) rfl (fun K hK => ?_) AllReadyH.nil
        go_simp
        refine hK.out _ _ ?_ (fun hHeld => ?_)
        · first | exact ⟨d0, d1⟩ | exact ⟨e0, e1⟩
        clear hK K
        refine wpAnyH_done (by kernel_rfl) ?_ _
        unfold PeelQ
        refine wpOp_of_wp rfl rfl ?_
        go_simp
        exact NoPanic.normal ⟨rfl, by kernel_rfl, st1.1, st1.2.1, (M.trans st1.2.2 (fun x hx => .inr (by simp at hx; omega))).drew⟩
      · go_simp
        refine hK.out _ _ ?_ (fun hHeld => ?_)
        · first | exact ⟨d0, d1⟩ | exact ⟨e0, e1⟩
        clear hK K
        refine wpAnyH_ready (rs := [2]) (by kernel_rfl) (by simp) ?_
        refine AllReadyH.cons (o := { dst := some 14, op := Op.call { callee := Callee.value (Operand.func 12), args := #[Operand.tmp 13, Operand.const (Value.int IntKind.i64 20)], argTypes := #[9, 3] }, type := 9, pos := "law.go:69", after := #[{ on := 1, ground := Ground.data }], guard := none }) rfl (fun K hK => ?_) AllReadyH.nil
        go_simp
        refine (head_d _ _ 20).mono ?_
        rintro _ _ ⟨rfl, rfl⟩
        rw [hxa]
        refine hK.out _ _ ?_ (fun hHeld => ?_)
        · first | exact ⟨d0, d1⟩ | exact ⟨e0, e1⟩
        clear hK K
        try simp only [Act.put, List.setIfInBounds_toArray, List.set_cons_zero, List.set_cons_succ]
        refine wpAnyH_ready (rs := [5]) (by kernel_rfl) (by simp) ?_
        refine AllReadyH.cons (o := { dst := some 17, op := Op.call { callee := Callee.value (Operand.func 12), args := #[Operand.tmp 16, Operand.const (Value.int IntKind.i64 20)], argTypes := #[9, 3] }, type := 9, pos := "law.go:69", after := #[{ on := 4, ground := Ground.data }, { on := 2, ground := Ground.chain }], guard := none }) rfl (fun K hK => ?_) AllReadyH.nil
        go_simp
        refine (head_d _ _ 20).mono ?_
        rintro _ _ ⟨rfl, rfl⟩
        rw [hya]
        refine hK.out _ _ ?_ (fun hHeld => ?_)
        · first | exact ⟨d0, d1⟩ | exact ⟨e0, e1⟩
        clear hK K
        try simp only [Act.put, List.setIfInBounds_toArray, List.set_cons_zero, List.set_cons_succ]
        refine wpAnyH_take (i := 6) (oi := { dst := some 18, op := Op.build 27 #[(0, Operand.tmp 14), (1, Operand.tmp 17)], type := 27, pos := "law.go:69", after := #[{ on := 2, ground := Ground.data }, { on := 5, ground := Ground.data }], guard := none }) (v := ?_) rfl (by kernel_rfl) (by kernel_rfl) (by kernel_rfl) (fun _ _ _ h => h) (Or.inl ⟨by rfl, ?_⟩) (by assumption) ?_
        rotate_left
        · (intro w hSw; (try dsimp only at hSw); go_simp; try (with_reducible rfl))
        try simp only [Act.put, List.setIfInBounds_toArray, List.set_cons_zero, List.set_cons_succ]
        refine wpAnyH_ready (rs := [9]) (by kernel_rfl) (by simp) ?_
        refine AllReadyH.cons (o := { dst := some 21, op := Op.call { callee := Callee.value (Operand.func 12), args := #[Operand.tmp 20, Operand.const (Value.int IntKind.i64 20)], argTypes := #[9, 3] }, type := 9, pos := "law.go:69", after := #[{ on := 8, ground := Ground.data }, { on := 5, ground := Ground.chain }], guard := none }) rfl (fun K hK => ?_) AllReadyH.nil
        go_simp
        refine (head_d _ _ 20).mono ?_
        rintro _ _ ⟨rfl, rfl⟩
        rw [hxb]
        refine hK.out _ _ ?_ (fun hHeld => ?_)
        · first | exact ⟨d0, d1⟩ | exact ⟨e0, e1⟩
        clear hK K
        try simp only [Act.put, List.setIfInBounds_toArray, List.set_cons_zero, List.set_cons_succ]
        refine wpAnyH_ready (rs := [12]) (by kernel_rfl) (by simp) ?_
        refine AllReadyH.cons (o := { dst := some 24, op := Op.call { callee := Callee.value (Operand.func 12), args := #[Operand.tmp 23, Operand.const (Value.int IntKind.i64 20)], argTypes := #[9, 3] }, type := 9, pos := "law.go:69", after := #[{ on := 11, ground := Ground.data }, { on := 9, ground := Ground.chain }], guard := none }) rfl (fun K hK => ?_) AllReadyH.nil
        go_simp
        refine (head_d _ _ 20).mono ?_
        rintro _ _ ⟨rfl, rfl⟩
        rw [hyb]
        refine hK.out _ _ ?_ (fun hHeld => ?_)
        · first | exact ⟨d0, d1⟩ | exact ⟨e0, e1⟩
        clear hK K
        try simp only [Act.put, List.setIfInBounds_toArray, List.set_cons_zero, List.set_cons_succ]
        refine wpAnyH_take (i := 13) (oi := { dst := some 25, op := Op.build 27 #[(0, Operand.tmp 21), (1, Operand.tmp 24)], type := 27, pos := "law.go:69", after := #[{ on := 9, ground := Ground.data }, { on := 12, ground := Ground.data }, { on := 14, ground := Ground.gcOnly Departure.lateStores }], guard := none }) (v := ?_) rfl (by kernel_rfl) (by kernel_rfl) (by kernel_rfl) (fun _ _ _ h => h) (Or.inl ⟨by rfl, ?_⟩) (by assumption) ?_
        rotate_left
        · (intro w hSw; (try dsimp only at hSw); go_simp; try (with_reducible rfl))
        try simp only [Act.put, List.setIfInBounds_toArray, List.set_cons_zero, List.set_cons_succ]
        refine wpAnyH_ready (rs := [14]) (by kernel_rfl) (by simp) ?_
        refine AllReadyH.cons (o := { dst := none, op := Op.store 27 (Operand.tmp 4) (Operand.tmp 18), type := 0, pos := "law.go:69", after := #[{ on := 6, ground := Ground.data }, { on := 12, ground := Ground.chain }, { on := 0, ground := Ground.phase }, { on := 1, ground := Ground.phase }, { on := 2, ground := Ground.phase }, { on := 3, ground := Ground.phase }, { on := 4, ground := Ground.phase }, { on := 5, ground := Ground.phase }, { on := 6, ground := Ground.phase }, { on := 7, ground := Ground.textOnly Departure.lateStores }, { on := 8, ground := Ground.textOnly Departure.lateStores }, { on := 9, ground := Ground.textOnly Departure.lateStoresUnsure }, { on := 10, ground := Ground.textOnly Departure.lateStores }, { on := 11, ground := Ground.textOnly Departure.lateStores }, { on := 12, ground := Ground.textOnly Departure.lateStoresUnsure }, { on := 13, ground := Ground.textOnly Departure.lateStores }], guard := none }) rfl (fun K hK => ?_) AllReadyH.nil
        go_simp
        refine hK.out _ _ ?_ (fun hHeld => ?_)
        · first | exact ⟨d0, d1⟩ | exact ⟨e0, e1⟩
        clear hK K
        refine wpAnyH_done (by kernel_rfl) ?_ _
        unfold PeelQ
        refine wpOp_of_wp rfl rfl ?_
        go_simp
        exact NoPanic.normal ⟨rfl, by kernel_rfl, st1.1, st1.2.1, (M.trans st1.2.2 (fun x hx => .inr (by simp at hx; omega))).drew⟩
    · go_simp
      refine hK.out _ _ ?_ (fun hHeld => ?_)
      · first | exact ⟨d0, d1⟩ | exact ⟨e0, e1⟩
      clear hK K
      refine wpAnyH_ready (rs := [1]) (by kernel_rfl) (by simp) ?_
      refine AllReadyH.cons (o := { dst := some 13, op := Op.load 9 (Operand.tmp 12), type := 9, pos := "law.go:69", after := #[{ on := 0, ground := Ground.data }], guard := none }) rfl (fun K hK => ?_) AllReadyH.nil
      go_simp
      refine hK.out _ _ ?_ (fun hHeld => ?_)
      · first | exact ⟨d0, d1⟩ | exact ⟨e0, e1⟩
      clear hK K
      refine wpAnyH_ready (rs := [2]) (by kernel_rfl) (by simp) ?_
      refine AllReadyH.cons (o := { dst := some 14, op := Op.call { callee := Callee.value (Operand.func 12), args := #[Operand.tmp 13, Operand.const (Value.int IntKind.i64 20)], argTypes := #[9, 3] }, type := 9, pos := "law.go:69", after := #[{ on := 1, ground := Ground.data }], guard := none }) rfl (fun K hK => ?_) AllReadyH.nil
      go_simp
      refine (head_d _ _ 20).mono ?_
      rintro _ _ ⟨rfl, rfl⟩
      rw [hxa]
      refine hK.out _ _ ?_ (fun hHeld => ?_)
      · first | exact ⟨d0, d1⟩ | exact ⟨e0, e1⟩
      clear hK K
      try simp only [Act.put, List.setIfInBounds_toArray, List.set_cons_zero, List.set_cons_succ]
      refine wpAnyH_ready (rs := [5]) (by kernel_rfl) (by simp) ?_
      refine AllReadyH.cons (o := { dst := some 17, op := Op.call { callee := Callee.value (Operand.func 12), args := #[Operand.tmp 16, Operand.const (Value.int IntKind.i64 20)], argTypes := #[9, 3] }, type := 9, pos := "law.go:69", after := #[{ on := 4, ground := Ground.data }, { on := 2, ground := Ground.chain }], guard := none }) rfl (fun K hK => ?_) AllReadyH.nil
      go_simp
      refine (head_d _ _ 20).mono ?_
      rintro _ _ ⟨rfl, rfl⟩
      rw [hya]
      refine hK.out _ _ ?_ (fun hHeld => ?_)
      · first | exact ⟨d0, d1⟩ | exact ⟨e0, e1⟩
      clear hK K
      try simp only [Act.put, List.setIfInBounds_toArray, List.set_cons_zero, List.set_cons_succ]
      refine wpAnyH_take (i := 6) (oi := { dst := some 18, op := Op.build 27 #[(0, Operand.tmp 14), (1, Operand.tmp 17)], type := 27, pos := "law.go:69", after := #[{ on := 2, ground := Ground.data }, { on := 5, ground := Ground.data }], guard := none }) (v := ?_) rfl (by kernel_rfl) (by kernel_rfl) (by kernel_rfl) (fun _ _ _ h => h) (Or.inl ⟨by rfl, ?_⟩) (by assumption) ?_
      rotate_left
      · (intro w hSw; (try dsimp only at hSw); go_simp; try (with_reducible rfl))
      try simp only [Act.put, List.setIfInBounds_toArray, List.set_cons_zero, List.set_cons_succ]
      refine wpAnyH_ready (rs := [9]) (by kernel_rfl) (by simp) ?_
      refine AllReadyH.cons (o := { dst := some 21, op := Op.call { callee := Callee.value (Operand.func 12), args := #[Operand.tmp 20, Operand.const (Value.int IntKind.i64 20)], argTypes := #[9, 3] }, type := 9, pos := "law.go:69", after := #[{ on := 8, ground := Ground.data }, { on := 5, ground := Ground.chain }], guard := none }) rfl (fun K hK => ?_) AllReadyH.nil
      go_simp
      refine (head_d _ _ 20).mono ?_
      rintro _ _ ⟨rfl, rfl⟩
      rw [hxb]
      refine hK.out _ _ ?_ (fun hHeld => ?_)
      · first | exact ⟨d0, d1⟩ | exact ⟨e0, e1⟩
      clear hK K
      try simp only [Act.put, List.setIfInBounds_toArray, List.set_cons_zero, List.set_cons_succ]
      refine wpAnyH_ready (rs := [12]) (by kernel_rfl) (by simp) ?_
      refine AllReadyH.cons (o := { dst := some 24, op := Op.call { callee := Callee.value (Operand.func 12), args := #[Operand.tmp 23, Operand.const (Value.int IntKind.i64 20)], argTypes := #[9, 3] }, type := 9, pos := "law.go:69", after := #[{ on := 11, ground := Ground.data }, { on := 9, ground := Ground.chain }], guard := none }) rfl (fun K hK => ?_) AllReadyH.nil
      go_simp
      refine (head_d _ _ 20).mono ?_
      rintro _ _ ⟨rfl, rfl⟩
      rw [hyb]
      refine hK.out _ _ ?_ (fun hHeld => ?_)
      · first | exact ⟨d0, d1⟩ | exact ⟨e0, e1⟩
      clear hK K
      try simp only [Act.put, List.setIfInBounds_toArray, List.set_cons_zero, List.set_cons_succ]
      refine wpAnyH_take (i := 13) (oi := { dst := some 25, op := Op.build 27 #[(0, Operand.tmp 21), (1, Operand.tmp 24)], type := 27, pos := "law.go:69", after := #[{ on := 9, ground := Ground.data }, { on := 12, ground := Ground.data }, { on := 14, ground := Ground.gcOnly Departure.lateStores }], guard := none }) (v := ?_) rfl (by kernel_rfl) (by kernel_rfl) (by kernel_rfl) (fun _ _ _ h => h) (Or.inl ⟨by rfl, ?_⟩) (by assumption) ?_
      rotate_left
      · (intro w hSw; (try dsimp only at hSw); go_simp; try (with_reducible rfl))
      try simp only [Act.put, List.setIfInBounds_toArray, List.set_cons_zero, List.set_cons_succ]
      refine wpAnyH_ready (rs := [14]) (by kernel_rfl) (by simp) ?_
      refine AllReadyH.cons (o := { dst := none, op := Op.store 27 (Operand.tmp 4) (Operand.tmp 18), type := 0, pos := "law.go:69", after := #[{ on := 6, ground := Ground.data }, { on := 12, ground := Ground.chain }, { on := 0, ground := Ground.phase }, { on := 1, ground := Ground.phase }, { on := 2, ground := Ground.phase }, { on := 3, ground := Ground.phase }, { on := 4, ground := Ground.phase }, { on := 5, ground := Ground.phase }, { on := 6, ground := Ground.phase }, { on := 7, ground := Ground.textOnly Departure.lateStores }, { on := 8, ground := Ground.textOnly Departure.lateStores }, { on := 9, ground := Ground.textOnly Departure.lateStoresUnsure }, { on := 10, ground := Ground.textOnly Departure.lateStores }, { on := 11, ground := Ground.textOnly Departure.lateStores }, { on := 12, ground := Ground.textOnly Departure.lateStoresUnsure }, { on := 13, ground := Ground.textOnly Departure.lateStores }], guard := none }) rfl (fun K hK => ?_) AllReadyH.nil
      go_simp
      refine hK.out _ _ ?_ (fun hHeld => ?_)
      · first | exact ⟨d0, d1⟩ | exact ⟨e0, e1⟩
      clear hK K
      refine wpAnyH_done (by kernel_rfl) ?_ _
      unfold PeelQ
      refine wpOp_of_wp rfl rfl ?_
      go_simp
      exact NoPanic.normal ⟨rfl, by kernel_rfl, st1.1, st1.2.1, (M.trans st1.2.2 (fun x hx => .inr (by simp at hx; omega))).drew⟩
  · intro u w2 ⟨b3, b4, M⟩
    clear c0 c1 f0 f1 d0 d1 g0 g1 e0 e1 h0 h1 st0 st1
    simp only [List.foldl_cons, List.foldl_nil, List.setIfInBounds_toArray, List.set_cons_zero, List.set_cons_succ]
    generalize u 12 = u12
    generalize u 13 = u13
    generalize u 14 = u14
    generalize u 15 = u15
    generalize u 16 = u16
    generalize u 17 = u17
    generalize u 18 = u18
    generalize u 19 = u19
    generalize u 20 = u20
    generalize u 21 = u21
    generalize u 22 = u22
    generalize u 23 = u23
    generalize u 24 = u24
    generalize u 25 = u25
    have hhead : ∀ w, Calls Try.prog 12 #[.string t, .int .i64 20] w fun e w' => e = .returned (.string t2) ∧ w = w' := by
      intro w
      have := head_d w t 20
      rw [ht2] at this
      exact this
    clear hxa hya hxb hyb ht2
    go_wp2_with (go_at_call 12; refine (hhead _).mono ?_; rintro _ _ ⟨rfl, rfl⟩)
    go_loopw [9, 10] (fun lm li wr => ∃ (ms : List Psp) (mv : Value), ms.length ≤ 5 ∧ (lm = mv ∧ li = .int .i64 (ms.length : Nat)) ∧ Moves [] w wr ∧ wr.heap[P]? = some (.cells #[.string xa, .string ya] 27 (0, 0)) ∧ wr.heap[P + 1]? = some (.cells #[.string xb, .string yb] 27 (0, 0)) ∧ OwnS wr mv ms ∧ Hid (∀ b, mv.ownBlock = some b → P + 1 < b)) (fun _ li _ => 5 - (intOf li).toNat)
    case atStart => exact ⟨[], _, by simp, ⟨rfl, rfl⟩, M, b3, b4, OwnS.nil _, fun b hb => by simp [Value.ownBlock] at hb⟩
    case round =>
      clear M b3 b4
      obtain ⟨ms, mv, h5, ⟨rfl, rfl⟩, M, b3, b4, hO, hP1⟩ := hrel
      obtain ⟨adm, capm, rfl, hcm, hnm, hSm⟩ := hO.at
      have HO : Hid (OwnS wr (.slice adm ms.length capm) ms) := hO
      have HSm : Hid (SpsAt wr adm ms) := hSm
      obtain ⟨k, hk⟩ : ∃ k, ms.length = k := ⟨_, rfl⟩
      have HK : Hid (ms.length = k) := hk
      rw [hk] at h5 hcm ⊢
      rw [hk] at HO hP1
      clear hO hSm hk
      obtain ⟨c0, c1, _, _⟩ := sp_cells b3
      obtain ⟨d0, d1, _, _⟩ := sp_cells b4
      by_cases hlt : k + 1 < nv ∧ k < 5
      · obtain ⟨hl1, hl2⟩ := hlt
        have hl1' : (k : Int) + 1 < nv := by omega
        have hl0' : (k : Int) < nv := by omega
        have hl2' : (k : Int) < 5 := by omega
        obtain ⟨bv, ov, na, rfl, va⟩ := HV.out k (by omega)
        obtain ⟨bv2, ov2, nb, eq2, vb⟩ := HV.out (k + 1) (by omega)
        simp only [Option.some.injEq, Addr.mk.injEq] at eq2
        obtain ⟨rfl, rfl, _⟩ := eq2
        have vaW := va
        have HOr : Hid (OwnS wr (.slice adm k capm) ms) := HO.out
        replace va := (MW.out.then M).cell va
        replace vb := (MW.out.then M).cell vb
        obtain ⟨k1, hk1⟩ : ∃ k1 : Nat, Hid (k + 1 = k1) := ⟨_, rfl⟩
        rw [hk1.out] at vb
        obtain ⟨lo, hi, _, _, hmade⟩ := made7_w na nb
        obtain ⟨rt, _, hrow⟩ := row_ds na
        have hS : ∀ w', Moves [] wr w' → (w'.cell? ⟨bv, ov + k, none⟩ = some (.int .i64 na) ∧ w'.cell? ⟨bv, ov + k1, none⟩ = some (.int .i64 nb)) := fun w' m' => ⟨m'.cell va, m'.cell vb⟩
        have mW : Moves [] wr wr.drew := (Moves.refl _ _).drew
        go_wp2_with fail
        have hwrap : IntKind.i64.wrap ((k : Int) + 1) = (k1 : Int) := by rw [IntWalk.i64_in _ (by omega)]; have := hk1.out; omega
        have hl1n : (k1 : Int) < nv := by have := hk1.out; omega
        refine wp_some7 [40, 41, 42, 43, 44, 45, 46, 47, 48, 49, 11] (fun u w' => ∃ pb, u 11 = .pointer (some ⟨pb, 0, none⟩) ∧ w'.heap[pb]? = some (.cells #[.string lo, .string hi] 27 (0, 0)) ∧ wr.heap.size ≤ pb ∧ Moves [] wr w') ?_ ?_
        · refine wp_region_noPanic ?_
          refine wp_region_held_drew (S := (fun w' => w'.cell? ⟨bv, ov + k, none⟩ = some (.int .i64 na) ∧ w'.cell? ⟨bv, ov + k1, none⟩ = some (.int .i64 nb))) (by kernel_rfl) ?_ (fun hHeld => ?_)
          · first | (go_keep; done) | first | exact hS _ mS | exact hS _ mW
          refine wpAnyH_take (i := 0) (oi := { dst := some 40, op := Op.move (Operand.tmp 3), type := 30, pos := "law.go:73", after := #[], guard := none }) (v := ?_) rfl (by kernel_rfl) (by kernel_rfl) (by kernel_rfl) (fun _ _ _ h => h) (Or.inl ⟨by rfl, ?_⟩) (by assumption) ?_
          rotate_left
          · (intro w hSw; (try dsimp only at hSw); go_simp; try (with_reducible rfl))
          try simp only [Act.put, List.setIfInBounds_toArray, List.set_cons_zero, List.set_cons_succ]
          refine wpAnyH_take (i := 1) (oi := { dst := some 41, op := Op.move (Operand.tmp 10), type := 3, pos := "law.go:73", after := #[], guard := none }) (v := ?_) rfl (by kernel_rfl) (by kernel_rfl) (by kernel_rfl) (fun _ _ _ h => h) (Or.inl ⟨by rfl, ?_⟩) (by assumption) ?_
          rotate_left
          · (intro w hSw; (try dsimp only at hSw); go_simp; try (with_reducible rfl))
          try simp only [Act.put, List.setIfInBounds_toArray, List.set_cons_zero, List.set_cons_succ]
          refine wpAnyH_take (i := 2) (oi := { dst := some 42, op := Op.indexAddr 30 (Operand.tmp 40) (Operand.tmp 41), type := 0, pos := "law.go:73", after := #[{ on := 0, ground := Ground.data }, { on := 1, ground := Ground.data }], guard := none }) (v := ?_) rfl (by kernel_rfl) (by kernel_rfl) (by kernel_rfl) (fun _ _ _ h => h) (Or.inl ⟨by rfl, ?_⟩) (by assumption) ?_
          rotate_left
          · (intro w hSw; (try dsimp only at hSw); go_simp; try (with_reducible rfl))
          try simp only [Act.put, List.setIfInBounds_toArray, List.set_cons_zero, List.set_cons_succ]
          refine wpAnyH_take (i := 3) (oi := { dst := some 43, op := Op.load 3 (Operand.tmp 42), type := 3, pos := "law.go:73", after := #[{ on := 2, ground := Ground.data }], guard := none }) (v := ?_) rfl (by kernel_rfl) (by kernel_rfl) (by kernel_rfl) (fun _ _ _ h => h) (Or.inl ⟨by rfl, ?_⟩) (by assumption) ?_
          rotate_left
          · (intro w hSw; (try dsimp only at hSw); go_simp; try (with_reducible rfl))
          try simp only [Act.put, List.setIfInBounds_toArray, List.set_cons_zero, List.set_cons_succ]
          refine wpAnyH_take (i := 4) (oi := { dst := some 44, op := Op.move (Operand.tmp 3), type := 30, pos := "law.go:73", after := #[], guard := none }) (v := ?_) rfl (by kernel_rfl) (by kernel_rfl) (by kernel_rfl) (fun _ _ _ h => h) (Or.inl ⟨by rfl, ?_⟩) (by assumption) ?_
          rotate_left
          · (intro w hSw; (try dsimp only at hSw); go_simp; try (with_reducible rfl))
          try simp only [Act.put, List.setIfInBounds_toArray, List.set_cons_zero, List.set_cons_succ]
          refine wpAnyH_take (i := 5) (oi := { dst := some 45, op := Op.move (Operand.tmp 10), type := 3, pos := "law.go:73", after := #[], guard := none }) (v := ?_) rfl (by kernel_rfl) (by kernel_rfl) (by kernel_rfl) (fun _ _ _ h => h) (Or.inl ⟨by rfl, ?_⟩) (by assumption) ?_
          rotate_left
          · (intro w hSw; (try dsimp only at hSw); go_simp; try (with_reducible rfl))
          try simp only [Act.put, List.setIfInBounds_toArray, List.set_cons_zero, List.set_cons_succ]
          refine wpAnyH_take (i := 6) (oi := { dst := some 46, op := Op.binOp BinOp.add 3 (Operand.tmp 45) (Operand.const (Value.int IntKind.i64 1)) 3, type := 3, pos := "law.go:73", after := #[{ on := 5, ground := Ground.data }], guard := none }) (v := ?_) rfl (by kernel_rfl) (by kernel_rfl) (by kernel_rfl) (fun _ _ _ h => h) (Or.inl ⟨by rfl, ?_⟩) (by assumption) ?_
          rotate_left
          · (intro w hSw; (try dsimp only at hSw); go_simp; try (with_reducible rfl))
          try simp only [Act.put, List.setIfInBounds_toArray, List.set_cons_zero, List.set_cons_succ]
          refine wpAnyH_take (i := 7) (oi := { dst := some 47, op := Op.indexAddr 30 (Operand.tmp 44) (Operand.tmp 46), type := 0, pos := "law.go:73", after := #[{ on := 4, ground := Ground.data }, { on := 6, ground := Ground.data }], guard := none }) (v := ?_) rfl (by kernel_rfl) (by kernel_rfl) (by kernel_rfl) (fun _ _ _ h => h) (Or.inl ⟨by rfl, ?_⟩) (by assumption) ?_
          rotate_left
          · (intro w hSw; (try dsimp only at hSw); go_simp; try (with_reducible rfl))
          try simp only [Act.put, List.setIfInBounds_toArray, List.set_cons_zero, List.set_cons_succ]
          refine wpAnyH_take (i := 8) (oi := { dst := some 48, op := Op.load 3 (Operand.tmp 47), type := 3, pos := "law.go:73", after := #[{ on := 7, ground := Ground.data }], guard := none }) (v := ?_) rfl (by kernel_rfl) (by kernel_rfl) (by kernel_rfl) (fun _ _ _ h => h) (Or.inl ⟨by rfl, ?_⟩) (by assumption) ?_
          rotate_left
          · (intro w hSw; (try dsimp only at hSw); go_simp; try (with_reducible rfl))
          try simp only [Act.put, List.setIfInBounds_toArray, List.set_cons_zero, List.set_cons_succ]
          refine wpAnyH_ready (rs := [9, 10]) (by kernel_rfl) (by simp) ?_
          refine AllReadyH.cons (o := { dst := some 49, op := Op.call { callee := Callee.value (Operand.func 13), args := #[Operand.tmp 43, Operand.tmp 48], argTypes := #[3, 3] }, type := 27, pos := "law.go:73", after := #[{ on := 3, ground := Ground.data }, { on := 8, ground := Ground.data }], guard := none }) rfl (fun K hK => ?_) (AllReadyH.cons (o := { dst := some 11, op := Op.alloc 27, type := 0, pos := "law.go:73", after := #[], guard := none }) rfl (fun K hK => ?_) AllReadyH.nil)
          · go_simp
            refine (hmade _).mono ?_
            rintro _ w9 ⟨rfl, m9⟩
            replace mW := mW.then m9
            refine hK.out _ _ ?_ (fun hHeld => ?_)
            · first | exact hS _ mS | exact hS _ mW
            clear hK K
            try simp only [Act.put, List.setIfInBounds_toArray, List.set_cons_zero, List.set_cons_succ]
            refine wpAnyH_ready (rs := [10]) (by kernel_rfl) (by simp) ?_
            refine AllReadyH.cons (o := { dst := some 11, op := Op.alloc 27, type := 0, pos := "law.go:73", after := #[], guard := none }) rfl (fun K hK => ?_) AllReadyH.nil
            go_simp
            have hle := mW.size
            obtain ⟨w10, hwa⟩ : ∃ w10, w9.alloc (.cells #[.string ⟨#[]⟩, .string ⟨#[]⟩] 27) = w10 := ⟨_, rfl⟩
            have hb : w10.heap[w9.heap.size]? = some (.cells #[.string ⟨#[]⟩, .string ⟨#[]⟩] 27 (0, 0)) := by rw [← hwa]; exact heap_alloc_new w9 _
            have mA : Moves [] w9 w10 := by rw [← hwa]; exact (Moves.refl _ _).alloc _
            rw [hwa]
            obtain ⟨pb, hpb⟩ : ∃ pb, w9.heap.size = pb := ⟨_, rfl⟩
            rw [hpb] at hb ⊢
            have hle : wr.heap.size ≤ pb := by rw [← hpb]; first | exact hle | exact Nat.le_refl _
            replace mW := mW.then mA
            clear hwa hpb
            refine hK.out _ _ ?_ (fun hHeld => ?_)
            · first | exact hS _ mS | exact hS _ mW
            clear hK K
            try simp only [Act.put, List.setIfInBounds_toArray, List.set_cons_zero, List.set_cons_succ]
            refine wpAnyH_ready (rs := [11]) (by kernel_rfl) (by simp) ?_
            refine AllReadyH.cons (o := { dst := none, op := Op.store 27 (Operand.tmp 11) (Operand.tmp 49), type := 0, pos := "law.go:73", after := #[{ on := 10, ground := Ground.data }, { on := 9, ground := Ground.data }, { on := 9, ground := Ground.chain }, { on := 0, ground := Ground.phase }, { on := 1, ground := Ground.phase }, { on := 2, ground := Ground.phase }, { on := 3, ground := Ground.phase }, { on := 4, ground := Ground.phase }, { on := 5, ground := Ground.phase }, { on := 6, ground := Ground.phase }, { on := 7, ground := Ground.phase }, { on := 8, ground := Ground.phase }, { on := 9, ground := Ground.phase }, { on := 10, ground := Ground.phase }], guard := none }) rfl (fun K hK => ?_) AllReadyH.nil
            obtain ⟨f0, f1, f2, f3⟩ := sp_cells hb
            have mS : Moves [] wr ((w10.setCell ⟨pb, 0, none⟩ (.string lo)).setCell ⟨pb, 1, none⟩ (.string hi)) := mW.trans (spStored1 hb).2 (fun x hx => .inr (by simp at hx; omega))
            have hbS : ((w10.setCell ⟨pb, 0, none⟩ (.string lo)).setCell ⟨pb, 1, none⟩ (.string hi)).heap[pb]? = _ := (spStored1 hb).1
            go_simp
            refine hK.out _ _ ?_ (fun hHeld => ?_)
            · first | exact hS _ mS | exact hS _ mW
            clear hK K
            refine wpAnyH_done (by kernel_rfl) ?_ _
            refine NoPanic.normal ?_
            exact ⟨rfl, by kernel_rfl, pb, by kernel_rfl, hbS, hle, mS⟩
          · go_simp
            have hle := mW.size
            obtain ⟨w10, hwa⟩ : ∃ w10, (wr.alloc (.cells #[.string ⟨#[]⟩, .string ⟨#[]⟩] 27)).drew = w10 := ⟨_, rfl⟩
            have hb : w10.heap[wr.heap.size]? = some (.cells #[.string ⟨#[]⟩, .string ⟨#[]⟩] 27 (0, 0)) := by rw [← hwa]; exact heap_alloc_new wr _
            have mA : Moves [] wr w10 := by rw [← hwa]; exact ((Moves.refl _ _).alloc _).drew
            rw [hwa]
            obtain ⟨pb, hpb⟩ : ∃ pb, wr.heap.size = pb := ⟨_, rfl⟩
            rw [hpb] at hb ⊢
            have hle : wr.heap.size ≤ pb := by rw [← hpb]; first | exact hle | exact Nat.le_refl _
            replace mW := mA
            clear hwa hpb
            refine hK.out _ _ ?_ (fun hHeld => ?_)
            · first | exact hS _ mS | exact hS _ mW
            clear hK K
            try simp only [Act.put, List.setIfInBounds_toArray, List.set_cons_zero, List.set_cons_succ]
            refine wpAnyH_ready (rs := [9]) (by kernel_rfl) (by simp) ?_
            refine AllReadyH.cons (o := { dst := some 49, op := Op.call { callee := Callee.value (Operand.func 13), args := #[Operand.tmp 43, Operand.tmp 48], argTypes := #[3, 3] }, type := 27, pos := "law.go:73", after := #[{ on := 3, ground := Ground.data }, { on := 8, ground := Ground.data }], guard := none }) rfl (fun K hK => ?_) AllReadyH.nil
            go_simp
            refine (hmade _).mono ?_
            rintro _ w9 ⟨rfl, m9⟩
            replace mW := mW.then m9
            replace hb := m9.at hb (by simp)
            refine hK.out _ _ ?_ (fun hHeld => ?_)
            · first | exact hS _ mS | exact hS _ mW
            clear hK K
            try simp only [Act.put, List.setIfInBounds_toArray, List.set_cons_zero, List.set_cons_succ]
            refine wpAnyH_ready (rs := [11]) (by kernel_rfl) (by simp) ?_
            refine AllReadyH.cons (o := { dst := none, op := Op.store 27 (Operand.tmp 11) (Operand.tmp 49), type := 0, pos := "law.go:73", after := #[{ on := 10, ground := Ground.data }, { on := 9, ground := Ground.data }, { on := 9, ground := Ground.chain }, { on := 0, ground := Ground.phase }, { on := 1, ground := Ground.phase }, { on := 2, ground := Ground.phase }, { on := 3, ground := Ground.phase }, { on := 4, ground := Ground.phase }, { on := 5, ground := Ground.phase }, { on := 6, ground := Ground.phase }, { on := 7, ground := Ground.phase }, { on := 8, ground := Ground.phase }, { on := 9, ground := Ground.phase }, { on := 10, ground := Ground.phase }], guard := none }) rfl (fun K hK => ?_) AllReadyH.nil
            obtain ⟨f0, f1, f2, f3⟩ := sp_cells hb
            have mS : Moves [] wr ((w9.setCell ⟨pb, 0, none⟩ (.string lo)).setCell ⟨pb, 1, none⟩ (.string hi)) := mW.trans (spStored1 hb).2 (fun x hx => .inr (by simp at hx; omega))
            have hbS : ((w9.setCell ⟨pb, 0, none⟩ (.string lo)).setCell ⟨pb, 1, none⟩ (.string hi)).heap[pb]? = _ := (spStored1 hb).1
            go_simp
            refine hK.out _ _ ?_ (fun hHeld => ?_)
            · first | exact hS _ mS | exact hS _ mW
            clear hK K
            refine wpAnyH_done (by kernel_rfl) ?_ _
            refine NoPanic.normal ?_
            exact ⟨rfl, by kernel_rfl, pb, by kernel_rfl, hbS, hle, mS⟩
        · rintro u wx ⟨pb, hu, qb, hle, mx⟩
          simp only [List.foldl_cons, List.foldl_nil, List.setIfInBounds_toArray, List.set_cons_zero, List.set_cons_succ, hu]
          clear hu
          generalize u 40 = u40
          generalize u 41 = u41
          generalize u 42 = u42
          generalize u 43 = u43
          generalize u 44 = u44
          generalize u 45 = u45
          generalize u 46 = u46
          generalize u 47 = u47
          generalize u 48 = u48
          generalize u 49 = u49
          clear mW hS hmade
          obtain ⟨q0, q1, _, _⟩ := sp_cells qb
          replace HO : Hid (OwnS wx (.slice adm k capm) ms) := HO.out.moves mx (fun _ _ => by simp)
          have hnew := heap_alloc_new wx (.cells #[.string lo, .string hi] 27)
          have mnew : Moves [] wx (wx.alloc (.cells #[.string lo, .string hi] 27)) := (Moves.refl _ _).alloc _
          have HO2 : Hid (OwnS (wx.alloc (.cells #[.string lo, .string hi] 27)) (.slice adm k capm) ms) := HO.out.moves mnew (fun _ _ => by simp)
          have HN1 : Hid (SpsAt (wx.alloc (.cells #[.string lo, .string hi] 27)) (some ⟨wx.heap.size, 0, none⟩) [⟨lo, hi⟩]) := SpsAt.block hnew
          have b3' := (mx.then mnew).at b3 (by simp)
          have b4' := (mx.then mnew).at b4 (by simp)
          have qb' := mnew.at qb (by simp)
          have M2 := M.then (mx.then mnew)
          have va' := (mx.then mnew).cell va
          have hP1' := hP1.out
          have lb3 := lt_of_block b3'
          have lb4 := lt_of_block b4'
          have lqb := lt_of_block qb
          have lqb' := lt_of_block qb'
          have hPq : P + 1 < pb := by have := lt_of_block b4; omega
          clear hnew
          go_wp2_with (at_builtin; refine spans_append (.tmp 50) (.tmp 52) rfl (.slice adm k capm) (some ⟨wx.heap.size, 0, none⟩) 1 1 ms [⟨lo, hi⟩] rfl rfl rfl HO2.out HN1.out rfl (fun h => by simp at h) (by have := HK.out; simp; omega) ?_; intro v' wy hO' my hL)
          have hown : ∀ x ∈ (Value.slice adm k capm).ownBlock.toList, P + 1 < x ∧ x < wr.heap.size := by
            intro x hx
            have hx' := Option.mem_toList.1 hx
            refine ⟨hP1' x hx', HOr.out.lt hx'⟩
          have b3'' := my.at b3' (fun hx => by have := hown P hx; omega)
          have b4'' := my.at b4' (fun hx => by have := hown (P + 1) hx; omega)
          have qb'' := my.at qb' (fun hx => by have := hown pb hx; omega)
          have lbv : bv < W.heap.size := lt_of_cell vaW
          have va'' := cell_of my va' (fun hx => by have := hown bv hx; have := MW.out.size; omega)
          have MY : Moves [] wy wy := Moves.refl _ _
          have M3 : Moves [] w wy := M2.trans my (fun x hx => .inr (by have := hown x hx; omega))
          have hP2 : Hid (∀ b, v'.ownBlock = some b → P + 1 < b) := by
            intro b hb
            rcases hL with hL | hL
            · rw [hL] at hb; exact hP1' b hb
            · rw [hL] at hb; simp at hb; omega
          obtain ⟨s0, hs0⟩ : ∃ s, (ms ++ [(⟨lo, hi⟩ : Psp)])[0]? = some s := ⟨_, List.getElem?_eq_getElem (by simp)⟩
          obtain ⟨ad2, cap2, rfl, hc2, hn2, hS2⟩ := hO'.at
          obtain ⟨g2, o2, rfl, z0, z1⟩ := hS2 0 s0 hs0
          rw [Nat.zero_mul, Nat.add_zero] at z0 z1
          have hlen2 : (ms ++ [(⟨lo, hi⟩ : Psp)]).length = k + 1 := by rw [List.length_append, HK.out]; rfl
          rw [hlen2] at hO' hP2 hc2 ⊢
          have HO3 : Hid (OwnS wy (.slice (some ⟨g2, o2, none⟩) (k + 1) cap2) (ms ++ [⟨lo, hi⟩])) := hO'
          have HK2 : Hid ((ms ++ [(⟨lo, hi⟩ : Psp)]).length = k + 1) := hlen2
          obtain ⟨r0, r1, _, _⟩ := sp_cells b3''
          obtain ⟨t0, t1, _, _⟩ := sp_cells qb''
          clear hO' hS2 hlen2 hL my HO HO2 HN1 b3' b4' qb' va' hown hP1' c0 c1 d0 d1 q0 q1 mnew hs0 hP1 HOr vaW
          go_region_held3 (fun w' => w'.cell? ⟨pb, 0, none⟩ = some (.string lo) ∧ w'.cell? ⟨pb, 1, none⟩ = some (.string hi) ∧ w'.cell? ⟨P, 0, none⟩ = some (.string xa) ∧ w'.cell? ⟨P, 1, none⟩ = some (.string ya) ∧ w'.cell? ⟨g2, o2, none⟩ = some (.string s0.lo) ∧ w'.cell? ⟨g2, o2 + 1, none⟩ = some (.string s0.hi) ∧ w'.cell? ⟨bv, ov + k, none⟩ = some (.int .i64 na)) (first | (with_reducible exact ⟨t0, t1, r0, r1, z0, z1, va''⟩) | (go_keep; done)) (first | (go_at_call 9; refine (two7_w _ _ _ _ _ _).mono ?_; rintro _ wz ⟨rfl, mz⟩; replace MY : Moves [] wy wz := (by first | exact MY.then mz | exact MY.drew.then mz); replace t0 := mz.cell t0; replace t1 := mz.cell t1; replace r0 := mz.cell r0; replace r1 := mz.cell r1; replace z0 := mz.cell z0; replace z1 := mz.cell z1; replace va'' := mz.cell va''; clear mz) | (go_at_call 14; refine (hrow _).mono ?_; rintro _ wz ⟨rfl, mz⟩; replace MY : Moves [] wy wz := (by first | exact MY.then mz | exact MY.drew.then mz); replace t0 := mz.cell t0; replace t1 := mz.cell t1; replace r0 := mz.cell r0; replace r1 := mz.cell r1; replace z0 := mz.cell z0; replace z1 := mz.cell z1; replace va'' := mz.cell va''; clear mz))
          go_wp2_with fail
          go_roundw
          case rel =>
            have hkk := hk1.out
            refine ⟨ms ++ [⟨lo, hi⟩], _, by rw [HK2.out]; omega, ⟨rfl, by rw [HK2.out, hkk]⟩, M3.then MY, MY.at b3'' (by simp), MY.at b4'' (by simp), HO3.out.moves MY (fun _ _ => by simp), hP2⟩
          case measure =>
            have hkk := hk1.out
            simp [intOf]
            omega
      · have hL : Hid (k = ms.length) := HK.out.symm
        have hex : ¬ (k : Int) + 1 < nv ∨ ((k : Int) + 1 < nv ∧ ¬ (k : Int) < 5) := by omega
        rcases hex with h1 | ⟨h1, h2⟩
        all_goals go_wp2_with (first | (go_at_call 9; refine (two7_w _ _ _ _ _ _).mono ?_; rintro _ w5 ⟨rfl, m5⟩; replace c0 := m5.cell c0; replace c1 := m5.cell c1; replace d0 := m5.cell d0; replace d1 := m5.cell d1) | (go_at_call 10; (revert m6; intro m6); refine (lists2_w _ _ xa ya xb yb (by exact heap_alloc_new w6 _)).mono ?_; rintro _ w7 ⟨rfl, m7⟩) | (go_at_call 10; refine (lists7_w _ _ _ _ ms (HSm.out.moves m5) hL.out hcm (by omega)).mono ?_; rintro _ w6 ⟨rfl, m6⟩; replace c0 := m6.cell c0; replace c1 := m6.cell c1; replace d0 := m6.cell d0; replace d1 := m6.cell d1) | (go_at_call 11; refine (known7_w _).mono ?_; rintro _ w8 ⟨rfl, m8⟩))
        all_goals go_ret
        all_goals exact ⟨rfl, (((M.then m5).then m6).alloc _).then (m7.then m8)⟩
end Go.Proofs.Ytgeadpmnnjfkkaa
