/- ours -/
import Derived.Test.YtfhdodopjgfedaaGreatCMsa

namespace Go.Proofs.YtfhdodopjgfedaaGreat
open Go.RowKit

theorem va0 (w : World) : VA w [.int .i64 0, .slice none 0 0, .float .f64 0] ⟨0, [], 0⟩ := ⟨none, 0, 0, 0, rfl, isB_nil _ _, (by unfold Pl.Fits; decide), by simp, by simp⟩
def plC (act : Int) (s : ByteArray) (to : Int) : Pcmd := ⟨8, opz, ⟨#[]⟩, ⟨#[]⟩, 0, s, to, act, []⟩
def pubC (gen to : Int) : Pcmd := ⟨9, opz, ⟨#[]⟩, ⟨#[]⟩, gen, ⟨#[]⟩, to, 0, []⟩
def plV (act : Int) (s : ByteArray) (to : Int) : Array Value := #[.int .i64 8, .int .i64 0, .string ⟨#[]⟩, .string ⟨#[]⟩, .bool false, .bool false, .string ⟨#[]⟩, .int .i64 0, .slice none 0 0, .float .f64 0, .slice none 0 0, .int .i64 0, .string ⟨#[]⟩, .string ⟨#[]⟩, .int .i64 0, .string s, .int .i64 to, .int .i64 act, .slice none 0 0]
def pubV (gen to : Int) : Array Value := #[.int .i64 9, .int .i64 0, .string ⟨#[]⟩, .string ⟨#[]⟩, .bool false, .bool false, .string ⟨#[]⟩, .int .i64 0, .slice none 0 0, .float .f64 0, .slice none 0 0, .int .i64 0, .string ⟨#[]⟩, .string ⟨#[]⟩, .int .i64 gen, .string ⟨#[]⟩, .int .i64 to, .int .i64 0, .slice none 0 0]
theorem plC_c (w : World) (act : Int) (s : ByteArray) (to : Int) : CmdC w (plV act s to).toList (plC act s to) :=
  ⟨none, 0, 0, none, 0, 0, none, 0, 0, 0, rfl, va0 w, fun k x hk => by simp [plC, opz] at hk, rfl, isB_nil _ _, by simp [plC]⟩
theorem pubC_c (w : World) (gen to : Int) : CmdC w (pubV gen to).toList (pubC gen to) :=
  ⟨none, 0, 0, none, 0, 0, none, 0, 0, 0, rfl, va0 w, fun k x hk => by simp [pubC, opz] at hk, rfl, isB_nil _ _, by simp [pubC]⟩
theorem plC_r {act : Int} {s : ByteArray} {to : Int} (h1 : 1 ≤ act) (h2 : act ≤ 3) (hs : s.size ≤ 16) (h3 : 0 ≤ to) (h4 : to ≤ 255) : rCmd (plC act s to) = true := by
  show rPlan (plC act s to) = true
  unfold rPlan
  rw [show wi (plC act s to).act 1 3 = true from wi_iff.2 ⟨h1, h2⟩, show rPlace (plC act s to).at' = true from decide_eq_true hs, show wi (plC act s to).to 0 255 = true from wi_iff.2 ⟨h3, h4⟩]
  simp
theorem pubC_r {gen to : Int} (h1 : 1 ≤ gen) (h2 : gen ≤ 1073741824) (h3 : to = 0 ∨ to = -1) : rCmd (pubC gen to) = true := by
  show rPub (pubC gen to) = true
  unfold rPub
  rw [show wi (pubC gen to).gen 1 1073741824 = true from wi_iff.2 ⟨h1, h2⟩]
  rcases h3 with rfl | rfl <;> simp [pubC]

theorem one_rem (n : Int) : ∃ x, (pwithin n).tmod 3 = x ∧ 0 ≤ x ∧ x < 3 := by
  have hb := pwithin_b n
  refine ⟨_, rfl, ?_, ?_⟩ <;> rw [Int.tmod_eq_emod_of_nonneg hb.1] <;> omega
set_option maxRecDepth 100000 in
set_option maxHeartbeats 16000000 in
theorem keepPlan_w (d i t : Int) : ∃ act s to, ((1 ≤ act ∧ act ≤ 3) ∧ (1 ≤ to ∧ to ≤ 3) ∧ s.size ≤ 16) ∧ ∀ w, Calls Tryz.prog 14 #[.agg #[.int .i64 d, .int .i64 i, .int .i64 t]] w fun e w' => e = .returned (.agg (plV act s to)) ∧ Moves [] w w' := by
  obtain ⟨s, hs, hrow⟩ := row_ds i
  obtain ⟨x, hx1, hx2, hx3⟩ := one_rem d
  obtain ⟨y, hy1, hy2, hy3⟩ := one_rem t
  refine ⟨1 + x, s, 1 + y, ⟨⟨by omega, by omega⟩, ⟨by omega, by omega⟩, by omega⟩, fun w => ?_⟩
  have hmx : Tryz.prog.follows .mixedOrders = true := by kernel_rfl
  have ex : IntKind.i64.wrap (1 + x) = 1 + x := by rw [IntKind.wrap_i64]; omega
  have ey : IntKind.i64.wrap (1 + y) = 1 + y := by rw [IntKind.wrap_i64]; omega
  have a0 := heap_alloc_new w (.cells #[.int .i64 d, .int .i64 i, .int .i64 t] 42)
  obtain ⟨w1, hw1⟩ : ∃ w1, w.alloc (.cells #[.int .i64 d, .int .i64 i, .int .i64 t] 42) = w1 := ⟨_, rfl⟩
  have s1 : w1.heap.size = w.heap.size + 1 := by rw [← hw1]; simp
  have n1 : Moves [] w w1 := by rw [← hw1]; exact (Moves.refl _ _).alloc _
  rw [hw1] at a0
  have a1 := heap_alloc_new w1 (.cells #[.int .i64 0, .int .i64 0, .string ⟨#[]⟩, .string ⟨#[]⟩, .bool false, .bool false, .string ⟨#[]⟩, .int .i64 0, .slice none 0 0, .float .f64 0, .slice none 0 0, .int .i64 0, .string ⟨#[]⟩, .string ⟨#[]⟩, .int .i64 0, .string ⟨#[]⟩, .int .i64 0, .int .i64 0, .slice none 0 0] 39)
  obtain ⟨w2, hw2⟩ : ∃ w2, w1.alloc (.cells #[.int .i64 0, .int .i64 0, .string ⟨#[]⟩, .string ⟨#[]⟩, .bool false, .bool false, .string ⟨#[]⟩, .int .i64 0, .slice none 0 0, .float .f64 0, .slice none 0 0, .int .i64 0, .string ⟨#[]⟩, .string ⟨#[]⟩, .int .i64 0, .string ⟨#[]⟩, .int .i64 0, .int .i64 0, .slice none 0 0] 39) = w2 := ⟨_, rfl⟩
  have n2 : Moves [] w1 w2 := by rw [← hw2]; exact (Moves.refl _ _).alloc _
  rw [hw2] at a1
  rw [s1] at a1
  have b0 := n2.at a0 (by simp)
  have HM : Hid (Moves [] w w2) := n1.then n2
  obtain ⟨B0, hB0⟩ : ∃ B0, w.heap.size = B0 := ⟨_, rfl⟩
  rw [hB0] at b0 a1
  have HSZ : Hid (w.heap.size = B0) := hB0
  clear a0 n1 n2
  go_enter Tryz.func14, Tryz.ntmps14
  go_wp2_with fail
  try rw [hw1]
  try rw [hw2]
  try rw [s1]
  try rw [hB0]
  clear hw1 hw2 s1 hB0
  obtain ⟨wr, hwr⟩ : ∃ wr, wr = w2 := ⟨_, rfl⟩
  subst hwr
  have hS : ∀ w' : World, w'.heap[B0]? = some (.cells #[.int .i64 d, .int .i64 i, .int .i64 t] 42 (0, 0)) → (w'.cell? ⟨B0, 0, none⟩ = some (.int .i64 d) ∧ w'.cell? ⟨B0, 1, none⟩ = some (.int .i64 i) ∧ w'.cell? ⟨B0, 2, none⟩ = some (.int .i64 t)) := by
    intro w' hb
    simp [World.cell?, hb]
  have hx : wr.drew.heap[B0]? = some (.cells #[.int .i64 d, .int .i64 i, .int .i64 t] 42 (0, 0)) := b0
  have hb : wr.drew.heap[B0 + 1]? = some (.cells #[.int .i64 0, .int .i64 0, .string ⟨#[]⟩, .string ⟨#[]⟩, .bool false, .bool false, .string ⟨#[]⟩, .int .i64 0, .slice none 0 0, .float .f64 0, .slice none 0 0, .int .i64 0, .string ⟨#[]⟩, .string ⟨#[]⟩, .int .i64 0, .string ⟨#[]⟩, .int .i64 0, .int .i64 0, .slice none 0 0] 39 (0, 0)) := a1
  have mW : Moves [] wr wr.drew := (Moves.refl _ _).drew
  clear b0 a1
  refine wp_some7 [3, 4, 5, 6, 7, 8, 9, 10, 11, 12, 13, 14, 15, 16] (fun v w' => w'.heap[B0 + 1]? = some (.cells (plV (1 + x) s (1 + y)) 39 (0, 0)) ∧ Moves [B0 + 1] wr w') ?_ ?_
  · rename_i ax
    clear ax
    refine wp_region_noPanic ?_
    refine region_peel (S := (fun w' => w'.cell? ⟨B0, 0, none⟩ = some (.int .i64 d) ∧ w'.cell? ⟨B0, 1, none⟩ = some (.int .i64 i) ∧ w'.cell? ⟨B0, 2, none⟩ = some (.int .i64 t))) (pre := #[{ dst := some 3, op := Op.fieldAddr 42 (Operand.tmp 1) 0, type := 0, pos := "same.go:146", after := #[], guard := none }, { dst := some 4, op := Op.load 3 (Operand.tmp 3), type := 3, pos := "same.go:146", after := #[{ on := 0, ground := Ground.data }], guard := none }, { dst := some 5, op := Op.call { callee := Callee.value (Operand.func 23), args := #[Operand.tmp 4, Operand.const (Value.int IntKind.i64 0), Operand.const (Value.int IntKind.i64 1048576)], argTypes := #[3, 3, 3] }, type := 3, pos := "same.go:146", after := #[{ on := 1, ground := Ground.data }], guard := none }, { dst := some 6, op := Op.binOp BinOp.rem 3 (Operand.tmp 5) (Operand.const (Value.int IntKind.i64 3)) 3, type := 3, pos := "same.go:146", after := #[{ on := 2, ground := Ground.data }], guard := none }, { dst := some 7, op := Op.binOp BinOp.add 3 (Operand.const (Value.int IntKind.i64 1)) (Operand.tmp 6) 3, type := 3, pos := "same.go:146", after := #[{ on := 3, ground := Ground.data }], guard := none }, { dst := some 8, op := Op.fieldAddr 42 (Operand.tmp 1) 1, type := 0, pos := "same.go:146", after := #[], guard := none }, { dst := some 9, op := Op.load 3 (Operand.tmp 8), type := 3, pos := "same.go:146", after := #[{ on := 5, ground := Ground.data }], guard := none }, { dst := some 10, op := Op.call { callee := Callee.value (Operand.func 24), args := #[Operand.tmp 9], argTypes := #[3] }, type := 9, pos := "same.go:146", after := #[{ on := 6, ground := Ground.data }, { on := 2, ground := Ground.chain }], guard := none }, { dst := some 11, op := Op.fieldAddr 42 (Operand.tmp 1) 2, type := 0, pos := "same.go:146", after := #[], guard := none }, { dst := some 12, op := Op.load 3 (Operand.tmp 11), type := 3, pos := "same.go:146", after := #[{ on := 8, ground := Ground.data }], guard := none }, { dst := some 13, op := Op.call { callee := Callee.value (Operand.func 23), args := #[Operand.tmp 12, Operand.const (Value.int IntKind.i64 0), Operand.const (Value.int IntKind.i64 1048576)], argTypes := #[3, 3, 3] }, type := 3, pos := "same.go:146", after := #[{ on := 9, ground := Ground.data }, { on := 7, ground := Ground.chain }], guard := none }, { dst := some 14, op := Op.binOp BinOp.rem 3 (Operand.tmp 13) (Operand.const (Value.int IntKind.i64 3)) 3, type := 3, pos := "same.go:146", after := #[{ on := 10, ground := Ground.data }], guard := none }, { dst := some 15, op := Op.binOp BinOp.add 3 (Operand.const (Value.int IntKind.i64 1)) (Operand.tmp 14) 3, type := 3, pos := "same.go:146", after := #[{ on := 11, ground := Ground.data }], guard := none }, { dst := some 16, op := Op.build 39 #[(0, Operand.const (Value.int IntKind.i64 8)), (6, Operand.tmp 7), (4, Operand.tmp 10), (5, Operand.tmp 15)], type := 39, pos := "same.go:146", after := #[{ on := 4, ground := Ground.data }, { on := 7, ground := Ground.data }, { on := 12, ground := Ground.data }], guard := none }]) (o := { dst := none, op := Op.store 39 (Operand.tmp 2) (Operand.tmp 16), type := 0, pos := "same.go:146", after := #[{ on := 13, ground := Ground.data }, { on := 10, ground := Ground.chain }, { on := 0, ground := Ground.phase }, { on := 1, ground := Ground.phase }, { on := 2, ground := Ground.phase }, { on := 3, ground := Ground.phase }, { on := 4, ground := Ground.phase }, { on := 5, ground := Ground.phase }, { on := 6, ground := Ground.phase }, { on := 7, ground := Ground.phase }, { on := 8, ground := Ground.phase }, { on := 9, ground := Ground.phase }, { on := 10, ground := Ground.phase }, { on := 11, ground := Ground.phase }, { on := 12, ground := Ground.phase }, { on := 13, ground := Ground.phase }], guard := none }) (by kernel_rfl) (by kernel_rfl) (by kernel_rfl) ?_ (fun hHeld => ?_)
    · first | exact hS _ hx7 | exact hS _ hx
    refine wpAnyH_take (i := 0) (oi := { dst := some 3, op := Op.fieldAddr 42 (Operand.tmp 1) 0, type := 0, pos := "same.go:146", after := #[], guard := none }) (v := ?_) rfl (by kernel_rfl) (by kernel_rfl) (by kernel_rfl) (fun _ _ _ h => h) (Or.inl ⟨by rfl, ?_⟩) (by assumption) ?_
    rotate_left
    · (intro w hSw; (try dsimp only at hSw); go_simp; try (with_reducible rfl))
    try simp only [Act.put, List.setIfInBounds_toArray, List.set_cons_zero, List.set_cons_succ]
    refine wpAnyH_take (i := 1) (oi := { dst := some 4, op := Op.load 3 (Operand.tmp 3), type := 3, pos := "same.go:146", after := #[{ on := 0, ground := Ground.data }], guard := none }) (v := ?_) rfl (by kernel_rfl) (by kernel_rfl) (by kernel_rfl) (fun _ _ _ h => h) (Or.inl ⟨by rfl, ?_⟩) (by assumption) ?_
    rotate_left
    · (intro w hSw; (try dsimp only at hSw); go_simp; try (with_reducible rfl))
    try simp only [Act.put, List.setIfInBounds_toArray, List.set_cons_zero, List.set_cons_succ]
    refine wpAnyH_take (i := 5) (oi := { dst := some 8, op := Op.fieldAddr 42 (Operand.tmp 1) 1, type := 0, pos := "same.go:146", after := #[], guard := none }) (v := ?_) rfl (by kernel_rfl) (by kernel_rfl) (by kernel_rfl) (fun _ _ _ h => h) (Or.inl ⟨by rfl, ?_⟩) (by assumption) ?_
    rotate_left
    · (intro w hSw; (try dsimp only at hSw); go_simp; try (with_reducible rfl))
    try simp only [Act.put, List.setIfInBounds_toArray, List.set_cons_zero, List.set_cons_succ]
    refine wpAnyH_take (i := 6) (oi := { dst := some 9, op := Op.load 3 (Operand.tmp 8), type := 3, pos := "same.go:146", after := #[{ on := 5, ground := Ground.data }], guard := none }) (v := ?_) rfl (by kernel_rfl) (by kernel_rfl) (by kernel_rfl) (fun _ _ _ h => h) (Or.inl ⟨by rfl, ?_⟩) (by assumption) ?_
    rotate_left
    · (intro w hSw; (try dsimp only at hSw); go_simp; try (with_reducible rfl))
    try simp only [Act.put, List.setIfInBounds_toArray, List.set_cons_zero, List.set_cons_succ]
    refine wpAnyH_take (i := 8) (oi := { dst := some 11, op := Op.fieldAddr 42 (Operand.tmp 1) 2, type := 0, pos := "same.go:146", after := #[], guard := none }) (v := ?_) rfl (by kernel_rfl) (by kernel_rfl) (by kernel_rfl) (fun _ _ _ h => h) (Or.inl ⟨by rfl, ?_⟩) (by assumption) ?_
    rotate_left
    · (intro w hSw; (try dsimp only at hSw); go_simp; try (with_reducible rfl))
    try simp only [Act.put, List.setIfInBounds_toArray, List.set_cons_zero, List.set_cons_succ]
    refine wpAnyH_take (i := 9) (oi := { dst := some 12, op := Op.load 3 (Operand.tmp 11), type := 3, pos := "same.go:146", after := #[{ on := 8, ground := Ground.data }], guard := none }) (v := ?_) rfl (by kernel_rfl) (by kernel_rfl) (by kernel_rfl) (fun _ _ _ h => h) (Or.inl ⟨by rfl, ?_⟩) (by assumption) ?_
    rotate_left
    · (intro w hSw; (try dsimp only at hSw); go_simp; try (with_reducible rfl))
    try simp only [Act.put, List.setIfInBounds_toArray, List.set_cons_zero, List.set_cons_succ]
    refine wpAnyH_ready (rs := [2]) (by kernel_rfl) (by simp) ?_
    refine AllReadyH.cons (o := { dst := some 5, op := Op.call { callee := Callee.value (Operand.func 23), args := #[Operand.tmp 4, Operand.const (Value.int IntKind.i64 0), Operand.const (Value.int IntKind.i64 1048576)], argTypes := #[3, 3, 3] }, type := 3, pos := "same.go:146", after := #[{ on := 1, ground := Ground.data }], guard := none }) rfl (fun K hK => ?_) AllReadyH.nil
    go_simp
    refine (within_d _ _).mono ?_
    rintro _ _ ⟨rfl, rfl⟩
    refine hK.out _ _ ?_ (fun hHeld => ?_)
    · first | exact hS _ hx7 | exact hS _ hx
    clear hK K
    try simp only [Act.put, List.setIfInBounds_toArray, List.set_cons_zero, List.set_cons_succ]
    refine wpAnyH_take (i := 3) (oi := { dst := some 6, op := Op.binOp BinOp.rem 3 (Operand.tmp 5) (Operand.const (Value.int IntKind.i64 3)) 3, type := 3, pos := "same.go:146", after := #[{ on := 2, ground := Ground.data }], guard := none }) (v := ?_) rfl (by kernel_rfl) (by kernel_rfl) (by kernel_rfl) (fun _ _ _ h => h) (Or.inl ⟨by rfl, ?_⟩) (by assumption) ?_
    rotate_left
    · (intro w hSw; (try dsimp only at hSw); go_simp; try (with_reducible rfl))
    try simp only [Act.put, List.setIfInBounds_toArray, List.set_cons_zero, List.set_cons_succ]
    refine wpAnyH_take (i := 4) (oi := { dst := some 7, op := Op.binOp BinOp.add 3 (Operand.const (Value.int IntKind.i64 1)) (Operand.tmp 6) 3, type := 3, pos := "same.go:146", after := #[{ on := 3, ground := Ground.data }], guard := none }) (v := ?_) rfl (by kernel_rfl) (by kernel_rfl) (by kernel_rfl) (fun _ _ _ h => h) (Or.inl ⟨by rfl, ?_⟩) (by assumption) ?_
    rotate_left
    · (intro w hSw; (try dsimp only at hSw); go_simp; try (with_reducible rfl))
    try simp only [Act.put, List.setIfInBounds_toArray, List.set_cons_zero, List.set_cons_succ]
    refine wpAnyH_ready (rs := [7]) (by kernel_rfl) (by simp) ?_
    refine AllReadyH.cons (o := { dst := some 10, op := Op.call { callee := Callee.value (Operand.func 24), args := #[Operand.tmp 9], argTypes := #[3] }, type := 9, pos := "same.go:146", after := #[{ on := 6, ground := Ground.data }, { on := 2, ground := Ground.chain }], guard := none }) rfl (fun K hK => ?_) AllReadyH.nil
    go_simp
    refine (hrow _).mono ?_
    rintro _ w7 ⟨rfl, m7⟩
    have hb7 := m7.at hb (by simp)
    have hx7 := m7.at hx (by simp)
    have mW7 : Moves [] wr w7 := mW.then m7
    refine hK.out _ _ ?_ (fun hHeld => ?_)
    · first | exact hS _ hx7 | exact hS _ hx
    clear hK K
    try simp only [Act.put, List.setIfInBounds_toArray, List.set_cons_zero, List.set_cons_succ]
    refine wpAnyH_ready (rs := [10]) (by kernel_rfl) (by simp) ?_
    refine AllReadyH.cons (o := { dst := some 13, op := Op.call { callee := Callee.value (Operand.func 23), args := #[Operand.tmp 12, Operand.const (Value.int IntKind.i64 0), Operand.const (Value.int IntKind.i64 1048576)], argTypes := #[3, 3, 3] }, type := 3, pos := "same.go:146", after := #[{ on := 9, ground := Ground.data }, { on := 7, ground := Ground.chain }], guard := none }) rfl (fun K hK => ?_) AllReadyH.nil
    go_simp
    refine (within_d _ _).mono ?_
    rintro _ _ ⟨rfl, rfl⟩
    refine hK.out _ _ ?_ (fun hHeld => ?_)
    · first | exact hS _ hx7 | exact hS _ hx
    clear hK K
    try simp only [Act.put, List.setIfInBounds_toArray, List.set_cons_zero, List.set_cons_succ]
    refine wpAnyH_take (i := 11) (oi := { dst := some 14, op := Op.binOp BinOp.rem 3 (Operand.tmp 13) (Operand.const (Value.int IntKind.i64 3)) 3, type := 3, pos := "same.go:146", after := #[{ on := 10, ground := Ground.data }], guard := none }) (v := ?_) rfl (by kernel_rfl) (by kernel_rfl) (by kernel_rfl) (fun _ _ _ h => h) (Or.inl ⟨by rfl, ?_⟩) (by assumption) ?_
    rotate_left
    · (intro w hSw; (try dsimp only at hSw); go_simp; try (with_reducible rfl))
    try simp only [Act.put, List.setIfInBounds_toArray, List.set_cons_zero, List.set_cons_succ]
    refine wpAnyH_take (i := 12) (oi := { dst := some 15, op := Op.binOp BinOp.add 3 (Operand.const (Value.int IntKind.i64 1)) (Operand.tmp 14) 3, type := 3, pos := "same.go:146", after := #[{ on := 11, ground := Ground.data }], guard := none }) (v := ?_) rfl (by kernel_rfl) (by kernel_rfl) (by kernel_rfl) (fun _ _ _ h => h) (Or.inl ⟨by rfl, ?_⟩) (by assumption) ?_
    rotate_left
    · (intro w hSw; (try dsimp only at hSw); go_simp; try (with_reducible rfl))
    try simp only [Act.put, List.setIfInBounds_toArray, List.set_cons_zero, List.set_cons_succ]
    refine wpAnyH_take (i := 13) (oi := { dst := some 16, op := Op.build 39 #[(0, Operand.const (Value.int IntKind.i64 8)), (6, Operand.tmp 7), (4, Operand.tmp 10), (5, Operand.tmp 15)], type := 39, pos := "same.go:146", after := #[{ on := 4, ground := Ground.data }, { on := 7, ground := Ground.data }, { on := 12, ground := Ground.data }], guard := none }) (v := ?_) rfl (by kernel_rfl) (by kernel_rfl) (by kernel_rfl) (fun _ _ _ h => h) (Or.inl ⟨by rfl, ?_⟩) (by assumption) ?_
    rotate_left
    · (intro w hSw; (try dsimp only at hSw); go_simp; try (with_reducible rfl))
    try simp only [Act.put, List.setIfInBounds_toArray, List.set_cons_zero, List.set_cons_succ]
    refine wpAnyH_done (by kernel_rfl) ?_ _
    unfold PeelQ
    refine wpOp_of_wp rfl rfl ?_
    refine wp_store_row 39 _ _ rfl (B0 + 1) _ rfl rfl _ _ hb7 Tryz.size39 rfl (by simp [Value.oneCell']) ?_
    exact NoPanic.normal ⟨rfl, by kernel_rfl, setRow_heap _ _ _ _ _ _ hb7, (mW7.mono (by simp)).then (moves_row _ _ _)⟩
  · rintro v wx ⟨hbx, mx⟩
    simp only [List.foldl_cons, List.foldl_nil, List.setIfInBounds_toArray, List.set_cons_zero, List.set_cons_succ]
    clear mW hS hx hb
    go_wp2_with fail
    try simp only [Exit.inBlock, Exit.then]
    exact bodyPost_ret (ret_cmd rfl _ _ (B0 + 1) _ rfl rfl hbx) rfl ⟨rfl, HM.out.trans mx (fun k hk => .inr (by simp at hk; have := HSZ.out; omega))⟩

structure BoxB (w : World) (B : Nat) (cs : Array Value) (t : TypeId) (p q c : Nat) (a : Option Nat) : Prop where
  at' : w.heap[B]? = some (.cells cs t (0, 0))
  no : B ∉ p :: q :: c :: a.toList
theorem notin_step {W w0 w : World} {p q c B : Nat} {a0 a : Option Nat} {S0 S : Pms} (g : MrG W w0 p q c a0 S0 w a S) (h : B ∉ p :: q :: c :: a0.toList) (hB : B < w0.heap.size) : B ∉ p :: q :: c :: a.toList := by
  intro hm
  simp only [List.mem_cons, not_or] at h hm
  rcases hm with e | e | e | e
  · exact h.1 e
  · exact h.2.1 e
  · exact h.2.2.1 e
  · rcases g.al with e2 | ⟨k, e2, hk⟩
    · rw [e2] at e; exact h.2.2.2 e
    · rw [e2] at e; simp at e; omega
theorem BoxB.step {W w0 w : World} {p q c B : Nat} {cs : Array Value} {t : TypeId} {a0 a : Option Nat} {S0 S : Pms} (h : BoxB w0 B cs t p q c a0) (g : MrG W w0 p q c a0 S0 w a S) : BoxB w B cs t p q c a :=
  ⟨g.mv.at h.at' h.no, notin_step g h.no (lt_of_block h.at')⟩
theorem BoxB.moves0 {w0 w : World} {p q c B : Nat} {cs : Array Value} {t : TypeId} {a : Option Nat} (h : BoxB w0 B cs t p q c a) (m : Moves [] w0 w) : BoxB w B cs t p q c a := ⟨m.at h.at' (by simp), h.no⟩
theorem MrIs.notin {W w : World} {p q c B : Nat} {a : Option Nat} {S : Pms} (h : MrIs W w p q c a S) (hB : w.heap.size ≤ B) : B ∉ p :: q :: c :: a.toList := by
  intro hm
  obtain ⟨l1, l2, l3, l4⟩ := h.lt
  simp only [List.mem_cons] at hm
  rcases hm with e | e | e | e
  · omega
  · omega
  · omega
  · have := l4 _ (Option.mem_toList.1 e); omega
structure TabB (w : World) (v : Value) (xs : List Ptb) (p q c : Nat) (a : Option Nat) : Prop where
  own : OwnT w v xs
  no : ∀ k, v.ownBlock = some k → k ∉ p :: q :: c :: a.toList
theorem TabB.step {W w0 w : World} {p q c : Nat} {v : Value} {xs : List Ptb} {a0 a : Option Nat} {S0 S : Pms} (h : TabB w0 v xs p q c a0) (g : MrG W w0 p q c a0 S0 w a S) : TabB w v xs p q c a :=
  ⟨h.own.moves g.mv h.no, fun k hk => notin_step g (h.no k hk) (h.own.lt hk)⟩
theorem TabB.moves0 {w0 w : World} {p q c : Nat} {v : Value} {xs : List Ptb} {a : Option Nat} (h : TabB w0 v xs p q c a) (m : Moves [] w0 w) : TabB w v xs p q c a := ⟨h.own.moves m (by simp), h.no⟩
theorem TabB.tbl {w : World} {p q c : Nat} {v : Value} {xs : List Ptb} {a : Option Nat} (h : TabB w v xs p q c a) : ∃ g, TbL w g v xs := ⟨v.ownBlock.getD 0, h.own.tbl (fun k hk => by rw [hk]; rfl)⟩

theorem look_fresh {ca : List Pt} {c q : Int} (h : (ofT ca c).s < q) (hq : 1 ≤ q) : lookT (ofT ca c) q = 1 := by
  unfold lookT
  rw [if_neg (by omega), if_neg (by omega)]
theorem plan_fresh (S : Pms) (c q act : Int) (s : ByteArray) (to : Int) (h : (ofT S.ca c).s < q) (hq : 1 ≤ q) (h0 : 0 ≤ c) (h1 : c ≤ 255) (h2 : q ≤ 1073741824) (ha : act ≠ 0) :
    mPlan S c q act s to = ((mBegin S act s to).1, { (mBegin S act s to).2 with ca := keepT S.ca ⟨c, q, strOf (encA (mBegin S act s to).1)⟩ }) := by
  unfold mPlan
  rw [if_neg ha, if_neg (by rw [look_fresh h hq]; decide), if_neg (by rw [look_fresh h hq]; simp only [not_or, Classical.not_not]; exact ⟨by decide, h0, h1, h2⟩)]
theorem plan_again (S : Pms) (c q act : Int) (s : ByteArray) (to : Int) (ha : act ≠ 0) (A : Pans) (hb : Bare A) (hr : rAns A = true) (hq : 1 ≤ q) (h : ofT S.ca c = ⟨c, q, strOf (encA A)⟩) : mPlan S c q act s to = (A, S) := by
  have e : lookT (ofT S.ca c) q = 2 := by
    rw [h]
    unfold lookT
    rw [if_neg (by show ¬ (q < 1 ∨ q < q); omega), if_pos rfl]
  have e2 : sayT (ofT S.ca c) q = encA A := by
    unfold sayT
    rw [if_pos e, h]
    exact zbs_strOf (encA_bare_len hb hr).2
  unfold mPlan
  rw [if_neg ha, if_pos e, e2]
  unfold mDec
  rw [dWhole_bare hb hr]; rfl
theorem plan_old (S : Pms) (c q act : Int) (s : ByteArray) (to : Int) (ha : act ≠ 0) (h : q < (ofT S.ca c).s) : mPlan S c q act s to = (pTold 27, S) := by
  have e : lookT (ofT S.ca c) q = 3 := by
    unfold lookT
    rw [if_pos (.inr h)]
  unfold mPlan
  rw [if_neg ha, if_neg (by rw [e]; decide), if_pos (.inl e)]
theorem begin_gen (S : Pms) (ok : OkM S) (act : Int) (s : ByteArray) (to : Int) (h1 : 1 ≤ act) (h2 : act ≤ 3) (hs : s.size ≤ 16) : (mBegin S act s to).1.gen ≤ (mBegin S act s to).2.last ∧ S.last ≤ (mBegin S act s to).2.last ∧ ((mBegin S act s to).1.code = 0 → (mBegin S act s to).1.gen = S.last + 1) := by
  have l0 := ok.l0
  have hd := mDraw_is S act s to ok.cov h1 h2 hs
  unfold mBegin
  split
  · refine ⟨?_, Int.le_refl _, fun h => by simp [pTold] at h⟩
    show (0 : Int) ≤ S.last
    omega
  · split
    · rename_i hc
      have hg : (mDraw S act s to).gen = 0 := by
        rcases hd with (e | e) | ⟨hP, _⟩
        · rw [e]; rfl
        · rw [e]; rfl
        · exact absurd hP.bare.2.1 hc
      refine ⟨by show (mDraw S act s to).gen ≤ S.last; omega, Int.le_refl _, fun h => absurd h hc⟩
    · split
      · refine ⟨?_, Int.le_refl _, fun h => by simp [pTold] at h⟩
        show (0 : Int) ≤ S.last
        omega
      · refine ⟨Int.le_refl _, by show S.last ≤ S.last + 1; omega, fun _ => rfl⟩

theorem k11_last (s : ByteArray) : LastZ (k11.map Ptb.lo) s 0 := by
  refine ⟨by decide, fun k y hy hk => ?_, fun k y hy hk => ?_⟩
  · obtain rfl : k = 0 := by omega
    simp [k11] at hy
    subst hy
    exact zlt_nil _
  · match k, hk with
    | k + 1, _ => simp [k11] at hy
theorem known_plan : (mPlan (m0 2) 1 1 2 ⟨#[109]⟩ 0).1.code = 0 ∧ (mPlan (m0 2) 1 1 2 ⟨#[109]⟩ 0).1.gen = 2 ∧ (mPlan (m0 2) 1 1 2 ⟨#[109]⟩ 0).2.last = 2 ∧ (mPlan (m0 2) 1 1 2 ⟨#[109]⟩ 0).2.xs = k11 := by
  rw [plan_fresh (m0 2) 1 1 2 ⟨#[109]⟩ 0 (by decide) (by omega) (by omega) (by omega) (by omega) (by omega)]
  have hi : mIx (m0 2).xs ⟨#[109]⟩ = 0 := mIx_one (k11_last _)
  have ht : mTb (m0 2).xs ⟨#[109]⟩ = ⟨⟨#[]⟩, ⟨#[]⟩, 1, 1⟩ := by
    unfold mTb
    rw [hi]; rfl
  have hd : mDraw (m0 2) 2 ⟨#[109]⟩ 0 = pPl ⟨#[]⟩ ⟨#[]⟩ 1 0 1 0 2 ⟨#[109]⟩ := by
    unfold mDraw
    rw [if_neg (by omega), if_pos rfl, ht, if_pos (by decide +kernel), if_neg (by decide)]
  have hb : mBegin (m0 2) 2 ⟨#[109]⟩ 0 = (pPl ⟨#[]⟩ ⟨#[]⟩ 1 2 1 0 2 ⟨#[109]⟩, { m0 2 with last := 2, pend := pPl ⟨#[]⟩ ⟨#[]⟩ 1 2 1 0 2 ⟨#[109]⟩ }) := by
    unfold mBegin
    rw [if_neg (by decide), hd, if_neg (by decide), if_neg (by decide)]
    rfl
  rw [hb]
  exact ⟨rfl, rfl, rfl, rfl⟩
end Go.Proofs.YtfhdodopjgfedaaGreat
