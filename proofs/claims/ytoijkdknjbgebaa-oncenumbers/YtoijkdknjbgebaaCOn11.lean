/-
  Same and Join of caches.
-/
import Derived.Test.YtoijkdknjbgebaaCOn10
namespace Go.Proofs.Ytoijkdknjbgebaa
open Go.RowKit

set_option maxRecDepth 100000 in
set_option maxHeartbeats 8000000 in
theorem oequal_w (w0 w : World) (v u : Value) (xs : List Pt) (hv : ToldsAt w0 v xs) (hu : ToldsAt w0 u xs) (m0 : Moves [] w0 w) (hl : xs.length ≤ 100000) :
    Calls Try.prog 45 #[v, u] w fun e w' => e = .returned (.bool true) ∧ Moves [] w w' := by
  obtain ⟨ad, cap, rfl, _⟩ := hv.slice
  obtain ⟨ae, cae, rfl, _⟩ := hu.slice
  obtain ⟨n, hn⟩ : ∃ n, xs.length = n := ⟨_, rfl⟩
  rw [hn] at hv hu hl ⊢
  have HV : Hid (ToldsAt w0 (.slice ad n cap) xs) := hv
  have HU : Hid (ToldsAt w0 (.slice ae n cae) xs) := hu
  have HN : Hid (xs.length = n) := hn
  clear hv hu hn
  go_enter Try.func45, Try.ntmps45
  go_wp2_with fail
  go_loopw [13] (fun iv wr => ∃ k : Nat, k ≤ n ∧ iv = .int .i64 (k : Int) ∧ Moves [] w wr) (fun iv _ => (n - intOf iv).toNat)
  case atStart => exact ⟨0, Nat.zero_le _, rfl, Moves.refl _ _⟩
  case round =>
    obtain ⟨k, hk, rfl, mr⟩ := hrel
    by_cases hkn : k < n
    · have hkn' : (k : Int) < (n : Int) := by omega
      obtain ⟨x, hx⟩ : ∃ x, xs[k]? = some x := ⟨_, List.getElem?_eq_getElem (by have := HN.out; omega)⟩
      obtain ⟨g, off, rfl, y0, y1, y2⟩ := HV.out.at hx
      obtain ⟨g', off', rfl, z0, z1, z2⟩ := HU.out.at hx
      have a0 := (m0.then mr).cell y0
      have a1 := (m0.then mr).cell y1
      have a2 := (m0.then mr).cell y2
      have b0 := (m0.then mr).cell z0
      have b1 := (m0.then mr).cell z1
      have b2 := (m0.then mr).cell z2
      clear y0 y1 y2 z0 z1 z2 hx
      go_wp2_with fail
      refine wp_region_noPanic ?_
      refine wp_region_held_drew (S := (fun w' => (w'.cell? ⟨g, off + k * 3, none⟩ = some (.int .i64 x.c) ∧ w'.cell? ⟨g, off + k * 3 + 1, none⟩ = some (.int .i64 x.s) ∧ w'.cell? ⟨g, off + k * 3 + 2, none⟩ = some (.string x.a)) ∧ w'.cell? ⟨g', off' + k * 3, none⟩ = some (.int .i64 x.c) ∧ w'.cell? ⟨g', off' + k * 3 + 1, none⟩ = some (.int .i64 x.s) ∧ w'.cell? ⟨g', off' + k * 3 + 2, none⟩ = some (.string x.a))) (by kernel_rfl) ?_ (fun hHeld => ?_)
      · first | (go_keep; done) | exact ⟨⟨a0, a1, a2⟩, b0, b1, b2⟩
      refine wpAnyH_take (i := 0) (oi := { dst := some 16, op := Op.move (Operand.tmp 0), type := 58, pos := "slices.go:25", after := #[], guard := none }) (v := ?_) rfl (by kernel_rfl) (by kernel_rfl) (by kernel_rfl) (fun _ _ _ h => h) (Or.inl ⟨by rfl, ?_⟩) (by assumption) ?_
      rotate_left
      · (intro w hSw; (try dsimp only at hSw); go_simp; try (with_reducible rfl))
      try simp only [Act.put, List.setIfInBounds_toArray, List.set_cons_zero, List.set_cons_succ]
      refine wpAnyH_take (i := 1) (oi := { dst := some 17, op := Op.move (Operand.tmp 5), type := 3, pos := "slices.go:25", after := #[], guard := none }) (v := ?_) rfl (by kernel_rfl) (by kernel_rfl) (by kernel_rfl) (fun _ _ _ h => h) (Or.inl ⟨by rfl, ?_⟩) (by assumption) ?_
      rotate_left
      · (intro w hSw; (try dsimp only at hSw); go_simp; try (with_reducible rfl))
      try simp only [Act.put, List.setIfInBounds_toArray, List.set_cons_zero, List.set_cons_succ]
      refine wpAnyH_take (i := 2) (oi := { dst := some 18, op := Op.indexAddr 58 (Operand.tmp 16) (Operand.tmp 17), type := 0, pos := "slices.go:25", after := #[{ on := 0, ground := Ground.data }, { on := 1, ground := Ground.data }], guard := none }) (v := ?_) rfl (by kernel_rfl) (by kernel_rfl) (by kernel_rfl) (fun _ _ _ h => h) (Or.inl ⟨by rfl, ?_⟩) (by assumption) ?_
      rotate_left
      · (intro w hSw; (try dsimp only at hSw); go_simp; try (with_reducible rfl))
      try simp only [Act.put, List.setIfInBounds_toArray, List.set_cons_zero, List.set_cons_succ]
      refine wpAnyH_take (i := 3) (oi := { dst := some 19, op := Op.load 63 (Operand.tmp 18), type := 63, pos := "slices.go:25", after := #[{ on := 2, ground := Ground.data }], guard := none }) (v := ?_) rfl (by kernel_rfl) (by kernel_rfl) (by kernel_rfl) (fun _ _ _ h => h) (Or.inl ⟨by rfl, ?_⟩) (by assumption) ?_
      rotate_left
      · (intro w hSw; (try dsimp only at hSw); go_simp; try (with_reducible rfl))
      try simp only [Act.put, List.setIfInBounds_toArray, List.set_cons_zero, List.set_cons_succ]
      refine wpAnyH_take (i := 4) (oi := { dst := some 20, op := Op.move (Operand.tmp 1), type := 58, pos := "slices.go:25", after := #[], guard := none }) (v := ?_) rfl (by kernel_rfl) (by kernel_rfl) (by kernel_rfl) (fun _ _ _ h => h) (Or.inl ⟨by rfl, ?_⟩) (by assumption) ?_
      rotate_left
      · (intro w hSw; (try dsimp only at hSw); go_simp; try (with_reducible rfl))
      try simp only [Act.put, List.setIfInBounds_toArray, List.set_cons_zero, List.set_cons_succ]
      refine wpAnyH_take (i := 5) (oi := { dst := some 21, op := Op.move (Operand.tmp 5), type := 3, pos := "slices.go:25", after := #[], guard := none }) (v := ?_) rfl (by kernel_rfl) (by kernel_rfl) (by kernel_rfl) (fun _ _ _ h => h) (Or.inl ⟨by rfl, ?_⟩) (by assumption) ?_
      rotate_left
      · (intro w hSw; (try dsimp only at hSw); go_simp; try (with_reducible rfl))
      try simp only [Act.put, List.setIfInBounds_toArray, List.set_cons_zero, List.set_cons_succ]
      refine wpAnyH_take (i := 6) (oi := { dst := some 22, op := Op.indexAddr 58 (Operand.tmp 20) (Operand.tmp 21), type := 0, pos := "slices.go:25", after := #[{ on := 4, ground := Ground.data }, { on := 5, ground := Ground.data }], guard := none }) (v := ?_) rfl (by kernel_rfl) (by kernel_rfl) (by kernel_rfl) (fun _ _ _ h => h) (Or.inl ⟨by rfl, ?_⟩) (by assumption) ?_
      rotate_left
      · (intro w hSw; (try dsimp only at hSw); go_simp; try (with_reducible rfl))
      try simp only [Act.put, List.setIfInBounds_toArray, List.set_cons_zero, List.set_cons_succ]
      refine wpAnyH_take (i := 7) (oi := { dst := some 23, op := Op.load 63 (Operand.tmp 22), type := 63, pos := "slices.go:25", after := #[{ on := 6, ground := Ground.data }], guard := none }) (v := ?_) rfl (by kernel_rfl) (by kernel_rfl) (by kernel_rfl) (fun _ _ _ h => h) (Or.inl ⟨by rfl, ?_⟩) (by assumption) ?_
      rotate_left
      · (intro w hSw; (try dsimp only at hSw); go_simp; try (with_reducible rfl))
      try simp only [Act.put, List.setIfInBounds_toArray, List.set_cons_zero, List.set_cons_succ]
      refine wpAnyH_take (i := 8) (oi := { dst := some 24, op := Op.binOp BinOp.neq 63 (Operand.tmp 19) (Operand.tmp 23) 63, type := 4, pos := "slices.go:25", after := #[{ on := 3, ground := Ground.data }, { on := 7, ground := Ground.data }], guard := none }) (v := ?_) rfl (by kernel_rfl) (by kernel_rfl) (by kernel_rfl) (fun _ _ _ h => h) (Or.inl ⟨by rfl, ?_⟩) (by assumption) ?_
      rotate_left
      · (intro w hSw; (try dsimp only at hSw); go_simp; try (with_reducible rfl))
      try simp only [Act.put, List.setIfInBounds_toArray, List.set_cons_zero, List.set_cons_succ]
      refine wpAnyH_done (by kernel_rfl) ?_ _
      refine NoPanic.normal ?_
      go_wp2_with fail
      go_roundw
      case rel => exact ⟨k + 1, by omega, by go_num, mr.drew⟩
      case measure => simp [intOf]; omega
    · have hkn' : ¬ (k : Int) < (n : Int) := by omega
      go_wp2_with fail
      go_ret
      exact ⟨rfl, mr⟩

set_option maxRecDepth 100000 in
theorem oequal_len (w : World) (ad ae : Option Addr) (n m cap cae : Nat) (h : n ≠ m) :
    Calls Try.prog 45 #[.slice ad n cap, .slice ae m cae] w fun e w' => e = .returned (.bool false) ∧ w = w' := by
  have h' : ¬ (n : Int) = (m : Int) := by omega
  go_enter Try.func45, Try.ntmps45
  go_wp2_with fail
  go_ret
  exact ⟨rfl, rfl⟩

set_option maxRecDepth 100000 in
set_option maxHeartbeats 8000000 in
theorem osame_yes (W W' w : World) (p q : Nat) (a b : Option Nat) (xs : List Pt) (hp : CaIs W w p a xs) (hq : CaIs W' w q b xs) (hl : xs.length ≤ 100000) :
    Calls Try.prog 17 #[.pointer (some ⟨p, 0, none⟩), .pointer (some ⟨q, 0, none⟩)] w fun e w' => e = .returned (.bool true) ∧ Moves [] w w' := by
  obtain ⟨v, hp, rfl, hG⟩ := hp
  obtain ⟨u, hq, rfl, hG'⟩ := hq
  have heq := fun w1 (m1 : Moves [] w w1) => oequal_w w w1 v u xs hG.at hG'.at m1 hl
  obtain ⟨ad, n, cap, rfl, hn, _⟩ := hG.open
  obtain ⟨ae, m, cae, rfl, hm, _⟩ := hG'.open
  obtain ⟨x1, _⟩ := one_cell hp
  obtain ⟨y1, _⟩ := one_cell hq
  clear hG hG' hp hq
  go_enter Try.func17, Try.ntmps17
  go_wp2_with fail
  refine wp_region_noPanic ?_
  refine wp_region_held_drew (S := (fun w' => w'.cell? ⟨p, 0, none⟩ = some (.slice ad n cap) ∧ w'.cell? ⟨q, 0, none⟩ = some (.slice ae m cae))) (by kernel_rfl) ?_ (fun hHeld => ?_)
  · first | (go_keep; done) | first | exact ⟨x1, y1⟩ | exact ⟨d1, d2⟩
  refine wpAnyH_take (i := 0) (oi := { dst := some 5, op := Op.move (Operand.tmp 0), type := 22, pos := "once.go:115", after := #[], guard := none }) (v := ?_) rfl (by kernel_rfl) (by kernel_rfl) (by kernel_rfl) (fun _ _ _ h => h) (Or.inl ⟨by rfl, ?_⟩) (by assumption) ?_
  rotate_left
  · (intro w hSw; (try dsimp only at hSw); go_simp; try (with_reducible rfl))
  try simp only [Act.put, List.setIfInBounds_toArray, List.set_cons_zero, List.set_cons_succ]
  refine wpAnyH_take (i := 1) (oi := { dst := some 6, op := Op.binOp BinOp.neq 22 (Operand.tmp 5) (Operand.const (Value.pointer none)) 22, type := 4, pos := "once.go:115", after := #[{ on := 0, ground := Ground.data }], guard := none }) (v := ?_) rfl (by kernel_rfl) (by kernel_rfl) (by kernel_rfl) (fun _ _ _ h => h) (Or.inl ⟨by rfl, ?_⟩) (by assumption) ?_
  rotate_left
  · (intro w hSw; (try dsimp only at hSw); go_simp; try (with_reducible rfl))
  try simp only [Act.put, List.setIfInBounds_toArray, List.set_cons_zero, List.set_cons_succ]
  refine wpAnyH_take (i := 2) (oi := { dst := some 7, op := Op.move (Operand.tmp 6), type := 4, pos := "once.go:115", after := #[{ on := 1, ground := Ground.data }], guard := none }) (v := ?_) rfl (by kernel_rfl) (by kernel_rfl) (by kernel_rfl) (fun _ _ _ h => h) (Or.inl ⟨by rfl, ?_⟩) (by assumption) ?_
  rotate_left
  · (intro w hSw; (try dsimp only at hSw); go_simp; try (with_reducible rfl))
  try simp only [Act.put, List.setIfInBounds_toArray, List.set_cons_zero, List.set_cons_succ]
  refine wpAnyH_take (i := 3) (oi := { dst := some 8, op := Op.move (Operand.tmp 1), type := 22, pos := "once.go:115", after := #[{ on := 2, ground := Ground.guard }], guard := some (2, true) }) (v := ?_) rfl (by kernel_rfl) (by kernel_rfl) (by kernel_rfl) (fun _ _ _ h => h) (Or.inl ⟨by rfl, ?_⟩) (by assumption) ?_
  rotate_left
  · (intro w hSw; (try dsimp only at hSw); go_simp; try (with_reducible rfl))
  try simp only [Act.put, List.setIfInBounds_toArray, List.set_cons_zero, List.set_cons_succ]
  refine wpAnyH_take (i := 4) (oi := { dst := some 9, op := Op.binOp BinOp.neq 22 (Operand.tmp 8) (Operand.const (Value.pointer none)) 22, type := 4, pos := "once.go:115", after := #[{ on := 3, ground := Ground.data }, { on := 2, ground := Ground.guard }], guard := some (2, true) }) (v := ?_) rfl (by kernel_rfl) (by kernel_rfl) (by kernel_rfl) (fun _ _ _ h => h) (Or.inl ⟨by rfl, ?_⟩) (by assumption) ?_
  rotate_left
  · (intro w hSw; (try dsimp only at hSw); go_simp; try (with_reducible rfl))
  try simp only [Act.put, List.setIfInBounds_toArray, List.set_cons_zero, List.set_cons_succ]
  refine wpAnyH_take (i := 5) (oi := { dst := some 10, op := Op.pick (Operand.tmp 7) (Operand.tmp 9) (Operand.const (Value.bool false)), type := 4, pos := "once.go:115", after := #[{ on := 2, ground := Ground.data }, { on := 4, ground := Ground.data }], guard := none }) (v := ?_) rfl (by kernel_rfl) (by kernel_rfl) (by kernel_rfl) (fun _ _ _ h => h) (Or.inl ⟨by rfl, ?_⟩) (by assumption) ?_
  rotate_left
  · (intro w hSw; (try dsimp only at hSw); go_simp; try (with_reducible rfl))
  try simp only [Act.put, List.setIfInBounds_toArray, List.set_cons_zero, List.set_cons_succ]
  refine wpAnyH_take (i := 6) (oi := { dst := some 11, op := Op.move (Operand.tmp 10), type := 4, pos := "once.go:115", after := #[{ on := 5, ground := Ground.data }, { on := 2, ground := Ground.chain }], guard := none }) (v := ?_) rfl (by kernel_rfl) (by kernel_rfl) (by kernel_rfl) (fun _ _ _ h => h) (Or.inl ⟨by rfl, ?_⟩) (by assumption) ?_
  rotate_left
  · (intro w hSw; (try dsimp only at hSw); go_simp; try (with_reducible rfl))
  try simp only [Act.put, List.setIfInBounds_toArray, List.set_cons_zero, List.set_cons_succ]
  refine wpAnyH_take (i := 7) (oi := { dst := some 12, op := Op.move (Operand.tmp 0), type := 22, pos := "once.go:115", after := #[{ on := 6, ground := Ground.guard }], guard := some (6, true) }) (v := ?_) rfl (by kernel_rfl) (by kernel_rfl) (by kernel_rfl) (fun _ _ _ h => h) (Or.inl ⟨by rfl, ?_⟩) (by assumption) ?_
  rotate_left
  · (intro w hSw; (try dsimp only at hSw); go_simp; try (with_reducible rfl))
  try simp only [Act.put, List.setIfInBounds_toArray, List.set_cons_zero, List.set_cons_succ]
  refine wpAnyH_take (i := 8) (oi := { dst := some 13, op := Op.nilCheck (Operand.tmp 12), type := 0, pos := "once.go:115", after := #[{ on := 7, ground := Ground.data }, { on := 6, ground := Ground.guard }], guard := some (6, true) }) (v := ?_) rfl (by kernel_rfl) (by kernel_rfl) (by kernel_rfl) (fun _ _ _ h => h) (Or.inl ⟨by rfl, ?_⟩) (by assumption) ?_
  rotate_left
  · (intro w hSw; (try dsimp only at hSw); go_simp; try (with_reducible rfl))
  try simp only [Act.put, List.setIfInBounds_toArray, List.set_cons_zero, List.set_cons_succ]
  refine wpAnyH_take (i := 9) (oi := { dst := some 14, op := Op.fieldAddr 60 (Operand.tmp 13) 0, type := 0, pos := "once.go:115", after := #[{ on := 8, ground := Ground.data }, { on := 6, ground := Ground.guard }], guard := some (6, true) }) (v := ?_) rfl (by kernel_rfl) (by kernel_rfl) (by kernel_rfl) (fun _ _ _ h => h) (Or.inl ⟨by rfl, ?_⟩) (by assumption) ?_
  rotate_left
  · (intro w hSw; (try dsimp only at hSw); go_simp; try (with_reducible rfl))
  try simp only [Act.put, List.setIfInBounds_toArray, List.set_cons_zero, List.set_cons_succ]
  refine wpAnyH_take (i := 10) (oi := { dst := some 15, op := Op.load 58 (Operand.tmp 14), type := 58, pos := "once.go:115", after := #[{ on := 9, ground := Ground.data }, { on := 6, ground := Ground.guard }], guard := some (6, true) }) (v := ?_) rfl (by kernel_rfl) (by kernel_rfl) (by kernel_rfl) (fun _ _ _ h => h) (Or.inl ⟨by rfl, ?_⟩) (by assumption) ?_
  rotate_left
  · (intro w hSw; (try dsimp only at hSw); go_simp; try (with_reducible rfl))
  try simp only [Act.put, List.setIfInBounds_toArray, List.set_cons_zero, List.set_cons_succ]
  refine wpAnyH_take (i := 11) (oi := { dst := some 16, op := Op.move (Operand.tmp 1), type := 22, pos := "once.go:115", after := #[{ on := 6, ground := Ground.guard }], guard := some (6, true) }) (v := ?_) rfl (by kernel_rfl) (by kernel_rfl) (by kernel_rfl) (fun _ _ _ h => h) (Or.inl ⟨by rfl, ?_⟩) (by assumption) ?_
  rotate_left
  · (intro w hSw; (try dsimp only at hSw); go_simp; try (with_reducible rfl))
  try simp only [Act.put, List.setIfInBounds_toArray, List.set_cons_zero, List.set_cons_succ]
  refine wpAnyH_take (i := 12) (oi := { dst := some 17, op := Op.nilCheck (Operand.tmp 16), type := 0, pos := "once.go:115", after := #[{ on := 11, ground := Ground.data }, { on := 6, ground := Ground.guard }], guard := some (6, true) }) (v := ?_) rfl (by kernel_rfl) (by kernel_rfl) (by kernel_rfl) (fun _ _ _ h => h) (Or.inl ⟨by rfl, ?_⟩) (by assumption) ?_
  rotate_left
  · (intro w hSw; (try dsimp only at hSw); go_simp; try (with_reducible rfl))
  try simp only [Act.put, List.setIfInBounds_toArray, List.set_cons_zero, List.set_cons_succ]
  refine wpAnyH_take (i := 13) (oi := { dst := some 18, op := Op.fieldAddr 60 (Operand.tmp 17) 0, type := 0, pos := "once.go:115", after := #[{ on := 12, ground := Ground.data }, { on := 6, ground := Ground.guard }], guard := some (6, true) }) (v := ?_) rfl (by kernel_rfl) (by kernel_rfl) (by kernel_rfl) (fun _ _ _ h => h) (Or.inl ⟨by rfl, ?_⟩) (by assumption) ?_
  rotate_left
  · (intro w hSw; (try dsimp only at hSw); go_simp; try (with_reducible rfl))
  try simp only [Act.put, List.setIfInBounds_toArray, List.set_cons_zero, List.set_cons_succ]
  refine wpAnyH_take (i := 14) (oi := { dst := some 19, op := Op.load 58 (Operand.tmp 18), type := 58, pos := "once.go:115", after := #[{ on := 13, ground := Ground.data }, { on := 6, ground := Ground.guard }], guard := some (6, true) }) (v := ?_) rfl (by kernel_rfl) (by kernel_rfl) (by kernel_rfl) (fun _ _ _ h => h) (Or.inl ⟨by rfl, ?_⟩) (by assumption) ?_
  rotate_left
  · (intro w hSw; (try dsimp only at hSw); go_simp; try (with_reducible rfl))
  try simp only [Act.put, List.setIfInBounds_toArray, List.set_cons_zero, List.set_cons_succ]
  refine wpAnyH_ready (rs := [15]) (by kernel_rfl) (by simp) ?_
  refine AllReadyH.cons (o := { dst := some 20, op := Op.call { callee := Callee.value (Operand.func 45), args := #[Operand.tmp 15, Operand.tmp 19], argTypes := #[58, 58] }, type := 4, pos := "once.go:115", after := #[{ on := 10, ground := Ground.data }, { on := 14, ground := Ground.data }, { on := 6, ground := Ground.chain }, { on := 6, ground := Ground.guard }], guard := some (6, true) }) rfl (fun K hK => ?_) AllReadyH.nil
  go_simp
  (go_at_call 45; refine (heq _ (Moves.refl [] w).drew).mono ?_; rintro _ w5 ⟨rfl, m5⟩)
  have M5 : Moves [] w w5 := (Moves.refl [] w).drew.then m5
  have d1 := M5.cell x1
  have d2 := M5.cell y1
  refine hK.out _ _ ?_ (fun hHeld => ?_)
  · first | exact ⟨x1, y1⟩ | exact ⟨d1, d2⟩
  clear hK K
  try simp only [Act.put, List.setIfInBounds_toArray, List.set_cons_zero, List.set_cons_succ]
  refine wpAnyH_take (i := 16) (oi := { dst := some 21, op := Op.pick (Operand.tmp 11) (Operand.tmp 20) (Operand.const (Value.bool false)), type := 4, pos := "once.go:115", after := #[{ on := 6, ground := Ground.data }, { on := 15, ground := Ground.data }], guard := none }) (v := ?_) rfl (by kernel_rfl) (by kernel_rfl) (by kernel_rfl) (fun _ _ _ h => h) (Or.inl ⟨by rfl, ?_⟩) (by assumption) ?_
  rotate_left
  · (intro w hSw; (try dsimp only at hSw); go_simp; try (with_reducible rfl))
  try simp only [Act.put, List.setIfInBounds_toArray, List.set_cons_zero, List.set_cons_succ]
  refine wpAnyH_take (i := 17) (oi := { dst := some 4, op := Op.assign (Operand.tmp 21), type := 4, pos := "once.go:115", after := #[{ on := 16, ground := Ground.data }, { on := 15, ground := Ground.chain }, { on := 0, ground := Ground.phase }, { on := 1, ground := Ground.phase }, { on := 2, ground := Ground.phase }, { on := 3, ground := Ground.phase }, { on := 4, ground := Ground.phase }, { on := 5, ground := Ground.phase }, { on := 6, ground := Ground.phase }, { on := 7, ground := Ground.phase }, { on := 8, ground := Ground.phase }, { on := 9, ground := Ground.phase }, { on := 10, ground := Ground.phase }, { on := 11, ground := Ground.phase }, { on := 12, ground := Ground.phase }, { on := 13, ground := Ground.phase }, { on := 14, ground := Ground.phase }, { on := 15, ground := Ground.phase }, { on := 16, ground := Ground.phase }], guard := none }) (v := ?_) rfl (by kernel_rfl) (by kernel_rfl) (by kernel_rfl) (fun _ _ _ h => h) (Or.inl ⟨by rfl, ?_⟩) (by assumption) ?_
  rotate_left
  · (intro w hSw; (try dsimp only at hSw); go_simp; try (with_reducible rfl))
  try simp only [Act.put, List.setIfInBounds_toArray, List.set_cons_zero, List.set_cons_succ]
  refine wpAnyH_done (by kernel_rfl) ?_ _
  refine NoPanic.normal ?_
  go_wp2_with fail
  go_ret
  exact ⟨rfl, M5⟩

set_option maxRecDepth 100000 in
set_option maxHeartbeats 8000000 in
theorem osame_len (W W' w : World) (p q : Nat) (a b : Option Nat) (xs ys : List Pt) (hp : CaIs W w p a xs) (hq : CaIs W' w q b ys) (hl : xs.length ≠ ys.length) :
    Calls Try.prog 17 #[.pointer (some ⟨p, 0, none⟩), .pointer (some ⟨q, 0, none⟩)] w fun e w' => e = .returned (.bool false) ∧ Moves [] w w' := by
  obtain ⟨v, hp, rfl, hG⟩ := hp
  obtain ⟨u, hq, rfl, hG'⟩ := hq
  obtain ⟨ad, n, cap, rfl, hn, _⟩ := hG.open
  obtain ⟨ae, m, cae, rfl, hm, _⟩ := hG'.open
  have heq := fun w1 => oequal_len w1 ad ae n m cap cae (by have := hn.out; have := hm.out; omega)
  obtain ⟨x1, _⟩ := one_cell hp
  obtain ⟨y1, _⟩ := one_cell hq
  clear hG hG' hp hq
  go_enter Try.func17, Try.ntmps17
  go_wp2_with fail
  refine wp_region_noPanic ?_
  refine wp_region_held_drew (S := (fun w' => w'.cell? ⟨p, 0, none⟩ = some (.slice ad n cap) ∧ w'.cell? ⟨q, 0, none⟩ = some (.slice ae m cae))) (by kernel_rfl) ?_ (fun hHeld => ?_)
  · first | (go_keep; done) | exact ⟨x1, y1⟩
  refine wpAnyH_take (i := 0) (oi := { dst := some 5, op := Op.move (Operand.tmp 0), type := 22, pos := "once.go:115", after := #[], guard := none }) (v := ?_) rfl (by kernel_rfl) (by kernel_rfl) (by kernel_rfl) (fun _ _ _ h => h) (Or.inl ⟨by rfl, ?_⟩) (by assumption) ?_
  rotate_left
  · (intro w hSw; (try dsimp only at hSw); go_simp; try (with_reducible rfl))
  try simp only [Act.put, List.setIfInBounds_toArray, List.set_cons_zero, List.set_cons_succ]
  refine wpAnyH_take (i := 1) (oi := { dst := some 6, op := Op.binOp BinOp.neq 22 (Operand.tmp 5) (Operand.const (Value.pointer none)) 22, type := 4, pos := "once.go:115", after := #[{ on := 0, ground := Ground.data }], guard := none }) (v := ?_) rfl (by kernel_rfl) (by kernel_rfl) (by kernel_rfl) (fun _ _ _ h => h) (Or.inl ⟨by rfl, ?_⟩) (by assumption) ?_
  rotate_left
  · (intro w hSw; (try dsimp only at hSw); go_simp; try (with_reducible rfl))
  try simp only [Act.put, List.setIfInBounds_toArray, List.set_cons_zero, List.set_cons_succ]
  refine wpAnyH_take (i := 2) (oi := { dst := some 7, op := Op.move (Operand.tmp 6), type := 4, pos := "once.go:115", after := #[{ on := 1, ground := Ground.data }], guard := none }) (v := ?_) rfl (by kernel_rfl) (by kernel_rfl) (by kernel_rfl) (fun _ _ _ h => h) (Or.inl ⟨by rfl, ?_⟩) (by assumption) ?_
  rotate_left
  · (intro w hSw; (try dsimp only at hSw); go_simp; try (with_reducible rfl))
  try simp only [Act.put, List.setIfInBounds_toArray, List.set_cons_zero, List.set_cons_succ]
  refine wpAnyH_take (i := 3) (oi := { dst := some 8, op := Op.move (Operand.tmp 1), type := 22, pos := "once.go:115", after := #[{ on := 2, ground := Ground.guard }], guard := some (2, true) }) (v := ?_) rfl (by kernel_rfl) (by kernel_rfl) (by kernel_rfl) (fun _ _ _ h => h) (Or.inl ⟨by rfl, ?_⟩) (by assumption) ?_
  rotate_left
  · (intro w hSw; (try dsimp only at hSw); go_simp; try (with_reducible rfl))
  try simp only [Act.put, List.setIfInBounds_toArray, List.set_cons_zero, List.set_cons_succ]
  refine wpAnyH_take (i := 4) (oi := { dst := some 9, op := Op.binOp BinOp.neq 22 (Operand.tmp 8) (Operand.const (Value.pointer none)) 22, type := 4, pos := "once.go:115", after := #[{ on := 3, ground := Ground.data }, { on := 2, ground := Ground.guard }], guard := some (2, true) }) (v := ?_) rfl (by kernel_rfl) (by kernel_rfl) (by kernel_rfl) (fun _ _ _ h => h) (Or.inl ⟨by rfl, ?_⟩) (by assumption) ?_
  rotate_left
  · (intro w hSw; (try dsimp only at hSw); go_simp; try (with_reducible rfl))
  try simp only [Act.put, List.setIfInBounds_toArray, List.set_cons_zero, List.set_cons_succ]
  refine wpAnyH_take (i := 5) (oi := { dst := some 10, op := Op.pick (Operand.tmp 7) (Operand.tmp 9) (Operand.const (Value.bool false)), type := 4, pos := "once.go:115", after := #[{ on := 2, ground := Ground.data }, { on := 4, ground := Ground.data }], guard := none }) (v := ?_) rfl (by kernel_rfl) (by kernel_rfl) (by kernel_rfl) (fun _ _ _ h => h) (Or.inl ⟨by rfl, ?_⟩) (by assumption) ?_
  rotate_left
  · (intro w hSw; (try dsimp only at hSw); go_simp; try (with_reducible rfl))
  try simp only [Act.put, List.setIfInBounds_toArray, List.set_cons_zero, List.set_cons_succ]
  refine wpAnyH_take (i := 6) (oi := { dst := some 11, op := Op.move (Operand.tmp 10), type := 4, pos := "once.go:115", after := #[{ on := 5, ground := Ground.data }, { on := 2, ground := Ground.chain }], guard := none }) (v := ?_) rfl (by kernel_rfl) (by kernel_rfl) (by kernel_rfl) (fun _ _ _ h => h) (Or.inl ⟨by rfl, ?_⟩) (by assumption) ?_
  rotate_left
  · (intro w hSw; (try dsimp only at hSw); go_simp; try (with_reducible rfl))
  try simp only [Act.put, List.setIfInBounds_toArray, List.set_cons_zero, List.set_cons_succ]
  refine wpAnyH_take (i := 7) (oi := { dst := some 12, op := Op.move (Operand.tmp 0), type := 22, pos := "once.go:115", after := #[{ on := 6, ground := Ground.guard }], guard := some (6, true) }) (v := ?_) rfl (by kernel_rfl) (by kernel_rfl) (by kernel_rfl) (fun _ _ _ h => h) (Or.inl ⟨by rfl, ?_⟩) (by assumption) ?_
  rotate_left
  · (intro w hSw; (try dsimp only at hSw); go_simp; try (with_reducible rfl))
  try simp only [Act.put, List.setIfInBounds_toArray, List.set_cons_zero, List.set_cons_succ]
  refine wpAnyH_take (i := 8) (oi := { dst := some 13, op := Op.nilCheck (Operand.tmp 12), type := 0, pos := "once.go:115", after := #[{ on := 7, ground := Ground.data }, { on := 6, ground := Ground.guard }], guard := some (6, true) }) (v := ?_) rfl (by kernel_rfl) (by kernel_rfl) (by kernel_rfl) (fun _ _ _ h => h) (Or.inl ⟨by rfl, ?_⟩) (by assumption) ?_
  rotate_left
  · (intro w hSw; (try dsimp only at hSw); go_simp; try (with_reducible rfl))
  try simp only [Act.put, List.setIfInBounds_toArray, List.set_cons_zero, List.set_cons_succ]
  refine wpAnyH_take (i := 9) (oi := { dst := some 14, op := Op.fieldAddr 60 (Operand.tmp 13) 0, type := 0, pos := "once.go:115", after := #[{ on := 8, ground := Ground.data }, { on := 6, ground := Ground.guard }], guard := some (6, true) }) (v := ?_) rfl (by kernel_rfl) (by kernel_rfl) (by kernel_rfl) (fun _ _ _ h => h) (Or.inl ⟨by rfl, ?_⟩) (by assumption) ?_
  rotate_left
  · (intro w hSw; (try dsimp only at hSw); go_simp; try (with_reducible rfl))
  try simp only [Act.put, List.setIfInBounds_toArray, List.set_cons_zero, List.set_cons_succ]
  refine wpAnyH_take (i := 10) (oi := { dst := some 15, op := Op.load 58 (Operand.tmp 14), type := 58, pos := "once.go:115", after := #[{ on := 9, ground := Ground.data }, { on := 6, ground := Ground.guard }], guard := some (6, true) }) (v := ?_) rfl (by kernel_rfl) (by kernel_rfl) (by kernel_rfl) (fun _ _ _ h => h) (Or.inl ⟨by rfl, ?_⟩) (by assumption) ?_
  rotate_left
  · (intro w hSw; (try dsimp only at hSw); go_simp; try (with_reducible rfl))
  try simp only [Act.put, List.setIfInBounds_toArray, List.set_cons_zero, List.set_cons_succ]
  refine wpAnyH_take (i := 11) (oi := { dst := some 16, op := Op.move (Operand.tmp 1), type := 22, pos := "once.go:115", after := #[{ on := 6, ground := Ground.guard }], guard := some (6, true) }) (v := ?_) rfl (by kernel_rfl) (by kernel_rfl) (by kernel_rfl) (fun _ _ _ h => h) (Or.inl ⟨by rfl, ?_⟩) (by assumption) ?_
  rotate_left
  · (intro w hSw; (try dsimp only at hSw); go_simp; try (with_reducible rfl))
  try simp only [Act.put, List.setIfInBounds_toArray, List.set_cons_zero, List.set_cons_succ]
  refine wpAnyH_take (i := 12) (oi := { dst := some 17, op := Op.nilCheck (Operand.tmp 16), type := 0, pos := "once.go:115", after := #[{ on := 11, ground := Ground.data }, { on := 6, ground := Ground.guard }], guard := some (6, true) }) (v := ?_) rfl (by kernel_rfl) (by kernel_rfl) (by kernel_rfl) (fun _ _ _ h => h) (Or.inl ⟨by rfl, ?_⟩) (by assumption) ?_
  rotate_left
  · (intro w hSw; (try dsimp only at hSw); go_simp; try (with_reducible rfl))
  try simp only [Act.put, List.setIfInBounds_toArray, List.set_cons_zero, List.set_cons_succ]
  refine wpAnyH_take (i := 13) (oi := { dst := some 18, op := Op.fieldAddr 60 (Operand.tmp 17) 0, type := 0, pos := "once.go:115", after := #[{ on := 12, ground := Ground.data }, { on := 6, ground := Ground.guard }], guard := some (6, true) }) (v := ?_) rfl (by kernel_rfl) (by kernel_rfl) (by kernel_rfl) (fun _ _ _ h => h) (Or.inl ⟨by rfl, ?_⟩) (by assumption) ?_
  rotate_left
  · (intro w hSw; (try dsimp only at hSw); go_simp; try (with_reducible rfl))
  try simp only [Act.put, List.setIfInBounds_toArray, List.set_cons_zero, List.set_cons_succ]
  refine wpAnyH_take (i := 14) (oi := { dst := some 19, op := Op.load 58 (Operand.tmp 18), type := 58, pos := "once.go:115", after := #[{ on := 13, ground := Ground.data }, { on := 6, ground := Ground.guard }], guard := some (6, true) }) (v := ?_) rfl (by kernel_rfl) (by kernel_rfl) (by kernel_rfl) (fun _ _ _ h => h) (Or.inl ⟨by rfl, ?_⟩) (by assumption) ?_
  rotate_left
  · (intro w hSw; (try dsimp only at hSw); go_simp; try (with_reducible rfl))
  try simp only [Act.put, List.setIfInBounds_toArray, List.set_cons_zero, List.set_cons_succ]
  refine wpAnyH_ready (rs := [15]) (by kernel_rfl) (by simp) ?_
  refine AllReadyH.cons (o := { dst := some 20, op := Op.call { callee := Callee.value (Operand.func 45), args := #[Operand.tmp 15, Operand.tmp 19], argTypes := #[58, 58] }, type := 4, pos := "once.go:115", after := #[{ on := 10, ground := Ground.data }, { on := 14, ground := Ground.data }, { on := 6, ground := Ground.chain }, { on := 6, ground := Ground.guard }], guard := some (6, true) }) rfl (fun K hK => ?_) AllReadyH.nil
  go_simp
  (go_at_call 45; refine (heq _).mono ?_; rintro _ _ ⟨rfl, rfl⟩)
  refine hK.out _ _ ?_ (fun hHeld => ?_)
  · exact ⟨x1, y1⟩
  clear hK K
  try simp only [Act.put, List.setIfInBounds_toArray, List.set_cons_zero, List.set_cons_succ]
  refine wpAnyH_take (i := 16) (oi := { dst := some 21, op := Op.pick (Operand.tmp 11) (Operand.tmp 20) (Operand.const (Value.bool false)), type := 4, pos := "once.go:115", after := #[{ on := 6, ground := Ground.data }, { on := 15, ground := Ground.data }], guard := none }) (v := ?_) rfl (by kernel_rfl) (by kernel_rfl) (by kernel_rfl) (fun _ _ _ h => h) (Or.inl ⟨by rfl, ?_⟩) (by assumption) ?_
  rotate_left
  · (intro w hSw; (try dsimp only at hSw); go_simp; try (with_reducible rfl))
  try simp only [Act.put, List.setIfInBounds_toArray, List.set_cons_zero, List.set_cons_succ]
  refine wpAnyH_take (i := 17) (oi := { dst := some 4, op := Op.assign (Operand.tmp 21), type := 4, pos := "once.go:115", after := #[{ on := 16, ground := Ground.data }, { on := 15, ground := Ground.chain }, { on := 0, ground := Ground.phase }, { on := 1, ground := Ground.phase }, { on := 2, ground := Ground.phase }, { on := 3, ground := Ground.phase }, { on := 4, ground := Ground.phase }, { on := 5, ground := Ground.phase }, { on := 6, ground := Ground.phase }, { on := 7, ground := Ground.phase }, { on := 8, ground := Ground.phase }, { on := 9, ground := Ground.phase }, { on := 10, ground := Ground.phase }, { on := 11, ground := Ground.phase }, { on := 12, ground := Ground.phase }, { on := 13, ground := Ground.phase }, { on := 14, ground := Ground.phase }, { on := 15, ground := Ground.phase }, { on := 16, ground := Ground.phase }], guard := none }) (v := ?_) rfl (by kernel_rfl) (by kernel_rfl) (by kernel_rfl) (fun _ _ _ h => h) (Or.inl ⟨by rfl, ?_⟩) (by assumption) ?_
  rotate_left
  · (intro w hSw; (try dsimp only at hSw); go_simp; try (with_reducible rfl))
  try simp only [Act.put, List.setIfInBounds_toArray, List.set_cons_zero, List.set_cons_succ]
  refine wpAnyH_done (by kernel_rfl) ?_ _
  refine NoPanic.normal ?_
  go_wp2_with fail
  go_ret
  exact ⟨rfl, (Moves.refl [] w).drew⟩

/-- A cache that may be nil. -/
def CaOr (W w : World) (v : Value) (xs : List Pt) : Prop := (v = .pointer none ∧ xs = []) ∨ ∃ p a, v = .pointer (some ⟨p, 0, none⟩) ∧ CaIs W w p a xs
theorem foldl_few (xs zs : List Pt) : (xs.foldl keepT zs).length ≤ zs.length + xs.length := by
  induction xs generalizing zs with
  | nil => simp
  | cons x xs ih =>
    have h1 := ih (keepT zs x)
    have h2 := keepT_length zs x
    simp only [List.foldl_cons, List.length_cons]
    omega
theorem foldl_rise (xs : List Pt) : ∀ zs, RiseT zs → RiseT (xs.foldl keepT zs) := by
  induction xs with
  | nil => intro zs h; exact h
  | cons x xs ih => intro zs h; exact ih _ (keepT_rise h x)
theorem foldl_step {L : List Pt} {j : Nat} {x : Pt} (h : L[j]? = some x) (zs : List Pt) : (L.take (j + 1)).foldl keepT zs = keepT ((L.take j).foldl keepT zs) x := by
  rw [List.take_add_one, h]
  simp [List.foldl_append]

set_option maxRecDepth 100000 in
set_option maxHeartbeats 16000000 in
theorem ojoin_w (W w : World) (va vb : Value) (xs ys : List Pt) (ha : CaOr W w va xs) (hb : CaOr W w vb ys) (hs1 : ∀ x ∈ xs, 1 ≤ x.s) (hs2 : ∀ x ∈ ys, 1 ≤ x.s) (hl : xs.length + ys.length ≤ 900) :
    Calls Try.prog 20 #[va, vb] w fun e w' => e = .returned (.pointer (some ⟨w.heap.size, 0, none⟩)) ∧ (∃ a', CaIs w w' w.heap.size a' (ys.foldl keepT (xs.foldl keepT []))) ∧ Moves [] w w' := by
  have hva : ∃ pa, va = .pointer pa := by
    rcases ha with ⟨e, _⟩ | ⟨p, a, e, _⟩
    · exact ⟨_, e⟩
    · exact ⟨_, e⟩
  have hvb : ∃ pb, vb = .pointer pb := by
    rcases hb with ⟨e, _⟩ | ⟨p, a, e, _⟩
    · exact ⟨_, e⟩
    · exact ⟨_, e⟩
  obtain ⟨pa, rfl⟩ := hva
  obtain ⟨pb, rfl⟩ := hvb
  have HA : Hid (CaOr W w (.pointer pa) xs) := ha
  have HB : Hid (CaOr W w (.pointer pb) ys) := hb
  clear ha hb
  go_enter Try.func20, Try.ntmps20
  go_wp2_with fail
  refine (onew_w w).mono ?_
  rintro _ w1 ⟨rfl, h1, m1⟩
  obtain ⟨R, hR⟩ : ∃ R, w.heap.size = R := ⟨_, rfl⟩
  rw [hR] at h1 ⊢
  have hR0 : w.heap.size ≤ R := by omega
  have hb2 := heap_alloc_new w1 (.cells #[.pointer pa, .pointer pb] 22)
  have m2 : Moves [] w1 (w1.alloc (.cells #[.pointer pa, .pointer pb] 22)) := (Moves.refl _ _).alloc _
  obtain ⟨G, hG⟩ : ∃ G, w1.heap.size = G := ⟨_, rfl⟩
  rw [hG] at hb2
  have hRG : R < G := by have := h1.ltp; omega
  obtain ⟨W2, hW2⟩ : ∃ W2, w1.alloc (.cells #[.pointer pa, .pointer pb] 22) = W2 := ⟨_, rfl⟩
  rw [hW2] at hb2 m2
  have h2 := h1.moves0 m2
  have M2 := m1.then m2
  go_wp2_with fail
  clear h1 m1 m2 hW2 hG
  go_loopw [15] (fun iv wr => ∃ (k : Nat) (a : Option Nat) (zs : List Pt), k ≤ 2 ∧ iv = .int .i64 (k : Int) ∧ CaIs w wr R a zs ∧ zs = (if k = 0 then [] else if k = 1 then xs.foldl keepT [] else ys.foldl keepT (xs.foldl keepT [])) ∧ Moves [] w wr ∧ wr.heap[G]? = some (.cells #[.pointer pa, .pointer pb] 22 (0, 0))) (fun iv _ => (2 - intOf iv).toNat)
  case atStart => exact ⟨0, none, [], by omega, rfl, h2, rfl, M2, hb2⟩
  case round =>
    obtain ⟨k, a, zs, hk, rfl, hca, hzs, mr, hg⟩ := hrel
    clear h2 hb2 M2
    by_cases hk2 : k < 2
    · have hk2' : (k : Int) < 2 := by omega
      obtain ⟨pv, L, hc, hO, hs, hfold, hLl, hzr⟩ : ∃ pv L, wr.cell? ⟨G, k, none⟩ = some (.pointer pv) ∧ CaOr W w (.pointer pv) L ∧ (∀ x ∈ L, 1 ≤ x.s) ∧ L.foldl keepT zs = (if k + 1 = 0 then [] else if k + 1 = 1 then xs.foldl keepT [] else ys.foldl keepT (xs.foldl keepT [])) ∧ zs.length + L.length ≤ 900 ∧ RiseT zs := by
        match k, hk2 with
        | 0, _ =>
          refine ⟨pa, xs, by simp [World.cell?, hg], HA.out, hs1, ?_, ?_, ?_⟩
          · rw [hzs]; simp
          · rw [hzs]; simp; omega
          · rw [hzs]; exact List.Pairwise.nil
        | 1, _ =>
          refine ⟨pb, ys, by simp [World.cell?, hg], HB.out, hs2, ?_, ?_, ?_⟩
          · rw [hzs]; simp
          · have := foldl_few xs []
            rw [hzs]; simp at this ⊢; omega
          · rw [hzs]; exact foldl_rise xs [] List.Pairwise.nil
      have HO : Hid (CaOr W w (.pointer pv) L) := hO
      have HF : Hid (L.foldl keepT zs = (if k + 1 = 0 then [] else if k + 1 = 1 then xs.foldl keepT [] else ys.foldl keepT (xs.foldl keepT []))) := hfold
      have HZR : Hid (RiseT zs) := hzr
      have HCA : Hid (CaIs w wr R a zs) := hca
      have HG : Hid (wr.heap[G]? = some (.cells #[.pointer pa, .pointer pb] 22 (0, 0))) := hg
      clear hO hfold hzr hzs hca hg
      rcases HO.out with ⟨e, hL⟩ | ⟨q, b, e, hq⟩
      · simp at e
        subst e
        subst hL
        go_wp2_with fail
        go_roundw
        case rel => exact ⟨k + 1, a, zs, by omega, by go_num, HCA.out, HF.out, mr, HG.out⟩
        case measure => simp [intOf]; omega
      · simp at e
        subst e
        obtain ⟨v, hqh, -, hGr⟩ := hq
        obtain ⟨ad, n, cap, rfl, hn, hcap⟩ := hGr.open
        obtain ⟨x1, -⟩ := one_cell (mr.at hqh (by simp))
        have HL : Hid (ToldsAt w (.slice ad n cap) L) := hGr.at
        have hnl : n ≤ 900 := by have := hn.out; omega
        obtain ⟨wo, hwo⟩ : ∃ wo, wr = wo := ⟨_, rfl⟩
        subst hwo
        clear hGr hqh
        go_wp2_with fail
        go_loopw [26] (fun iv wj => ∃ (j : Nat) (a' : Option Nat), j ≤ n ∧ iv = .int .i64 (j : Int) ∧ CaIs w wj R a' ((L.take j).foldl keepT zs) ∧ Moves [] w wj ∧ wj.heap[G]? = some (.cells #[.pointer pa, .pointer pb] 22 (0, 0))) (fun iv _ => (n - intOf iv).toNat)
        case atStart => exact ⟨0, a, Nat.zero_le _, rfl, by simpa using HCA.out, mr, HG.out⟩
        case round =>
          obtain ⟨j, a', hj, rfl, hcj, mj, hgj⟩ := hrel
          have HCJ : Hid (CaIs w wr R a' ((L.take j).foldl keepT zs)) := hcj
          have HGJ : Hid (wr.heap[G]? = some (.cells #[.pointer pa, .pointer pb] 22 (0, 0))) := hgj
          clear hcj hgj
          by_cases hjn : j < n
          · have hjn' : (j : Int) < (n : Int) := by omega
            obtain ⟨x, hx⟩ : ∃ x, L[j]? = some x := ⟨_, List.getElem?_eq_getElem (by have := hn.out; omega)⟩
            obtain ⟨g, off, rfl, y0, y1, y2⟩ := HL.out.at hx
            have z0 := mj.cell y0
            have z1 := mj.cell y1
            have z2 := mj.cell y2
            have HX : Hid (L[j]? = some x) := hx
            have h1s : 1 ≤ x.s := hs x (List.mem_of_getElem? hx)
            have ma : Moves [] wr (wr.alloc (.cells #[.int .i64 x.c, .int .i64 x.s, .string x.a] 63)) := (Moves.refl [] _).alloc _
            have hfew : ((L.take j).foldl keepT zs).length ≤ 1000 := by
              have := foldl_few (L.take j) zs
              have := List.length_take_le j L
              have : (L.take j).length ≤ L.length := by rw [List.length_take]; omega
              omega
            have hput := oput_w w _ R a' _ x.c x.s x.a (HCJ.out.moves0 ma) (foldl_rise (L.take j) zs HZR.out) hfew h1s (mj.then ma).size
            clear hx y0 y1 y2 hfew
            go_wp2_with (go_at_call 32; refine hput.mono ?_; rintro _ w6 ⟨rfl, a6, hT6⟩)
            go_roundw
            case rel =>
              refine ⟨j + 1, a6, by omega, by go_num, ?_, ca_moves (HCJ.out.moves0 ma) hR0 (Nat.le_refl _) (mj.then ma) hT6, ?_⟩
              · rw [foldl_step HX.out]
                exact hT6.1
              · refine hT6.2.1.at (ma.at HGJ.out (by simp)) ?_
                intro hm
                rcases List.mem_cons.1 hm with e | e
                · omega
                · obtain ⟨v', _, hv', h3⟩ := HCJ.out
                  obtain ⟨cur, hc2⟩ := h3.blk (hv'.trans (Option.mem_toList.1 e))
                  rw [HGJ.out] at hc2
                  simp at hc2
            case measure => simp [intOf]; omega
          · have hjn' : ¬ (j : Int) < (n : Int) := by omega
            have HLT : Hid (L.take j = L) := List.take_of_length_le (by have := hn.out; omega)
            go_wp2_with fail
            go_roundw
            case rel => exact ⟨k + 1, a', _, by omega, by go_num, HCJ.out, by rw [HLT.out]; exact HF.out, mj, HGJ.out⟩
            case measure => simp [intOf]; omega
    · have hk2' : ¬ (k : Int) < 2 := by omega
      go_wp2_with fail
      go_ret
      refine ⟨rfl, ⟨a, ?_⟩, mr⟩
      have e : k = 2 := by omega
      subst e
      rw [hzs] at hca
      exact hca
end Go.Proofs.Ytoijkdknjbgebaa
