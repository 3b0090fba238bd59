/-
  The document's own Join of entries.
-/
import Derived.Test.YtoijkdknjbgebaaCOe1
namespace Go.Proofs.Ytoijkdknjbgebaa
open Go.RowKit

def keepEO (m : List Pt) (x : Pt) : List Pt := if mayK x.c x.s x.a.size then keepE m x else m
theorem keepE_one {m : List Pt} (h : OneT m) (x : Pt) : OneT (keepE m x) := by
  unfold keepE
  split
  · intro y hy z hz e
    rw [List.mem_append, List.mem_filter] at hy hz
    rcases hy with ⟨hy, hyc⟩ | hy <;> rcases hz with ⟨hz, hzc⟩ | hz
    · exact h y hy z hz e
    · simp at hz hyc
      subst hz
      exact absurd e hyc
    · simp at hy hzc
      subst hy
      exact absurd e.symm hzc
    · simp at hy hz
      rw [hy, hz]
  · exact h
theorem keepE_len (m : List Pt) (x : Pt) : (keepE m x).length ≤ m.length + 1 := by
  unfold keepE
  split
  · have := List.length_filter_le (fun y : Pt => decide (y.c ≠ x.c)) m
    simp only [List.length_append, List.length_singleton]
    omega
  · omega
theorem keepE_mem {m : List Pt} {x y : Pt} (h : y ∈ keepE m x) : y = x ∨ y ∈ m := by
  unfold keepE at h
  split at h
  · rw [List.mem_append, List.mem_filter] at h
    rcases h with h | h
    · exact .inr h.1
    · simp at h; exact .inl h
  · exact .inr h
theorem keepEO_one {m : List Pt} (h : OneT m) (x : Pt) : OneT (keepEO m x) := by
  unfold keepEO
  split
  · exact keepE_one h x
  · exact h
theorem keepEO_len (m : List Pt) (x : Pt) : (keepEO m x).length ≤ m.length + 1 := by
  unfold keepEO
  split
  · exact keepE_len m x
  · omega
theorem keepEO_mem {m : List Pt} {x y : Pt} (h : y ∈ keepEO m x) : y = x ∨ y ∈ m := by
  unfold keepEO at h
  split at h
  · exact keepE_mem h
  · exact .inr h
theorem foldE (ys : List Pt) : ∀ m : List Pt, OneT m → OneT (ys.foldl keepEO m) ∧ (ys.foldl keepEO m).length ≤ m.length + ys.length ∧ ∀ x ∈ ys.foldl keepEO m, x ∈ ys ∨ x ∈ m := by
  induction ys with
  | nil => intro m h; exact ⟨h, by simp, fun x hx => .inr hx⟩
  | cons y ys ih =>
    intro m h
    obtain ⟨k1, k2, k3⟩ := ih (keepEO m y) (keepEO_one h y)
    have := keepEO_len m y
    simp only [List.foldl_cons, List.length_cons]
    refine ⟨k1, by omega, fun x hx => ?_⟩
    rcases k3 x hx with h | h
    · exact .inl (by simp [h])
    · rcases keepEO_mem h with rfl | h
      · exact .inl (by simp)
      · exact .inr h
theorem foldE_step {L : List Pt} {j : Nat} {x : Pt} (h : L[j]? = some x) (zs : List Pt) : (L.take (j + 1)).foldl keepEO zs = keepEO ((L.take j).foldl keepEO zs) x := by
  rw [List.take_add_one, h]
  simp [List.foldl_append]

set_option maxRecDepth 100000 in
set_option maxHeartbeats 16000000 in
theorem reJoin_w (w : World) (va vb : Value) (xs ys : List Pt) (ha : EntsAt w va xs) (hb : EntsAt w vb ys) (h1 : OneT xs) (hsx : ∀ x ∈ xs, x.a.size ≤ 1048576) (hsy : ∀ x ∈ ys, x.a.size ≤ 1048576) (hl : xs.length + ys.length ≤ 1000) :
    Calls Try.prog 23 #[va, vb] w fun e w' => ∃ v', e = .returned v' ∧ EntsAt w' v' (ys.foldl keepEO xs) ∧ Moves [] w w' := by
  obtain ⟨ad, n, cap, rfl, hn, _⟩ := ha.open
  obtain ⟨ae, m, cae, rfl, hm, _⟩ := hb.open
  have HB : Hid (EntsAt w (.slice ae m cae) ys) := hb
  have ma : Moves [] w (w.alloc (.cells #[] 50)) := (Moves.refl [] w).alloc _
  have hy := ha.moves ma
  have hbd : ([] : List Pt).length + xs.length ≤ 1048576 := by simp; omega
  have hml : m ≤ 1000 := by have := hm.out; omega
  clear ha hb
  go_enter Try.func23, Try.ntmps23
  go_wp2_with (at_builtin; refine growE_append (W := w) (.tmp 7) (.tmp 8) rfl _ _ [] xs rfl rfl (by rfl) (growE_empty w w (Nat.le_refl _)) hy ma hbd ?_; intro v8 w8 hG8 mm8 m8 s8 l8; rw [List.nil_append] at hG8; have HE8 : Hid (EntsAt w8 v8 xs) := hG8.at; clear hG8)
  go_loopw [5, 6] (fun ov iv wr => ∃ k : Nat, k ≤ m ∧ iv = .int .i64 (k : Int) ∧ EntsAt wr ov ((ys.take k).foldl keepEO xs) ∧ Moves [] w wr) (fun _ iv _ => (m - intOf iv).toNat)
  case atStart => exact ⟨0, Nat.zero_le _, rfl, by simpa using HE8.out, mm8⟩
  case round =>
    obtain ⟨k, hk, rfl, hE, mr⟩ := hrel
    have HE : Hid (EntsAt wr _ ((ys.take k).foldl keepEO xs)) := hE
    obtain ⟨ao, no, co, rfl, -, -⟩ := hE.open
    clear hE HE8
    by_cases hkm : k < m
    · have hkm' : (k : Int) < (m : Int) := by omega
      obtain ⟨x, hx⟩ : ∃ x, ys[k]? = some x := ⟨_, List.getElem?_eq_getElem (by have := hm.out; omega)⟩
      obtain ⟨g, off, a2, n2, c2, rfl, y0, y1, y2, hC⟩ := HB.out.at hx
      have z0 := mr.cell y0
      have z1 := mr.cell y1
      have z2 := mr.cell y2
      obtain ⟨gx, hBx⟩ := hC.isB
      have HBx : Hid (IsB wr gx (.slice a2 n2 c2) (zbs x.a)) := hBx.moves mr (by simp)
      have HX : Hid (ys[k]? = some x) := hx
      clear y0 y1 y2 hx hC hBx
      go_wp2_with fail
      refine wp_region_noPanic ?_
      refine wp_region_held_drew (S := (fun w' => w'.cell? ⟨g, off + k * 3, none⟩ = some (.int .i64 x.c) ∧ w'.cell? ⟨g, off + k * 3 + 1, none⟩ = some (.int .i64 x.s) ∧ w'.cell? ⟨g, off + k * 3 + 2, none⟩ = some (.slice a2 n2 c2))) (by kernel_rfl) ?_ (fun hHeld => ?_)
      · first | (go_keep; done) | first | exact ⟨z0, z1, z2⟩ | exact ⟨d0, d1, d2⟩
      refine wpAnyH_take (i := 0) (oi := { dst := some 17, op := Op.move (Operand.tmp 5), type := 25, pos := "ref.go:51", after := #[], guard := none }) (v := ?_) rfl (by kernel_rfl) (by kernel_rfl) (by kernel_rfl) (fun _ _ _ h => h) (Or.inl ⟨by rfl, ?_⟩) (by assumption) ?_
      rotate_left
      · (intro w hSw; (try dsimp only at hSw); go_simp; try (with_reducible rfl))
      try simp only [Act.put, List.setIfInBounds_toArray, List.set_cons_zero, List.set_cons_succ]
      refine wpAnyH_take (i := 1) (oi := { dst := some 18, op := Op.move (Operand.tmp 1), type := 25, pos := "ref.go:51", after := #[], guard := none }) (v := ?_) rfl (by kernel_rfl) (by kernel_rfl) (by kernel_rfl) (fun _ _ _ h => h) (Or.inl ⟨by rfl, ?_⟩) (by assumption) ?_
      rotate_left
      · (intro w hSw; (try dsimp only at hSw); go_simp; try (with_reducible rfl))
      try simp only [Act.put, List.setIfInBounds_toArray, List.set_cons_zero, List.set_cons_succ]
      refine wpAnyH_take (i := 2) (oi := { dst := some 19, op := Op.move (Operand.tmp 6), type := 3, pos := "ref.go:51", after := #[], guard := none }) (v := ?_) rfl (by kernel_rfl) (by kernel_rfl) (by kernel_rfl) (fun _ _ _ h => h) (Or.inl ⟨by rfl, ?_⟩) (by assumption) ?_
      rotate_left
      · (intro w hSw; (try dsimp only at hSw); go_simp; try (with_reducible rfl))
      try simp only [Act.put, List.setIfInBounds_toArray, List.set_cons_zero, List.set_cons_succ]
      refine wpAnyH_take (i := 3) (oi := { dst := some 20, op := Op.indexAddr 25 (Operand.tmp 18) (Operand.tmp 19), type := 0, pos := "ref.go:51", after := #[{ on := 1, ground := Ground.data }, { on := 2, ground := Ground.data }], guard := none }) (v := ?_) rfl (by kernel_rfl) (by kernel_rfl) (by kernel_rfl) (fun _ _ _ h => h) (Or.inl ⟨by rfl, ?_⟩) (by assumption) ?_
      rotate_left
      · (intro w hSw; (try dsimp only at hSw); go_simp; try (with_reducible rfl))
      try simp only [Act.put, List.setIfInBounds_toArray, List.set_cons_zero, List.set_cons_succ]
      refine wpAnyH_take (i := 4) (oi := { dst := some 21, op := Op.fieldAddr 50 (Operand.tmp 20) 0, type := 0, pos := "ref.go:51", after := #[{ on := 3, ground := Ground.data }], guard := none }) (v := ?_) rfl (by kernel_rfl) (by kernel_rfl) (by kernel_rfl) (fun _ _ _ h => h) (Or.inl ⟨by rfl, ?_⟩) (by assumption) ?_
      rotate_left
      · (intro w hSw; (try dsimp only at hSw); go_simp; try (with_reducible rfl))
      try simp only [Act.put, List.setIfInBounds_toArray, List.set_cons_zero, List.set_cons_succ]
      refine wpAnyH_take (i := 5) (oi := { dst := some 22, op := Op.load 3 (Operand.tmp 21), type := 3, pos := "ref.go:51", after := #[{ on := 4, ground := Ground.data }], guard := none }) (v := ?_) rfl (by kernel_rfl) (by kernel_rfl) (by kernel_rfl) (fun _ _ _ h => h) (Or.inl ⟨by rfl, ?_⟩) (by assumption) ?_
      rotate_left
      · (intro w hSw; (try dsimp only at hSw); go_simp; try (with_reducible rfl))
      try simp only [Act.put, List.setIfInBounds_toArray, List.set_cons_zero, List.set_cons_succ]
      refine wpAnyH_take (i := 6) (oi := { dst := some 23, op := Op.move (Operand.tmp 1), type := 25, pos := "ref.go:51", after := #[], guard := none }) (v := ?_) rfl (by kernel_rfl) (by kernel_rfl) (by kernel_rfl) (fun _ _ _ h => h) (Or.inl ⟨by rfl, ?_⟩) (by assumption) ?_
      rotate_left
      · (intro w hSw; (try dsimp only at hSw); go_simp; try (with_reducible rfl))
      try simp only [Act.put, List.setIfInBounds_toArray, List.set_cons_zero, List.set_cons_succ]
      refine wpAnyH_take (i := 7) (oi := { dst := some 24, op := Op.move (Operand.tmp 6), type := 3, pos := "ref.go:51", after := #[], guard := none }) (v := ?_) rfl (by kernel_rfl) (by kernel_rfl) (by kernel_rfl) (fun _ _ _ h => h) (Or.inl ⟨by rfl, ?_⟩) (by assumption) ?_
      rotate_left
      · (intro w hSw; (try dsimp only at hSw); go_simp; try (with_reducible rfl))
      try simp only [Act.put, List.setIfInBounds_toArray, List.set_cons_zero, List.set_cons_succ]
      refine wpAnyH_take (i := 8) (oi := { dst := some 25, op := Op.indexAddr 25 (Operand.tmp 23) (Operand.tmp 24), type := 0, pos := "ref.go:51", after := #[{ on := 6, ground := Ground.data }, { on := 7, ground := Ground.data }], guard := none }) (v := ?_) rfl (by kernel_rfl) (by kernel_rfl) (by kernel_rfl) (fun _ _ _ h => h) (Or.inl ⟨by rfl, ?_⟩) (by assumption) ?_
      rotate_left
      · (intro w hSw; (try dsimp only at hSw); go_simp; try (with_reducible rfl))
      try simp only [Act.put, List.setIfInBounds_toArray, List.set_cons_zero, List.set_cons_succ]
      refine wpAnyH_take (i := 9) (oi := { dst := some 26, op := Op.fieldAddr 50 (Operand.tmp 25) 1, type := 0, pos := "ref.go:51", after := #[{ on := 8, ground := Ground.data }], guard := none }) (v := ?_) rfl (by kernel_rfl) (by kernel_rfl) (by kernel_rfl) (fun _ _ _ h => h) (Or.inl ⟨by rfl, ?_⟩) (by assumption) ?_
      rotate_left
      · (intro w hSw; (try dsimp only at hSw); go_simp; try (with_reducible rfl))
      try simp only [Act.put, List.setIfInBounds_toArray, List.set_cons_zero, List.set_cons_succ]
      refine wpAnyH_take (i := 10) (oi := { dst := some 27, op := Op.load 3 (Operand.tmp 26), type := 3, pos := "ref.go:51", after := #[{ on := 9, ground := Ground.data }], guard := none }) (v := ?_) rfl (by kernel_rfl) (by kernel_rfl) (by kernel_rfl) (fun _ _ _ h => h) (Or.inl ⟨by rfl, ?_⟩) (by assumption) ?_
      rotate_left
      · (intro w hSw; (try dsimp only at hSw); go_simp; try (with_reducible rfl))
      try simp only [Act.put, List.setIfInBounds_toArray, List.set_cons_zero, List.set_cons_succ]
      refine wpAnyH_take (i := 11) (oi := { dst := some 28, op := Op.move (Operand.tmp 1), type := 25, pos := "ref.go:51", after := #[], guard := none }) (v := ?_) rfl (by kernel_rfl) (by kernel_rfl) (by kernel_rfl) (fun _ _ _ h => h) (Or.inl ⟨by rfl, ?_⟩) (by assumption) ?_
      rotate_left
      · (intro w hSw; (try dsimp only at hSw); go_simp; try (with_reducible rfl))
      try simp only [Act.put, List.setIfInBounds_toArray, List.set_cons_zero, List.set_cons_succ]
      refine wpAnyH_take (i := 12) (oi := { dst := some 29, op := Op.move (Operand.tmp 6), type := 3, pos := "ref.go:51", after := #[], guard := none }) (v := ?_) rfl (by kernel_rfl) (by kernel_rfl) (by kernel_rfl) (fun _ _ _ h => h) (Or.inl ⟨by rfl, ?_⟩) (by assumption) ?_
      rotate_left
      · (intro w hSw; (try dsimp only at hSw); go_simp; try (with_reducible rfl))
      try simp only [Act.put, List.setIfInBounds_toArray, List.set_cons_zero, List.set_cons_succ]
      refine wpAnyH_take (i := 13) (oi := { dst := some 30, op := Op.indexAddr 25 (Operand.tmp 28) (Operand.tmp 29), type := 0, pos := "ref.go:51", after := #[{ on := 11, ground := Ground.data }, { on := 12, ground := Ground.data }], guard := none }) (v := ?_) rfl (by kernel_rfl) (by kernel_rfl) (by kernel_rfl) (fun _ _ _ h => h) (Or.inl ⟨by rfl, ?_⟩) (by assumption) ?_
      rotate_left
      · (intro w hSw; (try dsimp only at hSw); go_simp; try (with_reducible rfl))
      try simp only [Act.put, List.setIfInBounds_toArray, List.set_cons_zero, List.set_cons_succ]
      refine wpAnyH_take (i := 14) (oi := { dst := some 31, op := Op.fieldAddr 50 (Operand.tmp 30) 2, type := 0, pos := "ref.go:51", after := #[{ on := 13, ground := Ground.data }], guard := none }) (v := ?_) rfl (by kernel_rfl) (by kernel_rfl) (by kernel_rfl) (fun _ _ _ h => h) (Or.inl ⟨by rfl, ?_⟩) (by assumption) ?_
      rotate_left
      · (intro w hSw; (try dsimp only at hSw); go_simp; try (with_reducible rfl))
      try simp only [Act.put, List.setIfInBounds_toArray, List.set_cons_zero, List.set_cons_succ]
      refine wpAnyH_take (i := 15) (oi := { dst := some 32, op := Op.load 26 (Operand.tmp 31), type := 26, pos := "ref.go:51", after := #[{ on := 14, ground := Ground.data }], guard := none }) (v := ?_) rfl (by kernel_rfl) (by kernel_rfl) (by kernel_rfl) (fun _ _ _ h => h) (Or.inl ⟨by rfl, ?_⟩) (by assumption) ?_
      rotate_left
      · (intro w hSw; (try dsimp only at hSw); go_simp; try (with_reducible rfl))
      try simp only [Act.put, List.setIfInBounds_toArray, List.set_cons_zero, List.set_cons_succ]
      refine wpAnyH_ready (rs := [16]) (by kernel_rfl) (by simp) ?_
      refine AllReadyH.cons (o := { dst := some 33, op := Op.call { callee := Callee.value (Operand.func 10), args := #[Operand.tmp 17, Operand.tmp 22, Operand.tmp 27, Operand.tmp 32], argTypes := #[25, 3, 3, 26] }, type := 27, pos := "ref.go:51", after := #[{ on := 0, ground := Ground.data }, { on := 5, ground := Ground.data }, { on := 10, ground := Ground.data }, { on := 15, ground := Ground.data }], guard := none }) rfl (fun K hK => ?_) AllReadyH.nil
      go_simp
      (go_at_call 10; refine (reKeep_w _ _ x.c x.s _ gx (zbs x.a) _ (HE.out.moves (Moves.refl [] wr).drew) (foldE (ys.take k) xs h1).1 (by have := (foldE (ys.take k) xs h1).2.1; have := List.length_take_le k ys; have : (ys.take k).length ≤ ys.length := (by rw [List.length_take]; omega); omega) (fun y hy => by rcases (foldE (ys.take k) xs h1).2.2 y hy with h | h; exact hsy y (List.mem_of_mem_take h); exact hsx y h) (HBx.out.moves (Moves.refl [] wr).drew (by simp)) (zbs_oct _)).mono ?_; rintro _ w5 ⟨nv, rfl, hE5, m5⟩; rw [zbs_back, zbs_length] at hE5; rw [zbs_length]; obtain ⟨an, nn, cn, rfl, -, -⟩ := hE5.open)
      have M5 : Moves [] wr w5 := (Moves.refl [] wr).drew.then m5
      have d0 := M5.cell z0
      have d1 := M5.cell z1
      have d2 := M5.cell z2
      have HE5 : Hid (EntsAt w5 (.slice an nn cn) ((ys.take (k + 1)).foldl keepEO xs)) := by rw [foldE_step HX.out]; exact hE5
      clear hE5
      refine hK.out _ _ ?_ (fun hHeld => ?_)
      · first | exact ⟨z0, z1, z2⟩ | exact ⟨d0, d1, d2⟩
      clear hK K
      try simp only [Act.put, List.setIfInBounds_toArray, List.set_cons_zero, List.set_cons_succ]
      refine wpAnyH_take (i := 17) (oi := { dst := some 16, op := Op.move (Operand.tmp 33), type := 27, pos := "ref.go:51", after := #[{ on := 16, ground := Ground.data }], guard := none }) (v := ?_) rfl (by kernel_rfl) (by kernel_rfl) (by kernel_rfl) (fun _ _ _ h => h) (Or.inl ⟨by rfl, ?_⟩) (by assumption) ?_
      rotate_left
      · (intro w hSw; (try dsimp only at hSw); go_simp; try (with_reducible rfl))
      try simp only [Act.put, List.setIfInBounds_toArray, List.set_cons_zero, List.set_cons_succ]
      refine wpAnyH_take (i := 18) (oi := { dst := some 34, op := Op.extract (Operand.tmp 16) 0, type := 25, pos := "ref.go:51", after := #[{ on := 17, ground := Ground.data }], guard := none }) (v := ?_) rfl (by kernel_rfl) (by kernel_rfl) (by kernel_rfl) (fun _ _ _ h => h) (Or.inl ⟨by rfl, ?_⟩) (by assumption) ?_
      rotate_left
      · (intro w hSw; (try dsimp only at hSw); go_simp; try (with_reducible rfl))
      try simp only [Act.put, List.setIfInBounds_toArray, List.set_cons_zero, List.set_cons_succ]
      refine wpAnyH_take (i := 19) (oi := { dst := some 35, op := Op.extract (Operand.tmp 16) 1, type := 4, pos := "ref.go:51", after := #[{ on := 17, ground := Ground.data }, { on := 20, ground := Ground.gcOnly Departure.lateStores }], guard := none }) (v := ?_) rfl (by kernel_rfl) (by kernel_rfl) (by kernel_rfl) (fun _ _ _ h => h) (Or.inl ⟨by rfl, ?_⟩) (by assumption) ?_
      rotate_left
      · (intro w hSw; (try dsimp only at hSw); go_simp; try (with_reducible rfl))
      try simp only [Act.put, List.setIfInBounds_toArray, List.set_cons_zero, List.set_cons_succ]
      refine wpAnyH_take (i := 20) (oi := { dst := some 5, op := Op.assign (Operand.tmp 34), type := 25, pos := "ref.go:51", after := #[{ on := 18, ground := Ground.data }, { on := 16, ground := Ground.chain }, { on := 0, ground := Ground.phase }, { on := 1, ground := Ground.phase }, { on := 2, ground := Ground.phase }, { on := 3, ground := Ground.phase }, { on := 4, ground := Ground.phase }, { on := 5, ground := Ground.phase }, { on := 6, ground := Ground.phase }, { on := 7, ground := Ground.phase }, { on := 8, ground := Ground.phase }, { on := 9, ground := Ground.phase }, { on := 10, ground := Ground.phase }, { on := 11, ground := Ground.phase }, { on := 12, ground := Ground.phase }, { on := 13, ground := Ground.phase }, { on := 14, ground := Ground.phase }, { on := 15, ground := Ground.phase }, { on := 16, ground := Ground.phase }, { on := 17, ground := Ground.phase }, { on := 18, ground := Ground.phase }, { on := 19, ground := Ground.textOnly Departure.lateStores }], guard := none }) (v := ?_) rfl (by kernel_rfl) (by kernel_rfl) (by kernel_rfl) (fun _ _ _ h => h) (Or.inl ⟨by rfl, ?_⟩) (by assumption) ?_
      rotate_left
      · (intro w hSw; (try dsimp only at hSw); go_simp; try (with_reducible rfl))
      try simp only [Act.put, List.setIfInBounds_toArray, List.set_cons_zero, List.set_cons_succ]
      refine wpAnyH_done (by kernel_rfl) ?_ _
      refine NoPanic.normal ?_
      go_wp2_with fail
      go_roundw
      case rel => exact ⟨k + 1, by omega, by go_num, HE5.out, mr.then M5⟩
      case measure => simp [intOf]; omega
    · have hkm' : ¬ (k : Int) < (m : Int) := by omega
      have HT : Hid (ys.take k = ys) := List.take_of_length_le (by have := hm.out; omega)
      go_wp2_with fail
      go_ret
      exact ⟨_, rfl, by have e := HE.out; rw [HT.out] at e; exact e, mr⟩
end Go.Proofs.Ytoijkdknjbgebaa
