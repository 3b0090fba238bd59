/-
  The program's own Same of rows that are the same.
-/
import Derived.Test.YtcngllcifcpbkaaCRow12
namespace Go.Proofs.Ytcngllcifcpbkaa
open Go.RowKit

theorem same_p (W w : World) (k l : Int) (ad ad' : Option Addr) (n n' cap cap' x y : Nat) (p q : Pv) (ha : VA W [.int .i64 k, .slice ad n cap, .float .f64 x] p) (hb : VA W [.int .i64 l, .slice ad' n' cap', .float .f64 y] q) (m : Moves [] W w) :
    Calls Try.prog 90 #[.agg #[.int .i64 k, .slice ad n cap, .float .f64 x], .agg #[.int .i64 l, .slice ad' n' cap', .float .f64 y]] w fun e w' => e = .returned (.bool (psame p q)) ∧ Moves [] w w' := by
  obtain ⟨g, hV, _⟩ := ha.vis
  obtain ⟨g', hV', _⟩ := hb.vis
  refine (same_b w w _ _ _ _ (hV.moves m) (hV'.moves m) (Moves.refl _ _)).mono ?_
  rintro e w' ⟨rfl, m2⟩
  exact ⟨rfl, m2⟩

set_option maxRecDepth 100000 in
set_option maxHeartbeats 8000000 in
theorem sameV_yes (W w : World) (ad ad' : Option Addr) (n cap cap' : Nat) (x y : List Pver) (h : VersAt W (.slice ad n cap) x) (h' : VersAt W (.slice ad' n cap') y) (m : Moves [] W w) (hS : SameV x y) (hsm : n ≤ 1048576) :
    Calls Try.prog 77 #[.slice ad n cap, .slice ad' n cap'] w fun e w' => e = .returned (.bool true) ∧ Moves [] w w' := by
  have HL : Hid (n = x.length) := h.len
  have HL' : Hid (n = y.length) := h'.len
  have HSV : Hid (SameV x y) := hS
  have HV := h
  have HV' := h'
  have HW : Hid (Moves [] W w) := m
  clear h h' hS m
  go_enter Try.func77, Try.ntmps77
  go_wp2_with fail
  go_loopw [14] (fun i wr => ∃ k : Nat, k ≤ n ∧ i = .int .i64 k ∧ Moves [] w wr) (fun i _ => n - (intOf i).toNat)
  case atStart => exact ⟨0, Nat.zero_le _, rfl, Moves.refl _ _⟩
  case round =>
    obtain ⟨k, hk, rfl, mq⟩ := hrel
    by_cases hlt : k < n
    · have hj3 : (k : Int) < n := by omega
      obtain ⟨z, hz⟩ : ∃ z, x[k]? = some z := ⟨_, List.getElem?_eq_getElem (by have := HL.out; omega)⟩
      obtain ⟨y', hy'⟩ : ∃ y', y[k]? = some y' := ⟨_, List.getElem?_eq_getElem (by have := HL'.out; omega)⟩
      obtain ⟨htq, hps⟩ := HSV.out.2 k z y' hz hy'
      have ha := HV
      have hb := HV'
      obtain ⟨g5, off5, a6, n6, c6, rfl, v0, v1, v2, v3, hV6⟩ := ha.at hz
      obtain ⟨g6, off6, a7, n7, c7, rfl, u0, u1, u2, u3, hV7⟩ := hb.at hy'
      rw [← htq] at u0
      have Mz := HW.out.then mq
      have z0 := Mz.cell v0
      have z1 := Mz.cell v1
      have z2 := Mz.cell v2
      have z3 := Mz.cell v3
      have HS : Hid (psame z.v y'.v = true) := hps
      clear ha hb htq hps
      go_wp2_with fail
      obtain ⟨wc, hwc⟩ : ∃ wc, wr.alloc (.cells #[.int .i64 z.t, .int .i64 z.v.kind, .slice a6 n6 c6, .float .f64 z.v.n] 79) = wc := ⟨_, rfl⟩
      have mc : Moves [] wr wc := by rw [← hwc]; exact (Moves.refl _ _).alloc _
      have qc : wc.heap[wr.heap.size]? = some (.cells #[.int .i64 z.t, .int .i64 z.v.kind, .slice a6 n6 c6, .float .f64 z.v.n] 79 (0, 0)) := by rw [← hwc]; exact heap_alloc_new _ _
      rw [hwc]
      obtain ⟨b0, b1, b2, b3⟩ := quad_cells qc
      obtain ⟨pb, hpb⟩ : ∃ pb, wr.heap.size = pb := ⟨_, rfl⟩
      rw [hpb] at b0 b1 b2 b3 ⊢
      have y0 := (Mz.then mc).cell u0
      have y1 := (Mz.then mc).cell u1
      have y2 := (Mz.then mc).cell u2
      have y3 := (Mz.then mc).cell u3
      have HVz : Hid (VA wc.drew [.int .i64 z.v.kind, .slice a6 n6 c6, .float .f64 z.v.n] z.v) := hV6.va.moves (Mz.then mc).drew
      have HVy : Hid (VA wc.drew [.int .i64 y'.v.kind, .slice a7 n7 c7, .float .f64 y'.v.n] y'.v) := hV7.va.moves (Mz.then mc).drew
      have hM : Hid (Moves [] w wc) := mq.then mc
      clear hwc qc hpb v0 v1 v2 v3 u0 u1 u2 u3 hV6 hV7 hz hy' Mz mc z0 z1 z2 z3
      refine wp_region_noPanic ?_
      refine wp_region_held_drew (S := (fun w' => w'.cell? ⟨pb, 0, none⟩ = some (.int .i64 z.t) ∧ w'.cell? ⟨pb, 1, none⟩ = some (.int .i64 z.v.kind) ∧ w'.cell? ⟨pb, 2, none⟩ = some (.slice a6 n6 c6) ∧ w'.cell? ⟨pb, 3, none⟩ = some (.float .f64 z.v.n) ∧ w'.cell? ⟨g6, off6 + k * 4, none⟩ = some (.int .i64 z.t) ∧ w'.cell? ⟨g6, off6 + k * 4 + 1, none⟩ = some (.int .i64 y'.v.kind) ∧ w'.cell? ⟨g6, off6 + k * 4 + 2, none⟩ = some (.slice a7 n7 c7) ∧ w'.cell? ⟨g6, off6 + k * 4 + 3, none⟩ = some (.float .f64 y'.v.n) ∧ w'.cell? ⟨g6, off6 + k * 4 + 1 + 1, none⟩ = some (.slice a7 n7 c7) ∧ w'.cell? ⟨g6, off6 + k * 4 + 1 + 2, none⟩ = some (.float .f64 y'.v.n))) (by kernel_rfl) ?_ (fun hHeld => ?_)
      · first | (go_keep; done) | first | exact ⟨m5.cell b0, m5.cell b1, m5.cell b2, m5.cell b3, m5.cell y0, m5.cell y1, m5.cell y2, m5.cell y3, m5.cell y2, m5.cell y3⟩ | exact ⟨b0, b1, b2, b3, y0, y1, y2, y3, y2, y3⟩
      refine wpT 0 ⟨some 19, .fieldAddr 79 (.tmp 6) 0, 0, "row.go:102", #[], none⟩ ?_
      try simp only [Act.put, List.setIfInBounds_toArray, List.set_cons_zero, List.set_cons_succ]
      refine wpT 1 ⟨some 20, .load 2 (.tmp 19), 2, "row.go:102", #[⟨0, .data⟩], none⟩ ?_
      try simp only [Act.put, List.setIfInBounds_toArray, List.set_cons_zero, List.set_cons_succ]
      refine wpT 2 ⟨some 21, .move (.tmp 1), 31, "row.go:102", #[], none⟩ ?_
      try simp only [Act.put, List.setIfInBounds_toArray, List.set_cons_zero, List.set_cons_succ]
      refine wpT 3 ⟨some 22, .move (.tmp 5), 3, "row.go:102", #[], none⟩ ?_
      try simp only [Act.put, List.setIfInBounds_toArray, List.set_cons_zero, List.set_cons_succ]
      refine wpT 4 ⟨some 23, .indexAddr 31 (.tmp 21) (.tmp 22), 0, "row.go:102", #[⟨2, .data⟩, ⟨3, .data⟩], none⟩ ?_
      try simp only [Act.put, List.setIfInBounds_toArray, List.set_cons_zero, List.set_cons_succ]
      refine wpT 5 ⟨some 24, .fieldAddr 79 (.tmp 23) 0, 0, "row.go:102", #[⟨4, .data⟩], none⟩ ?_
      try simp only [Act.put, List.setIfInBounds_toArray, List.set_cons_zero, List.set_cons_succ]
      refine wpT 6 ⟨some 25, .load 2 (.tmp 24), 2, "row.go:102", #[⟨5, .data⟩], none⟩ ?_
      try simp only [Act.put, List.setIfInBounds_toArray, List.set_cons_zero, List.set_cons_succ]
      refine wpT 7 ⟨some 26, .binOp .neq 2 (.tmp 20) (.tmp 25) 2, 4, "row.go:102", #[⟨1, .data⟩, ⟨6, .data⟩], none⟩ ?_
      try simp only [Act.put, List.setIfInBounds_toArray, List.set_cons_zero, List.set_cons_succ]
      refine wpT 8 ⟨some 27, .move (.tmp 26), 4, "row.go:102", #[⟨7, .data⟩], none⟩ ?_
      try simp only [Act.put, List.setIfInBounds_toArray, List.set_cons_zero, List.set_cons_succ]
      refine wpT 9 ⟨some 28, .fieldAddr 79 (.tmp 6) 1, 0, "row.go:102", #[⟨8, .guard⟩], some (8, false)⟩ ?_
      try simp only [Act.put, List.setIfInBounds_toArray, List.set_cons_zero, List.set_cons_succ]
      refine wpT 10 ⟨some 29, .load 49 (.tmp 28), 49, "row.go:102", #[⟨9, .data⟩, ⟨8, .guard⟩], some (8, false)⟩ ?_
      try simp only [Act.put, List.setIfInBounds_toArray, List.set_cons_zero, List.set_cons_succ]
      refine wpT 11 ⟨some 30, .move (.tmp 1), 31, "row.go:102", #[⟨8, .guard⟩], some (8, false)⟩ ?_
      try simp only [Act.put, List.setIfInBounds_toArray, List.set_cons_zero, List.set_cons_succ]
      refine wpT 12 ⟨some 31, .move (.tmp 5), 3, "row.go:102", #[⟨8, .guard⟩], some (8, false)⟩ ?_
      try simp only [Act.put, List.setIfInBounds_toArray, List.set_cons_zero, List.set_cons_succ]
      refine wpT 13 ⟨some 32, .indexAddr 31 (.tmp 30) (.tmp 31), 0, "row.go:102", #[⟨11, .data⟩, ⟨12, .data⟩, ⟨8, .guard⟩], some (8, false)⟩ ?_
      try simp only [Act.put, List.setIfInBounds_toArray, List.set_cons_zero, List.set_cons_succ]
      refine wpT 14 ⟨some 33, .fieldAddr 79 (.tmp 32) 1, 0, "row.go:102", #[⟨13, .data⟩, ⟨8, .guard⟩], some (8, false)⟩ ?_
      try simp only [Act.put, List.setIfInBounds_toArray, List.set_cons_zero, List.set_cons_succ]
      refine wpT 15 ⟨some 34, .load 49 (.tmp 33), 49, "row.go:102", #[⟨14, .data⟩, ⟨8, .guard⟩], some (8, false)⟩ ?_
      try simp only [Act.put, List.setIfInBounds_toArray, List.set_cons_zero, List.set_cons_succ]
      refine wpAnyH_ready (rs := [16]) (by kernel_rfl) (by simp) ?_
      refine AllReadyH.cons (o := ⟨some 35, .call ⟨.value (.func 90), #[.tmp 29, .tmp 34], #[49, 49]⟩, 4, "row.go:102", #[⟨10, .data⟩, ⟨15, .data⟩, ⟨8, .chain⟩, ⟨8, .guard⟩], some (8, false)⟩) rfl (fun K hK => ?_) AllReadyH.nil
      go_simp
      (go_at_call 90; refine (same_p wc.drew _ _ _ _ _ _ _ _ _ _ _ _ _ HVz.out HVy.out (Moves.refl _ _)).mono ?_; rintro _ w5 ⟨rfl, m5⟩; rw [HS.out])
      refine hK.out _ _ ?_ (fun hHeld => ?_)
      · first | exact ⟨m5.cell b0, m5.cell b1, m5.cell b2, m5.cell b3, m5.cell y0, m5.cell y1, m5.cell y2, m5.cell y3, m5.cell y2, m5.cell y3⟩ | exact ⟨b0, b1, b2, b3, y0, y1, y2, y3, y2, y3⟩
      clear hK K
      try simp only [Act.put, List.setIfInBounds_toArray, List.set_cons_zero, List.set_cons_succ]
      refine wpT 17 ⟨some 36, .unOp .not 4 (.tmp 35), 4, "row.go:102", #[⟨16, .data⟩, ⟨8, .guard⟩], some (8, false)⟩ ?_
      try simp only [Act.put, List.setIfInBounds_toArray, List.set_cons_zero, List.set_cons_succ]
      refine wpT 18 ⟨some 37, .pick (.tmp 27) (.const (.bool true)) (.tmp 36), 4, "row.go:102", #[⟨8, .data⟩, ⟨17, .data⟩], none⟩ ?_
      try simp only [Act.put, List.setIfInBounds_toArray, List.set_cons_zero, List.set_cons_succ]
      refine wpAnyH_done (by kernel_rfl) ?_ _
      refine NoPanic.normal ?_
      go_wp2_with fail
      go_roundw
      case rel => exact ⟨k + 1, by omega, by go_num, hM.out.drew.then m5⟩
      case measure => simp [intOf]; omega
    · have hj3 : ¬ (k : Int) < n := by omega
      go_wp2_with fail
      go_ret
      exact ⟨rfl, mq⟩

set_option maxRecDepth 100000 in
set_option maxHeartbeats 8000000 in
theorem rowSame_yes (W w : World) (u v : Value) (R Q : List Pcol) (h : RowAt W u R) (h' : RowAt W v Q) (m : Moves [] W w) (hS : SameR R Q) (hsm : R.length ≤ 1048576) (hsl : ∀ x ∈ R, x.l.length ≤ 1048576) :
    Calls Try.prog 54 #[u, v] w fun e w' => e = .returned (.bool true) ∧ Moves [] w w' := by
  obtain ⟨lu, rfl, h⟩ := h
  obtain ⟨lv, rfl, h'⟩ := h'
  obtain ⟨ad, cap, hlu, hcap⟩ := h.slice
  obtain ⟨ad', cap', hlv, hcap'⟩ := h'.slice
  rw [← hS.1] at hlv hcap'
  obtain ⟨n, HN⟩ : ∃ n, Hid (n = R.length) := ⟨_, rfl⟩
  rw [← HN.out] at hlu hcap hlv hcap' hsm
  subst hlu hlv
  have HSM : Hid (SameR R Q) := hS
  have HSL : Hid (∀ x ∈ R, x.l.length ≤ 1048576) := hsl
  have HW : Hid (Moves [] W w) := m
  clear hS m hsl
  go_enter Try.func54, Try.ntmps54
  go_wp2_with fail
  obtain ⟨w1, hw1⟩ : ∃ w1, (w.alloc (.cells #[.slice ad n cap] 36)).alloc (.cells #[.slice ad' n cap'] 36) = w1 := ⟨_, rfl⟩
  obtain ⟨p0, p1, m1⟩ : w1.heap[w.heap.size]? = some (.cells #[.slice ad n cap] 36 (0, 0)) ∧ w1.heap[w.heap.size + 1]? = some (.cells #[.slice ad' n cap'] 36 (0, 0)) ∧ Moves [] w w1 := by rw [← hw1]; exact boxes (Moves.refl _ _)
  rw [hw1]
  obtain ⟨z0, _⟩ := one_cell p0
  obtain ⟨z1, _⟩ := one_cell p1
  clear hw1
  go_loopw [17] (fun i wr => ∃ k : Nat, k ≤ n ∧ i = .int .i64 k ∧ Moves [] w wr ∧ wr.cell? ⟨w.heap.size + 1, 0, none⟩ = some (.slice ad' n cap')) (fun i _ => n - (intOf i).toNat)
  case atStart => exact ⟨0, Nat.zero_le _, rfl, m1, z1⟩
  case round =>
    obtain ⟨k, hk, rfl, mr, r1'⟩ := hrel
    by_cases hlt : k < n
    · have hk3 : (k : Int) < n := by omega
      have hkx : k < R.length := by rw [← HN.out]; exact hlt
      obtain ⟨x, hx⟩ : ∃ x, R[k]? = some x := ⟨_, List.getElem?_eq_getElem hkx⟩
      obtain ⟨y, hy⟩ : ∃ y, Q[k]? = some y := ⟨_, List.getElem?_eq_getElem (by rw [← HSM.out.1]; exact hkx)⟩
      have ha := h
      have hb := h'
      obtain ⟨g, off, a2, n2, c2, rfl, f0, f1, en, hle, hV⟩ := ha.at hx
      obtain ⟨g', off', a2', n2', c2', rfl, i0, i1, en', hle', hV'⟩ := hb.at hy
      obtain ⟨hnm, hsv⟩ := HSM.out.2 k x y hx hy
      obtain rfl : n2' = n2 := by rw [en, en', hsv.1]
      rw [← hnm] at i0
      have d0 := (HW.out.then mr).cell f0
      have d1 := (HW.out.then mr).cell f1
      have hsm2 : n2' ≤ 1048576 := by rw [en]; exact HSL.out x (List.mem_of_getElem? hx)
      have HSV : Hid (SameV x.l y.l) := hsv
      have HV : Hid (VersAt W (.slice a2 n2' c2) x.l) := hV
      have HV' : Hid (VersAt W (.slice a2' n2' c2') y.l) := hV'
      clear f0 f1 hkx en en' hV hV' hsv hnm hx hy ha hb
      go_wp2_with fail
      obtain ⟨wc, hwc⟩ : ∃ wc, wr.alloc (.cells #[.string x.name, .slice a2 n2' c2] 33) = wc := ⟨_, rfl⟩
      have mc : Moves [] wr wc := by rw [← hwc]; exact (Moves.refl _ _).alloc _
      have qc : wc.heap[wr.heap.size]? = some (.cells #[.string x.name, .slice a2 n2' c2] 33 (0, 0)) := by rw [← hwc]; exact heap_alloc_new _ _
      rw [hwc]
      obtain ⟨b0, b1⟩ := pair_cells qc
      obtain ⟨pb, hpb⟩ : ∃ pb, wr.heap.size = pb := ⟨_, rfl⟩
      rw [hpb] at b0 b1 ⊢
      have r1 := mc.cell r1'
      have e0 := ((HW.out.then mr).then mc).cell i0
      have e1 := ((HW.out.then mr).then mc).cell i1
      have HWc : Hid (Moves [] W wc) := (HW.out.then mr).then mc
      have hM : Hid (Moves [] w wc) := mr.then mc
      clear hwc qc hpb i0 i1 d0 d1 r1' mc mr z0 z1
      refine wp_region_noPanic ?_
      refine wp_region_held_drew (S := (fun w' => w'.cell? ⟨pb, 0, none⟩ = some (.string x.name) ∧ w'.cell? ⟨pb, 1, none⟩ = some (.slice a2 n2' c2) ∧ w'.cell? ⟨w.heap.size + 1, 0, none⟩ = some (.slice (some ⟨g', off', none⟩) n cap') ∧ w'.cell? ⟨g', off' + k * 2, none⟩ = some (.string x.name) ∧ w'.cell? ⟨g', off' + k * 2 + 1, none⟩ = some (.slice a2' n2' c2'))) (by kernel_rfl) ?_ (fun hHeld => ?_)
      · first | (go_keep; done) | first | exact ⟨m5.cell b0, m5.cell b1, m5.cell r1, m5.cell e0, m5.cell e1⟩ | exact ⟨b0, b1, r1, e0, e1⟩
      refine wpT 0 ⟨some 22, .fieldAddr 33 (.tmp 6) 0, 0, "row.go:90", #[], none⟩ ?_
      try simp only [Act.put, List.setIfInBounds_toArray, List.set_cons_zero, List.set_cons_succ]
      refine wpT 1 ⟨some 23, .load 9 (.tmp 22), 9, "row.go:90", #[⟨0, .data⟩], none⟩ ?_
      try simp only [Act.put, List.setIfInBounds_toArray, List.set_cons_zero, List.set_cons_succ]
      refine wpT 2 ⟨some 24, .fieldAddr 36 (.tmp 3) 0, 0, "row.go:90", #[], none⟩ ?_
      try simp only [Act.put, List.setIfInBounds_toArray, List.set_cons_zero, List.set_cons_succ]
      refine wpT 3 ⟨some 25, .load 34 (.tmp 24), 34, "row.go:90", #[⟨2, .data⟩], none⟩ ?_
      try simp only [Act.put, List.setIfInBounds_toArray, List.set_cons_zero, List.set_cons_succ]
      refine wpT 4 ⟨some 26, .move (.tmp 5), 3, "row.go:90", #[], none⟩ ?_
      try simp only [Act.put, List.setIfInBounds_toArray, List.set_cons_zero, List.set_cons_succ]
      refine wpT 5 ⟨some 27, .indexAddr 34 (.tmp 25) (.tmp 26), 0, "row.go:90", #[⟨3, .data⟩, ⟨4, .data⟩], none⟩ ?_
      try simp only [Act.put, List.setIfInBounds_toArray, List.set_cons_zero, List.set_cons_succ]
      refine wpT 6 ⟨some 28, .fieldAddr 33 (.tmp 27) 0, 0, "row.go:90", #[⟨5, .data⟩], none⟩ ?_
      try simp only [Act.put, List.setIfInBounds_toArray, List.set_cons_zero, List.set_cons_succ]
      refine wpT 7 ⟨some 29, .load 9 (.tmp 28), 9, "row.go:90", #[⟨6, .data⟩], none⟩ ?_
      try simp only [Act.put, List.setIfInBounds_toArray, List.set_cons_zero, List.set_cons_succ]
      refine wpT 8 ⟨some 30, .binOp .neq 9 (.tmp 23) (.tmp 29) 9, 4, "row.go:90", #[⟨1, .data⟩, ⟨7, .data⟩], none⟩ ?_
      try simp only [Act.put, List.setIfInBounds_toArray, List.set_cons_zero, List.set_cons_succ]
      refine wpT 9 ⟨some 31, .move (.tmp 30), 4, "row.go:90", #[⟨8, .data⟩], none⟩ ?_
      try simp only [Act.put, List.setIfInBounds_toArray, List.set_cons_zero, List.set_cons_succ]
      refine wpT 10 ⟨some 32, .fieldAddr 33 (.tmp 6) 1, 0, "row.go:90", #[⟨9, .guard⟩], some (9, false)⟩ ?_
      try simp only [Act.put, List.setIfInBounds_toArray, List.set_cons_zero, List.set_cons_succ]
      refine wpT 11 ⟨some 33, .load 31 (.tmp 32), 31, "row.go:90", #[⟨10, .data⟩, ⟨9, .guard⟩], some (9, false)⟩ ?_
      try simp only [Act.put, List.setIfInBounds_toArray, List.set_cons_zero, List.set_cons_succ]
      refine wpT 12 ⟨some 34, .fieldAddr 36 (.tmp 3) 0, 0, "row.go:90", #[⟨9, .guard⟩], some (9, false)⟩ ?_
      try simp only [Act.put, List.setIfInBounds_toArray, List.set_cons_zero, List.set_cons_succ]
      refine wpT 13 ⟨some 35, .load 34 (.tmp 34), 34, "row.go:90", #[⟨12, .data⟩, ⟨9, .guard⟩], some (9, false)⟩ ?_
      try simp only [Act.put, List.setIfInBounds_toArray, List.set_cons_zero, List.set_cons_succ]
      refine wpT 14 ⟨some 36, .move (.tmp 5), 3, "row.go:90", #[⟨9, .guard⟩], some (9, false)⟩ ?_
      try simp only [Act.put, List.setIfInBounds_toArray, List.set_cons_zero, List.set_cons_succ]
      refine wpT 15 ⟨some 37, .indexAddr 34 (.tmp 35) (.tmp 36), 0, "row.go:90", #[⟨13, .data⟩, ⟨14, .data⟩, ⟨9, .guard⟩], some (9, false)⟩ ?_
      try simp only [Act.put, List.setIfInBounds_toArray, List.set_cons_zero, List.set_cons_succ]
      refine wpT 16 ⟨some 38, .fieldAddr 33 (.tmp 37) 1, 0, "row.go:90", #[⟨15, .data⟩, ⟨9, .guard⟩], some (9, false)⟩ ?_
      try simp only [Act.put, List.setIfInBounds_toArray, List.set_cons_zero, List.set_cons_succ]
      refine wpT 17 ⟨some 39, .load 31 (.tmp 38), 31, "row.go:90", #[⟨16, .data⟩, ⟨9, .guard⟩], some (9, false)⟩ ?_
      try simp only [Act.put, List.setIfInBounds_toArray, List.set_cons_zero, List.set_cons_succ]
      refine wpAnyH_ready (rs := [18]) (by kernel_rfl) (by simp) ?_
      refine AllReadyH.cons (o := ⟨some 40, .call ⟨.value (.func 77), #[.tmp 33, .tmp 39], #[31, 31]⟩, 4, "row.go:90", #[⟨11, .data⟩, ⟨17, .data⟩, ⟨9, .chain⟩, ⟨9, .guard⟩], some (9, false)⟩) rfl (fun K hK => ?_) AllReadyH.nil
      go_simp
      (go_at_call 77; refine (sameV_yes W _ _ _ _ _ _ _ _ HV.out HV'.out (HWc.out.drew) HSV.out hsm2).mono ?_; rintro _ w5 ⟨rfl, m5⟩)
      refine hK.out _ _ ?_ (fun hHeld => ?_)
      · first | exact ⟨m5.cell b0, m5.cell b1, m5.cell r1, m5.cell e0, m5.cell e1⟩ | exact ⟨b0, b1, r1, e0, e1⟩
      clear hK K
      try simp only [Act.put, List.setIfInBounds_toArray, List.set_cons_zero, List.set_cons_succ]
      refine wpT 19 ⟨some 41, .unOp .not 4 (.tmp 40), 4, "row.go:90", #[⟨18, .data⟩, ⟨9, .guard⟩], some (9, false)⟩ ?_
      try simp only [Act.put, List.setIfInBounds_toArray, List.set_cons_zero, List.set_cons_succ]
      refine wpT 20 ⟨some 42, .pick (.tmp 31) (.const (.bool true)) (.tmp 41), 4, "row.go:90", #[⟨9, .data⟩, ⟨19, .data⟩], none⟩ ?_
      try simp only [Act.put, List.setIfInBounds_toArray, List.set_cons_zero, List.set_cons_succ]
      refine wpAnyH_done (by kernel_rfl) ?_ _
      refine NoPanic.normal ?_
      go_wp2_with fail
      go_roundw
      case rel => exact ⟨k + 1, by omega, by go_num, hM.out.drew.then m5, m5.cell r1⟩
      case measure => simp [intOf]; omega
    · have hk3 : ¬ (k : Int) < n := by omega
      go_wp2_with fail
      go_ret
      exact ⟨rfl, mr⟩
end Go.Proofs.Ytcngllcifcpbkaa
