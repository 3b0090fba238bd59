/- ours -/
import Derived.Test.YtcngllcifcpbkaaGreatCRow12
namespace Go.Proofs.YtcngllcifcpbkaaGreat
open Go.RowKit

set_option maxRecDepth 100000 in
set_option maxHeartbeats 8000000 in
theorem rfSame_yes (W w : World) (u v : Value) (R Q : List Pcol) (h : RowAt W u R) (h' : RowAt W v Q) (m : Moves [] W w) (hS : SameR R Q) (hsm : R.length ≤ 1048576) (hsl : ∀ x ∈ R, x.l.length ≤ 1048576) :
  Calls Tryz.prog 32 #[u, v] w fun e w' => e = .returned (.bool true) ∧ Moves [] w w' := by
 obtain ⟨lu, rfl, h⟩ := h
 obtain ⟨lv, rfl, h'⟩ := h'
 obtain ⟨ad, cap, hlu, hcap⟩ := h.slice
 obtain ⟨ad', cap', hlv, hcap'⟩ := h'.slice
 rw [← hS.1] at hlv hcap'
 obtain ⟨n, HN⟩ : ∃ n, Hid (n = R.length) := ⟨_, rfl⟩
 rw [← HN.out] at hlu hcap hlv hcap' hsm
 subst hlu hlv
 have HSM : Hid (SameR R Q) := hS
 have HSL : Hid (∀ x ∈ R, x.l.length ≤ 1048576) := hsl
 have HW : Hid (Moves [] W w) := m
 clear hS m hsl
 go_enter Tryz.func32, Tryz.ntmps32
 go_wp2_with fail
 obtain ⟨w1, hw1⟩ : ∃ w1, (w.alloc (.cells #[.slice ad n cap] 52)).alloc (.cells #[.slice ad' n cap'] 52) = w1 := ⟨_, rfl⟩
 obtain ⟨p0, p1, m1⟩ : w1.heap[w.heap.size]? = some (.cells #[.slice ad n cap] 52 (0, 0)) ∧ w1.heap[w.heap.size + 1]? = some (.cells #[.slice ad' n cap'] 52 (0, 0)) ∧ Moves [] w w1 := by rw [← hw1]; exact boxes (Moves.refl _ _)
 rw [hw1]
 obtain ⟨z0, _⟩ := one_cell p0
 obtain ⟨z1, _⟩ := one_cell p1
 clear hw1
 go_loopw [5] (fun i wr => ∃ k : Nat, k ≤ n ∧ i = .int .i64 k ∧ Moves [] w wr ∧ wr.cell? ⟨w.heap.size, 0, none⟩ = some (.slice ad n cap) ∧ wr.cell? ⟨w.heap.size + 1, 0, none⟩ = some (.slice ad' n cap')) (fun i _ => n - (intOf i).toNat)
 case atStart => exact ⟨0, Nat.zero_le _, rfl, m1, z0, z1⟩
 case round =>
  obtain ⟨k, hk, rfl, mr, r0, r1⟩ := hrel
  by_cases hlt : k < n
  ·have hk3 : (k : Int) < n := by omega
   have hkx : k < R.length := by rw [← HN.out]; exact hlt
   obtain ⟨x, hx⟩ : ∃ x, R[k]? = some x := ⟨_, List.getElem?_eq_getElem hkx⟩
   obtain ⟨y, hy⟩ : ∃ y, Q[k]? = some y := ⟨_, List.getElem?_eq_getElem (by rw [← HSM.out.1]; exact hkx)⟩
   have ha := h
   have hb := h'
   obtain ⟨g, off, a2, n2, c2, rfl, f0, f1, en, hle, hV⟩ := ha.at hx
   obtain ⟨g', off', a2', n2', c2', rfl, i0, i1, en', hle', hV'⟩ := hb.at hy
   obtain ⟨hnm, hsv⟩ := HSM.out.2 k x y hx hy
   obtain rfl : n2' = n2 := by rw [en, en', hsv.1]
   rw [← hnm] at i0
   have d0 := (HW.out.then mr).cell f0
   have d1 := (HW.out.then mr).cell f1
   have e0 := (HW.out.then mr).cell i0
   have e1 := (HW.out.then mr).cell i1
   have HL : Hid (n2' = x.l.length) := en
   have HL' : Hid (n2' = y.l.length) := en'
   have hsm2 : n2' ≤ 1048576 := by rw [en]; exact HSL.out x (List.mem_of_getElem? hx)
   have HSV : Hid (SameV x.l y.l) := hsv
   have HV : Hid (VersAt W (.slice a2 n2' c2) x.l) := hV
   have HV' : Hid (VersAt W (.slice a2' n2' c2') y.l) := hV'
   clear f0 f1 i0 i1 hkx en en' hV hV' hsv hnm hx hy ha hb
   go_wp2_with fail
   refine wp_region_noPanic ?_
   refine wp_region_held_drew (S := (fun w' => w'.cell? ⟨w.heap.size, 0, none⟩ = some (.slice (some ⟨g, off, none⟩) n cap) ∧ w'.cell? ⟨w.heap.size + 1, 0, none⟩ = some (.slice (some ⟨g', off', none⟩) n cap') ∧ w'.cell? ⟨g, off + k * 2, none⟩ = some (.string x.name) ∧ w'.cell? ⟨g, off + k * 2 + 1, none⟩ = some (.slice a2 n2' c2) ∧ w'.cell? ⟨g', off' + k * 2, none⟩ = some (.string x.name) ∧ w'.cell? ⟨g', off' + k * 2 + 1, none⟩ = some (.slice a2' n2' c2'))) (by kernel_rfl) ?_ (fun hHeld => ?_)
   ·first | (go_keep; done) | exact ⟨r0, r1, d0, d1, e0, e1⟩
   refine wpT 0 ⟨some 21, .fieldAddr 52 (.tmp 2) 0, 0, "ref.go:134", #[], none⟩ ?_
   refine wpT 1 ⟨some 22, .load 50 (.tmp 21), 50, "ref.go:134", #[⟨0, .data⟩], none⟩ ?_
   refine wpT 2 ⟨some 23, .move (.tmp 5), 3, "ref.go:134", #[], none⟩ ?_
   refine wpT 3 ⟨some 24, .indexAddr 50 (.tmp 22) (.tmp 23), 0, "ref.go:134", #[⟨1, .data⟩, ⟨2, .data⟩], none⟩ ?_
   refine wpT 4 ⟨some 25, .fieldAddr 124 (.tmp 24) 0, 0, "ref.go:134", #[⟨3, .data⟩], none⟩ ?_
   refine wpT 5 ⟨some 26, .load 9 (.tmp 25), 9, "ref.go:134", #[⟨4, .data⟩], none⟩ ?_
   refine wpT 6 ⟨some 27, .fieldAddr 52 (.tmp 3) 0, 0, "ref.go:134", #[], none⟩ ?_
   refine wpT 7 ⟨some 28, .load 50 (.tmp 27), 50, "ref.go:134", #[⟨6, .data⟩], none⟩ ?_
   refine wpT 8 ⟨some 29, .move (.tmp 5), 3, "ref.go:134", #[], none⟩ ?_
   refine wpT 9 ⟨some 30, .indexAddr 50 (.tmp 28) (.tmp 29), 0, "ref.go:134", #[⟨7, .data⟩, ⟨8, .data⟩], none⟩ ?_
   refine wpT 10 ⟨some 31, .fieldAddr 124 (.tmp 30) 0, 0, "ref.go:134", #[⟨9, .data⟩], none⟩ ?_
   refine wpT 11 ⟨some 32, .load 9 (.tmp 31), 9, "ref.go:134", #[⟨10, .data⟩], none⟩ ?_
   refine wpT 12 ⟨some 33, .binOp .neq 9 (.tmp 26) (.tmp 32) 9, 4, "ref.go:134", #[⟨5, .data⟩, ⟨11, .data⟩], none⟩ ?_
   refine wpT 13 ⟨some 34, .move (.tmp 33), 4, "ref.go:134", #[⟨12, .data⟩], none⟩ ?_
   refine wpT 14 ⟨some 35, .fieldAddr 52 (.tmp 2) 0, 0, "ref.go:134", #[⟨13, .guard⟩], some (13, false)⟩ ?_
   refine wpT 15 ⟨some 36, .load 50 (.tmp 35), 50, "ref.go:134", #[⟨14, .data⟩, ⟨13, .guard⟩], some (13, false)⟩ ?_
   refine wpT 16 ⟨some 37, .move (.tmp 5), 3, "ref.go:134", #[⟨13, .guard⟩], some (13, false)⟩ ?_
   refine wpT 17 ⟨some 38, .indexAddr 50 (.tmp 36) (.tmp 37), 0, "ref.go:134", #[⟨15, .data⟩, ⟨16, .data⟩, ⟨13, .guard⟩], some (13, false)⟩ ?_
   refine wpT 18 ⟨some 39, .fieldAddr 124 (.tmp 38) 1, 0, "ref.go:134", #[⟨17, .data⟩, ⟨13, .guard⟩], some (13, false)⟩ ?_
   refine wpT 19 ⟨some 40, .load 122 (.tmp 39), 122, "ref.go:134", #[⟨18, .data⟩, ⟨13, .guard⟩], some (13, false)⟩ ?_
   refine wpT 20 ⟨some 41, .call ⟨.builtin .len, #[.tmp 40], #[122]⟩, 3, "ref.go:134", #[⟨19, .data⟩, ⟨13, .guard⟩], some (13, false)⟩ ?_
   refine wpT 21 ⟨some 42, .fieldAddr 52 (.tmp 3) 0, 0, "ref.go:134", #[⟨13, .guard⟩], some (13, false)⟩ ?_
   refine wpT 22 ⟨some 43, .load 50 (.tmp 42), 50, "ref.go:134", #[⟨21, .data⟩, ⟨13, .guard⟩], some (13, false)⟩ ?_
   refine wpT 23 ⟨some 44, .move (.tmp 5), 3, "ref.go:134", #[⟨13, .guard⟩], some (13, false)⟩ ?_
   refine wpT 24 ⟨some 45, .indexAddr 50 (.tmp 43) (.tmp 44), 0, "ref.go:134", #[⟨22, .data⟩, ⟨23, .data⟩, ⟨13, .guard⟩], some (13, false)⟩ ?_
   refine wpT 25 ⟨some 46, .fieldAddr 124 (.tmp 45) 1, 0, "ref.go:134", #[⟨24, .data⟩, ⟨13, .guard⟩], some (13, false)⟩ ?_
   refine wpT 26 ⟨some 47, .load 122 (.tmp 46), 122, "ref.go:134", #[⟨25, .data⟩, ⟨13, .guard⟩], some (13, false)⟩ ?_
   refine wpT 27 ⟨some 48, .call ⟨.builtin .len, #[.tmp 47], #[122]⟩, 3, "ref.go:134", #[⟨26, .data⟩, ⟨13, .guard⟩], some (13, false)⟩ ?_
   refine wpT 28 ⟨some 49, .binOp .neq 3 (.tmp 41) (.tmp 48) 3, 4, "ref.go:134", #[⟨20, .data⟩, ⟨27, .data⟩, ⟨13, .guard⟩], some (13, false)⟩ ?_
   refine wpT 29 ⟨some 50, .pick (.tmp 34) (.const (.bool true)) (.tmp 49), 4, "ref.go:134", #[⟨13, .data⟩, ⟨28, .data⟩], none⟩ ?_
   refine wpAnyH_done (by kernel_rfl) ?_ _
   refine NoPanic.normal ?_
   go_wp2_with fail
   obtain ⟨wc, hwc⟩ : ∃ wc, wr.drew = wc := ⟨_, rfl⟩
   have mc : Moves [] w wc := by rw [← hwc]; exact mr.drew
   have mrc : Moves [] wr wc := by rw [← hwc]; exact (Moves.refl _ _).drew
   have s0 := mrc.cell r0
   have s1 := mrc.cell r1
   have s2 := mrc.cell d1
   have s3 := mrc.cell e1
   rw [hwc]
   have HMb : Hid (Moves [] w wc) := mc
   clear hwc d0 d1 e0 e1 r0 r1 mrc mc mr
   go_loopw [6] (fun i wq => ∃ j : Nat, j ≤ n2' ∧ i = .int .i64 j ∧ Moves [] wc wq) (fun i _ => n2' - (intOf i).toNat)
   case atStart => exact ⟨0, Nat.zero_le _, rfl, Moves.refl _ _⟩
   case round =>
    obtain ⟨j, hj, rfl, mq⟩ := hrel
    have r0 := mq.cell s0
    have r1 := mq.cell s1
    have d1 := mq.cell s2
    have e1 := mq.cell s3
    by_cases hjt : j < n2'
    ·have hj3 : (j : Int) < n2' := by omega
     obtain ⟨z, hz⟩ : ∃ z, x.l[j]? = some z := ⟨_, List.getElem?_eq_getElem (by have := HL.out; omega)⟩
     obtain ⟨y', hy'⟩ : ∃ y', y.l[j]? = some y' := ⟨_, List.getElem?_eq_getElem (by have := HL'.out; omega)⟩
     obtain ⟨htq, hps⟩ := HSV.out.2 j z y' hz hy'
     obtain ⟨g5, off5, a6, n6, c6, rfl, v0, v1, v2, v3, hV6⟩ := HV.out.at hz
     obtain ⟨g6, off6, a7, n7, c7, rfl, u0, u1, u2, u3, hV7⟩ := HV'.out.at hy'
     rw [← htq] at u0
     have Mz := (HW.out.then HMb.out).then mq
     have z0 := Mz.cell v0
     have z1 := Mz.cell v1
     have z2 := Mz.cell v2
     have z3 := Mz.cell v3
     have y0 := Mz.cell u0
     have y1 := Mz.cell u1
     have y2 := Mz.cell u2
     have y3 := Mz.cell u3
     have HVz : Hid (VA wr.drew [.int .i64 z.v.kind, .slice a6 n6 c6, .float .f64 z.v.n] z.v) := hV6.va.moves Mz.drew
     have HVy : Hid (VA wr.drew [.int .i64 y'.v.kind, .slice a7 n7 c7, .float .f64 y'.v.n] y'.v) := hV7.va.moves Mz.drew
     have HS : Hid (psame z.v y'.v = true) := hps
     clear v0 v1 v2 v3 u0 u1 u2 u3 hV6 hV7 hz hy' htq hps Mz s0 s1 s2 s3
     go_wp2_with fail
     refine wp_region_noPanic ?_
     refine wp_region_held_drew (S := (fun w' => w'.cell? ⟨w.heap.size, 0, none⟩ = some (.slice (some ⟨g, off, none⟩) n cap) ∧ w'.cell? ⟨w.heap.size + 1, 0, none⟩ = some (.slice (some ⟨g', off', none⟩) n cap') ∧ w'.cell? ⟨g, off + k * 2 + 1, none⟩ = some (.slice (some ⟨g5, off5, none⟩) n2' c2) ∧ w'.cell? ⟨g', off' + k * 2 + 1, none⟩ = some (.slice (some ⟨g6, off6, none⟩) n2' c2') ∧ w'.cell? ⟨g5, off5 + j * 4, none⟩ = some (.int .i64 z.t) ∧ w'.cell? ⟨g5, off5 + j * 4 + 1, none⟩ = some (.int .i64 z.v.kind) ∧ w'.cell? ⟨g5, off5 + j * 4 + 2, none⟩ = some (.slice a6 n6 c6) ∧ w'.cell? ⟨g5, off5 + j * 4 + 3, none⟩ = some (.float .f64 z.v.n) ∧ w'.cell? ⟨g5, off5 + j * 4 + 1 + 1, none⟩ = some (.slice a6 n6 c6) ∧ w'.cell? ⟨g5, off5 + j * 4 + 1 + 2, none⟩ = some (.float .f64 z.v.n) ∧ w'.cell? ⟨g6, off6 + j * 4, none⟩ = some (.int .i64 z.t) ∧ w'.cell? ⟨g6, off6 + j * 4 + 1, none⟩ = some (.int .i64 y'.v.kind) ∧ w'.cell? ⟨g6, off6 + j * 4 + 2, none⟩ = some (.slice a7 n7 c7) ∧ w'.cell? ⟨g6, off6 + j * 4 + 3, none⟩ = some (.float .f64 y'.v.n) ∧ w'.cell? ⟨g6, off6 + j * 4 + 1 + 1, none⟩ = some (.slice a7 n7 c7) ∧ w'.cell? ⟨g6, off6 + j * 4 + 1 + 2, none⟩ = some (.float .f64 y'.v.n))) (by kernel_rfl) ?_ (fun hHeld => ?_)
     ·first | (go_keep; done) | first | exact ⟨m5.cell r0, m5.cell r1, m5.cell d1, m5.cell e1, m5.cell z0, m5.cell z1, m5.cell z2, m5.cell z3, m5.cell z2, m5.cell z3, m5.cell y0, m5.cell y1, m5.cell y2, m5.cell y3, m5.cell y2, m5.cell y3⟩ | exact ⟨r0, r1, d1, e1, z0, z1, z2, z3, z2, z3, y0, y1, y2, y3, y2, y3⟩
     refine wpT 0 ⟨some 62, .fieldAddr 52 (.tmp 2) 0, 0, "ref.go:138", #[], none⟩ ?_
     refine wpT 1 ⟨some 63, .load 50 (.tmp 62), 50, "ref.go:138", #[⟨0, .data⟩], none⟩ ?_
     refine wpT 2 ⟨some 64, .move (.tmp 5), 3, "ref.go:138", #[], none⟩ ?_
     refine wpT 3 ⟨some 65, .indexAddr 50 (.tmp 63) (.tmp 64), 0, "ref.go:138", #[⟨1, .data⟩, ⟨2, .data⟩], none⟩ ?_
     refine wpT 4 ⟨some 66, .fieldAddr 124 (.tmp 65) 1, 0, "ref.go:138", #[⟨3, .data⟩], none⟩ ?_
     refine wpT 5 ⟨some 67, .load 122 (.tmp 66), 122, "ref.go:138", #[⟨4, .data⟩], none⟩ ?_
     refine wpT 6 ⟨some 68, .move (.tmp 6), 3, "ref.go:138", #[], none⟩ ?_
     refine wpT 7 ⟨some 69, .indexAddr 122 (.tmp 67) (.tmp 68), 0, "ref.go:138", #[⟨5, .data⟩, ⟨6, .data⟩], none⟩ ?_
     refine wpT 8 ⟨some 70, .fieldAddr 126 (.tmp 69) 0, 0, "ref.go:138", #[⟨7, .data⟩], none⟩ ?_
     refine wpT 9 ⟨some 71, .load 2 (.tmp 70), 2, "ref.go:138", #[⟨8, .data⟩], none⟩ ?_
     refine wpT 10 ⟨some 72, .fieldAddr 52 (.tmp 3) 0, 0, "ref.go:138", #[], none⟩ ?_
     refine wpT 11 ⟨some 73, .load 50 (.tmp 72), 50, "ref.go:138", #[⟨10, .data⟩], none⟩ ?_
     refine wpT 12 ⟨some 74, .move (.tmp 5), 3, "ref.go:138", #[], none⟩ ?_
     refine wpT 13 ⟨some 75, .indexAddr 50 (.tmp 73) (.tmp 74), 0, "ref.go:138", #[⟨11, .data⟩, ⟨12, .data⟩], none⟩ ?_
     refine wpT 14 ⟨some 76, .fieldAddr 124 (.tmp 75) 1, 0, "ref.go:138", #[⟨13, .data⟩], none⟩ ?_
     refine wpT 15 ⟨some 77, .load 122 (.tmp 76), 122, "ref.go:138", #[⟨14, .data⟩], none⟩ ?_
     refine wpT 16 ⟨some 78, .move (.tmp 6), 3, "ref.go:138", #[], none⟩ ?_
     refine wpT 17 ⟨some 79, .indexAddr 122 (.tmp 77) (.tmp 78), 0, "ref.go:138", #[⟨15, .data⟩, ⟨16, .data⟩], none⟩ ?_
     refine wpT 18 ⟨some 80, .fieldAddr 126 (.tmp 79) 0, 0, "ref.go:138", #[⟨17, .data⟩], none⟩ ?_
     refine wpT 19 ⟨some 81, .load 2 (.tmp 80), 2, "ref.go:138", #[⟨18, .data⟩], none⟩ ?_
     refine wpT 20 ⟨some 82, .binOp .neq 2 (.tmp 71) (.tmp 81) 2, 4, "ref.go:138", #[⟨9, .data⟩, ⟨19, .data⟩], none⟩ ?_
     refine wpT 21 ⟨some 83, .move (.tmp 82), 4, "ref.go:138", #[⟨20, .data⟩], none⟩ ?_
     refine wpT 22 ⟨some 84, .fieldAddr 52 (.tmp 2) 0, 0, "ref.go:138", #[⟨21, .guard⟩], some (21, false)⟩ ?_
     refine wpT 23 ⟨some 85, .load 50 (.tmp 84), 50, "ref.go:138", #[⟨22, .data⟩, ⟨21, .guard⟩], some (21, false)⟩ ?_
     refine wpT 24 ⟨some 86, .move (.tmp 5), 3, "ref.go:138", #[⟨21, .guard⟩], some (21, false)⟩ ?_
     refine wpT 25 ⟨some 87, .indexAddr 50 (.tmp 85) (.tmp 86), 0, "ref.go:138", #[⟨23, .data⟩, ⟨24, .data⟩, ⟨21, .guard⟩], some (21, false)⟩ ?_
     refine wpT 26 ⟨some 88, .fieldAddr 124 (.tmp 87) 1, 0, "ref.go:138", #[⟨25, .data⟩, ⟨21, .guard⟩], some (21, false)⟩ ?_
     refine wpT 27 ⟨some 89, .load 122 (.tmp 88), 122, "ref.go:138", #[⟨26, .data⟩, ⟨21, .guard⟩], some (21, false)⟩ ?_
     refine wpT 28 ⟨some 90, .move (.tmp 6), 3, "ref.go:138", #[⟨21, .guard⟩], some (21, false)⟩ ?_
     refine wpT 29 ⟨some 91, .indexAddr 122 (.tmp 89) (.tmp 90), 0, "ref.go:138", #[⟨27, .data⟩, ⟨28, .data⟩, ⟨21, .guard⟩], some (21, false)⟩ ?_
     refine wpT 30 ⟨some 92, .fieldAddr 126 (.tmp 91) 1, 0, "ref.go:138", #[⟨29, .data⟩, ⟨21, .guard⟩], some (21, false)⟩ ?_
     refine wpT 31 ⟨some 93, .load 99 (.tmp 92), 99, "ref.go:138", #[⟨30, .data⟩, ⟨21, .guard⟩], some (21, false)⟩ ?_
     refine wpT 32 ⟨some 94, .fieldAddr 52 (.tmp 3) 0, 0, "ref.go:138", #[⟨21, .guard⟩], some (21, false)⟩ ?_
     refine wpT 33 ⟨some 95, .load 50 (.tmp 94), 50, "ref.go:138", #[⟨32, .data⟩, ⟨21, .guard⟩], some (21, false)⟩ ?_
     refine wpT 34 ⟨some 96, .move (.tmp 5), 3, "ref.go:138", #[⟨21, .guard⟩], some (21, false)⟩ ?_
     refine wpT 35 ⟨some 97, .indexAddr 50 (.tmp 95) (.tmp 96), 0, "ref.go:138", #[⟨33, .data⟩, ⟨34, .data⟩, ⟨21, .guard⟩], some (21, false)⟩ ?_
     refine wpT 36 ⟨some 98, .fieldAddr 124 (.tmp 97) 1, 0, "ref.go:138", #[⟨35, .data⟩, ⟨21, .guard⟩], some (21, false)⟩ ?_
     refine wpT 37 ⟨some 99, .load 122 (.tmp 98), 122, "ref.go:138", #[⟨36, .data⟩, ⟨21, .guard⟩], some (21, false)⟩ ?_
     refine wpT 38 ⟨some 100, .move (.tmp 6), 3, "ref.go:138", #[⟨21, .guard⟩], some (21, false)⟩ ?_
     refine wpT 39 ⟨some 101, .indexAddr 122 (.tmp 99) (.tmp 100), 0, "ref.go:138", #[⟨37, .data⟩, ⟨38, .data⟩, ⟨21, .guard⟩], some (21, false)⟩ ?_
     refine wpT 40 ⟨some 102, .fieldAddr 126 (.tmp 101) 1, 0, "ref.go:138", #[⟨39, .data⟩, ⟨21, .guard⟩], some (21, false)⟩ ?_
     refine wpT 41 ⟨some 103, .load 99 (.tmp 102), 99, "ref.go:138", #[⟨40, .data⟩, ⟨21, .guard⟩], some (21, false)⟩ ?_
     refine wpR 42 ⟨some 104, .call ⟨.value (.func 65), #[.tmp 93, .tmp 103], #[99, 99]⟩, 4, "ref.go:138", #[⟨31, .data⟩, ⟨41, .data⟩, ⟨21, .chain⟩, ⟨21, .guard⟩], some (21, false)⟩ (fun K hK => ?_)
     go_simp
     (go_at_call 65; refine (rsame_p wr.drew _ _ _ _ _ _ _ _ _ _ _ _ _ HVz.out HVy.out (Moves.refl _ _)).mono ?_; rintro _ w5 ⟨rfl, m5⟩; rw [HS.out])
     refine hK.out _ _ ?_ (fun hHeld => ?_)
     ·first | exact ⟨m5.cell r0, m5.cell r1, m5.cell d1, m5.cell e1, m5.cell z0, m5.cell z1, m5.cell z2, m5.cell z3, m5.cell z2, m5.cell z3, m5.cell y0, m5.cell y1, m5.cell y2, m5.cell y3, m5.cell y2, m5.cell y3⟩ | exact ⟨r0, r1, d1, e1, z0, z1, z2, z3, z2, z3, y0, y1, y2, y3, y2, y3⟩
     clear hK K
     try simp only [Act.put, sp1, sp2, sp3]
     refine wpT 43 ⟨some 105, .unOp .not 4 (.tmp 104), 4, "ref.go:138", #[⟨42, .data⟩, ⟨21, .guard⟩], some (21, false)⟩ ?_
     refine wpT 44 ⟨some 106, .pick (.tmp 83) (.const (.bool true)) (.tmp 105), 4, "ref.go:138", #[⟨21, .data⟩, ⟨43, .data⟩], none⟩ ?_
     refine wpAnyH_done (by kernel_rfl) ?_ _
     refine NoPanic.normal ?_
     go_wp2_with fail
     go_roundw
     case rel => exact ⟨j + 1, by omega, by go_num, mq.drew.then m5⟩
     case measure => simp [intOf]; omega
    ·have hj3 : ¬ (j : Int) < n2' := by omega
     go_wp2_with fail
     go_roundw
     case rel => exact ⟨k + 1, by omega, by go_num, HMb.out.then mq, r0, r1⟩
     case measure => simp [intOf]; omega
  ·have hk3 : ¬ (k : Int) < n := by omega
   go_wp2_with fail
   go_ret
   exact ⟨rfl, mr⟩
end Go.Proofs.YtcngllcifcpbkaaGreat
