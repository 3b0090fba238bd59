/- ours -/
import Derived.Test.YtilbbnmhnacnlaaGreatCRow3
namespace Go.Proofs.YtilbbnmhnacnlaaGreat
open Go.RowKit

theorem pright_no {xs : List Pcol} {k : Nat} (hk : k < xs.length) (h : colGood xs k = false) : pright xs = false := by
  unfold pright
  have : (List.range xs.length).all (colGood xs) = false := by
    rw [List.all_eq_false]
    exact ⟨k, List.mem_range.2 hk, by simp [h]⟩
  rw [this, Bool.and_false]
theorem pright_yes {xs : List Pcol} (h2 : xs.length ≤ 4) (h : ∀ j, j < xs.length → colGood xs j = true) : pright xs = true := by
  unfold pright
  have : (List.range xs.length).all (colGood xs) = true := List.all_eq_true.2 fun j hj => h j (List.mem_range.1 hj)
  rw [this, decide_eq_true h2]
  rfl
theorem pright_len {xs : List Pcol} (h : ¬ xs.length ≤ 4) : pright xs = false := by
  unfold pright
  rw [decide_eq_false h, Bool.false_and]

set_option maxRecDepth 100000 in
set_option maxHeartbeats 4000000 in
theorem right_w (W w : World) (v : Value) (xs : List Pcol) (h : RowAt W v xs) (m : Moves [] W w) :
    Calls Tryz.prog 170 #[v] w fun e w' => e = .returned (.bool (pright xs)) ∧ Moves [] w w' := by
  obtain ⟨lv, rfl, h⟩ := h
  obtain ⟨ad, cap, hlv, hcap⟩ := h.slice
  obtain ⟨n, HN⟩ : ∃ n, Hid (n = xs.length) := ⟨_, rfl⟩
  rw [← HN.out] at hlv hcap
  subst hlv
  by_cases h1 : 4 < n
  · have hb : Hid (pright xs = false) := pright_len (by rw [← HN.out]; omega)
    have h1' : (4 : Int) < n := by omega
    go_enter Tryz.func170, Tryz.ntmps170
    go_wp2
    go_ret
    exact ⟨by rw [hb.out]; rfl, (Moves.refl _ _).alloc _⟩
  have h1' : ¬ (4 : Int) < n := by omega
  go_enter Tryz.func170, Tryz.ntmps170
  go_wp2_with fail
  have m1 : Moves [] w (w.alloc (.cells #[.slice ad n cap] 97)) := (Moves.refl _ _).alloc _
  obtain ⟨z0, _⟩ := one_cell (heap_alloc_new w (.cells #[.slice ad n cap] 97))
  go_loopw [12] (fun i wr => ∃ k : Nat, k ≤ n ∧ i = .int .i64 k ∧ Moves [] w wr ∧ wr.cell? ⟨w.heap.size, 0, none⟩ = some (.slice ad n cap) ∧ ∀ j, j < k → colGood xs j = true) (fun i _ => n - (intOf i).toNat)
  case atStart => exact ⟨0, Nat.zero_le _, rfl, m1, z0, fun j hj => absurd hj (by omega)⟩
  case round =>
    obtain ⟨k, hk, rfl, mr, rr, hall⟩ := hrel
    by_cases hlt : k < n
    · have hk3 : (k : Int) < n := by omega
      have hkx : k < xs.length := by rw [← HN.out]; exact hlt
      obtain ⟨x, hx⟩ : ∃ x, xs[k]? = some x := ⟨_, List.getElem?_eq_getElem hkx⟩
      have h0 := h
      obtain ⟨g, off, a2, n2, c2, rfl, e0, e1, en, hle, hV⟩ := h0.at hx
      have d0 := (m.then mr).cell e0
      have d1 := (m.then mr).cell e1
      have HX : Hid (xs[k]? = some x) := hx
      have HL : Hid (n2 = x.l.length) := en
      clear e0 e1 hx hkx en
      go_wp2_with fail
      obtain ⟨wc, hwc⟩ : ∃ wc, wr.alloc (.cells #[.string x.name, .slice a2 n2 c2] 144) = wc := ⟨_, rfl⟩
      have mc : Moves [] wr wc := by rw [← hwc]; exact (Moves.refl _ _).alloc _
      have qc : wc.heap[wr.heap.size]? = some (.cells #[.string x.name, .slice a2 n2 c2] 144 (0, 0)) := by rw [← hwc]; exact heap_alloc_new _ _
      rw [hwc]
      obtain ⟨b0, b1⟩ := pair_cells qc
      have r0 := mc.cell rr
      have HVC : Hid (VersAt wc.drew (.slice a2 n2 c2) x.l) := hV.moves ((m.then mr).then mc).drew
      have HM : Hid (Moves [] w wc.drew) := (mr.then mc).drew
      clear hwc qc d0 d1 hV rr
      cases hp : pname x.name with
      | false =>
        have HP : Hid (pname x.name = false) := hp
        have hbad : Hid (pright xs = false) := pright_no (by rw [← HN.out]; exact hlt) (by unfold colGood; rw [HX.out]; simp [hp])
        clear hp
        refine wp_region_noPanic ?_
        refine wp_region_held_drew (S := (fun w' => w'.cell? ⟨wr.heap.size, 0, none⟩ = some (.string x.name) ∧ w'.cell? ⟨wr.heap.size, 1, none⟩ = some (.slice a2 n2 c2) ∧ w'.cell? ⟨w.heap.size, 0, none⟩ = some (.slice (some ⟨g, off, none⟩) n cap))) (by kernel_rfl) ?_ (fun hHeld => ?_)
        · first | (go_keep; done) | first | exact ⟨m5.cell b0, m5.cell b1, m5.cell r0⟩ | exact ⟨b0, b1, r0⟩
        refine wpT 0 ⟨some 17, .fieldAddr 144 (.tmp 4) 0, 0, "row.go:21", #[], none⟩ ?_
        refine wpT 1 ⟨some 18, .load 9 (.tmp 17), 9, "row.go:21", #[⟨0, .data⟩], none⟩ ?_
        refine wpR 2 ⟨some 19, .call ⟨.value (.func 121), #[.tmp 18], #[9]⟩, 4, "row.go:21", #[⟨1, .data⟩], none⟩ (fun K hK => ?_)
        go_simp
        (go_at_call 121; refine (name_w _ _).mono ?_; rintro _ _ ⟨rfl, rfl⟩; rw [HP.out])
        refine hK.out _ _ ?_ (fun hHeld => ?_)
        · first | exact ⟨m5.cell b0, m5.cell b1, m5.cell r0⟩ | exact ⟨b0, b1, r0⟩
        clear hK K
        try simp only [Act.put, sp1, sp2, sp3]
        refine wpT 3 ⟨some 20, .unOp .not 4 (.tmp 19), 4, "row.go:21", #[⟨2, .data⟩], none⟩ ?_
        refine wpT 4 ⟨some 21, .move (.tmp 20), 4, "row.go:21", #[⟨3, .data⟩, ⟨2, .chain⟩], none⟩ ?_
        refine wpU 5 ⟨some 22, .move (.tmp 3), 3, "row.go:21", #[⟨4, .guard⟩], some (4, false)⟩ ?_
        refine wpU 6 ⟨some 23, .binOp .gtr 3 (.tmp 22) (.const (.int .i64 0)) 3, 4, "row.go:21", #[⟨5, .data⟩, ⟨4, .guard⟩], some (4, false)⟩ ?_
        refine wpU 7 ⟨some 24, .move (.tmp 23), 4, "row.go:21", #[⟨6, .data⟩, ⟨4, .chain⟩, ⟨4, .guard⟩], some (4, false)⟩ ?_
        refine wpU 8 ⟨some 25, .fieldAddr 97 (.tmp 1) 0, 0, "row.go:21", #[⟨7, .guard⟩], some (7, true)⟩ ?_
        refine wpU 9 ⟨some 26, .load 95 (.tmp 25), 95, "row.go:21", #[⟨8, .data⟩, ⟨7, .guard⟩], some (7, true)⟩ ?_
        refine wpU 10 ⟨some 27, .move (.tmp 3), 3, "row.go:21", #[⟨7, .guard⟩], some (7, true)⟩ ?_
        refine wpU 11 ⟨some 28, .binOp .sub 3 (.tmp 27) (.const (.int .i64 1)) 3, 3, "row.go:21", #[⟨10, .data⟩, ⟨7, .guard⟩], some (7, true)⟩ ?_
        refine wpU 12 ⟨some 29, .indexAddr 95 (.tmp 26) (.tmp 28), 0, "row.go:21", #[⟨9, .data⟩, ⟨11, .data⟩, ⟨7, .guard⟩], some (7, true)⟩ ?_
        refine wpU 13 ⟨some 30, .fieldAddr 144 (.tmp 29) 0, 0, "row.go:21", #[⟨12, .data⟩, ⟨7, .guard⟩], some (7, true)⟩ ?_
        refine wpU 14 ⟨some 31, .load 9 (.tmp 30), 9, "row.go:21", #[⟨13, .data⟩, ⟨7, .guard⟩], some (7, true)⟩ ?_
        refine wpU 15 ⟨some 32, .fieldAddr 144 (.tmp 4) 0, 0, "row.go:21", #[⟨7, .guard⟩], some (7, true)⟩ ?_
        refine wpU 16 ⟨some 33, .load 9 (.tmp 32), 9, "row.go:21", #[⟨15, .data⟩, ⟨7, .guard⟩], some (7, true)⟩ ?_
        refine wpU 17 ⟨some 34, .binOp .geq 9 (.tmp 31) (.tmp 33) 9, 4, "row.go:21", #[⟨14, .data⟩, ⟨16, .data⟩, ⟨7, .guard⟩], some (7, true)⟩ ?_
        refine wpU 18 ⟨some 35, .pick (.tmp 24) (.tmp 34) (.const (.bool false)), 4, "row.go:21", #[⟨7, .data⟩, ⟨17, .data⟩, ⟨4, .guard⟩], some (4, false)⟩ ?_
        refine wpT 19 ⟨some 36, .pick (.tmp 21) (.const (.bool true)) (.tmp 35), 4, "row.go:21", #[⟨4, .data⟩, ⟨18, .data⟩], none⟩ ?_
        refine wpT 20 ⟨some 37, .move (.tmp 36), 4, "row.go:21", #[⟨19, .data⟩, ⟨7, .chain⟩], none⟩ ?_
        refine wpU 21 ⟨some 38, .fieldAddr 144 (.tmp 4) 1, 0, "row.go:21", #[⟨20, .guard⟩], some (20, false)⟩ ?_
        refine wpU 22 ⟨some 39, .load 142 (.tmp 38), 142, "row.go:21", #[⟨21, .data⟩, ⟨20, .guard⟩], some (20, false)⟩ ?_
        refine wpU 23 ⟨some 40, .call ⟨.value (.func 198), #[.tmp 39], #[142]⟩, 4, "row.go:21", #[⟨22, .data⟩, ⟨20, .chain⟩, ⟨20, .guard⟩], some (20, false)⟩ ?_
        refine wpU 24 ⟨some 41, .unOp .not 4 (.tmp 40), 4, "row.go:21", #[⟨23, .data⟩, ⟨20, .guard⟩], some (20, false)⟩ ?_
        refine wpT 25 ⟨some 42, .pick (.tmp 37) (.const (.bool true)) (.tmp 41), 4, "row.go:21", #[⟨20, .data⟩, ⟨24, .data⟩], none⟩ ?_
        refine wpAnyH_done (by kernel_rfl) ?_ _
        refine NoPanic.normal ?_
        go_wp2_with fail
        go_ret
        refine ⟨?_, ?_⟩
        · rw [hbad.out]; rfl
        · exact HM.out
      | true =>
        have HP : Hid (pname x.name = true) := hp
        by_cases hk0 : k = 0
        · subst hk0
          cases hr : prightV x.l with
          | false =>
            have HR : Hid (prightV x.l = false) := hr
            have hbad : Hid (pright xs = false) := pright_no (by rw [← HN.out]; exact hlt) (by unfold colGood; rw [HX.out]; simp [hr])
            clear hp hr
            refine wp_region_noPanic ?_
            refine wp_region_held_drew (S := (fun w' => w'.cell? ⟨wr.heap.size, 0, none⟩ = some (.string x.name) ∧ w'.cell? ⟨wr.heap.size, 1, none⟩ = some (.slice a2 n2 c2) ∧ w'.cell? ⟨w.heap.size, 0, none⟩ = some (.slice (some ⟨g, off, none⟩) n cap))) (by kernel_rfl) ?_ (fun hHeld => ?_)
            · first | (go_keep; done) | first | exact ⟨m5.cell b0, m5.cell b1, m5.cell r0⟩ | exact ⟨b0, b1, r0⟩
            refine wpT 0 ⟨some 17, .fieldAddr 144 (.tmp 4) 0, 0, "row.go:21", #[], none⟩ ?_
            refine wpT 1 ⟨some 18, .load 9 (.tmp 17), 9, "row.go:21", #[⟨0, .data⟩], none⟩ ?_
            refine wpR 2 ⟨some 19, .call ⟨.value (.func 121), #[.tmp 18], #[9]⟩, 4, "row.go:21", #[⟨1, .data⟩], none⟩ (fun K hK => ?_)
            go_simp
            (go_at_call 121; refine (name_w _ _).mono ?_; rintro _ _ ⟨rfl, rfl⟩; rw [HP.out])
            refine hK.out _ _ ?_ (fun hHeld => ?_)
            · first | exact ⟨m5.cell b0, m5.cell b1, m5.cell r0⟩ | exact ⟨b0, b1, r0⟩
            clear hK K
            try simp only [Act.put, sp1, sp2, sp3]
            refine wpT 3 ⟨some 20, .unOp .not 4 (.tmp 19), 4, "row.go:21", #[⟨2, .data⟩], none⟩ ?_
            refine wpT 4 ⟨some 21, .move (.tmp 20), 4, "row.go:21", #[⟨3, .data⟩, ⟨2, .chain⟩], none⟩ ?_
            refine wpT 5 ⟨some 22, .move (.tmp 3), 3, "row.go:21", #[⟨4, .guard⟩], some (4, false)⟩ ?_
            refine wpT 6 ⟨some 23, .binOp .gtr 3 (.tmp 22) (.const (.int .i64 0)) 3, 4, "row.go:21", #[⟨5, .data⟩, ⟨4, .guard⟩], some (4, false)⟩ ?_
            refine wpT 7 ⟨some 24, .move (.tmp 23), 4, "row.go:21", #[⟨6, .data⟩, ⟨4, .chain⟩, ⟨4, .guard⟩], some (4, false)⟩ ?_
            refine wpU 8 ⟨some 25, .fieldAddr 97 (.tmp 1) 0, 0, "row.go:21", #[⟨7, .guard⟩], some (7, true)⟩ ?_
            refine wpU 9 ⟨some 26, .load 95 (.tmp 25), 95, "row.go:21", #[⟨8, .data⟩, ⟨7, .guard⟩], some (7, true)⟩ ?_
            refine wpU 10 ⟨some 27, .move (.tmp 3), 3, "row.go:21", #[⟨7, .guard⟩], some (7, true)⟩ ?_
            refine wpU 11 ⟨some 28, .binOp .sub 3 (.tmp 27) (.const (.int .i64 1)) 3, 3, "row.go:21", #[⟨10, .data⟩, ⟨7, .guard⟩], some (7, true)⟩ ?_
            refine wpU 12 ⟨some 29, .indexAddr 95 (.tmp 26) (.tmp 28), 0, "row.go:21", #[⟨9, .data⟩, ⟨11, .data⟩, ⟨7, .guard⟩], some (7, true)⟩ ?_
            refine wpU 13 ⟨some 30, .fieldAddr 144 (.tmp 29) 0, 0, "row.go:21", #[⟨12, .data⟩, ⟨7, .guard⟩], some (7, true)⟩ ?_
            refine wpU 14 ⟨some 31, .load 9 (.tmp 30), 9, "row.go:21", #[⟨13, .data⟩, ⟨7, .guard⟩], some (7, true)⟩ ?_
            refine wpU 15 ⟨some 32, .fieldAddr 144 (.tmp 4) 0, 0, "row.go:21", #[⟨7, .guard⟩], some (7, true)⟩ ?_
            refine wpU 16 ⟨some 33, .load 9 (.tmp 32), 9, "row.go:21", #[⟨15, .data⟩, ⟨7, .guard⟩], some (7, true)⟩ ?_
            refine wpU 17 ⟨some 34, .binOp .geq 9 (.tmp 31) (.tmp 33) 9, 4, "row.go:21", #[⟨14, .data⟩, ⟨16, .data⟩, ⟨7, .guard⟩], some (7, true)⟩ ?_
            refine wpT 18 ⟨some 35, .pick (.tmp 24) (.tmp 34) (.const (.bool false)), 4, "row.go:21", #[⟨7, .data⟩, ⟨17, .data⟩, ⟨4, .guard⟩], some (4, false)⟩ ?_
            refine wpT 19 ⟨some 36, .pick (.tmp 21) (.const (.bool true)) (.tmp 35), 4, "row.go:21", #[⟨4, .data⟩, ⟨18, .data⟩], none⟩ ?_
            refine wpT 20 ⟨some 37, .move (.tmp 36), 4, "row.go:21", #[⟨19, .data⟩, ⟨7, .chain⟩], none⟩ ?_
            refine wpT 21 ⟨some 38, .fieldAddr 144 (.tmp 4) 1, 0, "row.go:21", #[⟨20, .guard⟩], some (20, false)⟩ ?_
            refine wpT 22 ⟨some 39, .load 142 (.tmp 38), 142, "row.go:21", #[⟨21, .data⟩, ⟨20, .guard⟩], some (20, false)⟩ ?_
            refine wpR 23 ⟨some 40, .call ⟨.value (.func 198), #[.tmp 39], #[142]⟩, 4, "row.go:21", #[⟨22, .data⟩, ⟨20, .chain⟩, ⟨20, .guard⟩], some (20, false)⟩ (fun K hK => ?_)
            go_simp
            (go_at_call 198; refine (rightVersions_w wc.drew _ _ _ _ x.l HVC.out HL.out (Moves.refl _ _)).mono ?_; rintro _ w5 ⟨rfl, m5⟩; rw [HR.out])
            refine hK.out _ _ ?_ (fun hHeld => ?_)
            · first | exact ⟨m5.cell b0, m5.cell b1, m5.cell r0⟩ | exact ⟨b0, b1, r0⟩
            clear hK K
            try simp only [Act.put, sp1, sp2, sp3]
            refine wpT 24 ⟨some 41, .unOp .not 4 (.tmp 40), 4, "row.go:21", #[⟨23, .data⟩, ⟨20, .guard⟩], some (20, false)⟩ ?_
            refine wpT 25 ⟨some 42, .pick (.tmp 37) (.const (.bool true)) (.tmp 41), 4, "row.go:21", #[⟨20, .data⟩, ⟨24, .data⟩], none⟩ ?_
            refine wpAnyH_done (by kernel_rfl) ?_ _
            refine NoPanic.normal ?_
            go_wp2_with fail
            go_ret
            refine ⟨?_, ?_⟩
            · rw [hbad.out]; rfl
            · exact HM.out.then m5
          | true =>
            have HR : Hid (prightV x.l = true) := hr
            have hgood : colGood xs 0 = true := by unfold colGood; rw [HX.out]; simp [hp, hr]
            clear hp hr
            refine wp_region_noPanic ?_
            refine wp_region_held_drew (S := (fun w' => w'.cell? ⟨wr.heap.size, 0, none⟩ = some (.string x.name) ∧ w'.cell? ⟨wr.heap.size, 1, none⟩ = some (.slice a2 n2 c2) ∧ w'.cell? ⟨w.heap.size, 0, none⟩ = some (.slice (some ⟨g, off, none⟩) n cap))) (by kernel_rfl) ?_ (fun hHeld => ?_)
            · first | (go_keep; done) | first | exact ⟨m5.cell b0, m5.cell b1, m5.cell r0⟩ | exact ⟨b0, b1, r0⟩
            refine wpT 0 ⟨some 17, .fieldAddr 144 (.tmp 4) 0, 0, "row.go:21", #[], none⟩ ?_
            refine wpT 1 ⟨some 18, .load 9 (.tmp 17), 9, "row.go:21", #[⟨0, .data⟩], none⟩ ?_
            refine wpR 2 ⟨some 19, .call ⟨.value (.func 121), #[.tmp 18], #[9]⟩, 4, "row.go:21", #[⟨1, .data⟩], none⟩ (fun K hK => ?_)
            go_simp
            (go_at_call 121; refine (name_w _ _).mono ?_; rintro _ _ ⟨rfl, rfl⟩; rw [HP.out])
            refine hK.out _ _ ?_ (fun hHeld => ?_)
            · first | exact ⟨m5.cell b0, m5.cell b1, m5.cell r0⟩ | exact ⟨b0, b1, r0⟩
            clear hK K
            try simp only [Act.put, sp1, sp2, sp3]
            refine wpT 3 ⟨some 20, .unOp .not 4 (.tmp 19), 4, "row.go:21", #[⟨2, .data⟩], none⟩ ?_
            refine wpT 4 ⟨some 21, .move (.tmp 20), 4, "row.go:21", #[⟨3, .data⟩, ⟨2, .chain⟩], none⟩ ?_
            refine wpT 5 ⟨some 22, .move (.tmp 3), 3, "row.go:21", #[⟨4, .guard⟩], some (4, false)⟩ ?_
            refine wpT 6 ⟨some 23, .binOp .gtr 3 (.tmp 22) (.const (.int .i64 0)) 3, 4, "row.go:21", #[⟨5, .data⟩, ⟨4, .guard⟩], some (4, false)⟩ ?_
            refine wpT 7 ⟨some 24, .move (.tmp 23), 4, "row.go:21", #[⟨6, .data⟩, ⟨4, .chain⟩, ⟨4, .guard⟩], some (4, false)⟩ ?_
            refine wpU 8 ⟨some 25, .fieldAddr 97 (.tmp 1) 0, 0, "row.go:21", #[⟨7, .guard⟩], some (7, true)⟩ ?_
            refine wpU 9 ⟨some 26, .load 95 (.tmp 25), 95, "row.go:21", #[⟨8, .data⟩, ⟨7, .guard⟩], some (7, true)⟩ ?_
            refine wpU 10 ⟨some 27, .move (.tmp 3), 3, "row.go:21", #[⟨7, .guard⟩], some (7, true)⟩ ?_
            refine wpU 11 ⟨some 28, .binOp .sub 3 (.tmp 27) (.const (.int .i64 1)) 3, 3, "row.go:21", #[⟨10, .data⟩, ⟨7, .guard⟩], some (7, true)⟩ ?_
            refine wpU 12 ⟨some 29, .indexAddr 95 (.tmp 26) (.tmp 28), 0, "row.go:21", #[⟨9, .data⟩, ⟨11, .data⟩, ⟨7, .guard⟩], some (7, true)⟩ ?_
            refine wpU 13 ⟨some 30, .fieldAddr 144 (.tmp 29) 0, 0, "row.go:21", #[⟨12, .data⟩, ⟨7, .guard⟩], some (7, true)⟩ ?_
            refine wpU 14 ⟨some 31, .load 9 (.tmp 30), 9, "row.go:21", #[⟨13, .data⟩, ⟨7, .guard⟩], some (7, true)⟩ ?_
            refine wpU 15 ⟨some 32, .fieldAddr 144 (.tmp 4) 0, 0, "row.go:21", #[⟨7, .guard⟩], some (7, true)⟩ ?_
            refine wpU 16 ⟨some 33, .load 9 (.tmp 32), 9, "row.go:21", #[⟨15, .data⟩, ⟨7, .guard⟩], some (7, true)⟩ ?_
            refine wpU 17 ⟨some 34, .binOp .geq 9 (.tmp 31) (.tmp 33) 9, 4, "row.go:21", #[⟨14, .data⟩, ⟨16, .data⟩, ⟨7, .guard⟩], some (7, true)⟩ ?_
            refine wpT 18 ⟨some 35, .pick (.tmp 24) (.tmp 34) (.const (.bool false)), 4, "row.go:21", #[⟨7, .data⟩, ⟨17, .data⟩, ⟨4, .guard⟩], some (4, false)⟩ ?_
            refine wpT 19 ⟨some 36, .pick (.tmp 21) (.const (.bool true)) (.tmp 35), 4, "row.go:21", #[⟨4, .data⟩, ⟨18, .data⟩], none⟩ ?_
            refine wpT 20 ⟨some 37, .move (.tmp 36), 4, "row.go:21", #[⟨19, .data⟩, ⟨7, .chain⟩], none⟩ ?_
            refine wpT 21 ⟨some 38, .fieldAddr 144 (.tmp 4) 1, 0, "row.go:21", #[⟨20, .guard⟩], some (20, false)⟩ ?_
            refine wpT 22 ⟨some 39, .load 142 (.tmp 38), 142, "row.go:21", #[⟨21, .data⟩, ⟨20, .guard⟩], some (20, false)⟩ ?_
            refine wpR 23 ⟨some 40, .call ⟨.value (.func 198), #[.tmp 39], #[142]⟩, 4, "row.go:21", #[⟨22, .data⟩, ⟨20, .chain⟩, ⟨20, .guard⟩], some (20, false)⟩ (fun K hK => ?_)
            go_simp
            (go_at_call 198; refine (rightVersions_w wc.drew _ _ _ _ x.l HVC.out HL.out (Moves.refl _ _)).mono ?_; rintro _ w5 ⟨rfl, m5⟩; rw [HR.out])
            refine hK.out _ _ ?_ (fun hHeld => ?_)
            · first | exact ⟨m5.cell b0, m5.cell b1, m5.cell r0⟩ | exact ⟨b0, b1, r0⟩
            clear hK K
            try simp only [Act.put, sp1, sp2, sp3]
            refine wpT 24 ⟨some 41, .unOp .not 4 (.tmp 40), 4, "row.go:21", #[⟨23, .data⟩, ⟨20, .guard⟩], some (20, false)⟩ ?_
            refine wpT 25 ⟨some 42, .pick (.tmp 37) (.const (.bool true)) (.tmp 41), 4, "row.go:21", #[⟨20, .data⟩, ⟨24, .data⟩], none⟩ ?_
            refine wpAnyH_done (by kernel_rfl) ?_ _
            refine NoPanic.normal ?_
            go_wp2_with fail
            go_roundw
            case rel => exact ⟨0 + 1, by omega, by go_num, HM.out.then m5, m5.cell r0, fun j hj => by rcases Nat.lt_succ_iff_lt_or_eq.1 hj with h | h; exact hall j h; rw [h]; exact hgood⟩
            case measure => simp [intOf]; omega
        · obtain ⟨k', hk'⟩ : ∃ k', k = k' + 1 := ⟨k - 1, by omega⟩
          obtain ⟨y, hy⟩ : ∃ y, xs[k']? = some y := ⟨_, List.getElem?_eq_getElem (by have := HN.out; omega)⟩
          have hpos : 0 < k := by omega
          have hw1 : IntKind.i64.wrap ((k : Int) - 1) = (k' : Int) := by rw [IntWalk.i64_in _ (by omega)]; omega
          have hk1 : (k' : Int) < n := by omega
          obtain ⟨g', off', a3, n3, c3, eg, py0, _⟩ := h.at hy
          simp at eg
          obtain ⟨rfl, rfl⟩ := eg
          have py := ((m.then mr).then mc).cell py0
          have hpre : xs[k - 1]? = some y := by rw [hk']; simpa using hy
          have HY : Hid (xs[k - 1]? = some y) := hpre
          clear py0 hpre hy hk' 
          cases hty : nlt y.name x.name with
          | false =>
            have hbad : Hid (pright xs = false) := pright_no (by rw [← HN.out]; exact hlt) (by unfold colGood; rw [HX.out]; simp [HY.out, hk0, hty])
            have hbl : Op.bytesLess y.name.toList x.name.toList = false := hty
            clear hty hp
            refine wp_region_noPanic ?_
            refine wp_region_held_drew (S := (fun w' => w'.cell? ⟨wr.heap.size, 0, none⟩ = some (.string x.name) ∧ w'.cell? ⟨wr.heap.size, 1, none⟩ = some (.slice a2 n2 c2) ∧ w'.cell? ⟨w.heap.size, 0, none⟩ = some (.slice (some ⟨g, off, none⟩) n cap) ∧ w'.cell? ⟨g, off + k' * 2, none⟩ = some (.string y.name))) (by kernel_rfl) ?_ (fun hHeld => ?_)
            · first | (go_keep; done) | first | exact ⟨m5.cell b0, m5.cell b1, m5.cell r0, m5.cell py⟩ | exact ⟨b0, b1, r0, py⟩
            refine wpT 0 ⟨some 17, .fieldAddr 144 (.tmp 4) 0, 0, "row.go:21", #[], none⟩ ?_
            refine wpT 1 ⟨some 18, .load 9 (.tmp 17), 9, "row.go:21", #[⟨0, .data⟩], none⟩ ?_
            refine wpR 2 ⟨some 19, .call ⟨.value (.func 121), #[.tmp 18], #[9]⟩, 4, "row.go:21", #[⟨1, .data⟩], none⟩ (fun K hK => ?_)
            go_simp
            (go_at_call 121; refine (name_w _ _).mono ?_; rintro _ _ ⟨rfl, rfl⟩; rw [HP.out])
            refine hK.out _ _ ?_ (fun hHeld => ?_)
            · first | exact ⟨m5.cell b0, m5.cell b1, m5.cell r0, m5.cell py⟩ | exact ⟨b0, b1, r0, py⟩
            clear hK K
            try simp only [Act.put, sp1, sp2, sp3]
            refine wpT 3 ⟨some 20, .unOp .not 4 (.tmp 19), 4, "row.go:21", #[⟨2, .data⟩], none⟩ ?_
            refine wpT 4 ⟨some 21, .move (.tmp 20), 4, "row.go:21", #[⟨3, .data⟩, ⟨2, .chain⟩], none⟩ ?_
            refine wpT 5 ⟨some 22, .move (.tmp 3), 3, "row.go:21", #[⟨4, .guard⟩], some (4, false)⟩ ?_
            refine wpT 6 ⟨some 23, .binOp .gtr 3 (.tmp 22) (.const (.int .i64 0)) 3, 4, "row.go:21", #[⟨5, .data⟩, ⟨4, .guard⟩], some (4, false)⟩ ?_
            refine wpT 7 ⟨some 24, .move (.tmp 23), 4, "row.go:21", #[⟨6, .data⟩, ⟨4, .chain⟩, ⟨4, .guard⟩], some (4, false)⟩ ?_
            refine wpT 8 ⟨some 25, .fieldAddr 97 (.tmp 1) 0, 0, "row.go:21", #[⟨7, .guard⟩], some (7, true)⟩ ?_
            refine wpT 9 ⟨some 26, .load 95 (.tmp 25), 95, "row.go:21", #[⟨8, .data⟩, ⟨7, .guard⟩], some (7, true)⟩ ?_
            refine wpT 10 ⟨some 27, .move (.tmp 3), 3, "row.go:21", #[⟨7, .guard⟩], some (7, true)⟩ ?_
            refine wpT 11 ⟨some 28, .binOp .sub 3 (.tmp 27) (.const (.int .i64 1)) 3, 3, "row.go:21", #[⟨10, .data⟩, ⟨7, .guard⟩], some (7, true)⟩ ?_
            refine wpT 12 ⟨some 29, .indexAddr 95 (.tmp 26) (.tmp 28), 0, "row.go:21", #[⟨9, .data⟩, ⟨11, .data⟩, ⟨7, .guard⟩], some (7, true)⟩ ?_
            refine wpT 13 ⟨some 30, .fieldAddr 144 (.tmp 29) 0, 0, "row.go:21", #[⟨12, .data⟩, ⟨7, .guard⟩], some (7, true)⟩ ?_
            refine wpT 14 ⟨some 31, .load 9 (.tmp 30), 9, "row.go:21", #[⟨13, .data⟩, ⟨7, .guard⟩], some (7, true)⟩ ?_
            refine wpT 15 ⟨some 32, .fieldAddr 144 (.tmp 4) 0, 0, "row.go:21", #[⟨7, .guard⟩], some (7, true)⟩ ?_
            refine wpT 16 ⟨some 33, .load 9 (.tmp 32), 9, "row.go:21", #[⟨15, .data⟩, ⟨7, .guard⟩], some (7, true)⟩ ?_
            refine wpT 17 ⟨some 34, .binOp .geq 9 (.tmp 31) (.tmp 33) 9, 4, "row.go:21", #[⟨14, .data⟩, ⟨16, .data⟩, ⟨7, .guard⟩], some (7, true)⟩ ?_
            refine wpT 18 ⟨some 35, .pick (.tmp 24) (.tmp 34) (.const (.bool false)), 4, "row.go:21", #[⟨7, .data⟩, ⟨17, .data⟩, ⟨4, .guard⟩], some (4, false)⟩ ?_
            refine wpT 19 ⟨some 36, .pick (.tmp 21) (.const (.bool true)) (.tmp 35), 4, "row.go:21", #[⟨4, .data⟩, ⟨18, .data⟩], none⟩ ?_
            refine wpT 20 ⟨some 37, .move (.tmp 36), 4, "row.go:21", #[⟨19, .data⟩, ⟨7, .chain⟩], none⟩ ?_
            refine wpU 21 ⟨some 38, .fieldAddr 144 (.tmp 4) 1, 0, "row.go:21", #[⟨20, .guard⟩], some (20, false)⟩ ?_
            refine wpU 22 ⟨some 39, .load 142 (.tmp 38), 142, "row.go:21", #[⟨21, .data⟩, ⟨20, .guard⟩], some (20, false)⟩ ?_
            refine wpU 23 ⟨some 40, .call ⟨.value (.func 198), #[.tmp 39], #[142]⟩, 4, "row.go:21", #[⟨22, .data⟩, ⟨20, .chain⟩, ⟨20, .guard⟩], some (20, false)⟩ ?_
            refine wpU 24 ⟨some 41, .unOp .not 4 (.tmp 40), 4, "row.go:21", #[⟨23, .data⟩, ⟨20, .guard⟩], some (20, false)⟩ ?_
            refine wpT 25 ⟨some 42, .pick (.tmp 37) (.const (.bool true)) (.tmp 41), 4, "row.go:21", #[⟨20, .data⟩, ⟨24, .data⟩], none⟩ ?_
            refine wpAnyH_done (by kernel_rfl) ?_ _
            refine NoPanic.normal ?_
            go_wp2_with fail
            go_ret
            refine ⟨?_, ?_⟩
            · rw [hbad.out]; rfl
            · exact HM.out
          | true =>
            have hbl : Op.bytesLess y.name.toList x.name.toList = true := hty
            cases hr : prightV x.l with
            | false =>
              have HR : Hid (prightV x.l = false) := hr
              have hbad : Hid (pright xs = false) := pright_no (by rw [← HN.out]; exact hlt) (by unfold colGood; rw [HX.out]; simp [hr])
              clear hp hr hty
              refine wp_region_noPanic ?_
              refine wp_region_held_drew (S := (fun w' => w'.cell? ⟨wr.heap.size, 0, none⟩ = some (.string x.name) ∧ w'.cell? ⟨wr.heap.size, 1, none⟩ = some (.slice a2 n2 c2) ∧ w'.cell? ⟨w.heap.size, 0, none⟩ = some (.slice (some ⟨g, off, none⟩) n cap) ∧ w'.cell? ⟨g, off + k' * 2, none⟩ = some (.string y.name))) (by kernel_rfl) ?_ (fun hHeld => ?_)
              · first | (go_keep; done) | first | exact ⟨m5.cell b0, m5.cell b1, m5.cell r0, m5.cell py⟩ | exact ⟨b0, b1, r0, py⟩
              refine wpT 0 ⟨some 17, .fieldAddr 144 (.tmp 4) 0, 0, "row.go:21", #[], none⟩ ?_
              refine wpT 1 ⟨some 18, .load 9 (.tmp 17), 9, "row.go:21", #[⟨0, .data⟩], none⟩ ?_
              refine wpR 2 ⟨some 19, .call ⟨.value (.func 121), #[.tmp 18], #[9]⟩, 4, "row.go:21", #[⟨1, .data⟩], none⟩ (fun K hK => ?_)
              go_simp
              (go_at_call 121; refine (name_w _ _).mono ?_; rintro _ _ ⟨rfl, rfl⟩; rw [HP.out])
              refine hK.out _ _ ?_ (fun hHeld => ?_)
              · first | exact ⟨m5.cell b0, m5.cell b1, m5.cell r0, m5.cell py⟩ | exact ⟨b0, b1, r0, py⟩
              clear hK K
              try simp only [Act.put, sp1, sp2, sp3]
              refine wpT 3 ⟨some 20, .unOp .not 4 (.tmp 19), 4, "row.go:21", #[⟨2, .data⟩], none⟩ ?_
              refine wpT 4 ⟨some 21, .move (.tmp 20), 4, "row.go:21", #[⟨3, .data⟩, ⟨2, .chain⟩], none⟩ ?_
              refine wpT 5 ⟨some 22, .move (.tmp 3), 3, "row.go:21", #[⟨4, .guard⟩], some (4, false)⟩ ?_
              refine wpT 6 ⟨some 23, .binOp .gtr 3 (.tmp 22) (.const (.int .i64 0)) 3, 4, "row.go:21", #[⟨5, .data⟩, ⟨4, .guard⟩], some (4, false)⟩ ?_
              refine wpT 7 ⟨some 24, .move (.tmp 23), 4, "row.go:21", #[⟨6, .data⟩, ⟨4, .chain⟩, ⟨4, .guard⟩], some (4, false)⟩ ?_
              refine wpT 8 ⟨some 25, .fieldAddr 97 (.tmp 1) 0, 0, "row.go:21", #[⟨7, .guard⟩], some (7, true)⟩ ?_
              refine wpT 9 ⟨some 26, .load 95 (.tmp 25), 95, "row.go:21", #[⟨8, .data⟩, ⟨7, .guard⟩], some (7, true)⟩ ?_
              refine wpT 10 ⟨some 27, .move (.tmp 3), 3, "row.go:21", #[⟨7, .guard⟩], some (7, true)⟩ ?_
              refine wpT 11 ⟨some 28, .binOp .sub 3 (.tmp 27) (.const (.int .i64 1)) 3, 3, "row.go:21", #[⟨10, .data⟩, ⟨7, .guard⟩], some (7, true)⟩ ?_
              refine wpT 12 ⟨some 29, .indexAddr 95 (.tmp 26) (.tmp 28), 0, "row.go:21", #[⟨9, .data⟩, ⟨11, .data⟩, ⟨7, .guard⟩], some (7, true)⟩ ?_
              refine wpT 13 ⟨some 30, .fieldAddr 144 (.tmp 29) 0, 0, "row.go:21", #[⟨12, .data⟩, ⟨7, .guard⟩], some (7, true)⟩ ?_
              refine wpT 14 ⟨some 31, .load 9 (.tmp 30), 9, "row.go:21", #[⟨13, .data⟩, ⟨7, .guard⟩], some (7, true)⟩ ?_
              refine wpT 15 ⟨some 32, .fieldAddr 144 (.tmp 4) 0, 0, "row.go:21", #[⟨7, .guard⟩], some (7, true)⟩ ?_
              refine wpT 16 ⟨some 33, .load 9 (.tmp 32), 9, "row.go:21", #[⟨15, .data⟩, ⟨7, .guard⟩], some (7, true)⟩ ?_
              refine wpT 17 ⟨some 34, .binOp .geq 9 (.tmp 31) (.tmp 33) 9, 4, "row.go:21", #[⟨14, .data⟩, ⟨16, .data⟩, ⟨7, .guard⟩], some (7, true)⟩ ?_
              refine wpT 18 ⟨some 35, .pick (.tmp 24) (.tmp 34) (.const (.bool false)), 4, "row.go:21", #[⟨7, .data⟩, ⟨17, .data⟩, ⟨4, .guard⟩], some (4, false)⟩ ?_
              refine wpT 19 ⟨some 36, .pick (.tmp 21) (.const (.bool true)) (.tmp 35), 4, "row.go:21", #[⟨4, .data⟩, ⟨18, .data⟩], none⟩ ?_
              refine wpT 20 ⟨some 37, .move (.tmp 36), 4, "row.go:21", #[⟨19, .data⟩, ⟨7, .chain⟩], none⟩ ?_
              refine wpT 21 ⟨some 38, .fieldAddr 144 (.tmp 4) 1, 0, "row.go:21", #[⟨20, .guard⟩], some (20, false)⟩ ?_
              refine wpT 22 ⟨some 39, .load 142 (.tmp 38), 142, "row.go:21", #[⟨21, .data⟩, ⟨20, .guard⟩], some (20, false)⟩ ?_
              refine wpR 23 ⟨some 40, .call ⟨.value (.func 198), #[.tmp 39], #[142]⟩, 4, "row.go:21", #[⟨22, .data⟩, ⟨20, .chain⟩, ⟨20, .guard⟩], some (20, false)⟩ (fun K hK => ?_)
              go_simp
              (go_at_call 198; refine (rightVersions_w wc.drew _ _ _ _ x.l HVC.out HL.out (Moves.refl _ _)).mono ?_; rintro _ w5 ⟨rfl, m5⟩; rw [HR.out])
              refine hK.out _ _ ?_ (fun hHeld => ?_)
              · first | exact ⟨m5.cell b0, m5.cell b1, m5.cell r0, m5.cell py⟩ | exact ⟨b0, b1, r0, py⟩
              clear hK K
              try simp only [Act.put, sp1, sp2, sp3]
              refine wpT 24 ⟨some 41, .unOp .not 4 (.tmp 40), 4, "row.go:21", #[⟨23, .data⟩, ⟨20, .guard⟩], some (20, false)⟩ ?_
              refine wpT 25 ⟨some 42, .pick (.tmp 37) (.const (.bool true)) (.tmp 41), 4, "row.go:21", #[⟨20, .data⟩, ⟨24, .data⟩], none⟩ ?_
              refine wpAnyH_done (by kernel_rfl) ?_ _
              refine NoPanic.normal ?_
              go_wp2_with fail
              go_ret
              refine ⟨?_, ?_⟩
              · rw [hbad.out]; rfl
              · exact HM.out.then m5
            | true =>
              have HR : Hid (prightV x.l = true) := hr
              have hgood : colGood xs k = true := by unfold colGood; rw [HX.out]; simp [HY.out, hp, hr, hty]
              clear hp hr hty
              refine wp_region_noPanic ?_
              refine wp_region_held_drew (S := (fun w' => w'.cell? ⟨wr.heap.size, 0, none⟩ = some (.string x.name) ∧ w'.cell? ⟨wr.heap.size, 1, none⟩ = some (.slice a2 n2 c2) ∧ w'.cell? ⟨w.heap.size, 0, none⟩ = some (.slice (some ⟨g, off, none⟩) n cap) ∧ w'.cell? ⟨g, off + k' * 2, none⟩ = some (.string y.name))) (by kernel_rfl) ?_ (fun hHeld => ?_)
              · first | (go_keep; done) | first | exact ⟨m5.cell b0, m5.cell b1, m5.cell r0, m5.cell py⟩ | exact ⟨b0, b1, r0, py⟩
              refine wpT 0 ⟨some 17, .fieldAddr 144 (.tmp 4) 0, 0, "row.go:21", #[], none⟩ ?_
              refine wpT 1 ⟨some 18, .load 9 (.tmp 17), 9, "row.go:21", #[⟨0, .data⟩], none⟩ ?_
              refine wpR 2 ⟨some 19, .call ⟨.value (.func 121), #[.tmp 18], #[9]⟩, 4, "row.go:21", #[⟨1, .data⟩], none⟩ (fun K hK => ?_)
              go_simp
              (go_at_call 121; refine (name_w _ _).mono ?_; rintro _ _ ⟨rfl, rfl⟩; rw [HP.out])
              refine hK.out _ _ ?_ (fun hHeld => ?_)
              · first | exact ⟨m5.cell b0, m5.cell b1, m5.cell r0, m5.cell py⟩ | exact ⟨b0, b1, r0, py⟩
              clear hK K
              try simp only [Act.put, sp1, sp2, sp3]
              refine wpT 3 ⟨some 20, .unOp .not 4 (.tmp 19), 4, "row.go:21", #[⟨2, .data⟩], none⟩ ?_
              refine wpT 4 ⟨some 21, .move (.tmp 20), 4, "row.go:21", #[⟨3, .data⟩, ⟨2, .chain⟩], none⟩ ?_
              refine wpT 5 ⟨some 22, .move (.tmp 3), 3, "row.go:21", #[⟨4, .guard⟩], some (4, false)⟩ ?_
              refine wpT 6 ⟨some 23, .binOp .gtr 3 (.tmp 22) (.const (.int .i64 0)) 3, 4, "row.go:21", #[⟨5, .data⟩, ⟨4, .guard⟩], some (4, false)⟩ ?_
              refine wpT 7 ⟨some 24, .move (.tmp 23), 4, "row.go:21", #[⟨6, .data⟩, ⟨4, .chain⟩, ⟨4, .guard⟩], some (4, false)⟩ ?_
              refine wpT 8 ⟨some 25, .fieldAddr 97 (.tmp 1) 0, 0, "row.go:21", #[⟨7, .guard⟩], some (7, true)⟩ ?_
              refine wpT 9 ⟨some 26, .load 95 (.tmp 25), 95, "row.go:21", #[⟨8, .data⟩, ⟨7, .guard⟩], some (7, true)⟩ ?_
              refine wpT 10 ⟨some 27, .move (.tmp 3), 3, "row.go:21", #[⟨7, .guard⟩], some (7, true)⟩ ?_
              refine wpT 11 ⟨some 28, .binOp .sub 3 (.tmp 27) (.const (.int .i64 1)) 3, 3, "row.go:21", #[⟨10, .data⟩, ⟨7, .guard⟩], some (7, true)⟩ ?_
              refine wpT 12 ⟨some 29, .indexAddr 95 (.tmp 26) (.tmp 28), 0, "row.go:21", #[⟨9, .data⟩, ⟨11, .data⟩, ⟨7, .guard⟩], some (7, true)⟩ ?_
              refine wpT 13 ⟨some 30, .fieldAddr 144 (.tmp 29) 0, 0, "row.go:21", #[⟨12, .data⟩, ⟨7, .guard⟩], some (7, true)⟩ ?_
              refine wpT 14 ⟨some 31, .load 9 (.tmp 30), 9, "row.go:21", #[⟨13, .data⟩, ⟨7, .guard⟩], some (7, true)⟩ ?_
              refine wpT 15 ⟨some 32, .fieldAddr 144 (.tmp 4) 0, 0, "row.go:21", #[⟨7, .guard⟩], some (7, true)⟩ ?_
              refine wpT 16 ⟨some 33, .load 9 (.tmp 32), 9, "row.go:21", #[⟨15, .data⟩, ⟨7, .guard⟩], some (7, true)⟩ ?_
              refine wpT 17 ⟨some 34, .binOp .geq 9 (.tmp 31) (.tmp 33) 9, 4, "row.go:21", #[⟨14, .data⟩, ⟨16, .data⟩, ⟨7, .guard⟩], some (7, true)⟩ ?_
              refine wpT 18 ⟨some 35, .pick (.tmp 24) (.tmp 34) (.const (.bool false)), 4, "row.go:21", #[⟨7, .data⟩, ⟨17, .data⟩, ⟨4, .guard⟩], some (4, false)⟩ ?_
              refine wpT 19 ⟨some 36, .pick (.tmp 21) (.const (.bool true)) (.tmp 35), 4, "row.go:21", #[⟨4, .data⟩, ⟨18, .data⟩], none⟩ ?_
              refine wpT 20 ⟨some 37, .move (.tmp 36), 4, "row.go:21", #[⟨19, .data⟩, ⟨7, .chain⟩], none⟩ ?_
              refine wpT 21 ⟨some 38, .fieldAddr 144 (.tmp 4) 1, 0, "row.go:21", #[⟨20, .guard⟩], some (20, false)⟩ ?_
              refine wpT 22 ⟨some 39, .load 142 (.tmp 38), 142, "row.go:21", #[⟨21, .data⟩, ⟨20, .guard⟩], some (20, false)⟩ ?_
              refine wpR 23 ⟨some 40, .call ⟨.value (.func 198), #[.tmp 39], #[142]⟩, 4, "row.go:21", #[⟨22, .data⟩, ⟨20, .chain⟩, ⟨20, .guard⟩], some (20, false)⟩ (fun K hK => ?_)
              go_simp
              (go_at_call 198; refine (rightVersions_w wc.drew _ _ _ _ x.l HVC.out HL.out (Moves.refl _ _)).mono ?_; rintro _ w5 ⟨rfl, m5⟩; rw [HR.out])
              refine hK.out _ _ ?_ (fun hHeld => ?_)
              · first | exact ⟨m5.cell b0, m5.cell b1, m5.cell r0, m5.cell py⟩ | exact ⟨b0, b1, r0, py⟩
              clear hK K
              try simp only [Act.put, sp1, sp2, sp3]
              refine wpT 24 ⟨some 41, .unOp .not 4 (.tmp 40), 4, "row.go:21", #[⟨23, .data⟩, ⟨20, .guard⟩], some (20, false)⟩ ?_
              refine wpT 25 ⟨some 42, .pick (.tmp 37) (.const (.bool true)) (.tmp 41), 4, "row.go:21", #[⟨20, .data⟩, ⟨24, .data⟩], none⟩ ?_
              refine wpAnyH_done (by kernel_rfl) ?_ _
              refine NoPanic.normal ?_
              go_wp2_with fail
              go_roundw
              case rel => exact ⟨k + 1, by omega, by go_num, HM.out.then m5, m5.cell r0, fun j hj => by rcases Nat.lt_succ_iff_lt_or_eq.1 hj with h | h; exact hall j h; rw [h]; exact hgood⟩
              case measure => simp [intOf]; omega
    · have hk3 : ¬ (k : Int) < n := by omega
      have hyes : Hid (pright xs = true) := pright_yes (by rw [← HN.out]; omega) (fun j hj => hall j (by have := HN.out; omega))
      go_wp2_with fail
      go_ret
      exact ⟨by rw [hyes.out]; rfl, mr⟩

theorem asked_w (W w : World) (v : Value) (R : List Pcol) (h : RowAt W v R) (m : Moves [] W w) : Calls Tryz.prog 200 #[v] w fun e w' => ∃ ad cap, e = .returned (.agg #[.slice ad (pasked R).length cap]) ∧ ColsAt W (.slice ad (pasked R).length cap) (pasked R) ∧ Moves [] w w' := by
  have h0 := h
  obtain ⟨lv, rfl, hl⟩ := h
  obtain ⟨ad, cap, rfl, hc⟩ := hl.slice
  have hR := fun w1 (m1 : Moves [] W w1) => right_w W w1 _ R h0 m1
  have hm : Moves [] W ((w.alloc (.cells #[.slice ad R.length cap] 97)).alloc (.cells #[.slice none 0 0] 97)) := (m.alloc _).alloc _
  cases hr : pright R with
  | false =>
    have e : Hid (pasked R = []) := by unfold Hid pasked; rw [hr]; rfl
    rw [hr] at hR
    rw [e.out]
    clear hr h0 hl
    go_enter Tryz.func200, Tryz.ntmps200
    go_wp2_with (go_at_call 170; refine (hR _ hm).mono ?_; rintro _ w2 ⟨rfl, m2⟩; obtain ⟨p1, p2, m0⟩ := boxes m2; obtain ⟨f0, f1⟩ := one_cell p2)
    try simp only [Exit.inBlock, Exit.then]
    exact bodyPost_ret (ret_row rfl _ _ _ _ rfl (set_one p2 _)) rfl ⟨none, 0, rfl, ColsAt.nil _, m0.setCell (.inr (by show _ ≤ _ + 1; omega)) _⟩
  | true =>
    have e : Hid (pasked R = R) := by unfold Hid pasked; rw [hr]; rfl
    rw [hr] at hR
    rw [e.out]
    clear hr h0
    go_enter Tryz.func200, Tryz.ntmps200
    go_wp2_with (go_at_call 170; refine (hR _ hm).mono ?_; rintro _ w2 ⟨rfl, m2⟩; obtain ⟨p1, p2, m0⟩ := boxes m2; obtain ⟨f0, f1⟩ := one_cell p2; obtain ⟨g0, g1⟩ := one_cell p1)
    try simp only [Exit.inBlock, Exit.then]
    exact bodyPost_ret (ret_row rfl _ _ _ _ rfl (set_one p2 _)) rfl ⟨ad, cap, rfl, hl, m0.setCell (.inr (by show _ ≤ _ + 1; omega)) _⟩
end Go.Proofs.YtilbbnmhnacnlaaGreat
