/- ours -/
import Derived.Test.YtilbbnmhnacnlaaGreatCRow1
namespace Go.Proofs.YtilbbnmhnacnlaaGreat
open Go.RowKit

theorem prightV_no {xs : List Pver} {k : Nat} (hk : k < xs.length) (h : verGood xs k = false) : prightV xs = false := by
  unfold prightV
  have : (List.range xs.length).all (verGood xs) = false := by
    rw [List.all_eq_false]
    exact ⟨k, List.mem_range.2 hk, by simp [h]⟩
  rw [this, Bool.and_false]
theorem prightV_yes {xs : List Pver} (h1 : 1 ≤ xs.length) (h2 : xs.length ≤ 2) (h : ∀ j, j < xs.length → verGood xs j = true) : prightV xs = true := by
  unfold prightV
  have : (List.range xs.length).all (verGood xs) = true := List.all_eq_true.2 fun j hj => h j (List.mem_range.1 hj)
  rw [this, decide_eq_true h1, decide_eq_true h2]
  rfl
theorem prightV_len {xs : List Pver} (h : ¬ (1 ≤ xs.length ∧ xs.length ≤ 2)) : prightV xs = false := by
  unfold prightV
  rw [Bool.eq_false_iff]
  intro hc
  simp only [Bool.and_eq_true, decide_eq_true_eq] at hc
  exact h hc.1

set_option maxRecDepth 100000 in
set_option maxHeartbeats 4000000 in
theorem rightVersions_w (W w : World) (ad : Option Addr) (n cap : Nat) (xs : List Pver) (h : VersAt W (.slice ad n cap) xs) (hn : n = xs.length) (m : Moves [] W w) :
    Calls Tryz.prog 198 #[.slice ad n cap] w fun e w' => e = .returned (.bool (prightV xs)) ∧ Moves [] w w' := by
  have HN : Hid (n = xs.length) := hn
  clear hn
  by_cases h1 : n < 1
  · have hb : Hid (prightV xs = false) := prightV_len (by rw [← HN.out]; omega)
    have h1' : (n : Int) < 1 := by omega
    go_enter Tryz.func198, Tryz.ntmps198
    go_wp2
    go_ret
    exact ⟨by rw [hb.out]; rfl, Moves.refl _ _⟩
  by_cases h2 : 2 < n
  · have hb : Hid (prightV xs = false) := prightV_len (by rw [← HN.out]; omega)
    have h1' : ¬ (n : Int) < 1 := by omega
    have h2' : (2 : Int) < n := by omega
    go_enter Tryz.func198, Tryz.ntmps198
    go_wp2
    go_ret
    exact ⟨by rw [hb.out]; rfl, Moves.refl _ _⟩
  have h1' : ¬ (n : Int) < 1 := by omega
  have h2' : ¬ (2 : Int) < n := by omega
  go_enter Tryz.func198, Tryz.ntmps198
  go_wp2_with fail
  go_loopw [15] (fun i wr => ∃ k : Nat, k ≤ n ∧ i = .int .i64 k ∧ Moves [] w wr ∧ ∀ j, j < k → verGood xs j = true) (fun i _ => n - (intOf i).toNat)
  case atStart => exact ⟨0, Nat.zero_le _, rfl, Moves.refl _ _, fun j hj => absurd hj (by omega)⟩
  case round =>
    obtain ⟨k, hk, rfl, mr, hall⟩ := hrel
    by_cases hlt : k < n
    · have hk3 : (k : Int) < n := by omega
      have hkx : k < xs.length := by rw [← HN.out]; exact hlt
      obtain ⟨x, hx⟩ : ∃ x, xs[k]? = some x := ⟨_, List.getElem?_eq_getElem hkx⟩
      have h0 := h
      obtain ⟨g, off, a2, n2, c2, rfl, e0, e1, e2, e3, hV⟩ := h0.at hx
      have d0 := (m.then mr).cell e0
      have d1 := (m.then mr).cell e1
      have d2 := (m.then mr).cell e2
      have d3 := (m.then mr).cell e3
      have HX : Hid (xs[k]? = some x) := hx
      clear e0 e1 e2 e3 hx hkx
      go_wp2_with fail
      obtain ⟨wc, hwc⟩ : ∃ wc, wr.alloc (.cells #[.int .i64 x.t, .int .i64 x.v.kind, .slice a2 n2 c2, .float .f64 x.v.n] 146) = wc := ⟨_, rfl⟩
      have mc : Moves [] wr wc := by rw [← hwc]; exact (Moves.refl _ _).alloc _
      have qc : wc.heap[wr.heap.size]? = some (.cells #[.int .i64 x.t, .int .i64 x.v.kind, .slice a2 n2 c2, .float .f64 x.v.n] 146 (0, 0)) := by rw [← hwc]; exact heap_alloc_new _ _
      rw [hwc]
      obtain ⟨b0, b1, b2, b3⟩ := quad_cells qc
      have HVC : Hid (VC wc.drew [.int .i64 x.v.kind, .slice a2 n2 c2, .float .f64 x.v.n] x.v) := hV.moves ((m.then mr).then mc).drew
      have HM : Hid (Moves [] w wc.drew) := (mr.then mc).drew
      clear hwc qc d0 d1 d2 d3 hV
      cases hp : ptime x.t with
      | false =>
        have HP : Hid (ptime x.t = false) := hp
        have hbad : Hid (prightV xs = false) := prightV_no (by rw [← HN.out]; exact hlt) (by unfold verGood; rw [HX.out]; simp [hp])
        clear hp
        refine wp_region_noPanic ?_
        refine wp_region_held_drew (S := (fun w' => w'.cell? ⟨wr.heap.size, 0, none⟩ = some (.int .i64 x.t) ∧ w'.cell? ⟨wr.heap.size, 1, none⟩ = some (.int .i64 x.v.kind) ∧ w'.cell? ⟨wr.heap.size, 2, none⟩ = some (.slice a2 n2 c2) ∧ w'.cell? ⟨wr.heap.size, 3, none⟩ = some (.float .f64 x.v.n))) (by kernel_rfl) ?_ (fun hHeld => ?_)
        · first | (go_keep; done) | first | exact ⟨m5.cell b0, m5.cell b1, m5.cell b2, m5.cell b3⟩ | exact ⟨b0, b1, b2, b3⟩
        refine wpT 0 ⟨some 20, .fieldAddr 146 (.tmp 4) 0, 0, "row.go:33", #[], none⟩ ?_
        refine wpT 1 ⟨some 21, .load 2 (.tmp 20), 2, "row.go:33", #[⟨0, .data⟩], none⟩ ?_
        refine wpR 2 ⟨some 22, .call ⟨.value (.func 211), #[.tmp 21], #[2]⟩, 4, "row.go:33", #[⟨1, .data⟩], none⟩ (fun K hK => ?_)
        go_simp
        (go_at_call 211; refine (rightTime_w _ _).mono ?_; rintro _ _ ⟨rfl, rfl⟩; rw [HP.out])
        refine hK.out _ _ ?_ (fun hHeld => ?_)
        · first | exact ⟨m5.cell b0, m5.cell b1, m5.cell b2, m5.cell b3⟩ | exact ⟨b0, b1, b2, b3⟩
        clear hK K
        try simp only [Act.put, sp1, sp2, sp3]
        refine wpT 3 ⟨some 23, .unOp .not 4 (.tmp 22), 4, "row.go:33", #[⟨2, .data⟩], none⟩ ?_
        refine wpT 4 ⟨some 24, .move (.tmp 23), 4, "row.go:33", #[⟨3, .data⟩, ⟨2, .chain⟩], none⟩ ?_
        refine wpU 5 ⟨some 25, .move (.tmp 3), 3, "row.go:33", #[⟨4, .guard⟩], some (4, false)⟩ ?_
        refine wpU 6 ⟨some 26, .binOp .gtr 3 (.tmp 25) (.const (.int .i64 0)) 3, 4, "row.go:33", #[⟨5, .data⟩, ⟨4, .guard⟩], some (4, false)⟩ ?_
        refine wpU 7 ⟨some 27, .move (.tmp 26), 4, "row.go:33", #[⟨6, .data⟩, ⟨4, .chain⟩, ⟨4, .guard⟩], some (4, false)⟩ ?_
        refine wpU 8 ⟨some 28, .move (.tmp 0), 142, "row.go:33", #[⟨7, .guard⟩], some (7, true)⟩ ?_
        refine wpU 9 ⟨some 29, .move (.tmp 3), 3, "row.go:33", #[⟨7, .guard⟩], some (7, true)⟩ ?_
        refine wpU 10 ⟨some 30, .binOp .sub 3 (.tmp 29) (.const (.int .i64 1)) 3, 3, "row.go:33", #[⟨9, .data⟩, ⟨7, .guard⟩], some (7, true)⟩ ?_
        refine wpU 11 ⟨some 31, .indexAddr 142 (.tmp 28) (.tmp 30), 0, "row.go:33", #[⟨8, .data⟩, ⟨10, .data⟩, ⟨7, .guard⟩], some (7, true)⟩ ?_
        refine wpU 12 ⟨some 32, .fieldAddr 146 (.tmp 31) 0, 0, "row.go:33", #[⟨11, .data⟩, ⟨7, .guard⟩], some (7, true)⟩ ?_
        refine wpU 13 ⟨some 33, .load 2 (.tmp 32), 2, "row.go:33", #[⟨12, .data⟩, ⟨7, .guard⟩], some (7, true)⟩ ?_
        refine wpU 14 ⟨some 34, .fieldAddr 146 (.tmp 4) 0, 0, "row.go:33", #[⟨7, .guard⟩], some (7, true)⟩ ?_
        refine wpU 15 ⟨some 35, .load 2 (.tmp 34), 2, "row.go:33", #[⟨14, .data⟩, ⟨7, .guard⟩], some (7, true)⟩ ?_
        refine wpU 16 ⟨some 36, .binOp .leq 2 (.tmp 33) (.tmp 35) 2, 4, "row.go:33", #[⟨13, .data⟩, ⟨15, .data⟩, ⟨7, .guard⟩], some (7, true)⟩ ?_
        refine wpU 17 ⟨some 37, .pick (.tmp 27) (.tmp 36) (.const (.bool false)), 4, "row.go:33", #[⟨7, .data⟩, ⟨16, .data⟩, ⟨4, .guard⟩], some (4, false)⟩ ?_
        refine wpT 18 ⟨some 38, .pick (.tmp 24) (.const (.bool true)) (.tmp 37), 4, "row.go:33", #[⟨4, .data⟩, ⟨17, .data⟩], none⟩ ?_
        refine wpT 19 ⟨some 39, .move (.tmp 38), 4, "row.go:33", #[⟨18, .data⟩, ⟨7, .chain⟩], none⟩ ?_
        refine wpU 20 ⟨some 40, .fieldAddr 146 (.tmp 4) 1, 0, "row.go:33", #[⟨19, .guard⟩], some (19, false)⟩ ?_
        refine wpU 21 ⟨some 41, .load 30 (.tmp 40), 30, "row.go:33", #[⟨20, .data⟩, ⟨19, .guard⟩], some (19, false)⟩ ?_
        refine wpU 22 ⟨some 42, .call ⟨.value (.func 159), #[.tmp 41], #[30]⟩, 4, "row.go:33", #[⟨21, .data⟩, ⟨19, .chain⟩, ⟨19, .guard⟩], some (19, false)⟩ ?_
        refine wpU 23 ⟨some 43, .unOp .not 4 (.tmp 42), 4, "row.go:33", #[⟨22, .data⟩, ⟨19, .guard⟩], some (19, false)⟩ ?_
        refine wpT 24 ⟨some 44, .pick (.tmp 39) (.const (.bool true)) (.tmp 43), 4, "row.go:33", #[⟨19, .data⟩, ⟨23, .data⟩], none⟩ ?_
        refine wpAnyH_done (by kernel_rfl) ?_ _
        refine NoPanic.normal ?_
        go_wp2_with fail
        go_ret
        refine ⟨?_, ?_⟩
        · rw [hbad.out]; rfl
        · exact HM.out
      | true =>
        have HP : Hid (ptime x.t = true) := hp
        by_cases hk0 : k = 0
        · subst hk0
          cases hr : pvr x.v with
          | false =>
            have HR : Hid (pvr x.v = false) := hr
            have hbad : Hid (prightV xs = false) := prightV_no (by rw [← HN.out]; exact hlt) (by unfold verGood; rw [HX.out]; simp [hr])
            clear hp hr
            refine wp_region_noPanic ?_
            refine wp_region_held_drew (S := (fun w' => w'.cell? ⟨wr.heap.size, 0, none⟩ = some (.int .i64 x.t) ∧ w'.cell? ⟨wr.heap.size, 1, none⟩ = some (.int .i64 x.v.kind) ∧ w'.cell? ⟨wr.heap.size, 2, none⟩ = some (.slice a2 n2 c2) ∧ w'.cell? ⟨wr.heap.size, 3, none⟩ = some (.float .f64 x.v.n))) (by kernel_rfl) ?_ (fun hHeld => ?_)
            · first | (go_keep; done) | first | exact ⟨m5.cell b0, m5.cell b1, m5.cell b2, m5.cell b3⟩ | exact ⟨b0, b1, b2, b3⟩
            refine wpT 0 ⟨some 20, .fieldAddr 146 (.tmp 4) 0, 0, "row.go:33", #[], none⟩ ?_
            refine wpT 1 ⟨some 21, .load 2 (.tmp 20), 2, "row.go:33", #[⟨0, .data⟩], none⟩ ?_
            refine wpR 2 ⟨some 22, .call ⟨.value (.func 211), #[.tmp 21], #[2]⟩, 4, "row.go:33", #[⟨1, .data⟩], none⟩ (fun K hK => ?_)
            go_simp
            (go_at_call 211; refine (rightTime_w _ _).mono ?_; rintro _ _ ⟨rfl, rfl⟩; rw [HP.out])
            refine hK.out _ _ ?_ (fun hHeld => ?_)
            · first | exact ⟨m5.cell b0, m5.cell b1, m5.cell b2, m5.cell b3⟩ | exact ⟨b0, b1, b2, b3⟩
            clear hK K
            try simp only [Act.put, sp1, sp2, sp3]
            refine wpT 3 ⟨some 23, .unOp .not 4 (.tmp 22), 4, "row.go:33", #[⟨2, .data⟩], none⟩ ?_
            refine wpT 4 ⟨some 24, .move (.tmp 23), 4, "row.go:33", #[⟨3, .data⟩, ⟨2, .chain⟩], none⟩ ?_
            refine wpT 5 ⟨some 25, .move (.tmp 3), 3, "row.go:33", #[⟨4, .guard⟩], some (4, false)⟩ ?_
            refine wpT 6 ⟨some 26, .binOp .gtr 3 (.tmp 25) (.const (.int .i64 0)) 3, 4, "row.go:33", #[⟨5, .data⟩, ⟨4, .guard⟩], some (4, false)⟩ ?_
            refine wpT 7 ⟨some 27, .move (.tmp 26), 4, "row.go:33", #[⟨6, .data⟩, ⟨4, .chain⟩, ⟨4, .guard⟩], some (4, false)⟩ ?_
            refine wpU 8 ⟨some 28, .move (.tmp 0), 142, "row.go:33", #[⟨7, .guard⟩], some (7, true)⟩ ?_
            refine wpU 9 ⟨some 29, .move (.tmp 3), 3, "row.go:33", #[⟨7, .guard⟩], some (7, true)⟩ ?_
            refine wpU 10 ⟨some 30, .binOp .sub 3 (.tmp 29) (.const (.int .i64 1)) 3, 3, "row.go:33", #[⟨9, .data⟩, ⟨7, .guard⟩], some (7, true)⟩ ?_
            refine wpU 11 ⟨some 31, .indexAddr 142 (.tmp 28) (.tmp 30), 0, "row.go:33", #[⟨8, .data⟩, ⟨10, .data⟩, ⟨7, .guard⟩], some (7, true)⟩ ?_
            refine wpU 12 ⟨some 32, .fieldAddr 146 (.tmp 31) 0, 0, "row.go:33", #[⟨11, .data⟩, ⟨7, .guard⟩], some (7, true)⟩ ?_
            refine wpU 13 ⟨some 33, .load 2 (.tmp 32), 2, "row.go:33", #[⟨12, .data⟩, ⟨7, .guard⟩], some (7, true)⟩ ?_
            refine wpU 14 ⟨some 34, .fieldAddr 146 (.tmp 4) 0, 0, "row.go:33", #[⟨7, .guard⟩], some (7, true)⟩ ?_
            refine wpU 15 ⟨some 35, .load 2 (.tmp 34), 2, "row.go:33", #[⟨14, .data⟩, ⟨7, .guard⟩], some (7, true)⟩ ?_
            refine wpU 16 ⟨some 36, .binOp .leq 2 (.tmp 33) (.tmp 35) 2, 4, "row.go:33", #[⟨13, .data⟩, ⟨15, .data⟩, ⟨7, .guard⟩], some (7, true)⟩ ?_
            refine wpT 17 ⟨some 37, .pick (.tmp 27) (.tmp 36) (.const (.bool false)), 4, "row.go:33", #[⟨7, .data⟩, ⟨16, .data⟩, ⟨4, .guard⟩], some (4, false)⟩ ?_
            refine wpT 18 ⟨some 38, .pick (.tmp 24) (.const (.bool true)) (.tmp 37), 4, "row.go:33", #[⟨4, .data⟩, ⟨17, .data⟩], none⟩ ?_
            refine wpT 19 ⟨some 39, .move (.tmp 38), 4, "row.go:33", #[⟨18, .data⟩, ⟨7, .chain⟩], none⟩ ?_
            refine wpT 20 ⟨some 40, .fieldAddr 146 (.tmp 4) 1, 0, "row.go:33", #[⟨19, .guard⟩], some (19, false)⟩ ?_
            refine wpT 21 ⟨some 41, .load 30 (.tmp 40), 30, "row.go:33", #[⟨20, .data⟩, ⟨19, .guard⟩], some (19, false)⟩ ?_
            refine wpR 22 ⟨some 42, .call ⟨.value (.func 159), #[.tmp 41], #[30]⟩, 4, "row.go:33", #[⟨21, .data⟩, ⟨19, .chain⟩, ⟨19, .guard⟩], some (19, false)⟩ (fun K hK => ?_)
            go_simp
            (go_at_call 159; refine (right4_w wc.drew _ _ _ _ _ _ _ HVC.out.va (Moves.refl _ _)).mono ?_; rintro _ w5 ⟨rfl, m5⟩; rw [HR.out])
            refine hK.out _ _ ?_ (fun hHeld => ?_)
            · first | exact ⟨m5.cell b0, m5.cell b1, m5.cell b2, m5.cell b3⟩ | exact ⟨b0, b1, b2, b3⟩
            clear hK K
            try simp only [Act.put, sp1, sp2, sp3]
            refine wpT 23 ⟨some 43, .unOp .not 4 (.tmp 42), 4, "row.go:33", #[⟨22, .data⟩, ⟨19, .guard⟩], some (19, false)⟩ ?_
            refine wpT 24 ⟨some 44, .pick (.tmp 39) (.const (.bool true)) (.tmp 43), 4, "row.go:33", #[⟨19, .data⟩, ⟨23, .data⟩], none⟩ ?_
            refine wpAnyH_done (by kernel_rfl) ?_ _
            refine NoPanic.normal ?_
            go_wp2_with fail
            go_ret
            refine ⟨?_, ?_⟩
            · rw [hbad.out]; rfl
            · exact HM.out.then m5
          | true =>
            have HR : Hid (pvr x.v = true) := hr
            have hgood : verGood xs 0 = true := by unfold verGood; rw [HX.out]; simp [hp, hr]
            clear hp hr
            refine wp_region_noPanic ?_
            refine wp_region_held_drew (S := (fun w' => w'.cell? ⟨wr.heap.size, 0, none⟩ = some (.int .i64 x.t) ∧ w'.cell? ⟨wr.heap.size, 1, none⟩ = some (.int .i64 x.v.kind) ∧ w'.cell? ⟨wr.heap.size, 2, none⟩ = some (.slice a2 n2 c2) ∧ w'.cell? ⟨wr.heap.size, 3, none⟩ = some (.float .f64 x.v.n))) (by kernel_rfl) ?_ (fun hHeld => ?_)
            · first | (go_keep; done) | first | exact ⟨m5.cell b0, m5.cell b1, m5.cell b2, m5.cell b3⟩ | exact ⟨b0, b1, b2, b3⟩
            refine wpT 0 ⟨some 20, .fieldAddr 146 (.tmp 4) 0, 0, "row.go:33", #[], none⟩ ?_
            refine wpT 1 ⟨some 21, .load 2 (.tmp 20), 2, "row.go:33", #[⟨0, .data⟩], none⟩ ?_
            refine wpR 2 ⟨some 22, .call ⟨.value (.func 211), #[.tmp 21], #[2]⟩, 4, "row.go:33", #[⟨1, .data⟩], none⟩ (fun K hK => ?_)
            go_simp
            (go_at_call 211; refine (rightTime_w _ _).mono ?_; rintro _ _ ⟨rfl, rfl⟩; rw [HP.out])
            refine hK.out _ _ ?_ (fun hHeld => ?_)
            · first | exact ⟨m5.cell b0, m5.cell b1, m5.cell b2, m5.cell b3⟩ | exact ⟨b0, b1, b2, b3⟩
            clear hK K
            try simp only [Act.put, sp1, sp2, sp3]
            refine wpT 3 ⟨some 23, .unOp .not 4 (.tmp 22), 4, "row.go:33", #[⟨2, .data⟩], none⟩ ?_
            refine wpT 4 ⟨some 24, .move (.tmp 23), 4, "row.go:33", #[⟨3, .data⟩, ⟨2, .chain⟩], none⟩ ?_
            refine wpT 5 ⟨some 25, .move (.tmp 3), 3, "row.go:33", #[⟨4, .guard⟩], some (4, false)⟩ ?_
            refine wpT 6 ⟨some 26, .binOp .gtr 3 (.tmp 25) (.const (.int .i64 0)) 3, 4, "row.go:33", #[⟨5, .data⟩, ⟨4, .guard⟩], some (4, false)⟩ ?_
            refine wpT 7 ⟨some 27, .move (.tmp 26), 4, "row.go:33", #[⟨6, .data⟩, ⟨4, .chain⟩, ⟨4, .guard⟩], some (4, false)⟩ ?_
            refine wpU 8 ⟨some 28, .move (.tmp 0), 142, "row.go:33", #[⟨7, .guard⟩], some (7, true)⟩ ?_
            refine wpU 9 ⟨some 29, .move (.tmp 3), 3, "row.go:33", #[⟨7, .guard⟩], some (7, true)⟩ ?_
            refine wpU 10 ⟨some 30, .binOp .sub 3 (.tmp 29) (.const (.int .i64 1)) 3, 3, "row.go:33", #[⟨9, .data⟩, ⟨7, .guard⟩], some (7, true)⟩ ?_
            refine wpU 11 ⟨some 31, .indexAddr 142 (.tmp 28) (.tmp 30), 0, "row.go:33", #[⟨8, .data⟩, ⟨10, .data⟩, ⟨7, .guard⟩], some (7, true)⟩ ?_
            refine wpU 12 ⟨some 32, .fieldAddr 146 (.tmp 31) 0, 0, "row.go:33", #[⟨11, .data⟩, ⟨7, .guard⟩], some (7, true)⟩ ?_
            refine wpU 13 ⟨some 33, .load 2 (.tmp 32), 2, "row.go:33", #[⟨12, .data⟩, ⟨7, .guard⟩], some (7, true)⟩ ?_
            refine wpU 14 ⟨some 34, .fieldAddr 146 (.tmp 4) 0, 0, "row.go:33", #[⟨7, .guard⟩], some (7, true)⟩ ?_
            refine wpU 15 ⟨some 35, .load 2 (.tmp 34), 2, "row.go:33", #[⟨14, .data⟩, ⟨7, .guard⟩], some (7, true)⟩ ?_
            refine wpU 16 ⟨some 36, .binOp .leq 2 (.tmp 33) (.tmp 35) 2, 4, "row.go:33", #[⟨13, .data⟩, ⟨15, .data⟩, ⟨7, .guard⟩], some (7, true)⟩ ?_
            refine wpT 17 ⟨some 37, .pick (.tmp 27) (.tmp 36) (.const (.bool false)), 4, "row.go:33", #[⟨7, .data⟩, ⟨16, .data⟩, ⟨4, .guard⟩], some (4, false)⟩ ?_
            refine wpT 18 ⟨some 38, .pick (.tmp 24) (.const (.bool true)) (.tmp 37), 4, "row.go:33", #[⟨4, .data⟩, ⟨17, .data⟩], none⟩ ?_
            refine wpT 19 ⟨some 39, .move (.tmp 38), 4, "row.go:33", #[⟨18, .data⟩, ⟨7, .chain⟩], none⟩ ?_
            refine wpT 20 ⟨some 40, .fieldAddr 146 (.tmp 4) 1, 0, "row.go:33", #[⟨19, .guard⟩], some (19, false)⟩ ?_
            refine wpT 21 ⟨some 41, .load 30 (.tmp 40), 30, "row.go:33", #[⟨20, .data⟩, ⟨19, .guard⟩], some (19, false)⟩ ?_
            refine wpR 22 ⟨some 42, .call ⟨.value (.func 159), #[.tmp 41], #[30]⟩, 4, "row.go:33", #[⟨21, .data⟩, ⟨19, .chain⟩, ⟨19, .guard⟩], some (19, false)⟩ (fun K hK => ?_)
            go_simp
            (go_at_call 159; refine (right4_w wc.drew _ _ _ _ _ _ _ HVC.out.va (Moves.refl _ _)).mono ?_; rintro _ w5 ⟨rfl, m5⟩; rw [HR.out])
            refine hK.out _ _ ?_ (fun hHeld => ?_)
            · first | exact ⟨m5.cell b0, m5.cell b1, m5.cell b2, m5.cell b3⟩ | exact ⟨b0, b1, b2, b3⟩
            clear hK K
            try simp only [Act.put, sp1, sp2, sp3]
            refine wpT 23 ⟨some 43, .unOp .not 4 (.tmp 42), 4, "row.go:33", #[⟨22, .data⟩, ⟨19, .guard⟩], some (19, false)⟩ ?_
            refine wpT 24 ⟨some 44, .pick (.tmp 39) (.const (.bool true)) (.tmp 43), 4, "row.go:33", #[⟨19, .data⟩, ⟨23, .data⟩], none⟩ ?_
            refine wpAnyH_done (by kernel_rfl) ?_ _
            refine NoPanic.normal ?_
            go_wp2_with fail
            go_roundw
            case rel => exact ⟨0 + 1, by omega, by go_num, HM.out.then m5, fun j hj => by rcases Nat.lt_succ_iff_lt_or_eq.1 hj with h | h; exact hall j h; rw [h]; exact hgood⟩
            case measure => simp [intOf]; omega
        · obtain ⟨k', hk'⟩ : ∃ k', k = k' + 1 := ⟨k - 1, by omega⟩
          obtain ⟨y, hy⟩ : ∃ y, xs[k']? = some y := ⟨_, List.getElem?_eq_getElem (by have := HN.out; omega)⟩
          have hpos : 0 < k := by omega
          have hw1 : IntKind.i64.wrap ((k : Int) - 1) = (k' : Int) := by rw [IntWalk.i64_in _ (by omega)]; omega
          have hk1 : (k' : Int) < n := by omega
          obtain ⟨g', off', a3, n3, c3, eg, py0, _⟩ := h.at hy
          simp at eg
          obtain ⟨rfl, rfl⟩ := eg
          have py := ((m.then mr).then mc).cell py0
          have hpre : xs[k - 1]? = some y := by rw [hk']; simpa using hy
          have HY : Hid (xs[k - 1]? = some y) := hpre
          clear py0 hpre hy hk' 
          by_cases hty : y.t ≤ x.t
          · have hbad : Hid (prightV xs = false) := prightV_no (by rw [← HN.out]; exact hlt) (by unfold verGood; rw [HX.out]; simp [HY.out, hk0]; intro _ _; omega)
            refine wp_region_noPanic ?_
            refine wp_region_held_drew (S := (fun w' => w'.cell? ⟨wr.heap.size, 0, none⟩ = some (.int .i64 x.t) ∧ w'.cell? ⟨wr.heap.size, 1, none⟩ = some (.int .i64 x.v.kind) ∧ w'.cell? ⟨wr.heap.size, 2, none⟩ = some (.slice a2 n2 c2) ∧ w'.cell? ⟨wr.heap.size, 3, none⟩ = some (.float .f64 x.v.n) ∧ w'.cell? ⟨g, off + k' * 4, none⟩ = some (.int .i64 y.t))) (by kernel_rfl) ?_ (fun hHeld => ?_)
            · first | (go_keep; done) | first | exact ⟨m5.cell b0, m5.cell b1, m5.cell b2, m5.cell b3, m5.cell py⟩ | exact ⟨b0, b1, b2, b3, py⟩
            refine wpT 0 ⟨some 20, .fieldAddr 146 (.tmp 4) 0, 0, "row.go:33", #[], none⟩ ?_
            refine wpT 1 ⟨some 21, .load 2 (.tmp 20), 2, "row.go:33", #[⟨0, .data⟩], none⟩ ?_
            refine wpR 2 ⟨some 22, .call ⟨.value (.func 211), #[.tmp 21], #[2]⟩, 4, "row.go:33", #[⟨1, .data⟩], none⟩ (fun K hK => ?_)
            go_simp
            (go_at_call 211; refine (rightTime_w _ _).mono ?_; rintro _ _ ⟨rfl, rfl⟩; rw [HP.out])
            refine hK.out _ _ ?_ (fun hHeld => ?_)
            · first | exact ⟨m5.cell b0, m5.cell b1, m5.cell b2, m5.cell b3, m5.cell py⟩ | exact ⟨b0, b1, b2, b3, py⟩
            clear hK K
            try simp only [Act.put, sp1, sp2, sp3]
            refine wpT 3 ⟨some 23, .unOp .not 4 (.tmp 22), 4, "row.go:33", #[⟨2, .data⟩], none⟩ ?_
            refine wpT 4 ⟨some 24, .move (.tmp 23), 4, "row.go:33", #[⟨3, .data⟩, ⟨2, .chain⟩], none⟩ ?_
            refine wpT 5 ⟨some 25, .move (.tmp 3), 3, "row.go:33", #[⟨4, .guard⟩], some (4, false)⟩ ?_
            refine wpT 6 ⟨some 26, .binOp .gtr 3 (.tmp 25) (.const (.int .i64 0)) 3, 4, "row.go:33", #[⟨5, .data⟩, ⟨4, .guard⟩], some (4, false)⟩ ?_
            refine wpT 7 ⟨some 27, .move (.tmp 26), 4, "row.go:33", #[⟨6, .data⟩, ⟨4, .chain⟩, ⟨4, .guard⟩], some (4, false)⟩ ?_
            refine wpT 8 ⟨some 28, .move (.tmp 0), 142, "row.go:33", #[⟨7, .guard⟩], some (7, true)⟩ ?_
            refine wpT 9 ⟨some 29, .move (.tmp 3), 3, "row.go:33", #[⟨7, .guard⟩], some (7, true)⟩ ?_
            refine wpT 10 ⟨some 30, .binOp .sub 3 (.tmp 29) (.const (.int .i64 1)) 3, 3, "row.go:33", #[⟨9, .data⟩, ⟨7, .guard⟩], some (7, true)⟩ ?_
            refine wpT 11 ⟨some 31, .indexAddr 142 (.tmp 28) (.tmp 30), 0, "row.go:33", #[⟨8, .data⟩, ⟨10, .data⟩, ⟨7, .guard⟩], some (7, true)⟩ ?_
            refine wpT 12 ⟨some 32, .fieldAddr 146 (.tmp 31) 0, 0, "row.go:33", #[⟨11, .data⟩, ⟨7, .guard⟩], some (7, true)⟩ ?_
            refine wpT 13 ⟨some 33, .load 2 (.tmp 32), 2, "row.go:33", #[⟨12, .data⟩, ⟨7, .guard⟩], some (7, true)⟩ ?_
            refine wpT 14 ⟨some 34, .fieldAddr 146 (.tmp 4) 0, 0, "row.go:33", #[⟨7, .guard⟩], some (7, true)⟩ ?_
            refine wpT 15 ⟨some 35, .load 2 (.tmp 34), 2, "row.go:33", #[⟨14, .data⟩, ⟨7, .guard⟩], some (7, true)⟩ ?_
            refine wpT 16 ⟨some 36, .binOp .leq 2 (.tmp 33) (.tmp 35) 2, 4, "row.go:33", #[⟨13, .data⟩, ⟨15, .data⟩, ⟨7, .guard⟩], some (7, true)⟩ ?_
            refine wpT 17 ⟨some 37, .pick (.tmp 27) (.tmp 36) (.const (.bool false)), 4, "row.go:33", #[⟨7, .data⟩, ⟨16, .data⟩, ⟨4, .guard⟩], some (4, false)⟩ ?_
            refine wpT 18 ⟨some 38, .pick (.tmp 24) (.const (.bool true)) (.tmp 37), 4, "row.go:33", #[⟨4, .data⟩, ⟨17, .data⟩], none⟩ ?_
            refine wpT 19 ⟨some 39, .move (.tmp 38), 4, "row.go:33", #[⟨18, .data⟩, ⟨7, .chain⟩], none⟩ ?_
            refine wpU 20 ⟨some 40, .fieldAddr 146 (.tmp 4) 1, 0, "row.go:33", #[⟨19, .guard⟩], some (19, false)⟩ ?_
            refine wpU 21 ⟨some 41, .load 30 (.tmp 40), 30, "row.go:33", #[⟨20, .data⟩, ⟨19, .guard⟩], some (19, false)⟩ ?_
            refine wpU 22 ⟨some 42, .call ⟨.value (.func 159), #[.tmp 41], #[30]⟩, 4, "row.go:33", #[⟨21, .data⟩, ⟨19, .chain⟩, ⟨19, .guard⟩], some (19, false)⟩ ?_
            refine wpU 23 ⟨some 43, .unOp .not 4 (.tmp 42), 4, "row.go:33", #[⟨22, .data⟩, ⟨19, .guard⟩], some (19, false)⟩ ?_
            refine wpT 24 ⟨some 44, .pick (.tmp 39) (.const (.bool true)) (.tmp 43), 4, "row.go:33", #[⟨19, .data⟩, ⟨23, .data⟩], none⟩ ?_
            refine wpAnyH_done (by kernel_rfl) ?_ _
            refine NoPanic.normal ?_
            go_wp2_with fail
            go_ret
            refine ⟨?_, ?_⟩
            · rw [hbad.out]; rfl
            · exact HM.out
          · have hty' : ¬ y.t ≤ x.t := hty
            cases hr : pvr x.v with
            | false =>
              have HR : Hid (pvr x.v = false) := hr
              have hbad : Hid (prightV xs = false) := prightV_no (by rw [← HN.out]; exact hlt) (by unfold verGood; rw [HX.out]; simp [hr])
              clear hp hr
              refine wp_region_noPanic ?_
              refine wp_region_held_drew (S := (fun w' => w'.cell? ⟨wr.heap.size, 0, none⟩ = some (.int .i64 x.t) ∧ w'.cell? ⟨wr.heap.size, 1, none⟩ = some (.int .i64 x.v.kind) ∧ w'.cell? ⟨wr.heap.size, 2, none⟩ = some (.slice a2 n2 c2) ∧ w'.cell? ⟨wr.heap.size, 3, none⟩ = some (.float .f64 x.v.n) ∧ w'.cell? ⟨g, off + k' * 4, none⟩ = some (.int .i64 y.t))) (by kernel_rfl) ?_ (fun hHeld => ?_)
              · first | (go_keep; done) | first | exact ⟨m5.cell b0, m5.cell b1, m5.cell b2, m5.cell b3, m5.cell py⟩ | exact ⟨b0, b1, b2, b3, py⟩
              refine wpT 0 ⟨some 20, .fieldAddr 146 (.tmp 4) 0, 0, "row.go:33", #[], none⟩ ?_
              refine wpT 1 ⟨some 21, .load 2 (.tmp 20), 2, "row.go:33", #[⟨0, .data⟩], none⟩ ?_
              refine wpR 2 ⟨some 22, .call ⟨.value (.func 211), #[.tmp 21], #[2]⟩, 4, "row.go:33", #[⟨1, .data⟩], none⟩ (fun K hK => ?_)
              go_simp
              (go_at_call 211; refine (rightTime_w _ _).mono ?_; rintro _ _ ⟨rfl, rfl⟩; rw [HP.out])
              refine hK.out _ _ ?_ (fun hHeld => ?_)
              · first | exact ⟨m5.cell b0, m5.cell b1, m5.cell b2, m5.cell b3, m5.cell py⟩ | exact ⟨b0, b1, b2, b3, py⟩
              clear hK K
              try simp only [Act.put, sp1, sp2, sp3]
              refine wpT 3 ⟨some 23, .unOp .not 4 (.tmp 22), 4, "row.go:33", #[⟨2, .data⟩], none⟩ ?_
              refine wpT 4 ⟨some 24, .move (.tmp 23), 4, "row.go:33", #[⟨3, .data⟩, ⟨2, .chain⟩], none⟩ ?_
              refine wpT 5 ⟨some 25, .move (.tmp 3), 3, "row.go:33", #[⟨4, .guard⟩], some (4, false)⟩ ?_
              refine wpT 6 ⟨some 26, .binOp .gtr 3 (.tmp 25) (.const (.int .i64 0)) 3, 4, "row.go:33", #[⟨5, .data⟩, ⟨4, .guard⟩], some (4, false)⟩ ?_
              refine wpT 7 ⟨some 27, .move (.tmp 26), 4, "row.go:33", #[⟨6, .data⟩, ⟨4, .chain⟩, ⟨4, .guard⟩], some (4, false)⟩ ?_
              refine wpT 8 ⟨some 28, .move (.tmp 0), 142, "row.go:33", #[⟨7, .guard⟩], some (7, true)⟩ ?_
              refine wpT 9 ⟨some 29, .move (.tmp 3), 3, "row.go:33", #[⟨7, .guard⟩], some (7, true)⟩ ?_
              refine wpT 10 ⟨some 30, .binOp .sub 3 (.tmp 29) (.const (.int .i64 1)) 3, 3, "row.go:33", #[⟨9, .data⟩, ⟨7, .guard⟩], some (7, true)⟩ ?_
              refine wpT 11 ⟨some 31, .indexAddr 142 (.tmp 28) (.tmp 30), 0, "row.go:33", #[⟨8, .data⟩, ⟨10, .data⟩, ⟨7, .guard⟩], some (7, true)⟩ ?_
              refine wpT 12 ⟨some 32, .fieldAddr 146 (.tmp 31) 0, 0, "row.go:33", #[⟨11, .data⟩, ⟨7, .guard⟩], some (7, true)⟩ ?_
              refine wpT 13 ⟨some 33, .load 2 (.tmp 32), 2, "row.go:33", #[⟨12, .data⟩, ⟨7, .guard⟩], some (7, true)⟩ ?_
              refine wpT 14 ⟨some 34, .fieldAddr 146 (.tmp 4) 0, 0, "row.go:33", #[⟨7, .guard⟩], some (7, true)⟩ ?_
              refine wpT 15 ⟨some 35, .load 2 (.tmp 34), 2, "row.go:33", #[⟨14, .data⟩, ⟨7, .guard⟩], some (7, true)⟩ ?_
              refine wpT 16 ⟨some 36, .binOp .leq 2 (.tmp 33) (.tmp 35) 2, 4, "row.go:33", #[⟨13, .data⟩, ⟨15, .data⟩, ⟨7, .guard⟩], some (7, true)⟩ ?_
              refine wpT 17 ⟨some 37, .pick (.tmp 27) (.tmp 36) (.const (.bool false)), 4, "row.go:33", #[⟨7, .data⟩, ⟨16, .data⟩, ⟨4, .guard⟩], some (4, false)⟩ ?_
              refine wpT 18 ⟨some 38, .pick (.tmp 24) (.const (.bool true)) (.tmp 37), 4, "row.go:33", #[⟨4, .data⟩, ⟨17, .data⟩], none⟩ ?_
              refine wpT 19 ⟨some 39, .move (.tmp 38), 4, "row.go:33", #[⟨18, .data⟩, ⟨7, .chain⟩], none⟩ ?_
              refine wpT 20 ⟨some 40, .fieldAddr 146 (.tmp 4) 1, 0, "row.go:33", #[⟨19, .guard⟩], some (19, false)⟩ ?_
              refine wpT 21 ⟨some 41, .load 30 (.tmp 40), 30, "row.go:33", #[⟨20, .data⟩, ⟨19, .guard⟩], some (19, false)⟩ ?_
              refine wpR 22 ⟨some 42, .call ⟨.value (.func 159), #[.tmp 41], #[30]⟩, 4, "row.go:33", #[⟨21, .data⟩, ⟨19, .chain⟩, ⟨19, .guard⟩], some (19, false)⟩ (fun K hK => ?_)
              go_simp
              (go_at_call 159; refine (right4_w wc.drew _ _ _ _ _ _ _ HVC.out.va (Moves.refl _ _)).mono ?_; rintro _ w5 ⟨rfl, m5⟩; rw [HR.out])
              refine hK.out _ _ ?_ (fun hHeld => ?_)
              · first | exact ⟨m5.cell b0, m5.cell b1, m5.cell b2, m5.cell b3, m5.cell py⟩ | exact ⟨b0, b1, b2, b3, py⟩
              clear hK K
              try simp only [Act.put, sp1, sp2, sp3]
              refine wpT 23 ⟨some 43, .unOp .not 4 (.tmp 42), 4, "row.go:33", #[⟨22, .data⟩, ⟨19, .guard⟩], some (19, false)⟩ ?_
              refine wpT 24 ⟨some 44, .pick (.tmp 39) (.const (.bool true)) (.tmp 43), 4, "row.go:33", #[⟨19, .data⟩, ⟨23, .data⟩], none⟩ ?_
              refine wpAnyH_done (by kernel_rfl) ?_ _
              refine NoPanic.normal ?_
              go_wp2_with fail
              go_ret
              refine ⟨?_, ?_⟩
              · rw [hbad.out]; rfl
              · exact HM.out.then m5
            | true =>
              have HR : Hid (pvr x.v = true) := hr
              have hgood : verGood xs k = true := by unfold verGood; rw [HX.out]; simp [HY.out, hp, hr]; omega
              clear hp hr
              refine wp_region_noPanic ?_
              refine wp_region_held_drew (S := (fun w' => w'.cell? ⟨wr.heap.size, 0, none⟩ = some (.int .i64 x.t) ∧ w'.cell? ⟨wr.heap.size, 1, none⟩ = some (.int .i64 x.v.kind) ∧ w'.cell? ⟨wr.heap.size, 2, none⟩ = some (.slice a2 n2 c2) ∧ w'.cell? ⟨wr.heap.size, 3, none⟩ = some (.float .f64 x.v.n) ∧ w'.cell? ⟨g, off + k' * 4, none⟩ = some (.int .i64 y.t))) (by kernel_rfl) ?_ (fun hHeld => ?_)
              · first | (go_keep; done) | first | exact ⟨m5.cell b0, m5.cell b1, m5.cell b2, m5.cell b3, m5.cell py⟩ | exact ⟨b0, b1, b2, b3, py⟩
              refine wpT 0 ⟨some 20, .fieldAddr 146 (.tmp 4) 0, 0, "row.go:33", #[], none⟩ ?_
              refine wpT 1 ⟨some 21, .load 2 (.tmp 20), 2, "row.go:33", #[⟨0, .data⟩], none⟩ ?_
              refine wpR 2 ⟨some 22, .call ⟨.value (.func 211), #[.tmp 21], #[2]⟩, 4, "row.go:33", #[⟨1, .data⟩], none⟩ (fun K hK => ?_)
              go_simp
              (go_at_call 211; refine (rightTime_w _ _).mono ?_; rintro _ _ ⟨rfl, rfl⟩; rw [HP.out])
              refine hK.out _ _ ?_ (fun hHeld => ?_)
              · first | exact ⟨m5.cell b0, m5.cell b1, m5.cell b2, m5.cell b3, m5.cell py⟩ | exact ⟨b0, b1, b2, b3, py⟩
              clear hK K
              try simp only [Act.put, sp1, sp2, sp3]
              refine wpT 3 ⟨some 23, .unOp .not 4 (.tmp 22), 4, "row.go:33", #[⟨2, .data⟩], none⟩ ?_
              refine wpT 4 ⟨some 24, .move (.tmp 23), 4, "row.go:33", #[⟨3, .data⟩, ⟨2, .chain⟩], none⟩ ?_
              refine wpT 5 ⟨some 25, .move (.tmp 3), 3, "row.go:33", #[⟨4, .guard⟩], some (4, false)⟩ ?_
              refine wpT 6 ⟨some 26, .binOp .gtr 3 (.tmp 25) (.const (.int .i64 0)) 3, 4, "row.go:33", #[⟨5, .data⟩, ⟨4, .guard⟩], some (4, false)⟩ ?_
              refine wpT 7 ⟨some 27, .move (.tmp 26), 4, "row.go:33", #[⟨6, .data⟩, ⟨4, .chain⟩, ⟨4, .guard⟩], some (4, false)⟩ ?_
              refine wpT 8 ⟨some 28, .move (.tmp 0), 142, "row.go:33", #[⟨7, .guard⟩], some (7, true)⟩ ?_
              refine wpT 9 ⟨some 29, .move (.tmp 3), 3, "row.go:33", #[⟨7, .guard⟩], some (7, true)⟩ ?_
              refine wpT 10 ⟨some 30, .binOp .sub 3 (.tmp 29) (.const (.int .i64 1)) 3, 3, "row.go:33", #[⟨9, .data⟩, ⟨7, .guard⟩], some (7, true)⟩ ?_
              refine wpT 11 ⟨some 31, .indexAddr 142 (.tmp 28) (.tmp 30), 0, "row.go:33", #[⟨8, .data⟩, ⟨10, .data⟩, ⟨7, .guard⟩], some (7, true)⟩ ?_
              refine wpT 12 ⟨some 32, .fieldAddr 146 (.tmp 31) 0, 0, "row.go:33", #[⟨11, .data⟩, ⟨7, .guard⟩], some (7, true)⟩ ?_
              refine wpT 13 ⟨some 33, .load 2 (.tmp 32), 2, "row.go:33", #[⟨12, .data⟩, ⟨7, .guard⟩], some (7, true)⟩ ?_
              refine wpT 14 ⟨some 34, .fieldAddr 146 (.tmp 4) 0, 0, "row.go:33", #[⟨7, .guard⟩], some (7, true)⟩ ?_
              refine wpT 15 ⟨some 35, .load 2 (.tmp 34), 2, "row.go:33", #[⟨14, .data⟩, ⟨7, .guard⟩], some (7, true)⟩ ?_
              refine wpT 16 ⟨some 36, .binOp .leq 2 (.tmp 33) (.tmp 35) 2, 4, "row.go:33", #[⟨13, .data⟩, ⟨15, .data⟩, ⟨7, .guard⟩], some (7, true)⟩ ?_
              refine wpT 17 ⟨some 37, .pick (.tmp 27) (.tmp 36) (.const (.bool false)), 4, "row.go:33", #[⟨7, .data⟩, ⟨16, .data⟩, ⟨4, .guard⟩], some (4, false)⟩ ?_
              refine wpT 18 ⟨some 38, .pick (.tmp 24) (.const (.bool true)) (.tmp 37), 4, "row.go:33", #[⟨4, .data⟩, ⟨17, .data⟩], none⟩ ?_
              refine wpT 19 ⟨some 39, .move (.tmp 38), 4, "row.go:33", #[⟨18, .data⟩, ⟨7, .chain⟩], none⟩ ?_
              refine wpT 20 ⟨some 40, .fieldAddr 146 (.tmp 4) 1, 0, "row.go:33", #[⟨19, .guard⟩], some (19, false)⟩ ?_
              refine wpT 21 ⟨some 41, .load 30 (.tmp 40), 30, "row.go:33", #[⟨20, .data⟩, ⟨19, .guard⟩], some (19, false)⟩ ?_
              refine wpR 22 ⟨some 42, .call ⟨.value (.func 159), #[.tmp 41], #[30]⟩, 4, "row.go:33", #[⟨21, .data⟩, ⟨19, .chain⟩, ⟨19, .guard⟩], some (19, false)⟩ (fun K hK => ?_)
              go_simp
              (go_at_call 159; refine (right4_w wc.drew _ _ _ _ _ _ _ HVC.out.va (Moves.refl _ _)).mono ?_; rintro _ w5 ⟨rfl, m5⟩; rw [HR.out])
              refine hK.out _ _ ?_ (fun hHeld => ?_)
              · first | exact ⟨m5.cell b0, m5.cell b1, m5.cell b2, m5.cell b3, m5.cell py⟩ | exact ⟨b0, b1, b2, b3, py⟩
              clear hK K
              try simp only [Act.put, sp1, sp2, sp3]
              refine wpT 23 ⟨some 43, .unOp .not 4 (.tmp 42), 4, "row.go:33", #[⟨22, .data⟩, ⟨19, .guard⟩], some (19, false)⟩ ?_
              refine wpT 24 ⟨some 44, .pick (.tmp 39) (.const (.bool true)) (.tmp 43), 4, "row.go:33", #[⟨19, .data⟩, ⟨23, .data⟩], none⟩ ?_
              refine wpAnyH_done (by kernel_rfl) ?_ _
              refine NoPanic.normal ?_
              go_wp2_with fail
              go_roundw
              case rel => exact ⟨k + 1, by omega, by go_num, HM.out.then m5, fun j hj => by rcases Nat.lt_succ_iff_lt_or_eq.1 hj with h | h; exact hall j h; rw [h]; exact hgood⟩
              case measure => simp [intOf]; omega
    · have hk3 : ¬ (k : Int) < n := by omega
      have hyes : Hid (prightV xs = true) := prightV_yes (by rw [← HN.out]; omega) (by rw [← HN.out]; omega) (fun j hj => hall j (by have := HN.out; omega))
      go_wp2_with fail
      go_ret
      exact ⟨by rw [hyes.out]; rfl, mr⟩
end Go.Proofs.YtilbbnmhnacnlaaGreat
