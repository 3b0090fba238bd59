/- ours -/
import Derived.Test.YtcngllcifcpbkaaGreatCRow12
import Derived.Test.YtcngllcifcpbkaaGreatCBaseK
import Derived.Test.YtcngllcifcpbkaaGreatCSum5
import Derived.Test.YtcngllcifcpbkaaGreatCBaseS
/-
 The document's own At, Newest, DropCol of a row that may be.
-/
namespace Go.Proofs.YtcngllcifcpbkaaGreat
open Go.RowKit

set_option maxRecDepth 100000 in
set_option maxHeartbeats 8000000 in
theorem refAt_yes (W w : World) (v : Value) (R : List Pcol) (s : ByteArray) (t : Int) (h : RowAt W v R) (m : Moves [] W w) (hr : pright R = true) :
  Calls Tryz.prog 121 #[v, .string s, .int .i64 t] w fun e w' => ∃ k ad n cap x, e = .returned (.tuple #[.agg #[.int .i64 k, .slice ad n cap, .float .f64 x], .bool (pAt R s t).isSome]) ∧ VC w' [.int .i64 k, .slice ad n cap, .float .f64 x] ((pAt R s t).getD ⟨0, [], 0⟩) ∧ Moves [] w w' := by
 have hC := fun w1 (m1 : Moves [] W w1) => refCopy_yes W w1 v R h m1 hr
 obtain ⟨lv, rfl, hl⟩ := h
 obtain ⟨ad, cap, rfl, hc⟩ := hl.slice
 have hCr := pright_canon hr
 have hPq := pAt_copy hr s t
 have hlen : (R.map pcanonC).length ≤ 4 := by rw [List.length_map]; exact pright_len4 hr
 obtain ⟨C, hCq⟩ : ∃ C, Hid (R.map pcanonC = C) := ⟨_, rfl⟩
 rw [hCq.out] at hC hlen hCr hPq
 obtain ⟨A, hAq⟩ : ∃ A, Hid (pAt R s t = A) := ⟨_, rfl⟩
 rw [hAq.out] at hPq ⊢
 obtain ⟨no, hno⟩ : ∃ no, Hid (no = C.length) := ⟨_, rfl⟩
 obtain ⟨ix, hix⟩ : ∃ ix, Hid (pidx C s = ix) := ⟨_, rfl⟩
 rw [← hno.out] at hlen
 have hC1 : C.length ≤ 1048576 := by have := hno.out; omega
 have hm : Moves [] W ((w.alloc (.cells #[.slice ad R.length cap] 52)).alloc (.cells #[.int .i64 0, .slice none 0 0, .float .f64 0] 99)) := (m.alloc _).alloc _
 have HCr : Hid (pright C = true) := hCr
 clear hl hr hCr
 have HA : Hid (A = ((pvers C s).find? (fun x => decide (x.t ≤ t))).map (fun x => x.v)) := hPq
 clear hPq
 cases hhas : phas C s with
 | false =>
  have HH : Hid (phas C s = false) := hhas
  have he : Hid (A = none) := by unfold Hid; rw [HA.out, (phas_no HCr.out hhas).1]; rfl
  clear hhas
  go_enter Tryz.func121, Tryz.ntmps121
  go_wp2_with (first | (go_at_call 71; refine (hC _ hm).mono ?_; rintro _ w3 ⟨ad3, n3, cap3, rfl, hG3, m3, hZ3⟩; obtain ⟨p1, p2, m0⟩ := boxes m3; have hA3 := hG3.at; obtain rfl : n3 = no := hA3.len.trans hno.out.symm; have HG3 : Hid (GrowC w w3 (.slice ad3 n3 cap3) C) := hG3.elder (((Moves.refl [] w).alloc _).alloc _); clear hG3) | (go_at_call 98; refine (find_w w3 _ _ C s ⟨_, rfl, hA3⟩ ((Moves.refl _ _).alloc _) hC1).mono ?_; rintro _ w4 ⟨rfl, m4⟩; rw [hix.out, HH.out]; obtain ⟨q1, mq⟩ := boxesW m4; obtain ⟨h0, h1⟩ := one_cell q1; have c4 := mq.at p2 (by simp); have HG4 : Hid (GrowC w w4 (.slice ad3 n3 cap3) C) := HG3.out.moves0 mq; have M4 : Moves [] w w4 := m0.then mq; obtain ⟨x0, x1, x2, f0, f1, f2⟩ := three_cells c4))
  try simp only [Exit.inBlock, Exit.then]
  obtain ⟨s1, s2, s3⟩ := stored3 c4 M4 (by omega) (.int .i64 0) (.slice none 0 0) (.float .f64 0)
  refine bodyPost_ret (ret_val2 rfl _ _ _ _ _ _ rfl s1) rfl ⟨0, none, 0, 0, 0, ?_, ?_, s2⟩
  ·rw [he.out]; rfl
  ·rw [he.out]
   exact ⟨none, 0, 0, 0, rfl, isB_nil _ _, fits_zero, by simp, by simp, .inl rfl⟩
 | true =>
  have HH : Hid (phas C s = true) := hhas
  obtain ⟨hx, hpr⟩ := phas_at HCr.out hhas
  rw [hix.out] at hx
  have hvl := (prightV_two hpr).2
  obtain ⟨V, hVq⟩ : ∃ V, Hid (pvers C s = V) := ⟨_, rfl⟩
  rw [hVq.out] at hx hvl HA
  have HX : Hid (C[ix]? = some ⟨s, V⟩) := hx
  have hixn : ix < no := by
   have := (List.getElem?_eq_some_iff.1 hx).1
   have := hno.out
   omega
  have hix3 : (ix : Int) < no := by omega
  clear hhas hx hpr
  go_enter Tryz.func121, Tryz.ntmps121
  go_wp2_with (first | (go_at_call 71; refine (hC _ hm).mono ?_; rintro _ w3 ⟨ad3, n3, cap3, rfl, hG3, m3, hZ3⟩; obtain ⟨p1, p2, m0⟩ := boxes m3; have hA3 := hG3.at; obtain rfl : n3 = no := hA3.len.trans hno.out.symm; have HG3 : Hid (GrowC w w3 (.slice ad3 n3 cap3) C) := hG3.elder (((Moves.refl [] w).alloc _).alloc _); clear hG3) | (go_at_call 98; refine (find_w w3 _ _ C s ⟨_, rfl, hA3⟩ ((Moves.refl _ _).alloc _) hC1).mono ?_; rintro _ w4 ⟨rfl, m4⟩; rw [hix.out, HH.out]; obtain ⟨q1, mq⟩ := boxesW m4; obtain ⟨h0, h1⟩ := one_cell q1; have c4 := mq.at p2 (by simp); have HG4 : Hid (GrowC w w4 (.slice ad3 n3 cap3) C) := HG3.out.moves0 mq; have M4 : Moves [] w w4 := m0.then mq; obtain ⟨g2, off2, a2, n2, c2, e2, y0, y1, en2, hle2, hV2⟩ := (hA3.moves mq).at HX.out; subst e2; obtain ⟨x0, x1, x2, f0, f1, f2⟩ := three_cells c4))
  obtain ⟨pb, hpb⟩ : ∃ pb, w3.heap.size = pb := ⟨_, rfl⟩
  rw [hpb] at h0 ⊢
  have HV3 : Hid (VersAt w4 (.slice a2 n2 c2) V) := hV2
  have hn3 : Hid (n2 = V.length) := en2
  have hb3 : n2 ≤ 2 := by have := hn3.out; omega
  have hM4 : Hid (Moves [] w w4) := M4
  clear hpb hC hA3 HG3 HG4 m4 mq m3 p1 p2 q1 h1 hV2 en2 hZ3 M4 m0 x0 x1 x2 f0 f1 f2
  go_loopw [11] (fun i wr => ∃ k : Nat, k ≤ n2 ∧ i = .int .i64 k ∧ Moves [] w4 wr ∧ (V.take k).find? (fun x => decide (x.t ≤ t)) = none) (fun i _ => n2 - (intOf i).toNat)
  case atStart => exact ⟨0, Nat.zero_le _, rfl, Moves.refl _ _, by simp⟩
  case round =>
   obtain ⟨k, hk, rfl, mr, hnone⟩ := hrel
   have HNone : Hid ((V.take k).find? (fun x => decide (x.t ≤ t)) = none) := hnone
   have r0 := mr.cell h0
   have r1 := mr.cell y1
   have q2 := mr.at c4 (by simp)
   obtain ⟨x0, x1, x2, f0, f1, f2⟩ := three_cells q2
   clear hnone
   by_cases hlt : k < n2
   ·have hk3 : (k : Int) < n2 := by omega
    obtain ⟨x, hx⟩ : ∃ x, V[k]? = some x := ⟨_, List.getElem?_eq_getElem (by rw [← hn3.out]; exact hlt)⟩
    obtain ⟨g5, off5, a6, n6, c6, rfl, e0, e1, e2, e3, hVC⟩ := HV3.out.at hx
    have d0 := mr.cell e0
    have d1 := mr.cell e1
    have d2 := mr.cell e2
    have d3 := mr.cell e3
    have HX2 : Hid (V[k]? = some x) := hx
    have HVC : Hid (VC wr [.int .i64 x.v.kind, .slice a6 n6 c6, .float .f64 x.v.n] x.v) := hVC.moves mr
    clear e0 e1 e2 e3 hx hVC
    by_cases hq : x.t ≤ t
    ·have hf := find_some_take (fun x : Pver => decide (x.t ≤ t)) HX2.out HNone.out (decide_eq_true hq)
     have he : Hid (A = some x.v) := by unfold Hid; rw [HA.out, hf]; rfl
     clear hf
     go_wp2_with fail
     try simp only [Exit.inBlock, Exit.then]
     obtain ⟨s1, s2, s3⟩ := stored3 q2 (hM4.out.then mr) (by omega) (.int .i64 x.v.kind) (.slice a6 n6 c6) (.float .f64 x.v.n)
     refine bodyPost_ret (ret_val2 rfl _ _ _ _ _ _ rfl s1) rfl ⟨x.v.kind, a6, n6, c6, x.v.n, ?_, ?_, s2⟩
     ·rw [he.out]; rfl
     ·rw [he.out]
      exact HVC.out.box3 q2 s3
    ·have hf := find_none_take (fun x : Pver => decide (x.t ≤ t)) HX2.out HNone.out (decide_eq_false hq)
     have HF : Hid ((V.take (k + 1)).find? (fun x => decide (x.t ≤ t)) = none) := hf
     clear hf
     go_wp2_with fail
     go_roundw
     case rel => exact ⟨k + 1, by omega, by go_num, mr, HF.out⟩
     case measure => simp [intOf]; omega
   ·have hk3 : ¬ (k : Int) < n2 := by omega
    obtain rfl : k = n2 := by omega
    have hf := HNone.out
    rw [hn3.out, List.take_length] at hf
    have he : Hid (A = none) := by unfold Hid; rw [HA.out, hf]; rfl
    clear hf
    go_wp2_with fail
    try simp only [Exit.inBlock, Exit.then]
    obtain ⟨s1, s2, s3⟩ := stored3 q2 (hM4.out.then mr) (by omega) (.int .i64 0) (.slice none 0 0) (.float .f64 0)
    refine bodyPost_ret (ret_val2 rfl _ _ _ _ _ _ rfl s1) rfl ⟨0, none, 0, 0, 0, ?_, ?_, s2⟩
    ·rw [he.out]; rfl
    ·rw [he.out]
     exact ⟨none, 0, 0, 0, rfl, isB_nil _ _, fits_zero, by simp, by simp, .inl rfl⟩

set_option maxRecDepth 100000 in
set_option maxHeartbeats 4000000 in
theorem refNewest_yes (W w : World) (v : Value) (R : List Pcol) (s : ByteArray) (h : RowAt W v R) (m : Moves [] W w) (hr : pright R = true) :
  Calls Tryz.prog 90 #[v, .string s] w fun e w' => ∃ k ad n cap x, e = .returned (.tuple #[.agg #[.int .i64 k, .slice ad n cap, .float .f64 x], .bool (pAt R s 1099511627776).isSome]) ∧ VC w' [.int .i64 k, .slice ad n cap, .float .f64 x] ((pAt R s 1099511627776).getD ⟨0, [], 0⟩) ∧ Moves [] w w' := by
 have hA := fun w1 (m1 : Moves [] W w1) => refAt_yes W w1 v R s 1099511627776 h m1 hr
 obtain ⟨lv, rfl, hl⟩ := h
 obtain ⟨ad, cap, rfl, hc⟩ := hl.slice
 clear hl
 obtain ⟨A, hAq⟩ : ∃ A, Hid (pAt R s 1099511627776 = A) := ⟨_, rfl⟩
 rw [hAq.out] at hA ⊢
 have hm : Moves [] W ((w.alloc (.cells #[.slice ad R.length cap] 52)).alloc (.cells #[.int .i64 0, .slice none 0 0, .float .f64 0] 99)) := (m.alloc _).alloc _
 go_enter Tryz.func90, Tryz.ntmps90
 go_wp2_with (go_at_call 121; refine (hA _ hm).mono ?_; rintro _ w2 ⟨k2, ad2, n2, cap2, x2, rfl, hVC, m2⟩; obtain ⟨p1, p2, m0⟩ := boxes m2; obtain ⟨x0, x1, x2', f0, f1, f2⟩ := three_cells p2)
 try simp only [Exit.inBlock, Exit.then]
 obtain ⟨s1, s2, s3⟩ := stored3 p2 m0 (by omega) (.int .i64 k2) (.slice ad2 n2 cap2) (.float .f64 x2)
 refine bodyPost_ret (ret_val2 rfl _ _ _ _ _ _ rfl s1) rfl ⟨_, _, _, _, _, rfl, ?_, s2⟩
 exact hVC.box3 p2 s3

set_option maxRecDepth 100000 in
set_option maxHeartbeats 8000000 in
theorem refDropCol_yes (W w : World) (v : Value) (R : List Pcol) (s : ByteArray) (h : RowAt W v R) (m : Moves [] W w) (hr : pright R = true) :
  Calls Tryz.prog 89 #[v, .string s] w fun e w' => ∃ ad n cap, e = .returned (.agg #[.slice ad n cap]) ∧ ColsAt w' (.slice ad n cap) (pDropCol R s) ∧ Moves [] w w' := by
 have hC := fun w1 (m1 : Moves [] W w1) => refCopy_yes W w1 v R h m1 hr
 obtain ⟨lv, rfl, hl⟩ := h
 obtain ⟨ad, cap, rfl, hc⟩ := hl.slice
 have hCr := pright_canon hr
 have hPq := (show pDropCol R s = pwith (R.map pcanonC) s [] from by unfold pDropCol; rw [pcopy_of hr])
 have hlen : (R.map pcanonC).length ≤ 4 := by rw [List.length_map]; exact pright_len4 hr
 obtain ⟨C, hCq⟩ : ∃ C, Hid (R.map pcanonC = C) := ⟨_, rfl⟩
 rw [hCq.out] at hC hlen hCr hPq
 obtain ⟨A, hAq⟩ : ∃ A, Hid (pDropCol R s = A) := ⟨_, rfl⟩
 rw [hAq.out] at hPq ⊢
 obtain ⟨no, hno⟩ : ∃ no, Hid (no = C.length) := ⟨_, rfl⟩
 obtain ⟨ix, hix⟩ : ∃ ix, Hid (pidx C s = ix) := ⟨_, rfl⟩
 rw [← hno.out] at hlen
 have hC1 : C.length ≤ 1048576 := by have := hno.out; omega
 have hm : Moves [] W ((w.alloc (.cells #[.slice ad R.length cap] 52)).alloc (.cells #[.slice none 0 0] 52)) := (m.alloc _).alloc _
 have HCr : Hid (pright C = true) := hCr
 clear hl hr hCr
 have HA : Hid (A = pwith C s []) := hPq
 clear hPq
 cases hhas : phas C s with
 | false =>
  have HH : Hid (phas C s = false) := hhas
  have he : Hid (A = C) := by unfold Hid; rw [HA.out, (phas_no HCr.out hhas).2]
  clear hhas
  go_enter Tryz.func89, Tryz.ntmps89
  go_wp2_with (first | (go_at_call 71; refine (hC _ hm).mono ?_; rintro _ w3 ⟨ad3, n3, cap3, rfl, hG3, m3, hZ3⟩; obtain ⟨p1, p2, m0⟩ := boxes m3; have hA3 := hG3.at; obtain rfl : n3 = no := hA3.len.trans hno.out.symm; have HG3 : Hid (GrowC w w3 (.slice ad3 n3 cap3) C) := hG3.elder (((Moves.refl [] w).alloc _).alloc _); clear hG3) | (go_at_call 98; refine (find_w w3 _ _ C s ⟨_, rfl, hA3⟩ ((Moves.refl _ _).alloc _) hC1).mono ?_; rintro _ w4 ⟨rfl, m4⟩; rw [hix.out, HH.out]; obtain ⟨q1, mq⟩ := boxesW m4; obtain ⟨h0, h1⟩ := one_cell q1; have c4 := mq.at p2 (by simp); have HG4 : Hid (GrowC w w4 (.slice ad3 n3 cap3) C) := HG3.out.moves0 mq; have M4 : Moves [] w w4 := m0.then mq; obtain ⟨f0, f1⟩ := one_cell c4))
  try simp only [Exit.inBlock, Exit.then]
  rw [he.out]
  exact bodyPost_ret (ret_row rfl _ _ _ _ rfl (set_one c4 _)) rfl ⟨_, _, _, rfl, (HG4.out.setRow c4 _).at, M4.setCell (.inr (by show _ ≤ _ + 1; omega)) _⟩
 | true =>
  have HH : Hid (phas C s = true) := hhas
  obtain ⟨hx, hpr⟩ := phas_at HCr.out hhas
  have hy := phas_out HCr.out hhas
  rw [hix.out] at hx hy
  obtain ⟨jx, hjx⟩ : ∃ jx, jx = ix + 1 := ⟨_, rfl⟩
  have HY : Hid (C.take ix ++ C.drop jx = A) := by unfold Hid; rw [HA.out, hjx, hy]
  have hixn : ix < no := by
   have := (List.getElem?_eq_some_iff.1 hx).1
   have := hno.out
   omega
  have HPos : Hid (0 < C.length) := by unfold Hid; have := hno.out; omega
  clear hhas hx hpr hy
  have hix3 : (ix : Int) < no := by omega
  go_enter Tryz.func89, Tryz.ntmps89
  go_wp2_with (first | (go_at_call 71; refine (hC _ hm).mono ?_; rintro _ w3 ⟨ad3, n3, cap3, rfl, hG3, m3, hZ3⟩; obtain ⟨p1, p2, m0⟩ := boxes m3; have hA3 := hG3.at; obtain rfl : n3 = no := hA3.len.trans hno.out.symm; have HG3 : Hid (GrowC w w3 (.slice ad3 n3 cap3) C) := hG3.elder (((Moves.refl [] w).alloc _).alloc _); clear hG3) | (go_at_call 98; refine (find_w w3 _ _ C s ⟨_, rfl, hA3⟩ ((Moves.refl _ _).alloc _) hC1).mono ?_; rintro _ w4 ⟨rfl, m4⟩; rw [hix.out, HH.out]; obtain ⟨q1, mq⟩ := boxesW m4; obtain ⟨h0, h1⟩ := one_cell q1; have c4 := mq.at p2 (by simp); have HG4 : Hid (GrowC w w4 (.slice ad3 n3 cap3) C) := HG3.out.moves0 mq; have M4 : Moves [] w w4 := m0.then mq; obtain ⟨f0, f1⟩ := one_cell c4; obtain ⟨gl0, nl0, capl0, arr0, e, hnl0, hcap0, hgl0, hW0, hcells0⟩ := HG4.out.own HPos.out; simp only [Value.slice.injEq] at e; obtain ⟨rfl, rfl, rfl⟩ := e; have hi2 : (ix : Int) ≤ cap3 := (by omega); have hi3 : (jx : Int) ≤ n3 := (by omega); have hi4 : (jx : Int) ≤ cap3 := (by omega); have hi6 : jx ≤ n3 := (by omega); have hw1 : IntKind.i64.wrap ((ix : Int) + 1) = (jx : Int) := (by rw [IntWalk.i64_in _ (by omega)]; omega); clear hcells0 hjx))
  have hpbw : w.heap.size + 1 < w3.heap.size := lt_of_block p2
  obtain ⟨pb, hpb⟩ : ∃ pb, w3.heap.size = pb := ⟨_, rfl⟩
  rw [hpb] at q1 hpbw h0 ⊢
  have hS : ∀ w', Moves [] w4 w' → w'.cell? ⟨pb, 0, none⟩ = some (.slice (some ⟨gl0, 0, none⟩) n3 cap3) := fun w' m' => m'.cell h0
  have md : Moves [] w4 w4.drew := (Moves.refl _ _).drew
  have hbd5 : ([] : List Pcol).length + (C.take ix).length ≤ 1048576 := by
   have := List.length_take_le ix C
   have := hno.out
   simp <;> omega
  have hbd11 : ([] ++ C.take ix).length + (C.drop jx).length ≤ 1048576 := by
   have := List.length_take_le ix C
   have := hno.out
   simp <;> omega
  clear hpb hC m4 HG3
  refine wp_region_noPanic ?_
  refine region_peel (S := (fun w' => w'.cell? ⟨pb, 0, none⟩ = some (.slice (some ⟨gl0, 0, none⟩) n3 cap3))) (pre := #[⟨some 17, .buildSlice 50 0 #[], 50, "ref.go:108", #[], none⟩, ⟨some 18, .fieldAddr 52 (.tmp 5) 0, 0, "ref.go:108", #[], none⟩, ⟨some 19, .load 50 (.tmp 18), 50, "ref.go:108", #[⟨1, .data⟩], none⟩, ⟨some 20, .move (.tmp 6), 3, "ref.go:108", #[], none⟩, ⟨some 21, .slice 50 (.tmp 19) none (some (.tmp 20)) none, 50, "ref.go:108", #[⟨2, .data⟩, ⟨3, .data⟩], none⟩, ⟨some 22, .call ⟨.builtin .append, #[.tmp 17, .tmp 21], #[50, 50]⟩, 50, "ref.go:108", #[⟨0, .data⟩, ⟨4, .data⟩], none⟩, ⟨some 23, .fieldAddr 52 (.tmp 5) 0, 0, "ref.go:108", #[], none⟩, ⟨some 24, .load 50 (.tmp 23), 50, "ref.go:108", #[⟨6, .data⟩], none⟩, ⟨some 25, .move (.tmp 6), 3, "ref.go:108", #[], none⟩, ⟨some 26, .binOp .add 3 (.tmp 25) (.const (.int .i64 1)) 3, 3, "ref.go:108", #[⟨8, .data⟩], none⟩, ⟨some 27, .slice 50 (.tmp 24) (some (.tmp 26)) none none, 50, "ref.go:108", #[⟨7, .data⟩, ⟨9, .data⟩], none⟩, ⟨some 28, .call ⟨.builtin .append, #[.tmp 22, .tmp 27], #[50, 50]⟩, 50, "ref.go:108", #[⟨5, .data⟩, ⟨10, .data⟩, ⟨5, .chain⟩], none⟩, ⟨some 29, .fieldAddr 52 (.tmp 5) 0, 0, "ref.go:108", #[⟨0, .phase⟩, ⟨1, .phase⟩, ⟨2, .phase⟩, ⟨3, .phase⟩, ⟨4, .phase⟩, ⟨5, .phase⟩, ⟨6, .phase⟩, ⟨7, .phase⟩, ⟨8, .phase⟩, ⟨9, .phase⟩, ⟨10, .phase⟩, ⟨11, .phase⟩], none⟩]) (o := ⟨none, .store 50 (.tmp 29) (.tmp 28), 0, "ref.go:108", #[⟨12, .data⟩, ⟨11, .data⟩, ⟨11, .chain⟩, ⟨0, .phase⟩, ⟨1, .phase⟩, ⟨2, .phase⟩, ⟨3, .phase⟩, ⟨4, .phase⟩, ⟨5, .phase⟩, ⟨6, .phase⟩, ⟨7, .phase⟩, ⟨8, .phase⟩, ⟨9, .phase⟩, ⟨10, .phase⟩, ⟨11, .phase⟩], none⟩) (by kernel_rfl) (by kernel_rfl) (by kernel_rfl) ?_ (fun hHeld => ?_)
  ·(refine hS _ ?_; first | with_reducible assumption | exact Moves.alloc (by with_reducible assumption) _)
  refine wpT 1 ⟨some 18, .fieldAddr 52 (.tmp 5) 0, 0, "ref.go:108", #[], none⟩ ?_
  refine wpT 2 ⟨some 19, .load 50 (.tmp 18), 50, "ref.go:108", #[⟨1, .data⟩], none⟩ ?_
  refine wpT 3 ⟨some 20, .move (.tmp 6), 3, "ref.go:108", #[], none⟩ ?_
  refine wpT 4 ⟨some 21, .slice 50 (.tmp 19) none (some (.tmp 20)) none, 50, "ref.go:108", #[⟨2, .data⟩, ⟨3, .data⟩], none⟩ ?_
  refine wpT 6 ⟨some 23, .fieldAddr 52 (.tmp 5) 0, 0, "ref.go:108", #[], none⟩ ?_
  refine wpT 7 ⟨some 24, .load 50 (.tmp 23), 50, "ref.go:108", #[⟨6, .data⟩], none⟩ ?_
  refine wpT 8 ⟨some 25, .move (.tmp 6), 3, "ref.go:108", #[], none⟩ ?_
  refine wpT 9 ⟨some 26, .binOp .add 3 (.tmp 25) (.const (.int .i64 1)) 3, 3, "ref.go:108", #[⟨8, .data⟩], none⟩ ?_
  refine wpT 10 ⟨some 27, .slice 50 (.tmp 24) (some (.tmp 26)) none none, 50, "ref.go:108", #[⟨7, .data⟩, ⟨9, .data⟩], none⟩ ?_
  refine wpR 0 ⟨some 17, .buildSlice 50 0 #[], 50, "ref.go:108", #[], none⟩ (fun K hK => ?_)
  go_simp
  have hGe := GrowC.empty (W := w4) md
  refine hK.out _ _ ?_ (fun hHeld => ?_)
  ·(refine hS _ ?_; first | with_reducible assumption | exact Moves.alloc (by with_reducible assumption) _)
  clear hK K
  try simp only [Act.put, sp1, sp2, sp3]
  refine wpR 5 ⟨some 22, .call ⟨.builtin .append, #[.tmp 17, .tmp 21], #[50, 50]⟩, 50, "ref.go:108", #[⟨0, .data⟩, ⟨4, .data⟩], none⟩ (fun K hK => ?_)
  refine growC_step (.tmp 17) (.tmp 21) rfl _ _ [] (C.take ix) rfl rfl (by rfl) hGe ((HG4.out.at.moves (md.alloc _)).take (k := ix) (c := cap3) (by omega) (by omega) (Nat.le_refl _)) (md.alloc _) hbd5 ?_
  intro v5 w5 hG5 M5 m5 s5 l5
  have hsl := hG5.open
  obtain ⟨ad5, n5, cap5, rfl, hn5⟩ := hsl
  refine hK.out _ _ ?_ (fun hHeld => ?_)
  ·(refine hS _ ?_; first | with_reducible assumption | exact Moves.alloc (by with_reducible assumption) _)
  clear hK K
  try simp only [Act.put, sp1, sp2, sp3]
  refine wpR 11 ⟨some 28, .call ⟨.builtin .append, #[.tmp 22, .tmp 27], #[50, 50]⟩, 50, "ref.go:108", #[⟨5, .data⟩, ⟨10, .data⟩, ⟨5, .chain⟩], none⟩ (fun K hK => ?_)
  refine growC_step (.tmp 22) (.tmp 27) rfl _ _ ([] ++ C.take ix) (C.drop jx) rfl rfl (by rfl) hG5 (by have h := (HG4.out.at.moves M5).drop (k := jx) (by omega); rw [Nat.zero_add] at h; exact cols_if h hcap0 rfl) M5 hbd11 ?_
  intro v14 w14 hG14 M14 m14 s14 l14
  have hsl := hG14.open
  obtain ⟨ad14, n14, cap14, rfl, hn14⟩ := hsl
  have qp14 := M14.at q1 (by simp)
  obtain ⟨z0, z1⟩ := one_cell qp14
  refine hK.out _ _ ?_ (fun hHeld => ?_)
  ·(refine hS _ ?_; first | with_reducible assumption | exact Moves.alloc (by with_reducible assumption) _)
  clear hK K
  try simp only [Act.put, sp1, sp2, sp3]
  refine wpT 12 ⟨some 29, .fieldAddr 52 (.tmp 5) 0, 0, "ref.go:108", #[⟨0, .phase⟩, ⟨1, .phase⟩, ⟨2, .phase⟩, ⟨3, .phase⟩, ⟨4, .phase⟩, ⟨5, .phase⟩, ⟨6, .phase⟩, ⟨7, .phase⟩, ⟨8, .phase⟩, ⟨9, .phase⟩, ⟨10, .phase⟩, ⟨11, .phase⟩], none⟩ ?_
  refine wpAnyH_done (by kernel_rfl) ?_ _
  unfold PeelQ
  refine wpOp_of_wp rfl rfl ?_
  go_simp
  generalize (if cap3 = jx then some (⟨gl0, 0, none⟩ : Addr) else some ⟨gl0, jx * 2, none⟩) = A27
  apply NoPanic.normal
  have cc := M14.at c4 (by simp)
  have cs := (moves_set w14 pb 0 (.slice ad14 n14 cap14)).at cc (by simp; omega)
  obtain ⟨o2, o3⟩ := one_cell cs
  obtain ⟨o4, _⟩ := one_cell (set_one qp14 (.slice ad14 n14 cap14))
  have hne : ¬ w.heap.size + 1 = pb := by omega
  have hne' : ¬ pb = w.heap.size + 1 := by omega
  try simp only [Exit.then]
  go_wp2_with fail
  try simp only [Exit.inBlock, Exit.then]
  have hg := ((hG14.setRow qp14 (.slice ad14 n14 cap14)).setRow cs (.slice ad14 n14 cap14)).at
  rw [List.nil_append, HY.out] at hg
  exact bodyPost_ret (ret_row rfl _ _ _ _ rfl (set_one cs _)) rfl ⟨_, _, _, rfl, hg, ((M4.then M14).setCell (.inr (by show w.heap.size ≤ pb; omega)) _).setCell (.inr (by show _ ≤ _ + 1; omega)) _⟩
end Go.Proofs.YtcngllcifcpbkaaGreat
/-
 The document's own Drop of a row that may be.
-/
namespace Go.Proofs.YtcngllcifcpbkaaGreat
open Go.RowKit

set_option maxRecDepth 100000 in
set_option maxHeartbeats 16000000 in
theorem refDrop_yes (W w : World) (v : Value) (R : List Pcol) (s : ByteArray) (t : Int) (h : RowAt W v R) (m : Moves [] W w) (hr : pright R = true) :
  Calls Tryz.prog 88 #[v, .string s, .int .i64 t] w fun e w' => ∃ ad n cap, e = .returned (.agg #[.slice ad n cap]) ∧ ColsAt w' (.slice ad n cap) (pDrop R s t) ∧ Moves [] w w' := by
 have hC := fun w1 (m1 : Moves [] W w1) => refCopy_yes W w1 v R h m1 hr
 obtain ⟨lv, rfl, hl⟩ := h
 obtain ⟨ad, cap, rfl, hc⟩ := hl.slice
 have hCr := pright_canon hr
 have hPq := (show pDrop R s t = pwith (R.map pcanonC) s (pdrop (pvers (R.map pcanonC) s) t) from by unfold pDrop; rw [pcopy_of hr])
 have hlen : (R.map pcanonC).length ≤ 4 := by rw [List.length_map]; exact pright_len4 hr
 obtain ⟨C, hCq⟩ : ∃ C, Hid (R.map pcanonC = C) := ⟨_, rfl⟩
 rw [hCq.out] at hC hlen hCr hPq
 obtain ⟨A, hAq⟩ : ∃ A, Hid (pDrop R s t = A) := ⟨_, rfl⟩
 rw [hAq.out] at hPq ⊢
 obtain ⟨no, hno⟩ : ∃ no, Hid (no = C.length) := ⟨_, rfl⟩
 obtain ⟨ix, hix⟩ : ∃ ix, Hid (pidx C s = ix) := ⟨_, rfl⟩
 rw [← hno.out] at hlen
 have hC1 : C.length ≤ 1048576 := by have := hno.out; omega
 have hm : Moves [] W ((w.alloc (.cells #[.slice ad R.length cap] 52)).alloc (.cells #[.slice none 0 0] 52)) := (m.alloc _).alloc _
 have HCr : Hid (pright C = true) := hCr
 clear hl hr hCr
 have hCC : C.map pcanonC = C := by
  rw [← hCq.out, List.map_map]
  apply List.map_congr_left
  intro y _
  exact pcanonC_twice y
 have HA : Hid (A = pwith C s (pdrop (pvers C s) t)) := hPq
 clear hPq
 cases hhas : phas C s with
 | false =>
  have HH : Hid (phas C s = false) := hhas
  have he : Hid (A = C) := by
   obtain ⟨e1, e2⟩ := phas_no HCr.out hhas
   unfold Hid
   rw [HA.out, e1]
   exact e2
  clear hhas
  go_enter Tryz.func88, Tryz.ntmps88
  go_wp2_with (first | (go_at_call 71; refine (hC _ hm).mono ?_; rintro _ w3 ⟨ad3, n3, cap3, rfl, hG3, m3, hZ3⟩; obtain ⟨p1, p2, m0⟩ := boxes m3; have hA3 := hG3.at; obtain rfl : n3 = no := hA3.len.trans hno.out.symm; have HG3 : Hid (GrowC w w3 (.slice ad3 n3 cap3) C) := hG3.elder (((Moves.refl [] w).alloc _).alloc _); clear hG3) | (go_at_call 98; refine (find_w w3 _ _ C s ⟨_, rfl, hA3⟩ ((Moves.refl _ _).alloc _) hC1).mono ?_; rintro _ w4 ⟨rfl, m4⟩; rw [hix.out, HH.out]; obtain ⟨q1, mq⟩ := boxesW m4; obtain ⟨h0, h1⟩ := one_cell q1; have c4 := mq.at p2 (by simp); have HG4 : Hid (GrowC w w4 (.slice ad3 n3 cap3) C) := HG3.out.moves0 mq; have M4 : Moves [] w w4 := m0.then mq; obtain ⟨f0, f1⟩ := one_cell c4))
  try simp only [Exit.inBlock, Exit.then]
  rw [he.out]
  exact bodyPost_ret (ret_row rfl _ _ _ _ rfl (set_one c4 _)) rfl ⟨_, _, _, rfl, (HG4.out.setRow c4 _).at, M4.setCell (.inr (by show _ ≤ _ + 1; omega)) _⟩
 | true =>
  have HH : Hid (phas C s = true) := hhas
  obtain ⟨hx, hpr⟩ := phas_at HCr.out hhas
  have hset0 := fun l hl => phas_set HCr.out hhas (l := l) hl
  rw [hix.out] at hx hset0
  have hvl := (prightV_two hpr).2
  have hdc : pDropCol C s = pwith C s [] := by unfold pDropCol; rw [pcopy_of HCr.out, hCC]
  obtain ⟨V, hVq⟩ : ∃ V, Hid (pvers C s = V) := ⟨_, rfl⟩
  rw [hVq.out] at hx hvl HA
  have HX : Hid (C[ix]? = some ⟨s, V⟩) := hx
  have HSet : Hid (∀ l, l ≠ [] → C.set ix ⟨s, l⟩ = pwith C s l) := hset0
  have HDC : Hid (pDropCol C s = pwith C s []) := hdc
  have hixn : ix < no := by
   have := (List.getElem?_eq_some_iff.1 hx).1
   have := hno.out
   omega
  have hix3 : (ix : Int) < no := by omega
  have HPos : Hid (0 < C.length) := by unfold Hid; have := hno.out; omega
  clear hhas hx hpr hset0 hdc hCC
  go_enter Tryz.func88, Tryz.ntmps88
  go_wp2_with (first | (go_at_call 71; refine (hC _ hm).mono ?_; rintro _ w3 ⟨ad3, n3, cap3, rfl, hG3, m3, hZ3⟩; obtain ⟨p1, p2, m0⟩ := boxes m3; have hA3 := hG3.at; obtain rfl : n3 = no := hA3.len.trans hno.out.symm; have HG3 : Hid (GrowC w w3 (.slice ad3 n3 cap3) C) := hG3.elder (((Moves.refl [] w).alloc _).alloc _); clear hG3) | (go_at_call 98; refine (find_w w3 _ _ C s ⟨_, rfl, hA3⟩ ((Moves.refl _ _).alloc _) hC1).mono ?_; rintro _ w4 ⟨rfl, m4⟩; rw [hix.out, HH.out]; obtain ⟨q1, mq⟩ := boxesW m4; obtain ⟨h0, h1⟩ := one_cell q1; have c4 := mq.at p2 (by simp); have HG4 : Hid (GrowC w w4 (.slice ad3 n3 cap3) C) := HG3.out.moves0 mq; have M4 : Moves [] w w4 := m0.then mq; obtain ⟨f0, f1⟩ := one_cell c4; obtain ⟨gl, nl, capl, arr, e, hnl, hcapl, hgl, hWgl, hcells⟩ := HG4.out.own HPos.out; simp only [Value.slice.injEq] at e; obtain ⟨rfl, rfl, rfl⟩ := e; obtain ⟨ao, no', co, k0, k1, hVo, hno0, hfz⟩ := hcells ix ⟨s, V⟩ HX.out))
  have hne1 : ¬ gl = w3.heap.size := fun h => (by rw [h, q1] at hgl; simp at hgl)
  have hne3 : ¬ gl = w.heap.size + 1 := fun h => (by rw [h, c4] at hgl; simp at hgl)
  have hpbw : w.heap.size + 1 < w3.heap.size := lt_of_block p2
  obtain ⟨pb, hpb⟩ : ∃ pb, w3.heap.size = pb := ⟨_, rfl⟩
  rw [hpb] at q1 hpbw h0 hne1 ⊢
  have hne2 : ¬ pb = gl := fun h => hne1 h.symm
  have hne4 : ¬ w.heap.size + 1 = gl := fun h => hne3 h.symm
  have hne5 : ¬ pb = w.heap.size + 1 := by omega
  have hne6 : ¬ w.heap.size + 1 = pb := by omega
  have HVo : Hid (VersAt w4 (.slice ao no' co) V) := hVo
  have hno' : Hid (no' = V.length) := hno0
  have hno2 : no' ≤ 2 := by have := hno'.out; omega
  have hMz : Moves [] w w4 := M4
  obtain ⟨wz, hwz⟩ : ∃ wz, wz = w4 := ⟨_, rfl⟩
  subst hwz
  clear hpb hC hA3 HG3 m4 mq m3 p1 p2 h1 hVo hno0 hZ3 M4 m0 f0 f1 hcells
  go_loopw [10, 11] (fun l k wq => ∃ j2 : Nat, j2 ≤ no' ∧ k = .int .i64 j2 ∧ Moves [] wz wq ∧ GrowV wz wq l ((V.take j2).filter (fun y => y.t != t))) (fun _ k _ => no' - (intOf k).toNat)
  case atStart => exact ⟨0, Nat.zero_le _, rfl, Moves.refl _ _, by simpa using GrowV.nil _ _⟩
  case round =>
   obtain ⟨j2, hj2, rfl, mq, hGV⟩ := hrel
   obtain ⟨L2, hL2⟩ : ∃ L2, Hid ((V.take j2).filter (fun y => y.t != t) = L2) := ⟨_, rfl⟩
   rw [hL2.out] at hGV
   obtain ⟨ad8, n8, cap8, rfl, hn8⟩ := hGV.open
   have HGV : Hid (GrowV wz wr (.slice ad8 n8 cap8) L2) := hGV
   have hL2l : L2.length ≤ 100 := by
    rw [← hL2.out]
    have h1 := List.length_filter_le (fun y : Pver => y.t != t) (V.take j2)
    have h2 := List.length_take_le j2 V
    omega
   have b0 := mq.cell h0
   have b1 := mq.cell k1
   clear hGV
   by_cases hjt : j2 < no'
   ·have hj3 : (j2 : Int) < no' := by omega
    obtain ⟨y2, hy2⟩ : ∃ y, V[j2]? = some y := ⟨_, List.getElem?_eq_getElem (by have := hno'.out; omega)⟩
    have hft := filter_take (fun y : Pver => y.t != t) hy2
    obtain ⟨go2, offo2, a6, n6, c6, eo, v0, v1, v2, v3, hV6⟩ := HVo.out.at hy2
    first | subst eo | (simp only [Option.some.injEq, Addr.mk.injEq, and_true] at eo; obtain ⟨rfl, rfl⟩ := eo)
    have d0 := mq.cell v0
    have d1 := mq.cell v1
    have d2 := mq.cell v2
    have d3 := mq.cell v3
    clear v0 v1 v2 v3
    cases hq : (y2.t != t) with
    | false =>
     rw [hq] at hft
     have HF : Hid ((V.take (j2 + 1)).filter (fun y => y.t != t) = L2) := by unfold Hid; rw [hft, ← hL2.out]; simp
     have hxt : Hid (y2.t = t) := by unfold Hid; simpa using hq
     rw [hxt.out] at d0
     clear hft hq
     go_wp2_with fail
     go_roundw
     case rel => exact ⟨j2 + 1, by omega, by go_num, mq, by rw [HF.out]; exact HGV.out⟩
     case measure => simp [intOf]; omega
    | true =>
     rw [hq] at hft
     have HF : Hid ((V.take (j2 + 1)).filter (fun y => y.t != t) = L2 ++ [y2]) := by unfold Hid; rw [hft, ← hL2.out]; simp
     have hxt : ¬ y2.t = t := by simpa using hq
     have hvn := vers_new wr (.int .i64 y2.t) _ _ _ y2 ⟨_, rfl, hV6.moves mq⟩
     have ma : Moves [] wr (wr.alloc (.cells #[.int .i64 y2.t, .int .i64 y2.v.kind, .slice a6 n6 c6, .float .f64 y2.v.n] 126)) := (Moves.refl _ _).alloc _
     have hG1 := HGV.out.moves0 ma
     have hM1 := mq.then ma
     have hbd : L2.length + [y2].length ≤ 1048576 := by simp; omega
     clear hft hq
     go_wp2_with (at_builtin; refine growV_append (.tmp 46) (.tmp 56) rfl _ _ _ [y2] rfl rfl (by rfl) hG1 hvn hM1 hbd ?_; intro v9 w9 hG9 M9 m9 s9 l9; have hsl := hG9.open; obtain ⟨ad9, n9, cap9, rfl, hn9⟩ := hsl)
     go_roundw
     case rel => exact ⟨j2 + 1, by omega, by go_num, M9, by rw [HF.out]; exact hG9⟩
     case measure => simp [intOf]; omega
   ·have hj3 : ¬ (j2 : Int) < no' := by omega
    obtain rfl : j2 = no' := by omega
    have hrl : L2 = pdrop V t := by
     unfold pdrop
     rw [← hL2.out, hno'.out, List.take_length]
    by_cases h0l : n8 = 0
    ·have he : Hid (A = pDropCol C s) := by
      have e2 : pdrop V t = [] := by rw [← hrl]; exact List.eq_nil_of_length_eq_zero (by rw [← hn8.out]; exact h0l)
      unfold Hid
      rw [HA.out, e2, HDC.out]
     have hD := fun w1 (m1 : Moves [] wz w1) => refDropCol_yes wz w1 (.agg #[.slice (some ⟨gl, 0, none⟩) n3 cap3]) C s ⟨_, rfl, HG4.out.at⟩ m1 HCr.out
     rw [← he.out] at hD
     subst h0l
     clear hrl
     go_wp2_with (go_at_call 89; refine (hD _ mq).mono ?_; rintro _ w5 ⟨ad5, n5, cap5, rfl, hr5, m5⟩; have c5 := (mq.then m5).at c4 (by simp); obtain ⟨f0, f1⟩ := one_cell c5)
     try simp only [Exit.inBlock, Exit.then]
     obtain ⟨_, er, hcols⟩ := RowAt.setRow ⟨_, rfl, hr5⟩ c5 (.slice ad5 n5 cap5)
     simp only [Value.agg.injEq, Array.mk.injEq, List.cons.injEq, and_true] at er
     subst er
     exact bodyPost_ret (ret_row rfl _ _ _ _ rfl (set_one c5 _)) rfl ⟨_, _, _, rfl, hcols, ((hMz.then mq).then m5).setCell (.inr (by show _ ≤ _ + 1; omega)) _⟩
    ·have he : C.set ix ⟨s, L2⟩ = A := by
      rw [HSet.out L2 (fun e => h0l (by rw [hn8.out, e]; rfl)), HA.out, hrl]
     have hset := (HG4.out.moves0 mq).set HX.out HGV.out.at
     rw [he] at hset
     have hgq := mq.at hgl (by simp)
     have hst := heap_set (i := ix * 2 + 1) hgq (.slice ad8 n8 cap8)
     have hcq := (moves_set wr gl (ix * 2 + 1) (.slice ad8 n8 cap8)).at (mq.at c4 (by simp)) (by simp; omega)
     obtain ⟨o2, _⟩ := one_cell ((moves_set wr gl (ix * 2 + 1) (.slice ad8 n8 cap8)).at (mq.at q1 (by simp)) (by simp; omega))
     obtain ⟨o3, o4⟩ := one_cell hcq
     have o5 := mq.frozenOf k1 (by simp) hfz
     have h0i : ¬ (n8 : Int) = 0 := by omega
     clear hrl he
     go_wp2_with fail
     try simp only [Exit.inBlock, Exit.then]
     have hrow : RowAt _ (.agg #[.slice (some ⟨gl, 0, none⟩) n3 cap3]) _ := RowAt.setRow ⟨_, rfl, hset⟩ hcq (.slice (some ⟨gl, 0, none⟩) n3 cap3)
     obtain ⟨_, er, hcols⟩ := hrow
     simp only [Value.agg.injEq, Array.mk.injEq, List.cons.injEq, and_true] at er
     subst er
     exact bodyPost_ret (ret_row rfl _ _ _ _ rfl (set_one hcq _)) rfl ⟨_, _, _, rfl, hcols, ((hMz.then mq).setCell (.inr hWgl) _).setCell (.inr (by show _ ≤ _ + 1; omega)) _⟩
end Go.Proofs.YtcngllcifcpbkaaGreat
/-
 The document's own Apply of a row that may be: it says what the program's says.
-/
namespace Go.Proofs.YtcngllcifcpbkaaGreat
open Go.RowKit

theorem cApE_1 {R : List Pcol} {c : Pchg} (h : c.kind = 1) : cApE R c = pPutE R c.col c.t c.v := by unfold cApE; rw [if_pos h]
theorem cApE_2 {R : List Pcol} {c : Pchg} (h : c.kind = 2) : cApE R c = 0 := by unfold cApE; rw [if_neg (by omega), if_neg (by omega)]
theorem cApE_3 {R : List Pcol} {c : Pchg} (h : c.kind = 3) : cApE R c = 0 := by unfold cApE; rw [if_neg (by omega), if_neg (by omega)]
theorem cApE_4 {R : List Pcol} {c : Pchg} (h : c.kind = 4) : cApE R c = 0 := by unfold cApE; rw [if_neg (by omega), if_neg (by omega)]
theorem cApE_5 {R : List Pcol} {c : Pchg} (h : c.kind = 5) : cApE R c = cAddE R c := by unfold cApE; rw [if_neg (by omega), if_pos h]
theorem cAp_1 {R : List Pcol} {c : Pchg} (h : c.kind = 1) : cAp R c = pPut R c.col c.t c.v := by unfold cAp; rw [if_pos h]
theorem cAp_2 {R : List Pcol} {c : Pchg} (h : c.kind = 2) : cAp R c = pDrop R c.col c.t := by unfold cAp; rw [if_neg (by omega), if_pos h]
theorem cAp_3 {R : List Pcol} {c : Pchg} (h : c.kind = 3) : cAp R c = pDropCol R c.col := by unfold cAp; rw [if_neg (by omega), if_neg (by omega), if_pos h]
theorem cAp_4 {R : List Pcol} {c : Pchg} (h : c.kind = 4) : cAp R c = [] := by unfold cAp; rw [if_neg (by omega), if_neg (by omega), if_neg (by omega), if_neg (by omega)]
theorem cAp_5 {R : List Pcol} {c : Pchg} (h : c.kind = 5) : cAp R c = cAdd R c := by unfold cAp; rw [if_neg (by omega), if_neg (by omega), if_neg (by omega), if_pos h]
theorem cAp_right (R : List Pcol) (c : Pchg) : pright (cAp R c) = true := by
 unfold cAp
 split
 ·exact pPut_right _ _ _ _
 ·split
  ·exact pDrop_right _ _ _
  ·split
   ·exact pDropCol_right _ _
   ·split
    ·unfold cAdd
     split
     ·exact pPut_right _ _ _ _
     ·exact pright_nil
    ·exact pright_nil
theorem cFold_right (cs : List Pchg) (R : List Pcol) (h : pright R = true) : pright (cFold cs R).2 = true := by
 induction cs generalizing R with
 | nil => exact h
 | cons c cs ih =>
  rw [cFold_cons]
  split
  ·exact ih _ (cAp_right R c)
  ·exact pright_nil
theorem cApply_right (R : List Pcol) (cs : List Pchg) : pright (cApply R cs) = true := by
 unfold cApply
 split
 ·exact cFold_right _ _ (pcopy_right R)
 ·exact pright_nil
theorem pPlus_vc (w : World) (p q : Pv) : VC w [.int .i64 (pPlus p q).kind, .slice none 0 0, .float .f64 (pPlus p q).n] (pPlus p q) := by
 have hf : Pl.Fits (pPlus p q).n := by
  unfold pPlus
  split
  ·exact fits_sum _ _
  ·exact fits_zero
 have hb0 : (pPlus p q).bs = [] := by unfold pPlus; split <;> rfl
 exact ⟨none, 0, 0, 0, rfl, by rw [hb0]; exact isB_nil _ _, hf, by rw [hb0]; simp, by rw [hb0]; simp, .inl hb0⟩

set_option maxRecDepth 100000 in
set_option maxHeartbeats 16000000 in
theorem rfApply_w (W w : World) (v : Value) (R : List Pcol) (ad : Option Addr) (n cap : Nat) (cs : List Pchg) (h : RowAt W v R) (hr : pright R = true) (hc : ChgsAt W ad cs) (hn : n = cs.length) (hsm : n ≤ 1048576) (m : Moves [] W w) :
  Calls Tryz.prog 48 #[v, .slice ad n cap] w fun e w' => ∃ ad n cap, e = .returned (.tuple #[.agg #[.slice ad n cap], .int .i64 (cApplyE R cs)]) ∧ ColsAt w' (.slice ad n cap) (cApply R cs) ∧ Moves [] w w' := by
 have hC := fun w1 (m1 : Moves [] W w1) => refCopy_yes W w1 v R h m1 hr
 rw [← pcopy_of hr] at hC
 obtain ⟨lv, rfl, hl⟩ := h
 obtain ⟨adr, capr, elv, _⟩ := hl.slice
 obtain ⟨nr, hnr⟩ : ∃ nr, Hid (nr = R.length) := ⟨_, rfl⟩
 rw [← hnr.out] at elv
 subst elv
 obtain ⟨L, hLq⟩ : ∃ L, Hid (cListE cs = L) := ⟨_, rfl⟩
 obtain ⟨E, hE⟩ : ∃ E, Hid (cApplyE R cs = E) := ⟨_, rfl⟩
 obtain ⟨P, hP⟩ : ∃ P, Hid (cApply R cs = P) := ⟨_, rfl⟩
 rw [hE.out, hP.out]
 have hEq := hE.out
 have hPq := hP.out
 unfold cApplyE at hEq
 unfold cApply at hPq
 rw [hLq.out] at hEq hPq
 have HN : Hid (n = cs.length) := hn
 have HW : Hid (Moves [] W w) := m
 have HC := hc
 have HRT : Hid (pright (pcopy R) = true) := pcopy_right R
 obtain ⟨w1, hw1⟩ : ∃ w1, (w.alloc (.cells #[.slice adr nr capr] 52)).alloc (.cells #[.slice none 0 0] 52) = w1 := ⟨_, rfl⟩
 obtain ⟨b1, b2, bm⟩ := boxes (Moves.refl [] ((w.alloc (.cells #[.slice adr nr capr] 52)).alloc (.cells #[.slice none 0 0] 52)))
 rw [hw1] at b1 b2 bm
 have hm := m.then bm
 obtain ⟨r0, _⟩ := one_cell b1
 obtain ⟨rb0, rb1⟩ := one_cell b2
 have HEq : Hid ((if L = 0 then (cFold cs (pcopy R)).1 else L) = E) := by
  unfold Hid
  by_cases h0 : L = 0
  ·rw [if_pos h0] at hEq ⊢; exact hEq
  ·rw [if_neg h0] at hEq ⊢; exact hEq
 have HPq : Hid ((if L = 0 then (cFold cs (pcopy R)).2 else []) = P) := hPq
 clear hl m hc hr hEq hPq
 by_cases h8 : 8 < n
 ·have hL3 : L = 3 := by rw [← hLq.out]; unfold cListE; rw [if_pos (by rw [← hn]; exact h8)]
  have hE3 : 3 = E := by have := HEq.out; rw [hL3] at this; exact this
  have hP3 : [] = P := by have := HPq.out; rw [hL3] at this; exact this
  subst hE3 hP3
  have h8' : (8 : Int) < n := by omega
  clear hn hL3
  go_enter Tryz.func48, Tryz.ntmps48
  go_wp2_with fail
  try simp only [Exit.inBlock, Exit.then]
  exact bodyPost_ret (ret_row2 rfl _ _ _ _ rfl (set_one b2 _)) rfl ⟨_, _, _, rfl, ColsAt.nil _, bm.setCell (.inr (by show _ ≤ _ + 1; omega)) _⟩
 ·have h8' : ¬ (8 : Int) < n := by omega
  have h8l : Hid (¬ 8 < cs.length) := by unfold Hid; rw [← hn]; exact h8
  clear hn
  go_enter Tryz.func48, Tryz.ntmps48
  go_wp2_with fail
  try rw [hw1]
  go_loopw [6] (fun i wr => ∃ k : Nat, k ≤ n ∧ i = .int .i64 k ∧ Moves [] w1 wr ∧ ∀ j c, j < k → cs[j]? = some c → cRight c = 0) (fun i _ => n - (intOf i).toNat)
  case atStart => exact ⟨0, Nat.zero_le _, rfl, Moves.refl _ _, fun j c hj => absurd hj (by omega)⟩
  case round =>
   obtain ⟨k, hk, rfl, mr, hall⟩ := hrel
   have HA : Hid (∀ j c, j < k → cs[j]? = some c → cRight c = 0) := hall
   clear hall
   by_cases hlt : k < n
   ·have hk3 : (k : Int) < n := by omega
    obtain ⟨c, hc⟩ : ∃ c, cs[k]? = some c := ⟨_, List.getElem?_eq_getElem (by rw [← HN.out]; exact hlt)⟩
    have hcc := HC k c hc
    obtain ⟨g, off, a, n2, c2, rfl, e0, e1, e2, e3, e4, e5, hv⟩ := hcc
    have MR := hm.then mr
    have d0 := MR.cell e0
    have d1 := MR.cell e1
    have d2 := MR.cell e2
    have d3 := MR.cell e3
    have d4 := MR.cell e4
    have d5 := MR.cell e5
    have HX : Hid (cs[k]? = some c) := hc
    have hR := rfRight5_w W wr c a n2 c2 hv MR
    have hS1 := (cListE_upto h8l.out HA.out).1 c hc
    have p2 := mr.at b2 (by simp)
    clear e0 e1 e2 e3 e4 e5 hc hv MR
    obtain ⟨F, hF⟩ : ∃ F, Hid (cRight c = F) := ⟨_, rfl⟩
    rw [hF.out] at hR hS1
    rw [hLq.out] at hS1
    by_cases hF0 : F = 0
    ·subst hF0
     clear hS1
     go_wp2_with (go_at_call 87; refine hR.mono ?_; rintro _ w3 ⟨rfl, m3⟩)
     go_roundw
     case rel =>
      refine ⟨k + 1, by omega, by go_num, mr.then m3, fun j c' hj hc' => ?_⟩
      by_cases hjk : j = k
      ·subst hjk
       rw [HX.out] at hc'
       simp at hc'
       rw [← hc']
       exact hF.out
      ·exact HA.out j c' (by omega) hc'
     case measure => simp [intOf]; omega
    ·obtain rfl := hS1 hF0
     have hE3 : L = E := by have := HEq.out; rw [if_neg hF0] at this; exact this
     have hP3 : [] = P := by have := HPq.out; rw [if_neg hF0] at this; exact this
     subst hE3 hP3
     go_wp2_with (go_at_call 87; refine hR.mono ?_; rintro _ w3 ⟨rfl, m3⟩; have p23 := m3.at p2 (by simp); obtain ⟨f0, f1⟩ := one_cell p23)
     try simp only [Exit.inBlock, Exit.then]
     exact bodyPost_ret (ret_row2 rfl _ _ _ _ rfl (set_one p23 _)) rfl ⟨_, _, _, rfl, ColsAt.nil _, (bm.then (mr.then m3)).setCell (.inr (by show _ ≤ _ + 1; omega)) _⟩
   ·have hk3 : ¬ (k : Int) < n := by omega
    obtain rfl : n = k := by omega
    have hL0 := (cListE_upto h8l.out HA.out).2 HN.out
    rw [hLq.out] at hL0
    have HE : Hid ((cFold cs (pcopy R)).1 = E) := by unfold Hid; have := HEq.out; rw [if_pos hL0] at this; exact this
    have HP : Hid ((cFold cs (pcopy R)).2 = P) := by unfold Hid; have := HPq.out; rw [if_pos hL0] at this; exact this
    have HALL : Hid (∀ c ∈ cs, cRight c = 0) := (cListE_all (by rw [hLq.out]; exact hL0)).2
    have hmr := hm.then mr
    have r2 := mr.cell r0
    have m2 := mr
    go_wp2_with (go_at_call 71; refine (hC _ hmr).mono ?_; rintro _ w3 ⟨ad3, n3', cap3, rfl, hG, m3, _⟩; have HG : Hid (RowAt w3 (.agg #[.slice ad3 n3' cap3]) (pcopy R)) := ⟨_, rfl, hG.at⟩; clear hG)
    obtain ⟨w4, hw4⟩ : ∃ w4, w3.alloc (.cells #[.slice ad3 n3' cap3] 52) = w4 := ⟨_, rfl⟩
    have m4 : Moves [] w3 w4 := by rw [← hw4]; exact (Moves.refl _ _).alloc _
    have q4 : w4.heap[w3.heap.size]? = some (.cells #[.slice ad3 n3' cap3] 52 (0, 0)) := by rw [← hw4]; exact heap_alloc_new _ _
    have hlo : w.heap.size + 1 < w3.heap.size := lt_of_block ((m2.then m3).at b2 (by simp))
    have hl1 : w1.heap.size ≤ w3.heap.size := (m2.then m3).size
    obtain ⟨po, hpo⟩ : ∃ po, w3.heap.size = po := ⟨_, rfl⟩
    rw [hpo] at q4 hlo hl1
    have M4 := (m2.then m3).then m4
    have q2 := M4.at b2 (by simp)
    have HG4 := HG.out.moves m4
    try rw [hw4]
    try rw [hpo]
    clear hw4 hw1 HG hC hpo mr HA hk hlt r2 m2 m3 m4 hL0 HEq HPq
    go_loopw [9] (fun i wr => ∃ (k : Nat) (lv : Value) (Q : List Pcol), k ≤ n ∧ i = .int .i64 k ∧ Moves [] w1 wr ∧ wr.heap[w.heap.size + 1]? = some (.cells #[.slice none 0 0] 52 (0, 0)) ∧ wr.heap[po]? = some (.cells #[lv] 52 (0, 0)) ∧ RowAt wr (.agg #[lv]) Q ∧ pright Q = true ∧ cFold (cs.drop k) Q = cFold cs (pcopy R)) (fun i _ => n - (intOf i).toNat)
    case atStart => exact ⟨0, _, pcopy R, Nat.zero_le _, rfl, M4, q2, q4, HG4, HRT.out, by simp⟩
    case round =>
     obtain ⟨k, lv, Q, hk, rfl, mr, p2, p4, hQ, hQR, hF⟩ := hrel
     have HQR : Hid (pright Q = true) := hQR
     have HF : Hid (cFold (cs.drop k) Q = cFold cs (pcopy R)) := hF
     obtain ⟨_, elv, hCq⟩ := id hQ
     simp at elv
     subst elv
     obtain ⟨adq, capq, elv, _⟩ := hCq.slice
     obtain ⟨nq, hnq⟩ : ∃ nq, Hid (nq = Q.length) := ⟨_, rfl⟩
     rw [← hnq.out] at elv
     subst elv
     have HQ : Hid (RowAt wr (.agg #[.slice adq nq capq]) Q) := hQ
     obtain ⟨s0, s1⟩ := one_cell p4
     obtain ⟨t0, t1⟩ := one_cell p2
     clear hQ hCq hF q2 q4 HG4 hQR
     by_cases hlt : k < n
     ·have hk3 : (k : Int) < n := by omega
      obtain ⟨c, hc⟩ : ∃ c, cs[k]? = some c := ⟨_, List.getElem?_eq_getElem (by rw [← HN.out]; exact hlt)⟩
      obtain ⟨g, off, a, n2, c2, rfl, e0, e1, e2, e3, e4, e5, hv⟩ := HC k c hc
      have MR := hm.then mr
      have d0 := MR.cell e0
      have d1 := MR.cell e1
      have d2 := MR.cell e2
      have d3 := MR.cell e3
      have d4 := MR.cell e4
      have d5 := MR.cell e5
      have hdr : cs.drop k = c :: cs.drop (k + 1) := by
       have hkl := (List.getElem?_eq_some_iff.1 hc).1
       rw [List.drop_eq_getElem_cons hkl, (List.getElem?_eq_some_iff.1 hc).2]
      have hkd := cRight_kind (HALL.out c (List.mem_of_getElem? hc))
      have hFc := HF.out
      rw [hdr, cFold_cons] at hFc
      have HVc : Hid (VA wr [.int .i64 c.v.kind, .slice a n2 c2, .float .f64 c.v.n] c.v) := hv.moves MR
      have mb : Moves [] wr (wr.alloc (.cells #[.int .i64 c.kind, .string c.col, .int .i64 c.t, .int .i64 c.v.kind, .slice a n2 c2, .float .f64 c.v.n] 101)) := (Moves.refl _ _).alloc _
      obtain ⟨i0, i1, i2, i3, i4, i5⟩ := six_cells (heap_alloc_new wr (.cells #[.int .i64 c.kind, .string c.col, .int .i64 c.t, .int .i64 c.v.kind, .slice a n2 c2, .float .f64 c.v.n] 101))
      have sb := mb.cell s0
      have HBR := cAp_right Q c
      clear e0 e1 e2 e3 e4 e5 hc hv hdr MR HF
      have hways : c.kind = 1 ∨ c.kind = 2 ∨ c.kind = 3 ∨ c.kind = 4 ∨ c.kind = 5 := by omega
      clear hkd
      rcases hways with hk' | hk' | hk' | hk' | hk'
      ·rw [hk'] at d0 i0 mb i1 i2 i3 i4 i5 sb
       have hAq := cApE_1 (R := Q) hk'
       have hBq := cAp_1 (R := Q) hk'
       rw [hAq, hBq] at hFc
       rw [hBq] at HBR
       have HBe : Hid (pPut Q c.col c.t c.v = pPut Q c.col c.t c.v) := rfl
       obtain ⟨A, hA⟩ : ∃ A, pPutE Q c.col c.t c.v = A := ⟨_, rfl⟩
       obtain ⟨B, hB⟩ : ∃ B, pPut Q c.col c.t c.v = B := ⟨_, rfl⟩
       have HEc : Hid (pPutE Q c.col c.t c.v = A) := hA
       replace HBe : Hid (pPut Q c.col c.t c.v = B) := hB
       rw [hA, hB] at hFc
       rw [hB] at HBR
       have HB : Hid (pright B = true) := HBR
       clear hA hB hAq hBq HBR hk'
       by_cases hA0 : A = 0
       ·rw [if_pos hA0] at hFc
        subst hA0
        have HFc : Hid (cFold (cs.drop (k + 1)) B = cFold cs (pcopy R)) := hFc
        clear hFc
        go_wp2_with (go_at_call 50; refine (refPut_p wr _ _ Q c.col c.t c.v.kind a n2 c2 c.v.n c.v HQ.out HVc.out mb HQR.out).mono ?_; rintro _ w7 ⟨ad7, n7, cap7, rfl, hc7, m7⟩; rw [HEc.out]; have HC7 : Hid (RowAt w7 (.agg #[.slice ad7 n7 cap7]) B) := ⟨_, rfl, (by rw [← HBe.out]; exact hc7)⟩; clear hc7; have M7 := mb.then m7; have p47 := M7.at p4 (by simp); obtain ⟨y0, y1⟩ := one_cell p47; have p27 := (moves_set w7 po 0 (.slice ad7 n7 cap7)).at (M7.at p2 (by simp)) (by simp; omega); obtain ⟨t0', t1'⟩ := one_cell p27)
        go_roundw
        case rel => exact ⟨k + 1, _, B, by omega, by go_num, (mr.then M7).setCell (.inr (by show w1.heap.size ≤ po; omega)) _, (moves_set _ _ _ _).at (M7.at p2 (by simp)) (by simp; omega), set_one p47 _, HC7.out.setRow p47 _, HB.out, HFc.out⟩
        case measure => simp [intOf]; omega
       ·rw [if_neg hA0] at hFc
        have hEA : A = E := by have := HE.out; rw [← hFc] at this; exact this
        have hPA : [] = P := by have := HP.out; rw [← hFc] at this; exact this
        subst hEA hPA
        clear hFc
        go_wp2_with (go_at_call 50; refine (refPut_p wr _ _ Q c.col c.t c.v.kind a n2 c2 c.v.n c.v HQ.out HVc.out mb HQR.out).mono ?_; rintro _ w7 ⟨ad7, n7, cap7, rfl, hc7, m7⟩; rw [HEc.out]; have HC7 : Hid (RowAt w7 (.agg #[.slice ad7 n7 cap7]) B) := ⟨_, rfl, (by rw [← HBe.out]; exact hc7)⟩; clear hc7; have M7 := mb.then m7; have p47 := M7.at p4 (by simp); obtain ⟨y0, y1⟩ := one_cell p47; have p27 := (moves_set w7 po 0 (.slice ad7 n7 cap7)).at (M7.at p2 (by simp)) (by simp; omega); obtain ⟨t0', t1'⟩ := one_cell p27)
        try simp only [Exit.inBlock, Exit.then]
        exact bodyPost_ret (ret_row2 rfl _ _ _ _ rfl (set_one p27 _)) rfl ⟨_, _, _, rfl, ColsAt.nil _, (((bm.then mr).then M7).setCell (.inr (by show w.heap.size ≤ po; omega)) _).setCell (.inr (by show _ ≤ _ + 1; omega)) _⟩
      ·rw [hk'] at d0 i0 mb i1 i2 i3 i4 i5 sb
       have hAq := cApE_2 (R := Q) hk'
       have hBq := cAp_2 (R := Q) hk'
       rw [hAq, hBq] at hFc
       rw [hBq] at HBR
       rw [if_pos rfl] at hFc
       obtain ⟨B, hB⟩ : ∃ B, pDrop Q c.col c.t = B := ⟨_, rfl⟩
       have HBe : Hid (pDrop Q c.col c.t = B) := hB
       rw [hB] at hFc HBR
       have HB : Hid (pright B = true) := HBR
       have HFc : Hid (cFold (cs.drop (k + 1)) B = cFold cs (pcopy R)) := hFc
       clear hB hFc hAq hBq HBR hk'
       go_wp2_with (go_at_call 88; refine (refDrop_yes wr _ _ Q c.col c.t HQ.out mb HQR.out).mono ?_; rintro _ w7 ⟨ad7, n7, cap7, rfl, hc7, m7⟩; have HC7 : Hid (RowAt w7 (.agg #[.slice ad7 n7 cap7]) B) := ⟨_, rfl, (by rw [← HBe.out]; exact hc7)⟩; clear hc7; have M7 := mb.then m7; have p47 := M7.at p4 (by simp); obtain ⟨y0, y1⟩ := one_cell p47; have p27 := (moves_set w7 po 0 (.slice ad7 n7 cap7)).at (M7.at p2 (by simp)) (by simp; omega); obtain ⟨t0', t1'⟩ := one_cell p27)
       go_roundw
       case rel => exact ⟨k + 1, _, B, by omega, by go_num, (mr.then M7).setCell (.inr (by show w1.heap.size ≤ po; omega)) _, (moves_set _ _ _ _).at (M7.at p2 (by simp)) (by simp; omega), set_one p47 _, HC7.out.setRow p47 _, HB.out, HFc.out⟩
       case measure => simp [intOf]; omega
      ·rw [hk'] at d0 i0 mb i1 i2 i3 i4 i5 sb
       have hAq := cApE_3 (R := Q) hk'
       have hBq := cAp_3 (R := Q) hk'
       rw [hAq, hBq] at hFc
       rw [hBq] at HBR
       rw [if_pos rfl] at hFc
       obtain ⟨B, hB⟩ : ∃ B, pDropCol Q c.col = B := ⟨_, rfl⟩
       have HBe : Hid (pDropCol Q c.col = B) := hB
       rw [hB] at hFc HBR
       have HB : Hid (pright B = true) := HBR
       have HFc : Hid (cFold (cs.drop (k + 1)) B = cFold cs (pcopy R)) := hFc
       clear hB hFc hAq hBq HBR hk'
       go_wp2_with (go_at_call 89; refine (refDropCol_yes wr _ _ Q c.col HQ.out mb HQR.out).mono ?_; rintro _ w7 ⟨ad7, n7, cap7, rfl, hc7, m7⟩; have HC7 : Hid (RowAt w7 (.agg #[.slice ad7 n7 cap7]) B) := ⟨_, rfl, (by rw [← HBe.out]; exact hc7)⟩; clear hc7; have M7 := mb.then m7; have p47 := M7.at p4 (by simp); obtain ⟨y0, y1⟩ := one_cell p47; have p27 := (moves_set w7 po 0 (.slice ad7 n7 cap7)).at (M7.at p2 (by simp)) (by simp; omega); obtain ⟨t0', t1'⟩ := one_cell p27)
       go_roundw
       case rel => exact ⟨k + 1, _, B, by omega, by go_num, (mr.then M7).setCell (.inr (by show w1.heap.size ≤ po; omega)) _, (moves_set _ _ _ _).at (M7.at p2 (by simp)) (by simp; omega), set_one p47 _, HC7.out.setRow p47 _, HB.out, HFc.out⟩
       case measure => simp [intOf]; omega
      ·rw [hk'] at d0 i0 mb i1 i2 i3 i4 i5 sb
       have hAq := cApE_4 (R := Q) hk'
       have hBq := cAp_4 (R := Q) hk'
       rw [hAq, hBq] at hFc
       rw [hBq] at HBR
       rw [if_pos rfl] at hFc
       have HFc : Hid (cFold (cs.drop (k + 1)) [] = cFold cs (pcopy R)) := hFc
       clear hFc hAq hBq HBR hk'
       have p47 := mb.at p4 (by simp)
       obtain ⟨y0, y1⟩ := one_cell p47
       go_wp2_with fail
       go_roundw
       case rel => exact ⟨k + 1, _, [], by omega, by go_num, (mr.then mb).setCell (.inr (by show w1.heap.size ≤ po; omega)) _, (moves_set _ _ _ _).at (mb.at p2 (by simp)) (by simp; omega), set_one p47 _, (RowAt.nil _), pright_nil, HFc.out⟩
       case measure => simp [intOf]; omega
      ·rw [hk'] at d0 i0 mb i1 i2 i3 i4 i5 sb
       have hAq := cApE_5 (R := Q) hk'
       have hBq := cAp_5 (R := Q) hk'
       rw [hAq, hBq] at hFc
       rw [hBq] at HBR
       have hAd : cAddE Q c = if pPlusE (cOld Q c.col) c.v = 0 then pPutE Q c.col c.t (pPlus (cOld Q c.col) c.v) else pPlusE (cOld Q c.col) c.v := rfl
       have hBd : cAdd Q c = if pPlusE (cOld Q c.col) c.v = 0 then pPut Q c.col c.t (pPlus (cOld Q c.col) c.v) else [] := rfl
       have hib := heap_alloc_new wr (.cells #[.int .i64 5, .string c.col, .int .i64 c.t, .int .i64 c.v.kind, .slice a n2 c2, .float .f64 c.v.n] 101)
       have hN := fun w1 (m1 : Moves [] wr w1) => refNewest_yes wr w1 (.agg #[.slice adq nq capq]) Q c.col HQ.out m1 HQR.out
       obtain ⟨q, hq⟩ : ∃ q, cOld Q c.col = q := ⟨_, rfl⟩
       have HQo : Hid (cOld Q c.col = q) := hq
       obtain ⟨O, hO⟩ : ∃ O, pAt Q c.col 1099511627776 = O := ⟨_, rfl⟩
       have hq2 := hq
       unfold cOld at hq2
       rw [hO] at hN hq2
       clear hq hO hAq hBq hk'
       cases O with
       | none =>
        simp only [Option.getD_none] at hq2
        go_wp2_with (first | (go_at_call 90; refine (hN _ mb).mono ?_; rintro _ w2 ⟨k2, ad2, n3, cap2, v2, rfl, hV2, m2'⟩; have HV2 : Hid (VC w2 [.int .i64 k2, .slice ad2 n3 cap2, .float .f64 v2] ⟨0, [], 0⟩) := hV2; clear hV2; have mv : Moves [] w2 (w2.alloc (.cells #[.int .i64 k2, .slice ad2 n3 cap2, .float .f64 v2] 99)) := (Moves.refl _ _).alloc _; have M2 := mb.then (m2'.then mv); have hvb := heap_alloc_new w2 (.cells #[.int .i64 k2, .slice ad2 n3 cap2, .float .f64 v2] 99); obtain ⟨vv0, vv1, vv2, vf0, vf1, vf2⟩ := three_cells hvb; have hib2 := (m2'.then mv).at hib (by simp); obtain ⟨_, j1, j2, j3, j4, j5⟩ := six_cells hib2) | (go_at_call 91; refine (copysign_w _).mono ?_; rintro _ _ ⟨rfl, rfl⟩; have mvN : Moves [] w2 (w2.alloc (.cells #[.int .i64 2, .slice none 0 0, .float .f64 9223372036854775808] 99)) := (Moves.refl _ _).alloc _; have st2 := mb.then (m2'.then mvN); have hib3 := (m2'.then mvN).at hib (by simp); obtain ⟨_, z1, z2, z3, z4, z5⟩ := six_cells hib3))
        obtain ⟨wc, hwc⟩ : ∃ wc, w2.alloc (.cells #[.int .i64 2, .slice none 0 0, .float .f64 9223372036854775808] 99) = wc := ⟨_, rfl⟩
        rw [hwc] at st2 z1 z2 ⊢
        have c1 := z1
        have c2' := z2
        have HQV : Hid (VC wc [.int .i64 2, .slice none 0 0, .float .f64 9223372036854775808] q) := by unfold Hid; rw [← hq2]; exact VC.negZ wc
        have Mc := st2
        clear hwc
        obtain ⟨SE, hSE⟩ : ∃ SE, pPlusE q c.v = SE := ⟨_, rfl⟩
        have HSE : Hid (pPlusE q c.v = SE) := hSE
        rw [HQo.out, hSE] at hAd hBd
        clear hSE
        by_cases hS0 : SE = 0
        ·rw [if_pos hS0] at hAd hBd
         subst hS0
         rw [hAd, hBd] at hFc
         rw [hBd] at HBR
         obtain ⟨A, hA⟩ : ∃ A, pPutE Q c.col c.t (pPlus q c.v) = A := ⟨_, rfl⟩
         obtain ⟨B, hB⟩ : ∃ B, pPut Q c.col c.t (pPlus q c.v) = B := ⟨_, rfl⟩
         have HEc : Hid (pPutE Q c.col c.t (pPlus q c.v) = A) := hA
         have HBe : Hid (pPut Q c.col c.t (pPlus q c.v) = B) := hB
         rw [hA, hB] at hFc
         rw [hB] at HBR
         have HB : Hid (pright B = true) := HBR
         clear hA hB hAd hBd HBR
         by_cases hA0 : A = 0
         ·rw [if_pos hA0] at hFc
          subst hA0
          have HFc : Hid (cFold (cs.drop (k + 1)) B = cFold cs (pcopy R)) := hFc
          clear hFc
          go_wp2_with (first | (go_at_call 92; refine (rplus_p wc _ _ _ _ _ _ _ _ _ _ _ q c.v HQV.out.va (HVc.out.moves Mc) (Moves.refl _ _)).mono ?_; rintro _ w5 ⟨rfl, m5⟩; rw [HSE.out]; have HS5 : Hid (VC w5 [.int .i64 (pPlus q c.v).kind, .slice none 0 0, .float .f64 (pPlus q c.v).n] (pPlus q c.v)) := pPlus_vc w5 q c.v; have mx : Moves [] w5 (w5.alloc (.cells #[.int .i64 (pPlus q c.v).kind, .slice none 0 0, .float .f64 (pPlus q c.v).n] 99)) := (Moves.refl _ _).alloc _; have M5 := Mc.then (m5.then mx); have s0' := M5.cell s0; have e1' := (m5.then mx).cell c1; have e2' := (m5.then mx).cell c2'; obtain ⟨sv0, sv1, sv2, _⟩ := three_cells (heap_alloc_new w5 (.cells #[.int .i64 (pPlus q c.v).kind, .slice none 0 0, .float .f64 (pPlus q c.v).n] 99)); have p25 := M5.at p2 (by simp); obtain ⟨u0', u1'⟩ := one_cell p25) | (go_at_call 50; refine (refPut_p (w5.alloc (.cells #[.int .i64 (pPlus q c.v).kind, .slice none 0 0, .float .f64 (pPlus q c.v).n] 99)) _ _ Q c.col c.t _ _ _ _ _ (pPlus q c.v) (HQ.out.moves M5) (HS5.out.va.moves mx) (Moves.refl _ _) HQR.out).mono ?_; rintro _ w7 ⟨ad7, n7, cap7, rfl, hc7, m7⟩; rw [HEc.out]; have HC7 : Hid (RowAt w7 (.agg #[.slice ad7 n7 cap7]) B) := ⟨_, rfl, (by rw [← HBe.out]; exact hc7)⟩; clear hc7; have M7 := M5.then m7; have p47 := M7.at p4 (by simp); obtain ⟨y0, y1⟩ := one_cell p47; have p27 := (moves_set w7 po 0 (.slice ad7 n7 cap7)).at (M7.at p2 (by simp)) (by simp; omega); obtain ⟨t0', t1'⟩ := one_cell p27))
          go_roundw
          case rel => exact ⟨k + 1, _, B, by omega, by go_num, (mr.then M7).setCell (.inr (by show w1.heap.size ≤ po; omega)) _, (moves_set _ _ _ _).at (M7.at p2 (by simp)) (by simp; omega), set_one p47 _, HC7.out.setRow p47 _, HB.out, HFc.out⟩
          case measure => simp [intOf]; omega
         ·rw [if_neg hA0] at hFc
          have hEA : A = E := by have := HE.out; rw [← hFc] at this; exact this
          have hPA : [] = P := by have := HP.out; rw [← hFc] at this; exact this
          subst hEA hPA
          clear hFc
          go_wp2_with (first | (go_at_call 92; refine (rplus_p wc _ _ _ _ _ _ _ _ _ _ _ q c.v HQV.out.va (HVc.out.moves Mc) (Moves.refl _ _)).mono ?_; rintro _ w5 ⟨rfl, m5⟩; rw [HSE.out]; have HS5 : Hid (VC w5 [.int .i64 (pPlus q c.v).kind, .slice none 0 0, .float .f64 (pPlus q c.v).n] (pPlus q c.v)) := pPlus_vc w5 q c.v; have mx : Moves [] w5 (w5.alloc (.cells #[.int .i64 (pPlus q c.v).kind, .slice none 0 0, .float .f64 (pPlus q c.v).n] 99)) := (Moves.refl _ _).alloc _; have M5 := Mc.then (m5.then mx); have s0' := M5.cell s0; have e1' := (m5.then mx).cell c1; have e2' := (m5.then mx).cell c2'; obtain ⟨sv0, sv1, sv2, _⟩ := three_cells (heap_alloc_new w5 (.cells #[.int .i64 (pPlus q c.v).kind, .slice none 0 0, .float .f64 (pPlus q c.v).n] 99)); have p25 := M5.at p2 (by simp); obtain ⟨u0', u1'⟩ := one_cell p25) | (go_at_call 50; refine (refPut_p (w5.alloc (.cells #[.int .i64 (pPlus q c.v).kind, .slice none 0 0, .float .f64 (pPlus q c.v).n] 99)) _ _ Q c.col c.t _ _ _ _ _ (pPlus q c.v) (HQ.out.moves M5) (HS5.out.va.moves mx) (Moves.refl _ _) HQR.out).mono ?_; rintro _ w7 ⟨ad7, n7, cap7, rfl, hc7, m7⟩; rw [HEc.out]; have HC7 : Hid (RowAt w7 (.agg #[.slice ad7 n7 cap7]) B) := ⟨_, rfl, (by rw [← HBe.out]; exact hc7)⟩; clear hc7; have M7 := M5.then m7; have p47 := M7.at p4 (by simp); obtain ⟨y0, y1⟩ := one_cell p47; have p27 := (moves_set w7 po 0 (.slice ad7 n7 cap7)).at (M7.at p2 (by simp)) (by simp; omega); obtain ⟨t0', t1'⟩ := one_cell p27))
          try simp only [Exit.inBlock, Exit.then]
          exact bodyPost_ret (ret_row2 rfl _ _ _ _ rfl (set_one p27 _)) rfl ⟨_, _, _, rfl, ColsAt.nil _, (((bm.then mr).then M7).setCell (.inr (by show w.heap.size ≤ po; omega)) _).setCell (.inr (by show _ ≤ _ + 1; omega)) _⟩
        ·rw [if_neg hS0] at hAd hBd
         rw [hAd, hBd, if_neg hS0] at hFc
         have hEA : SE = E := by have := HE.out; rw [← hFc] at this; exact this
         have hPA : [] = P := by have := HP.out; rw [← hFc] at this; exact this
         subst hEA hPA
         clear hFc hAd hBd
         go_wp2_with (go_at_call 92; refine (rplus_p wc _ _ _ _ _ _ _ _ _ _ _ q c.v HQV.out.va (HVc.out.moves Mc) (Moves.refl _ _)).mono ?_; rintro _ w5 ⟨rfl, m5⟩; rw [HSE.out]; have HS5 : Hid (VC w5 [.int .i64 (pPlus q c.v).kind, .slice none 0 0, .float .f64 (pPlus q c.v).n] (pPlus q c.v)) := pPlus_vc w5 q c.v; have mx : Moves [] w5 (w5.alloc (.cells #[.int .i64 (pPlus q c.v).kind, .slice none 0 0, .float .f64 (pPlus q c.v).n] 99)) := (Moves.refl _ _).alloc _; have M5 := Mc.then (m5.then mx); have s0' := M5.cell s0; have e1' := (m5.then mx).cell c1; have e2' := (m5.then mx).cell c2'; obtain ⟨sv0, sv1, sv2, _⟩ := three_cells (heap_alloc_new w5 (.cells #[.int .i64 (pPlus q c.v).kind, .slice none 0 0, .float .f64 (pPlus q c.v).n] 99)); have p25 := M5.at p2 (by simp); obtain ⟨u0', u1'⟩ := one_cell p25)
         try simp only [Exit.inBlock, Exit.then]
         exact bodyPost_ret (ret_row2 rfl _ _ _ _ rfl (set_one p25 _)) rfl ⟨_, _, _, rfl, ColsAt.nil _, ((bm.then mr).then M5).setCell (.inr (by show _ ≤ _ + 1; omega)) _⟩
       | some p =>
        simp only [Option.getD_some] at hq2
        subst hq2
        go_wp2_with (go_at_call 90; refine (hN _ mb).mono ?_; rintro _ w2 ⟨k2, ad2, n3, cap2, v2, rfl, hV2, m2'⟩; have HV2 : Hid (VC w2 [.int .i64 k2, .slice ad2 n3 cap2, .float .f64 v2] p) := hV2; clear hV2; have mv : Moves [] w2 (w2.alloc (.cells #[.int .i64 k2, .slice ad2 n3 cap2, .float .f64 v2] 99)) := (Moves.refl _ _).alloc _; have M2 := mb.then (m2'.then mv); have hvb := heap_alloc_new w2 (.cells #[.int .i64 k2, .slice ad2 n3 cap2, .float .f64 v2] 99); obtain ⟨vv0, vv1, vv2, vf0, vf1, vf2⟩ := three_cells hvb; have hib2 := (m2'.then mv).at hib (by simp); obtain ⟨_, j1, j2, j3, j4, j5⟩ := six_cells hib2)
        obtain ⟨wc, hwc⟩ : ∃ wc, w2.alloc (.cells #[.int .i64 k2, .slice ad2 n3 cap2, .float .f64 v2] 99) = wc := ⟨_, rfl⟩
        rw [hwc] at M2 mv j1 j2 ⊢
        have c1 := j1
        have c2' := j2
        have HQV : Hid (VC wc [.int .i64 k2, .slice ad2 n3 cap2, .float .f64 v2] p) := HV2.out.moves mv
        have Mc := M2
        clear hwc
        obtain ⟨SE, hSE⟩ : ∃ SE, pPlusE p c.v = SE := ⟨_, rfl⟩
        have HSE : Hid (pPlusE p c.v = SE) := hSE
        rw [HQo.out, hSE] at hAd hBd
        clear hSE
        by_cases hS0 : SE = 0
        ·rw [if_pos hS0] at hAd hBd
         subst hS0
         rw [hAd, hBd] at hFc
         rw [hBd] at HBR
         obtain ⟨A, hA⟩ : ∃ A, pPutE Q c.col c.t (pPlus p c.v) = A := ⟨_, rfl⟩
         obtain ⟨B, hB⟩ : ∃ B, pPut Q c.col c.t (pPlus p c.v) = B := ⟨_, rfl⟩
         have HEc : Hid (pPutE Q c.col c.t (pPlus p c.v) = A) := hA
         have HBe : Hid (pPut Q c.col c.t (pPlus p c.v) = B) := hB
         rw [hA, hB] at hFc
         rw [hB] at HBR
         have HB : Hid (pright B = true) := HBR
         clear hA hB hAd hBd HBR
         by_cases hA0 : A = 0
         ·rw [if_pos hA0] at hFc
          subst hA0
          have HFc : Hid (cFold (cs.drop (k + 1)) B = cFold cs (pcopy R)) := hFc
          clear hFc
          go_wp2_with (first | (go_at_call 92; refine (rplus_p wc _ _ _ _ _ _ _ _ _ _ _ p c.v HQV.out.va (HVc.out.moves Mc) (Moves.refl _ _)).mono ?_; rintro _ w5 ⟨rfl, m5⟩; rw [HSE.out]; have HS5 : Hid (VC w5 [.int .i64 (pPlus p c.v).kind, .slice none 0 0, .float .f64 (pPlus p c.v).n] (pPlus p c.v)) := pPlus_vc w5 p c.v; have mx : Moves [] w5 (w5.alloc (.cells #[.int .i64 (pPlus p c.v).kind, .slice none 0 0, .float .f64 (pPlus p c.v).n] 99)) := (Moves.refl _ _).alloc _; have M5 := Mc.then (m5.then mx); have s0' := M5.cell s0; have e1' := (m5.then mx).cell c1; have e2' := (m5.then mx).cell c2'; obtain ⟨sv0, sv1, sv2, _⟩ := three_cells (heap_alloc_new w5 (.cells #[.int .i64 (pPlus p c.v).kind, .slice none 0 0, .float .f64 (pPlus p c.v).n] 99)); have p25 := M5.at p2 (by simp); obtain ⟨u0', u1'⟩ := one_cell p25) | (go_at_call 50; refine (refPut_p (w5.alloc (.cells #[.int .i64 (pPlus p c.v).kind, .slice none 0 0, .float .f64 (pPlus p c.v).n] 99)) _ _ Q c.col c.t _ _ _ _ _ (pPlus p c.v) (HQ.out.moves M5) (HS5.out.va.moves mx) (Moves.refl _ _) HQR.out).mono ?_; rintro _ w7 ⟨ad7, n7, cap7, rfl, hc7, m7⟩; rw [HEc.out]; have HC7 : Hid (RowAt w7 (.agg #[.slice ad7 n7 cap7]) B) := ⟨_, rfl, (by rw [← HBe.out]; exact hc7)⟩; clear hc7; have M7 := M5.then m7; have p47 := M7.at p4 (by simp); obtain ⟨y0, y1⟩ := one_cell p47; have p27 := (moves_set w7 po 0 (.slice ad7 n7 cap7)).at (M7.at p2 (by simp)) (by simp; omega); obtain ⟨t0', t1'⟩ := one_cell p27))
          go_roundw
          case rel => exact ⟨k + 1, _, B, by omega, by go_num, (mr.then M7).setCell (.inr (by show w1.heap.size ≤ po; omega)) _, (moves_set _ _ _ _).at (M7.at p2 (by simp)) (by simp; omega), set_one p47 _, HC7.out.setRow p47 _, HB.out, HFc.out⟩
          case measure => simp [intOf]; omega
         ·rw [if_neg hA0] at hFc
          have hEA : A = E := by have := HE.out; rw [← hFc] at this; exact this
          have hPA : [] = P := by have := HP.out; rw [← hFc] at this; exact this
          subst hEA hPA
          clear hFc
          go_wp2_with (first | (go_at_call 92; refine (rplus_p wc _ _ _ _ _ _ _ _ _ _ _ p c.v HQV.out.va (HVc.out.moves Mc) (Moves.refl _ _)).mono ?_; rintro _ w5 ⟨rfl, m5⟩; rw [HSE.out]; have HS5 : Hid (VC w5 [.int .i64 (pPlus p c.v).kind, .slice none 0 0, .float .f64 (pPlus p c.v).n] (pPlus p c.v)) := pPlus_vc w5 p c.v; have mx : Moves [] w5 (w5.alloc (.cells #[.int .i64 (pPlus p c.v).kind, .slice none 0 0, .float .f64 (pPlus p c.v).n] 99)) := (Moves.refl _ _).alloc _; have M5 := Mc.then (m5.then mx); have s0' := M5.cell s0; have e1' := (m5.then mx).cell c1; have e2' := (m5.then mx).cell c2'; obtain ⟨sv0, sv1, sv2, _⟩ := three_cells (heap_alloc_new w5 (.cells #[.int .i64 (pPlus p c.v).kind, .slice none 0 0, .float .f64 (pPlus p c.v).n] 99)); have p25 := M5.at p2 (by simp); obtain ⟨u0', u1'⟩ := one_cell p25) | (go_at_call 50; refine (refPut_p (w5.alloc (.cells #[.int .i64 (pPlus p c.v).kind, .slice none 0 0, .float .f64 (pPlus p c.v).n] 99)) _ _ Q c.col c.t _ _ _ _ _ (pPlus p c.v) (HQ.out.moves M5) (HS5.out.va.moves mx) (Moves.refl _ _) HQR.out).mono ?_; rintro _ w7 ⟨ad7, n7, cap7, rfl, hc7, m7⟩; rw [HEc.out]; have HC7 : Hid (RowAt w7 (.agg #[.slice ad7 n7 cap7]) B) := ⟨_, rfl, (by rw [← HBe.out]; exact hc7)⟩; clear hc7; have M7 := M5.then m7; have p47 := M7.at p4 (by simp); obtain ⟨y0, y1⟩ := one_cell p47; have p27 := (moves_set w7 po 0 (.slice ad7 n7 cap7)).at (M7.at p2 (by simp)) (by simp; omega); obtain ⟨t0', t1'⟩ := one_cell p27))
          try simp only [Exit.inBlock, Exit.then]
          exact bodyPost_ret (ret_row2 rfl _ _ _ _ rfl (set_one p27 _)) rfl ⟨_, _, _, rfl, ColsAt.nil _, (((bm.then mr).then M7).setCell (.inr (by show w.heap.size ≤ po; omega)) _).setCell (.inr (by show _ ≤ _ + 1; omega)) _⟩
        ·rw [if_neg hS0] at hAd hBd
         rw [hAd, hBd, if_neg hS0] at hFc
         have hEA : SE = E := by have := HE.out; rw [← hFc] at this; exact this
         have hPA : [] = P := by have := HP.out; rw [← hFc] at this; exact this
         subst hEA hPA
         clear hFc hAd hBd
         go_wp2_with (go_at_call 92; refine (rplus_p wc _ _ _ _ _ _ _ _ _ _ _ p c.v HQV.out.va (HVc.out.moves Mc) (Moves.refl _ _)).mono ?_; rintro _ w5 ⟨rfl, m5⟩; rw [HSE.out]; have HS5 : Hid (VC w5 [.int .i64 (pPlus p c.v).kind, .slice none 0 0, .float .f64 (pPlus p c.v).n] (pPlus p c.v)) := pPlus_vc w5 p c.v; have mx : Moves [] w5 (w5.alloc (.cells #[.int .i64 (pPlus p c.v).kind, .slice none 0 0, .float .f64 (pPlus p c.v).n] 99)) := (Moves.refl _ _).alloc _; have M5 := Mc.then (m5.then mx); have s0' := M5.cell s0; have e1' := (m5.then mx).cell c1; have e2' := (m5.then mx).cell c2'; obtain ⟨sv0, sv1, sv2, _⟩ := three_cells (heap_alloc_new w5 (.cells #[.int .i64 (pPlus p c.v).kind, .slice none 0 0, .float .f64 (pPlus p c.v).n] 99)); have p25 := M5.at p2 (by simp); obtain ⟨u0', u1'⟩ := one_cell p25)
         try simp only [Exit.inBlock, Exit.then]
         exact bodyPost_ret (ret_row2 rfl _ _ _ _ rfl (set_one p25 _)) rfl ⟨_, _, _, rfl, ColsAt.nil _, ((bm.then mr).then M5).setCell (.inr (by show _ ≤ _ + 1; omega)) _⟩
     ·have hk3 : ¬ (k : Int) < n := by omega
      obtain rfl : n = k := by omega
      have hFc := HF.out
      rw [HN.out, List.drop_length, cFold_nil] at hFc
      have hEA : 0 = E := by have := HE.out; rw [← hFc] at this; exact this
      have hPA : Q = P := by have := HP.out; rw [← hFc] at this; exact this
      subst hEA hPA
      clear hFc
      go_wp2_with fail
      try simp only [Exit.inBlock, Exit.then]
      obtain ⟨_, er, hcols⟩ := HQ.out.setRow p2 (.slice adq nq capq)
      simp only [Value.agg.injEq, Array.mk.injEq, List.cons.injEq, and_true] at er
      subst er
      exact bodyPost_ret (ret_row2 rfl _ _ _ _ rfl (set_one p2 _)) rfl ⟨_, _, _, rfl, hcols, (bm.then mr).setCell (.inr (by show _ ≤ _ + 1; omega)) _⟩
end Go.Proofs.YtcngllcifcpbkaaGreat
