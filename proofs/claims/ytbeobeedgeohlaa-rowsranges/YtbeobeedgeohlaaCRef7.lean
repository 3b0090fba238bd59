/-
  The document's own At, Newest, DropCol of a row that may be.
-/
import Derived.Test.YtbeobeedgeohlaaCRow12
namespace Go.Proofs.Ytbeobeedgeohlaa
open Go.RowKit

set_option maxRecDepth 100000 in
set_option maxHeartbeats 8000000 in
theorem refAt_yes (W w : World) (v : Value) (R : List Pcol) (s : ByteArray) (t : Int) (h : RowAt W v R) (m : Moves [] W w) (hr : pright R = true) :
    Calls Try.prog 81 #[v, .string s, .int .i64 t] w fun e w' => ∃ k ad n cap x, e = .returned (.tuple #[.agg #[.int .i64 k, .slice ad n cap, .float .f64 x], .bool (pAt R s t).isSome]) ∧ VC w' [.int .i64 k, .slice ad n cap, .float .f64 x] ((pAt R s t).getD ⟨0, [], 0⟩) ∧ Moves [] w w' := by
  have hC := fun w1 (m1 : Moves [] W w1) => refCopy_yes W w1 v R h m1 hr
  obtain ⟨lv, rfl, hl⟩ := h
  obtain ⟨ad, cap, rfl, hc⟩ := hl.slice
  have hCr := pright_canon hr
  have hPq := pAt_copy hr s t
  have hlen : (R.map pcanonC).length ≤ 4 := by rw [List.length_map]; exact pright_len4 hr
  obtain ⟨C, hCq⟩ : ∃ C, Hid (R.map pcanonC = C) := ⟨_, rfl⟩
  rw [hCq.out] at hC hlen hCr hPq
  obtain ⟨A, hAq⟩ : ∃ A, Hid (pAt R s t = A) := ⟨_, rfl⟩
  rw [hAq.out] at hPq ⊢
  obtain ⟨no, hno⟩ : ∃ no, Hid (no = C.length) := ⟨_, rfl⟩
  obtain ⟨ix, hix⟩ : ∃ ix, Hid (pidx C s = ix) := ⟨_, rfl⟩
  rw [← hno.out] at hlen
  have hC1 : C.length ≤ 1048576 := by have := hno.out; omega
  have hm : Moves [] W ((w.alloc (.cells #[.slice ad R.length cap] 36)).alloc (.cells #[.int .i64 0, .slice none 0 0, .float .f64 0] 49)) := (m.alloc _).alloc _
  have HCr : Hid (pright C = true) := hCr
  clear hl hr hCr
  have HA : Hid (A = ((pvers C s).find? (fun x => decide (x.t ≤ t))).map (fun x => x.v)) := hPq
  clear hPq
  cases hhas : phas C s with
  | false =>
    have HH : Hid (phas C s = false) := hhas
    have he : Hid (A = none) := by unfold Hid; rw [HA.out, (phas_no HCr.out hhas).1]; rfl
    clear hhas
    go_enter Try.func81, Try.ntmps81
    go_wp2_with (first | (go_at_call 35; refine (hC _ hm).mono ?_; rintro _ w3 ⟨ad3, n3, cap3, rfl, hG3, m3, hZ3⟩; obtain ⟨p1, p2, m0⟩ := boxes m3; have hA3 := hG3.at; obtain rfl : n3 = no := hA3.len.trans hno.out.symm; have HG3 : Hid (GrowC w w3 (.slice ad3 n3 cap3) C) := hG3.elder (((Moves.refl [] w).alloc _).alloc _); clear hG3) | (go_at_call 36; refine (find_w w3 _ _ C s ⟨_, rfl, hA3⟩ ((Moves.refl _ _).alloc _) hC1).mono ?_; rintro _ w4 ⟨rfl, m4⟩; rw [hix.out, HH.out]; obtain ⟨q1, mq⟩ := boxesW m4; obtain ⟨h0, h1⟩ := one_cell q1; have c4 := mq.at p2 (by simp); have HG4 : Hid (GrowC w w4 (.slice ad3 n3 cap3) C) := HG3.out.moves0 mq; have M4 : Moves [] w w4 := m0.then mq; obtain ⟨x0, x1, x2, f0, f1, f2⟩ := three_cells c4))
    try simp only [Exit.inBlock, Exit.then]
    obtain ⟨s1, s2, s3⟩ := stored3 c4 M4 (by omega) (.int .i64 0) (.slice none 0 0) (.float .f64 0)
    refine bodyPost_ret (ret_val2 rfl _ _ _ _ _ _ rfl s1) rfl ⟨0, none, 0, 0, 0, ?_, ?_, s2⟩
    · rw [he.out]; rfl
    · rw [he.out]
      exact ⟨none, 0, 0, 0, rfl, isB_nil _ _, fits_zero, by simp, by simp, .inl rfl⟩
  | true =>
    have HH : Hid (phas C s = true) := hhas
    obtain ⟨hx, hpr⟩ := phas_at HCr.out hhas
    rw [hix.out] at hx
    have hvl := (prightV_two hpr).2
    obtain ⟨V, hVq⟩ : ∃ V, Hid (pvers C s = V) := ⟨_, rfl⟩
    rw [hVq.out] at hx hvl HA
    have HX : Hid (C[ix]? = some ⟨s, V⟩) := hx
    have hixn : ix < no := by
      have := (List.getElem?_eq_some_iff.1 hx).1
      have := hno.out
      omega
    have hix3 : (ix : Int) < no := by omega
    clear hhas hx hpr
    go_enter Try.func81, Try.ntmps81
    go_wp2_with (first | (go_at_call 35; refine (hC _ hm).mono ?_; rintro _ w3 ⟨ad3, n3, cap3, rfl, hG3, m3, hZ3⟩; obtain ⟨p1, p2, m0⟩ := boxes m3; have hA3 := hG3.at; obtain rfl : n3 = no := hA3.len.trans hno.out.symm; have HG3 : Hid (GrowC w w3 (.slice ad3 n3 cap3) C) := hG3.elder (((Moves.refl [] w).alloc _).alloc _); clear hG3) | (go_at_call 36; refine (find_w w3 _ _ C s ⟨_, rfl, hA3⟩ ((Moves.refl _ _).alloc _) hC1).mono ?_; rintro _ w4 ⟨rfl, m4⟩; rw [hix.out, HH.out]; obtain ⟨q1, mq⟩ := boxesW m4; obtain ⟨h0, h1⟩ := one_cell q1; have c4 := mq.at p2 (by simp); have HG4 : Hid (GrowC w w4 (.slice ad3 n3 cap3) C) := HG3.out.moves0 mq; have M4 : Moves [] w w4 := m0.then mq; obtain ⟨g2, off2, a2, n2, c2, e2, y0, y1, en2, hle2, hV2⟩ := (hA3.moves mq).at HX.out; subst e2; obtain ⟨x0, x1, x2, f0, f1, f2⟩ := three_cells c4))
    obtain ⟨pb, hpb⟩ : ∃ pb, w3.heap.size = pb := ⟨_, rfl⟩
    rw [hpb] at h0 ⊢
    have HV3 : Hid (VersAt w4 (.slice a2 n2 c2) V) := hV2
    have hn3 : Hid (n2 = V.length) := en2
    have hb3 : n2 ≤ 2 := by have := hn3.out; omega
    have hM4 : Hid (Moves [] w w4) := M4
    clear hpb hC hA3 HG3 HG4 m4 mq m3 p1 p2 q1 h1 hV2 en2 hZ3 M4 m0 x0 x1 x2 f0 f1 f2
    go_loopw [11] (fun i wr => ∃ k : Nat, k ≤ n2 ∧ i = .int .i64 k ∧ Moves [] w4 wr ∧ (V.take k).find? (fun x => decide (x.t ≤ t)) = none) (fun i _ => n2 - (intOf i).toNat)
    case atStart => exact ⟨0, Nat.zero_le _, rfl, Moves.refl _ _, by simp⟩
    case round =>
      obtain ⟨k, hk, rfl, mr, hnone⟩ := hrel
      have HNone : Hid ((V.take k).find? (fun x => decide (x.t ≤ t)) = none) := hnone
      have r0 := mr.cell h0
      have r1 := mr.cell y1
      have q2 := mr.at c4 (by simp)
      obtain ⟨x0, x1, x2, f0, f1, f2⟩ := three_cells q2
      clear hnone
      by_cases hlt : k < n2
      · have hk3 : (k : Int) < n2 := by omega
        obtain ⟨x, hx⟩ : ∃ x, V[k]? = some x := ⟨_, List.getElem?_eq_getElem (by rw [← hn3.out]; exact hlt)⟩
        obtain ⟨g5, off5, a6, n6, c6, rfl, e0, e1, e2, e3, hVC⟩ := HV3.out.at hx
        have d0 := mr.cell e0
        have d1 := mr.cell e1
        have d2 := mr.cell e2
        have d3 := mr.cell e3
        have HX2 : Hid (V[k]? = some x) := hx
        have HVC : Hid (VC wr [.int .i64 x.v.kind, .slice a6 n6 c6, .float .f64 x.v.n] x.v) := hVC.moves mr
        clear e0 e1 e2 e3 hx hVC
        by_cases hq : x.t ≤ t
        · have hf := find_some_take (fun x : Pver => decide (x.t ≤ t)) HX2.out HNone.out (decide_eq_true hq)
          have he : Hid (A = some x.v) := by unfold Hid; rw [HA.out, hf]; rfl
          clear hf
          go_wp2_with fail
          try simp only [Exit.inBlock, Exit.then]
          obtain ⟨s1, s2, s3⟩ := stored3 q2 (hM4.out.then mr) (by omega) (.int .i64 x.v.kind) (.slice a6 n6 c6) (.float .f64 x.v.n)
          refine bodyPost_ret (ret_val2 rfl _ _ _ _ _ _ rfl s1) rfl ⟨x.v.kind, a6, n6, c6, x.v.n, ?_, ?_, s2⟩
          · rw [he.out]; rfl
          · rw [he.out]
            exact HVC.out.box3 q2 s3
        · have hf := find_none_take (fun x : Pver => decide (x.t ≤ t)) HX2.out HNone.out (decide_eq_false hq)
          have HF : Hid ((V.take (k + 1)).find? (fun x => decide (x.t ≤ t)) = none) := hf
          clear hf
          go_wp2_with fail
          go_roundw
          case rel => exact ⟨k + 1, by omega, by go_num, mr, HF.out⟩
          case measure => simp [intOf]; omega
      · have hk3 : ¬ (k : Int) < n2 := by omega
        obtain rfl : k = n2 := by omega
        have hf := HNone.out
        rw [hn3.out, List.take_length] at hf
        have he : Hid (A = none) := by unfold Hid; rw [HA.out, hf]; rfl
        clear hf
        go_wp2_with fail
        try simp only [Exit.inBlock, Exit.then]
        obtain ⟨s1, s2, s3⟩ := stored3 q2 (hM4.out.then mr) (by omega) (.int .i64 0) (.slice none 0 0) (.float .f64 0)
        refine bodyPost_ret (ret_val2 rfl _ _ _ _ _ _ rfl s1) rfl ⟨0, none, 0, 0, 0, ?_, ?_, s2⟩
        · rw [he.out]; rfl
        · rw [he.out]
          exact ⟨none, 0, 0, 0, rfl, isB_nil _ _, fits_zero, by simp, by simp, .inl rfl⟩

set_option maxRecDepth 100000 in
set_option maxHeartbeats 4000000 in
theorem refNewest_yes (W w : World) (v : Value) (R : List Pcol) (s : ByteArray) (h : RowAt W v R) (m : Moves [] W w) (hr : pright R = true) :
    Calls Try.prog 61 #[v, .string s] w fun e w' => ∃ k ad n cap x, e = .returned (.tuple #[.agg #[.int .i64 k, .slice ad n cap, .float .f64 x], .bool (pAt R s 1099511627776).isSome]) ∧ VC w' [.int .i64 k, .slice ad n cap, .float .f64 x] ((pAt R s 1099511627776).getD ⟨0, [], 0⟩) ∧ Moves [] w w' := by
  have hA := fun w1 (m1 : Moves [] W w1) => refAt_yes W w1 v R s 1099511627776 h m1 hr
  obtain ⟨lv, rfl, hl⟩ := h
  obtain ⟨ad, cap, rfl, hc⟩ := hl.slice
  clear hl
  obtain ⟨A, hAq⟩ : ∃ A, Hid (pAt R s 1099511627776 = A) := ⟨_, rfl⟩
  rw [hAq.out] at hA ⊢
  have hm : Moves [] W ((w.alloc (.cells #[.slice ad R.length cap] 36)).alloc (.cells #[.int .i64 0, .slice none 0 0, .float .f64 0] 49)) := (m.alloc _).alloc _
  go_enter Try.func61, Try.ntmps61
  go_wp2_with (go_at_call 81; refine (hA _ hm).mono ?_; rintro _ w2 ⟨k2, ad2, n2, cap2, x2, rfl, hVC, m2⟩; obtain ⟨p1, p2, m0⟩ := boxes m2; obtain ⟨x0, x1, x2', f0, f1, f2⟩ := three_cells p2)
  try simp only [Exit.inBlock, Exit.then]
  obtain ⟨s1, s2, s3⟩ := stored3 p2 m0 (by omega) (.int .i64 k2) (.slice ad2 n2 cap2) (.float .f64 x2)
  refine bodyPost_ret (ret_val2 rfl _ _ _ _ _ _ rfl s1) rfl ⟨_, _, _, _, _, rfl, ?_, s2⟩
  exact hVC.box3 p2 s3

set_option maxRecDepth 100000 in
set_option maxHeartbeats 8000000 in
theorem refDropCol_yes (W w : World) (v : Value) (R : List Pcol) (s : ByteArray) (h : RowAt W v R) (m : Moves [] W w) (hr : pright R = true) :
    Calls Try.prog 60 #[v, .string s] w fun e w' => ∃ ad n cap, e = .returned (.agg #[.slice ad n cap]) ∧ ColsAt w' (.slice ad n cap) (pDropCol R s) ∧ Moves [] w w' := by
  have hC := fun w1 (m1 : Moves [] W w1) => refCopy_yes W w1 v R h m1 hr
  obtain ⟨lv, rfl, hl⟩ := h
  obtain ⟨ad, cap, rfl, hc⟩ := hl.slice
  have hCr := pright_canon hr
  have hPq := (show pDropCol R s = pwith (R.map pcanonC) s [] from by unfold pDropCol; rw [pcopy_of hr])
  have hlen : (R.map pcanonC).length ≤ 4 := by rw [List.length_map]; exact pright_len4 hr
  obtain ⟨C, hCq⟩ : ∃ C, Hid (R.map pcanonC = C) := ⟨_, rfl⟩
  rw [hCq.out] at hC hlen hCr hPq
  obtain ⟨A, hAq⟩ : ∃ A, Hid (pDropCol R s = A) := ⟨_, rfl⟩
  rw [hAq.out] at hPq ⊢
  obtain ⟨no, hno⟩ : ∃ no, Hid (no = C.length) := ⟨_, rfl⟩
  obtain ⟨ix, hix⟩ : ∃ ix, Hid (pidx C s = ix) := ⟨_, rfl⟩
  rw [← hno.out] at hlen
  have hC1 : C.length ≤ 1048576 := by have := hno.out; omega
  have hm : Moves [] W ((w.alloc (.cells #[.slice ad R.length cap] 36)).alloc (.cells #[.slice none 0 0] 36)) := (m.alloc _).alloc _
  have HCr : Hid (pright C = true) := hCr
  clear hl hr hCr
  have HA : Hid (A = pwith C s []) := hPq
  clear hPq
  cases hhas : phas C s with
  | false =>
    have HH : Hid (phas C s = false) := hhas
    have he : Hid (A = C) := by unfold Hid; rw [HA.out, (phas_no HCr.out hhas).2]
    clear hhas
    go_enter Try.func60, Try.ntmps60
    go_wp2_with (first | (go_at_call 35; refine (hC _ hm).mono ?_; rintro _ w3 ⟨ad3, n3, cap3, rfl, hG3, m3, hZ3⟩; obtain ⟨p1, p2, m0⟩ := boxes m3; have hA3 := hG3.at; obtain rfl : n3 = no := hA3.len.trans hno.out.symm; have HG3 : Hid (GrowC w w3 (.slice ad3 n3 cap3) C) := hG3.elder (((Moves.refl [] w).alloc _).alloc _); clear hG3) | (go_at_call 36; refine (find_w w3 _ _ C s ⟨_, rfl, hA3⟩ ((Moves.refl _ _).alloc _) hC1).mono ?_; rintro _ w4 ⟨rfl, m4⟩; rw [hix.out, HH.out]; obtain ⟨q1, mq⟩ := boxesW m4; obtain ⟨h0, h1⟩ := one_cell q1; have c4 := mq.at p2 (by simp); have HG4 : Hid (GrowC w w4 (.slice ad3 n3 cap3) C) := HG3.out.moves0 mq; have M4 : Moves [] w w4 := m0.then mq; obtain ⟨f0, f1⟩ := one_cell c4))
    try simp only [Exit.inBlock, Exit.then]
    rw [he.out]
    exact bodyPost_ret (ret_row rfl _ _ _ _ rfl (set_one c4 _)) rfl ⟨_, _, _, rfl, (HG4.out.setRow c4 _).at, M4.setCell (.inr (by show _ ≤ _ + 1; omega)) _⟩
  | true =>
    have HH : Hid (phas C s = true) := hhas
    obtain ⟨hx, hpr⟩ := phas_at HCr.out hhas
    have hy := phas_out HCr.out hhas
    rw [hix.out] at hx hy
    obtain ⟨jx, hjx⟩ : ∃ jx, jx = ix + 1 := ⟨_, rfl⟩
    have HY : Hid (C.take ix ++ C.drop jx = A) := by unfold Hid; rw [HA.out, hjx, hy]
    have hixn : ix < no := by
      have := (List.getElem?_eq_some_iff.1 hx).1
      have := hno.out
      omega
    have HPos : Hid (0 < C.length) := by unfold Hid; have := hno.out; omega
    clear hhas hx hpr hy
    have hix3 : (ix : Int) < no := by omega
    go_enter Try.func60, Try.ntmps60
    go_wp2_with (first | (go_at_call 35; refine (hC _ hm).mono ?_; rintro _ w3 ⟨ad3, n3, cap3, rfl, hG3, m3, hZ3⟩; obtain ⟨p1, p2, m0⟩ := boxes m3; have hA3 := hG3.at; obtain rfl : n3 = no := hA3.len.trans hno.out.symm; have HG3 : Hid (GrowC w w3 (.slice ad3 n3 cap3) C) := hG3.elder (((Moves.refl [] w).alloc _).alloc _); clear hG3) | (go_at_call 36; refine (find_w w3 _ _ C s ⟨_, rfl, hA3⟩ ((Moves.refl _ _).alloc _) hC1).mono ?_; rintro _ w4 ⟨rfl, m4⟩; rw [hix.out, HH.out]; obtain ⟨q1, mq⟩ := boxesW m4; obtain ⟨h0, h1⟩ := one_cell q1; have c4 := mq.at p2 (by simp); have HG4 : Hid (GrowC w w4 (.slice ad3 n3 cap3) C) := HG3.out.moves0 mq; have M4 : Moves [] w w4 := m0.then mq; obtain ⟨f0, f1⟩ := one_cell c4; obtain ⟨gl0, nl0, capl0, arr0, e, hnl0, hcap0, hgl0, hW0, hcells0⟩ := HG4.out.own HPos.out; simp only [Value.slice.injEq] at e; obtain ⟨rfl, rfl, rfl⟩ := e; have hi2 : (ix : Int) ≤ cap3 := (by omega); have hi3 : (jx : Int) ≤ n3 := (by omega); have hi4 : (jx : Int) ≤ cap3 := (by omega); have hi6 : jx ≤ n3 := (by omega); have hw1 : IntKind.i64.wrap ((ix : Int) + 1) = (jx : Int) := (by rw [IntWalk.i64_in _ (by omega)]; omega); clear hcells0 hjx))
    have hpbw : w.heap.size + 1 < w3.heap.size := lt_of_block p2
    obtain ⟨pb, hpb⟩ : ∃ pb, w3.heap.size = pb := ⟨_, rfl⟩
    rw [hpb] at q1 hpbw h0 ⊢
    have hS : ∀ w', Moves [] w4 w' → w'.cell? ⟨pb, 0, none⟩ = some (.slice (some ⟨gl0, 0, none⟩) n3 cap3) := fun w' m' => m'.cell h0
    have md : Moves [] w4 w4.drew := (Moves.refl _ _).drew
    have hbd5 : ([] : List Pcol).length + (C.take ix).length ≤ 1048576 := by
      have := List.length_take_le ix C
      have := hno.out
      simp <;> omega
    have hbd11 : ([] ++ C.take ix).length + (C.drop jx).length ≤ 1048576 := by
      have := List.length_take_le ix C
      have := hno.out
      simp <;> omega
    clear hpb hC m4 HG3
    refine wp_region_noPanic ?_
    refine region_peel (S := (fun w' => w'.cell? ⟨pb, 0, none⟩ = some (.slice (some ⟨gl0, 0, none⟩) n3 cap3))) (pre := #[{ dst := some 17, op := Op.buildSlice 34 0 #[], type := 34, pos := "ref.go:108", after := #[], guard := none }, { dst := some 18, op := Op.fieldAddr 36 (Operand.tmp 5) 0, type := 0, pos := "ref.go:108", after := #[], guard := none }, { dst := some 19, op := Op.load 34 (Operand.tmp 18), type := 34, pos := "ref.go:108", after := #[{ on := 1, ground := Ground.data }], guard := none }, { dst := some 20, op := Op.move (Operand.tmp 6), type := 3, pos := "ref.go:108", after := #[], guard := none }, { dst := some 21, op := Op.slice 34 (Operand.tmp 19) none (some (Operand.tmp 20)) none, type := 34, pos := "ref.go:108", after := #[{ on := 2, ground := Ground.data }, { on := 3, ground := Ground.data }], guard := none }, { dst := some 22, op := Op.call { callee := Callee.builtin Builtin.append, args := #[Operand.tmp 17, Operand.tmp 21], argTypes := #[34, 34] }, type := 34, pos := "ref.go:108", after := #[{ on := 0, ground := Ground.data }, { on := 4, ground := Ground.data }], guard := none }, { dst := some 23, op := Op.fieldAddr 36 (Operand.tmp 5) 0, type := 0, pos := "ref.go:108", after := #[], guard := none }, { dst := some 24, op := Op.load 34 (Operand.tmp 23), type := 34, pos := "ref.go:108", after := #[{ on := 6, ground := Ground.data }], guard := none }, { dst := some 25, op := Op.move (Operand.tmp 6), type := 3, pos := "ref.go:108", after := #[], guard := none }, { dst := some 26, op := Op.binOp BinOp.add 3 (Operand.tmp 25) (Operand.const (Value.int IntKind.i64 1)) 3, type := 3, pos := "ref.go:108", after := #[{ on := 8, ground := Ground.data }], guard := none }, { dst := some 27, op := Op.slice 34 (Operand.tmp 24) (some (Operand.tmp 26)) none none, type := 34, pos := "ref.go:108", after := #[{ on := 7, ground := Ground.data }, { on := 9, ground := Ground.data }], guard := none }, { dst := some 28, op := Op.call { callee := Callee.builtin Builtin.append, args := #[Operand.tmp 22, Operand.tmp 27], argTypes := #[34, 34] }, type := 34, pos := "ref.go:108", after := #[{ on := 5, ground := Ground.data }, { on := 10, ground := Ground.data }, { on := 5, ground := Ground.chain }], guard := none }, { dst := some 29, op := Op.fieldAddr 36 (Operand.tmp 5) 0, type := 0, pos := "ref.go:108", after := #[{ on := 0, ground := Ground.phase }, { on := 1, ground := Ground.phase }, { on := 2, ground := Ground.phase }, { on := 3, ground := Ground.phase }, { on := 4, ground := Ground.phase }, { on := 5, ground := Ground.phase }, { on := 6, ground := Ground.phase }, { on := 7, ground := Ground.phase }, { on := 8, ground := Ground.phase }, { on := 9, ground := Ground.phase }, { on := 10, ground := Ground.phase }, { on := 11, ground := Ground.phase }], guard := none }]) (o := { dst := none, op := Op.store 34 (Operand.tmp 29) (Operand.tmp 28), type := 0, pos := "ref.go:108", after := #[{ on := 12, ground := Ground.data }, { on := 11, ground := Ground.data }, { on := 11, ground := Ground.chain }, { on := 0, ground := Ground.phase }, { on := 1, ground := Ground.phase }, { on := 2, ground := Ground.phase }, { on := 3, ground := Ground.phase }, { on := 4, ground := Ground.phase }, { on := 5, ground := Ground.phase }, { on := 6, ground := Ground.phase }, { on := 7, ground := Ground.phase }, { on := 8, ground := Ground.phase }, { on := 9, ground := Ground.phase }, { on := 10, ground := Ground.phase }, { on := 11, ground := Ground.phase }], guard := none }) (by kernel_rfl) (by kernel_rfl) (by kernel_rfl) ?_ (fun hHeld => ?_)
    · (refine hS _ ?_; first | with_reducible assumption | exact Moves.alloc (by with_reducible assumption) _)
    refine wpAnyH_take (i := 1) (oi := { dst := some 18, op := Op.fieldAddr 36 (Operand.tmp 5) 0, type := 0, pos := "ref.go:108", after := #[], guard := none }) (v := ?_) rfl (by kernel_rfl) (by kernel_rfl) (by kernel_rfl) (fun _ _ _ h => h) (Or.inl ⟨by rfl, ?_⟩) (by assumption) ?_
    rotate_left
    · (intro w hSw; (try dsimp only at hSw); go_simp; try (with_reducible rfl))
    try simp only [Act.put, List.setIfInBounds_toArray, List.set_cons_zero, List.set_cons_succ]
    refine wpAnyH_take (i := 2) (oi := { dst := some 19, op := Op.load 34 (Operand.tmp 18), type := 34, pos := "ref.go:108", after := #[{ on := 1, ground := Ground.data }], guard := none }) (v := ?_) rfl (by kernel_rfl) (by kernel_rfl) (by kernel_rfl) (fun _ _ _ h => h) (Or.inl ⟨by rfl, ?_⟩) (by assumption) ?_
    rotate_left
    · (intro w hSw; (try dsimp only at hSw); go_simp; try (with_reducible rfl))
    try simp only [Act.put, List.setIfInBounds_toArray, List.set_cons_zero, List.set_cons_succ]
    refine wpAnyH_take (i := 3) (oi := { dst := some 20, op := Op.move (Operand.tmp 6), type := 3, pos := "ref.go:108", after := #[], guard := none }) (v := ?_) rfl (by kernel_rfl) (by kernel_rfl) (by kernel_rfl) (fun _ _ _ h => h) (Or.inl ⟨by rfl, ?_⟩) (by assumption) ?_
    rotate_left
    · (intro w hSw; (try dsimp only at hSw); go_simp; try (with_reducible rfl))
    try simp only [Act.put, List.setIfInBounds_toArray, List.set_cons_zero, List.set_cons_succ]
    refine wpAnyH_take (i := 4) (oi := { dst := some 21, op := Op.slice 34 (Operand.tmp 19) none (some (Operand.tmp 20)) none, type := 34, pos := "ref.go:108", after := #[{ on := 2, ground := Ground.data }, { on := 3, ground := Ground.data }], guard := none }) (v := ?_) rfl (by kernel_rfl) (by kernel_rfl) (by kernel_rfl) (fun _ _ _ h => h) (Or.inl ⟨by rfl, ?_⟩) (by assumption) ?_
    rotate_left
    · (intro w hSw; (try dsimp only at hSw); go_simp; try (with_reducible rfl))
    try simp only [Act.put, List.setIfInBounds_toArray, List.set_cons_zero, List.set_cons_succ]
    refine wpAnyH_take (i := 6) (oi := { dst := some 23, op := Op.fieldAddr 36 (Operand.tmp 5) 0, type := 0, pos := "ref.go:108", after := #[], guard := none }) (v := ?_) rfl (by kernel_rfl) (by kernel_rfl) (by kernel_rfl) (fun _ _ _ h => h) (Or.inl ⟨by rfl, ?_⟩) (by assumption) ?_
    rotate_left
    · (intro w hSw; (try dsimp only at hSw); go_simp; try (with_reducible rfl))
    try simp only [Act.put, List.setIfInBounds_toArray, List.set_cons_zero, List.set_cons_succ]
    refine wpAnyH_take (i := 7) (oi := { dst := some 24, op := Op.load 34 (Operand.tmp 23), type := 34, pos := "ref.go:108", after := #[{ on := 6, ground := Ground.data }], guard := none }) (v := ?_) rfl (by kernel_rfl) (by kernel_rfl) (by kernel_rfl) (fun _ _ _ h => h) (Or.inl ⟨by rfl, ?_⟩) (by assumption) ?_
    rotate_left
    · (intro w hSw; (try dsimp only at hSw); go_simp; try (with_reducible rfl))
    try simp only [Act.put, List.setIfInBounds_toArray, List.set_cons_zero, List.set_cons_succ]
    refine wpAnyH_take (i := 8) (oi := { dst := some 25, op := Op.move (Operand.tmp 6), type := 3, pos := "ref.go:108", after := #[], guard := none }) (v := ?_) rfl (by kernel_rfl) (by kernel_rfl) (by kernel_rfl) (fun _ _ _ h => h) (Or.inl ⟨by rfl, ?_⟩) (by assumption) ?_
    rotate_left
    · (intro w hSw; (try dsimp only at hSw); go_simp; try (with_reducible rfl))
    try simp only [Act.put, List.setIfInBounds_toArray, List.set_cons_zero, List.set_cons_succ]
    refine wpAnyH_take (i := 9) (oi := { dst := some 26, op := Op.binOp BinOp.add 3 (Operand.tmp 25) (Operand.const (Value.int IntKind.i64 1)) 3, type := 3, pos := "ref.go:108", after := #[{ on := 8, ground := Ground.data }], guard := none }) (v := ?_) rfl (by kernel_rfl) (by kernel_rfl) (by kernel_rfl) (fun _ _ _ h => h) (Or.inl ⟨by rfl, ?_⟩) (by assumption) ?_
    rotate_left
    · (intro w hSw; (try dsimp only at hSw); go_simp; try (with_reducible rfl))
    try simp only [Act.put, List.setIfInBounds_toArray, List.set_cons_zero, List.set_cons_succ]
    refine wpAnyH_take (i := 10) (oi := { dst := some 27, op := Op.slice 34 (Operand.tmp 24) (some (Operand.tmp 26)) none none, type := 34, pos := "ref.go:108", after := #[{ on := 7, ground := Ground.data }, { on := 9, ground := Ground.data }], guard := none }) (v := ?_) rfl (by kernel_rfl) (by kernel_rfl) (by kernel_rfl) (fun _ _ _ h => h) (Or.inl ⟨by rfl, ?_⟩) (by assumption) ?_
    rotate_left
    · (intro w hSw; (try dsimp only at hSw); go_simp; try (with_reducible rfl))
    try simp only [Act.put, List.setIfInBounds_toArray, List.set_cons_zero, List.set_cons_succ]
    refine wpAnyH_ready (rs := [0]) (by kernel_rfl) (by simp) ?_
    refine AllReadyH.cons (o := { dst := some 17, op := Op.buildSlice 34 0 #[], type := 34, pos := "ref.go:108", after := #[], guard := none }) rfl (fun K hK => ?_) AllReadyH.nil
    go_simp
    have hGe := GrowC.empty (W := w4) md
    refine hK.out _ _ ?_ (fun hHeld => ?_)
    · (refine hS _ ?_; first | with_reducible assumption | exact Moves.alloc (by with_reducible assumption) _)
    clear hK K
    try simp only [Act.put, List.setIfInBounds_toArray, List.set_cons_zero, List.set_cons_succ]
    refine wpAnyH_ready (rs := [5]) (by kernel_rfl) (by simp) ?_
    refine AllReadyH.cons (o := { dst := some 22, op := Op.call { callee := Callee.builtin Builtin.append, args := #[Operand.tmp 17, Operand.tmp 21], argTypes := #[34, 34] }, type := 34, pos := "ref.go:108", after := #[{ on := 0, ground := Ground.data }, { on := 4, ground := Ground.data }], guard := none }) rfl (fun K hK => ?_) AllReadyH.nil
    refine growC_step (.tmp 17) (.tmp 21) rfl _ _ [] (C.take ix) rfl rfl (by rfl) hGe ((HG4.out.at.moves (md.alloc _)).take (k := ix) (c := cap3) (by omega) (by omega) (Nat.le_refl _)) (md.alloc _) hbd5 ?_
    intro v5 w5 hG5 M5 m5 s5 l5
    have hsl := hG5.open
    obtain ⟨ad5, n5, cap5, rfl, hn5⟩ := hsl
    refine hK.out _ _ ?_ (fun hHeld => ?_)
    · (refine hS _ ?_; first | with_reducible assumption | exact Moves.alloc (by with_reducible assumption) _)
    clear hK K
    try simp only [Act.put, List.setIfInBounds_toArray, List.set_cons_zero, List.set_cons_succ]
    refine wpAnyH_ready (rs := [11]) (by kernel_rfl) (by simp) ?_
    refine AllReadyH.cons (o := { dst := some 28, op := Op.call { callee := Callee.builtin Builtin.append, args := #[Operand.tmp 22, Operand.tmp 27], argTypes := #[34, 34] }, type := 34, pos := "ref.go:108", after := #[{ on := 5, ground := Ground.data }, { on := 10, ground := Ground.data }, { on := 5, ground := Ground.chain }], guard := none }) rfl (fun K hK => ?_) AllReadyH.nil
    refine growC_step (.tmp 22) (.tmp 27) rfl _ _ ([] ++ C.take ix) (C.drop jx) rfl rfl (by rfl) hG5 (by have h := (HG4.out.at.moves M5).drop (k := jx) (by omega); rw [Nat.zero_add] at h; exact cols_if h hcap0 rfl) M5 hbd11 ?_
    intro v14 w14 hG14 M14 m14 s14 l14
    have hsl := hG14.open
    obtain ⟨ad14, n14, cap14, rfl, hn14⟩ := hsl
    have qp14 := M14.at q1 (by simp)
    obtain ⟨z0, z1⟩ := one_cell qp14
    refine hK.out _ _ ?_ (fun hHeld => ?_)
    · (refine hS _ ?_; first | with_reducible assumption | exact Moves.alloc (by with_reducible assumption) _)
    clear hK K
    try simp only [Act.put, List.setIfInBounds_toArray, List.set_cons_zero, List.set_cons_succ]
    refine wpAnyH_take (i := 12) (oi := { dst := some 29, op := Op.fieldAddr 36 (Operand.tmp 5) 0, type := 0, pos := "ref.go:108", after := #[{ on := 0, ground := Ground.phase }, { on := 1, ground := Ground.phase }, { on := 2, ground := Ground.phase }, { on := 3, ground := Ground.phase }, { on := 4, ground := Ground.phase }, { on := 5, ground := Ground.phase }, { on := 6, ground := Ground.phase }, { on := 7, ground := Ground.phase }, { on := 8, ground := Ground.phase }, { on := 9, ground := Ground.phase }, { on := 10, ground := Ground.phase }, { on := 11, ground := Ground.phase }], guard := none }) (v := ?_) rfl (by kernel_rfl) (by kernel_rfl) (by kernel_rfl) (fun _ _ _ h => h) (Or.inl ⟨by rfl, ?_⟩) (by assumption) ?_
    rotate_left
    · (intro w hSw; (try dsimp only at hSw); go_simp; try (with_reducible rfl))
    try simp only [Act.put, List.setIfInBounds_toArray, List.set_cons_zero, List.set_cons_succ]
    refine wpAnyH_done (by kernel_rfl) ?_ _
    unfold PeelQ
    refine wpOp_of_wp rfl rfl ?_
    go_simp
    generalize (if cap3 = jx then some (⟨gl0, 0, none⟩ : Addr) else some ⟨gl0, jx * 2, none⟩) = A27
    apply NoPanic.normal
    have cc := M14.at c4 (by simp)
    have cs := (moves_set w14 pb 0 (.slice ad14 n14 cap14)).at cc (by simp; omega)
    obtain ⟨o2, o3⟩ := one_cell cs
    obtain ⟨o4, _⟩ := one_cell (set_one qp14 (.slice ad14 n14 cap14))
    have hne : ¬ w.heap.size + 1 = pb := by omega
    have hne' : ¬ pb = w.heap.size + 1 := by omega
    try simp only [Exit.then]
    go_wp2_with fail
    try simp only [Exit.inBlock, Exit.then]
    have hg := ((hG14.setRow qp14 (.slice ad14 n14 cap14)).setRow cs (.slice ad14 n14 cap14)).at
    rw [List.nil_append, HY.out] at hg
    exact bodyPost_ret (ret_row rfl _ _ _ _ rfl (set_one cs _)) rfl ⟨_, _, _, rfl, hg, ((M4.then M14).setCell (.inr (by show w.heap.size ≤ pb; omega)) _).setCell (.inr (by show _ ≤ _ + 1; omega)) _⟩
end Go.Proofs.Ytbeobeedgeohlaa
