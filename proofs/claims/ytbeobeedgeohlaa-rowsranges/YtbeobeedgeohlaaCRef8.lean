/-
  The document's own Drop of a row that may be.
-/
import Derived.Test.YtbeobeedgeohlaaCRef7
namespace Go.Proofs.Ytbeobeedgeohlaa
open Go.RowKit

set_option maxRecDepth 100000 in
set_option maxHeartbeats 16000000 in
theorem refDrop_yes (W w : World) (v : Value) (R : List Pcol) (s : ByteArray) (t : Int) (h : RowAt W v R) (m : Moves [] W w) (hr : pright R = true) :
    Calls Try.prog 59 #[v, .string s, .int .i64 t] w fun e w' => ∃ ad n cap, e = .returned (.agg #[.slice ad n cap]) ∧ ColsAt w' (.slice ad n cap) (pDrop R s t) ∧ Moves [] w w' := by
  have hC := fun w1 (m1 : Moves [] W w1) => refCopy_yes W w1 v R h m1 hr
  obtain ⟨lv, rfl, hl⟩ := h
  obtain ⟨ad, cap, rfl, hc⟩ := hl.slice
  have hCr := pright_canon hr
  have hPq := (show pDrop R s t = pwith (R.map pcanonC) s (pdrop (pvers (R.map pcanonC) s) t) from by unfold pDrop; rw [pcopy_of hr])
  have hlen : (R.map pcanonC).length ≤ 4 := by rw [List.length_map]; exact pright_len4 hr
  obtain ⟨C, hCq⟩ : ∃ C, Hid (R.map pcanonC = C) := ⟨_, rfl⟩
  rw [hCq.out] at hC hlen hCr hPq
  obtain ⟨A, hAq⟩ : ∃ A, Hid (pDrop R s t = A) := ⟨_, rfl⟩
  rw [hAq.out] at hPq ⊢
  obtain ⟨no, hno⟩ : ∃ no, Hid (no = C.length) := ⟨_, rfl⟩
  obtain ⟨ix, hix⟩ : ∃ ix, Hid (pidx C s = ix) := ⟨_, rfl⟩
  rw [← hno.out] at hlen
  have hC1 : C.length ≤ 1048576 := by have := hno.out; omega
  have hm : Moves [] W ((w.alloc (.cells #[.slice ad R.length cap] 36)).alloc (.cells #[.slice none 0 0] 36)) := (m.alloc _).alloc _
  have HCr : Hid (pright C = true) := hCr
  clear hl hr hCr
  have hCC : C.map pcanonC = C := by
    rw [← hCq.out, List.map_map]
    apply List.map_congr_left
    intro y _
    exact pcanonC_twice y
  have HA : Hid (A = pwith C s (pdrop (pvers C s) t)) := hPq
  clear hPq
  cases hhas : phas C s with
  | false =>
    have HH : Hid (phas C s = false) := hhas
    have he : Hid (A = C) := by
      obtain ⟨e1, e2⟩ := phas_no HCr.out hhas
      unfold Hid
      rw [HA.out, e1]
      exact e2
    clear hhas
    go_enter Try.func59, Try.ntmps59
    go_wp2_with (first | (go_at_call 35; refine (hC _ hm).mono ?_; rintro _ w3 ⟨ad3, n3, cap3, rfl, hG3, m3, hZ3⟩; obtain ⟨p1, p2, m0⟩ := boxes m3; have hA3 := hG3.at; obtain rfl : n3 = no := hA3.len.trans hno.out.symm; have HG3 : Hid (GrowC w w3 (.slice ad3 n3 cap3) C) := hG3.elder (((Moves.refl [] w).alloc _).alloc _); clear hG3) | (go_at_call 36; refine (find_w w3 _ _ C s ⟨_, rfl, hA3⟩ ((Moves.refl _ _).alloc _) hC1).mono ?_; rintro _ w4 ⟨rfl, m4⟩; rw [hix.out, HH.out]; obtain ⟨q1, mq⟩ := boxesW m4; obtain ⟨h0, h1⟩ := one_cell q1; have c4 := mq.at p2 (by simp); have HG4 : Hid (GrowC w w4 (.slice ad3 n3 cap3) C) := HG3.out.moves0 mq; have M4 : Moves [] w w4 := m0.then mq; obtain ⟨f0, f1⟩ := one_cell c4))
    try simp only [Exit.inBlock, Exit.then]
    rw [he.out]
    exact bodyPost_ret (ret_row rfl _ _ _ _ rfl (set_one c4 _)) rfl ⟨_, _, _, rfl, (HG4.out.setRow c4 _).at, M4.setCell (.inr (by show _ ≤ _ + 1; omega)) _⟩
  | true =>
    have HH : Hid (phas C s = true) := hhas
    obtain ⟨hx, hpr⟩ := phas_at HCr.out hhas
    have hset0 := fun l hl => phas_set HCr.out hhas (l := l) hl
    rw [hix.out] at hx hset0
    have hvl := (prightV_two hpr).2
    have hdc : pDropCol C s = pwith C s [] := by unfold pDropCol; rw [pcopy_of HCr.out, hCC]
    obtain ⟨V, hVq⟩ : ∃ V, Hid (pvers C s = V) := ⟨_, rfl⟩
    rw [hVq.out] at hx hvl HA
    have HX : Hid (C[ix]? = some ⟨s, V⟩) := hx
    have HSet : Hid (∀ l, l ≠ [] → C.set ix ⟨s, l⟩ = pwith C s l) := hset0
    have HDC : Hid (pDropCol C s = pwith C s []) := hdc
    have hixn : ix < no := by
      have := (List.getElem?_eq_some_iff.1 hx).1
      have := hno.out
      omega
    have hix3 : (ix : Int) < no := by omega
    have HPos : Hid (0 < C.length) := by unfold Hid; have := hno.out; omega
    clear hhas hx hpr hset0 hdc hCC
    go_enter Try.func59, Try.ntmps59
    go_wp2_with (first | (go_at_call 35; refine (hC _ hm).mono ?_; rintro _ w3 ⟨ad3, n3, cap3, rfl, hG3, m3, hZ3⟩; obtain ⟨p1, p2, m0⟩ := boxes m3; have hA3 := hG3.at; obtain rfl : n3 = no := hA3.len.trans hno.out.symm; have HG3 : Hid (GrowC w w3 (.slice ad3 n3 cap3) C) := hG3.elder (((Moves.refl [] w).alloc _).alloc _); clear hG3) | (go_at_call 36; refine (find_w w3 _ _ C s ⟨_, rfl, hA3⟩ ((Moves.refl _ _).alloc _) hC1).mono ?_; rintro _ w4 ⟨rfl, m4⟩; rw [hix.out, HH.out]; obtain ⟨q1, mq⟩ := boxesW m4; obtain ⟨h0, h1⟩ := one_cell q1; have c4 := mq.at p2 (by simp); have HG4 : Hid (GrowC w w4 (.slice ad3 n3 cap3) C) := HG3.out.moves0 mq; have M4 : Moves [] w w4 := m0.then mq; obtain ⟨f0, f1⟩ := one_cell c4; obtain ⟨gl, nl, capl, arr, e, hnl, hcapl, hgl, hWgl, hcells⟩ := HG4.out.own HPos.out; simp only [Value.slice.injEq] at e; obtain ⟨rfl, rfl, rfl⟩ := e; obtain ⟨ao, no', co, k0, k1, hVo, hno0, hfz⟩ := hcells ix ⟨s, V⟩ HX.out))
    have hne1 : ¬ gl = w3.heap.size := fun h => (by rw [h, q1] at hgl; simp at hgl)
    have hne3 : ¬ gl = w.heap.size + 1 := fun h => (by rw [h, c4] at hgl; simp at hgl)
    have hpbw : w.heap.size + 1 < w3.heap.size := lt_of_block p2
    obtain ⟨pb, hpb⟩ : ∃ pb, w3.heap.size = pb := ⟨_, rfl⟩
    rw [hpb] at q1 hpbw h0 hne1 ⊢
    have hne2 : ¬ pb = gl := fun h => hne1 h.symm
    have hne4 : ¬ w.heap.size + 1 = gl := fun h => hne3 h.symm
    have hne5 : ¬ pb = w.heap.size + 1 := by omega
    have hne6 : ¬ w.heap.size + 1 = pb := by omega
    have HVo : Hid (VersAt w4 (.slice ao no' co) V) := hVo
    have hno' : Hid (no' = V.length) := hno0
    have hno2 : no' ≤ 2 := by have := hno'.out; omega
    have hMz : Moves [] w w4 := M4
    obtain ⟨wz, hwz⟩ : ∃ wz, wz = w4 := ⟨_, rfl⟩
    subst hwz
    clear hpb hC hA3 HG3 m4 mq m3 p1 p2 h1 hVo hno0 hZ3 M4 m0 f0 f1 hcells
    go_loopw [10, 11] (fun l k wq => ∃ j2 : Nat, j2 ≤ no' ∧ k = .int .i64 j2 ∧ Moves [] wz wq ∧ GrowV wz wq l ((V.take j2).filter (fun y => y.t != t))) (fun _ k _ => no' - (intOf k).toNat)
    case atStart => exact ⟨0, Nat.zero_le _, rfl, Moves.refl _ _, by simpa using GrowV.nil _ _⟩
    case round =>
      obtain ⟨j2, hj2, rfl, mq, hGV⟩ := hrel
      obtain ⟨L2, hL2⟩ : ∃ L2, Hid ((V.take j2).filter (fun y => y.t != t) = L2) := ⟨_, rfl⟩
      rw [hL2.out] at hGV
      obtain ⟨ad8, n8, cap8, rfl, hn8⟩ := hGV.open
      have HGV : Hid (GrowV wz wr (.slice ad8 n8 cap8) L2) := hGV
      have hL2l : L2.length ≤ 100 := by
        rw [← hL2.out]
        have h1 := List.length_filter_le (fun y : Pver => y.t != t) (V.take j2)
        have h2 := List.length_take_le j2 V
        omega
      have b0 := mq.cell h0
      have b1 := mq.cell k1
      clear hGV
      by_cases hjt : j2 < no'
      · have hj3 : (j2 : Int) < no' := by omega
        obtain ⟨y2, hy2⟩ : ∃ y, V[j2]? = some y := ⟨_, List.getElem?_eq_getElem (by have := hno'.out; omega)⟩
        have hft := filter_take (fun y : Pver => y.t != t) hy2
        obtain ⟨go2, offo2, a6, n6, c6, eo, v0, v1, v2, v3, hV6⟩ := HVo.out.at hy2
        first | subst eo | (simp only [Option.some.injEq, Addr.mk.injEq, and_true] at eo; obtain ⟨rfl, rfl⟩ := eo)
        have d0 := mq.cell v0
        have d1 := mq.cell v1
        have d2 := mq.cell v2
        have d3 := mq.cell v3
        clear v0 v1 v2 v3
        cases hq : (y2.t != t) with
        | false =>
          rw [hq] at hft
          have HF : Hid ((V.take (j2 + 1)).filter (fun y => y.t != t) = L2) := by unfold Hid; rw [hft, ← hL2.out]; simp
          have hxt : Hid (y2.t = t) := by unfold Hid; simpa using hq
          rw [hxt.out] at d0
          clear hft hq
          go_wp2_with fail
          go_roundw
          case rel => exact ⟨j2 + 1, by omega, by go_num, mq, by rw [HF.out]; exact HGV.out⟩
          case measure => simp [intOf]; omega
        | true =>
          rw [hq] at hft
          have HF : Hid ((V.take (j2 + 1)).filter (fun y => y.t != t) = L2 ++ [y2]) := by unfold Hid; rw [hft, ← hL2.out]; simp
          have hxt : ¬ y2.t = t := by simpa using hq
          have hvn := vers_new wr (.int .i64 y2.t) _ _ _ y2 ⟨_, rfl, hV6.moves mq⟩
          have ma : Moves [] wr (wr.alloc (.cells #[.int .i64 y2.t, .int .i64 y2.v.kind, .slice a6 n6 c6, .float .f64 y2.v.n] 79)) := (Moves.refl _ _).alloc _
          have hG1 := HGV.out.moves0 ma
          have hM1 := mq.then ma
          have hbd : L2.length + [y2].length ≤ 1048576 := by simp; omega
          clear hft hq
          go_wp2_with (at_builtin; refine growV_append (.tmp 46) (.tmp 56) rfl _ _ _ [y2] rfl rfl (by rfl) hG1 hvn hM1 hbd ?_; intro v9 w9 hG9 M9 m9 s9 l9; have hsl := hG9.open; obtain ⟨ad9, n9, cap9, rfl, hn9⟩ := hsl)
          go_roundw
          case rel => exact ⟨j2 + 1, by omega, by go_num, M9, by rw [HF.out]; exact hG9⟩
          case measure => simp [intOf]; omega
      · have hj3 : ¬ (j2 : Int) < no' := by omega
        obtain rfl : j2 = no' := by omega
        have hrl : L2 = pdrop V t := by
          unfold pdrop
          rw [← hL2.out, hno'.out, List.take_length]
        by_cases h0l : n8 = 0
        · have he : Hid (A = pDropCol C s) := by
            have e2 : pdrop V t = [] := by rw [← hrl]; exact List.eq_nil_of_length_eq_zero (by rw [← hn8.out]; exact h0l)
            unfold Hid
            rw [HA.out, e2, HDC.out]
          have hD := fun w1 (m1 : Moves [] wz w1) => refDropCol_yes wz w1 (.agg #[.slice (some ⟨gl, 0, none⟩) n3 cap3]) C s ⟨_, rfl, HG4.out.at⟩ m1 HCr.out
          rw [← he.out] at hD
          subst h0l
          clear hrl
          go_wp2_with (go_at_call 60; refine (hD _ mq).mono ?_; rintro _ w5 ⟨ad5, n5, cap5, rfl, hr5, m5⟩; have c5 := (mq.then m5).at c4 (by simp); obtain ⟨f0, f1⟩ := one_cell c5)
          try simp only [Exit.inBlock, Exit.then]
          obtain ⟨_, er, hcols⟩ := RowAt.setRow ⟨_, rfl, hr5⟩ c5 (.slice ad5 n5 cap5)
          simp only [Value.agg.injEq, Array.mk.injEq, List.cons.injEq, and_true] at er
          subst er
          exact bodyPost_ret (ret_row rfl _ _ _ _ rfl (set_one c5 _)) rfl ⟨_, _, _, rfl, hcols, ((hMz.then mq).then m5).setCell (.inr (by show _ ≤ _ + 1; omega)) _⟩
        · have he : C.set ix ⟨s, L2⟩ = A := by
            rw [HSet.out L2 (fun e => h0l (by rw [hn8.out, e]; rfl)), HA.out, hrl]
          have hset := (HG4.out.moves0 mq).set HX.out HGV.out.at
          rw [he] at hset
          have hgq := mq.at hgl (by simp)
          have hst := heap_set (i := ix * 2 + 1) hgq (.slice ad8 n8 cap8)
          have hcq := (moves_set wr gl (ix * 2 + 1) (.slice ad8 n8 cap8)).at (mq.at c4 (by simp)) (by simp; omega)
          obtain ⟨o2, _⟩ := one_cell ((moves_set wr gl (ix * 2 + 1) (.slice ad8 n8 cap8)).at (mq.at q1 (by simp)) (by simp; omega))
          obtain ⟨o3, o4⟩ := one_cell hcq
          have o5 := mq.frozenOf k1 (by simp) hfz
          have h0i : ¬ (n8 : Int) = 0 := by omega
          clear hrl he
          go_wp2_with fail
          try simp only [Exit.inBlock, Exit.then]
          have hrow : RowAt _ (.agg #[.slice (some ⟨gl, 0, none⟩) n3 cap3]) _ := RowAt.setRow ⟨_, rfl, hset⟩ hcq (.slice (some ⟨gl, 0, none⟩) n3 cap3)
          obtain ⟨_, er, hcols⟩ := hrow
          simp only [Value.agg.injEq, Array.mk.injEq, List.cons.injEq, and_true] at er
          subst er
          exact bodyPost_ret (ret_row rfl _ _ _ _ rfl (set_one hcq _)) rfl ⟨_, _, _, rfl, hcols, ((hMz.then mq).setCell (.inr hWgl) _).setCell (.inr (by show _ ≤ _ + 1; omega)) _⟩
end Go.Proofs.Ytbeobeedgeohlaa
