/-
  Package change: Apply: for every row and every list of changes the call returns what the chapter says, and writes nothing that was there.
-/
import Derived.Test.YtfegflimnngfaabCChg2
namespace Go.Proofs.Ytfegflimnngfaab
open Go.RowKit

theorem cFold_nil (R : List Pcol) : cFold [] R = (0, R) := rfl
theorem cFold_cons (c : Pchg) (cs : List Pchg) (R : List Pcol) : cFold (c :: cs) R = if cApE R c = 0 then cFold cs (cAp R c) else (cApE R c, []) := rfl
theorem cRight_kind {c : Pchg} (h : cRight c = 0) : 1 ≤ c.kind ∧ c.kind ≤ 5 := by
  unfold cRight at h
  by_cases hk : ¬ (1 ≤ c.kind ∧ c.kind ≤ 5)
  · rw [if_pos hk] at h
    simp at h
  · simpa using hk
theorem cListE_all {cs : List Pchg} (h : cListE cs = 0) : cs.length ≤ 8 ∧ ∀ c ∈ cs, cRight c = 0 := by
  unfold cListE at h
  by_cases h8 : 8 < cs.length
  · rw [if_pos h8] at h
    simp at h
  · rw [if_neg h8] at h
    refine ⟨by omega, fun c hc => ?_⟩
    cases hf : (cs.map cRight).find? (fun e => e != 0) with
    | none =>
      have := List.find?_eq_none.1 hf (cRight c) (List.mem_map.2 ⟨c, hc, rfl⟩)
      simpa using this
    | some e =>
      rw [hf] at h
      have := List.find?_some hf
      simp at h this
      exact absurd h this

set_option maxRecDepth 100000 in
set_option maxHeartbeats 8000000 in
theorem cApply_w (W w : World) (v : Value) (R : List Pcol) (ad : Option Addr) (n cap : Nat) (cs : List Pchg) (h : RowAt W v R) (hc : ChgsAt W ad cs) (hn : n = cs.length) (hsm : n ≤ 1048576) (m : Moves [] W w) :
    Calls Try.prog 8 #[v, .slice ad n cap] w fun e w' => ∃ ad n cap, e = .returned (.tuple #[.agg #[.slice ad n cap], .int .i64 (cApplyE R cs)]) ∧ ColsAt w' (.slice ad n cap) (cApply R cs) ∧ Moves [] w w' := by
  have hL := fun w1 (m1 : Moves [] W w1) => rightList_w W w1 ad n cap cs hc hn hsm m1
  have hC := fun w1 (m1 : Moves [] W w1) => copy_w W w1 v R h m1
  obtain ⟨lv, rfl, hl⟩ := h
  obtain ⟨adr, capr, elv, _⟩ := hl.slice
  obtain ⟨nr, hnr⟩ : ∃ nr, Hid (nr = R.length) := ⟨_, rfl⟩
  rw [← hnr.out] at elv
  subst elv
  obtain ⟨L, hLq⟩ : ∃ L, Hid (cListE cs = L) := ⟨_, rfl⟩
  rw [hLq.out] at hL
  obtain ⟨E, hE⟩ : ∃ E, Hid (cApplyE R cs = E) := ⟨_, rfl⟩
  obtain ⟨P, hP⟩ : ∃ P, Hid (cApply R cs = P) := ⟨_, rfl⟩
  rw [hE.out, hP.out]
  have hEq := hE.out
  have hPq := hP.out
  unfold cApplyE at hEq
  unfold cApply at hPq
  rw [hLq.out] at hEq hPq
  have HN : Hid (n = cs.length) := hn
  have HW : Hid (Moves [] W w) := m
  have HC := hc
  obtain ⟨w1, hw1⟩ : ∃ w1, (w.alloc (.cells #[.slice adr nr capr] 25)).alloc (.cells #[.slice none 0 0] 25) = w1 := ⟨_, rfl⟩
  obtain ⟨b1, b2, bm⟩ := boxes (Moves.refl [] ((w.alloc (.cells #[.slice adr nr capr] 25)).alloc (.cells #[.slice none 0 0] 25)))
  rw [hw1] at b1 b2 bm
  have hm := m.then bm
  obtain ⟨r0, _⟩ := one_cell b1
  clear hl m hn hc
  by_cases hL0 : L = 0
  · rw [if_pos hL0] at hEq hPq
    subst hL0
    obtain ⟨h8, hall⟩ := cListE_all hLq.out
    have HALL : Hid (∀ c ∈ cs, cRight c = 0) := hall
    have HE : Hid ((cFold cs (pcopy R)).1 = E) := hEq
    have HP : Hid ((cFold cs (pcopy R)).2 = P) := hPq
    clear hEq hPq hall h8
    go_enter Try.func8, Try.ntmps8
    go_wp2_with (first | (go_at_call 21; refine (hL _ hm).mono ?_; rintro _ w2 ⟨rfl, m2⟩; have r2 := m2.cell r0) | (go_at_call 22; refine (hC _ (hm.then m2)).mono ?_; rintro _ w3 ⟨lv, rfl, hG, m3⟩; have HG : Hid (RowAt w3 (.agg #[lv]) (pcopy R)) := ⟨_, rfl, hG.at⟩; obtain ⟨ad3, n3, cap3, rfl, _⟩ := hG.open; clear hG))
    obtain ⟨w4, hw4⟩ : ∃ w4, w3.alloc (.cells #[.slice ad3 n3 cap3] 25) = w4 := ⟨_, rfl⟩
    have m4 : Moves [] w3 w4 := by rw [← hw4]; exact (Moves.refl _ _).alloc _
    have q4 : w4.heap[w3.heap.size]? = some (.cells #[.slice ad3 n3 cap3] 25 (0, 0)) := by rw [← hw4]; exact heap_alloc_new _ _
    have hlo : w.heap.size + 1 < w3.heap.size := lt_of_block ((m2.then m3).at b2 (by simp))
    obtain ⟨po, hpo⟩ : ∃ po, w3.heap.size = po := ⟨_, rfl⟩
    rw [hpo] at q4 hlo
    have M4 := (m2.then m3).then m4
    have q2 := M4.at b2 (by simp)
    have HG4 := HG.out.moves m4
    try rw [hw4]
    try rw [hpo]
    clear hw4 hw1 HG hC hL
    go_loopw [22] (fun i wr => ∃ (k : Nat) (lv : Value) (Q : List Pcol), k ≤ n ∧ i = .int .i64 k ∧ Moves [] w1 wr ∧ wr.heap[w.heap.size + 1]? = some (.cells #[.slice none 0 0] 25 (0, 0)) ∧ wr.heap[po]? = some (.cells #[lv] 25 (0, 0)) ∧ RowAt wr (.agg #[lv]) Q ∧ cFold (cs.drop k) Q = cFold cs (pcopy R)) (fun i _ => n - (intOf i).toNat)
    case atStart => exact ⟨0, _, pcopy R, Nat.zero_le _, rfl, M4, q2, q4, HG4, by simp⟩
    case round =>
      obtain ⟨k, lv, Q, hk, rfl, mr, p2, p4, hQ, hF⟩ := hrel
      have HF : Hid (cFold (cs.drop k) Q = cFold cs (pcopy R)) := hF
      obtain ⟨_, elv, hCq⟩ := id hQ
      simp at elv
      subst elv
      obtain ⟨adq, capq, elv, _⟩ := hCq.slice
      obtain ⟨nq, hnq⟩ : ∃ nq, Hid (nq = Q.length) := ⟨_, rfl⟩
      rw [← hnq.out] at elv
      subst elv
      have HQ : Hid (RowAt wr (.agg #[.slice adq nq capq]) Q) := hQ
      obtain ⟨s0, s1⟩ := one_cell p4
      obtain ⟨t0, t1⟩ := one_cell p2
      clear hQ hCq hF q2 q4 HG4
      by_cases hlt : k < n
      · have hk3 : (k : Int) < n := by omega
        obtain ⟨c, hc⟩ : ∃ c, cs[k]? = some c := ⟨_, List.getElem?_eq_getElem (by rw [← HN.out]; exact hlt)⟩
        obtain ⟨g, off, a, n2, c2, rfl, e0, e1, e2, e3, e4, e5, hv⟩ := HC k c hc
        have MR := (HW.out.then bm).then mr
        have d0 := MR.cell e0
        have d1 := MR.cell e1
        have d2 := MR.cell e2
        have d3 := MR.cell e3
        have d4 := MR.cell e4
        have d5 := MR.cell e5
        have hdr : cs.drop k = c :: cs.drop (k + 1) := by
          have hkl := (List.getElem?_eq_some_iff.1 hc).1
          rw [List.drop_eq_getElem_cons hkl, (List.getElem?_eq_some_iff.1 hc).2]
        have hkd := cRight_kind (HALL.out c (List.mem_of_getElem? hc))
        have hFc := HF.out
        rw [hdr, cFold_cons] at hFc
        have HVc : Hid (VA wr [.int .i64 c.v.kind, .slice a n2 c2, .float .f64 c.v.n] c.v) := hv.moves MR
        have mb : Moves [] wr (wr.alloc (.cells #[.int .i64 c.kind, .string c.col, .int .i64 c.t, .int .i64 c.v.kind, .slice a n2 c2, .float .f64 c.v.n] 37)) := (Moves.refl _ _).alloc _
        obtain ⟨i0, i1, i2, i3, i4, i5⟩ := six_cells (heap_alloc_new wr (.cells #[.int .i64 c.kind, .string c.col, .int .i64 c.t, .int .i64 c.v.kind, .slice a n2 c2, .float .f64 c.v.n] 37))
        have hA := cApply1_w wr (wr.alloc (.cells #[.int .i64 c.kind, .string c.col, .int .i64 c.t, .int .i64 c.v.kind, .slice a n2 c2, .float .f64 c.v.n] 37)) (.agg #[.slice adq nq capq]) Q c a n2 c2 HQ.out HVc.out mb hkd
        have sb := mb.cell s0
        obtain ⟨A, hAq⟩ : ∃ A, cApE Q c = A := ⟨_, rfl⟩
        obtain ⟨B, hBq⟩ : ∃ B, cAp Q c = B := ⟨_, rfl⟩
        rw [hAq, hBq] at hA hFc
        clear e0 e1 e2 e3 e4 e5 hc hv hdr hkd hAq hBq MR
        by_cases hA0 : A = 0
        · rw [if_pos hA0] at hFc
          subst hA0
          have HFc : Hid (cFold (cs.drop (k + 1)) B = cFold cs (pcopy R)) := hFc
          clear hFc
          go_wp2_with (go_at_call 23; refine hA.mono ?_; rintro _ w7 ⟨ad7, n7, cap7, rfl, hc7, m7⟩; have HC7 : Hid (RowAt w7 (.agg #[.slice ad7 n7 cap7]) B) := ⟨_, rfl, hc7⟩; clear hc7; have mx : Moves [] w7 (w7.alloc (.cells #[.slice ad7 n7 cap7] 25)) := (Moves.refl _ _).alloc _; have M7 := mb.then (m7.then mx); have p47 := M7.at p4 (by simp); obtain ⟨y0, y1⟩ := one_cell p47; obtain ⟨z0, _⟩ := one_cell (heap_alloc_new w7 (.cells #[.slice ad7 n7 cap7] 25)); have hne : ¬ w7.heap.size = po := (by have := lt_of_block ((mb.then m7).at p4 (by simp)); omega); have hne' : ¬ po = w7.heap.size := (by omega))
          go_roundw
          case rel => exact ⟨k + 1, _, B, by omega, by go_num, (mr.then M7).setCell (.inr (by show w1.heap.size ≤ po; rw [← hpo]; exact (m2.then m3).size)) _, (moves_set _ _ _ _).at (M7.at p2 (by simp)) (by simp; omega), set_one p47 _, (HC7.out.moves mx).setRow p47 _, HFc.out⟩
          case measure => simp [intOf]; omega
        · rw [if_neg hA0] at hFc
          have hEA : A = E := by have := HE.out; rw [← hFc] at this; exact this
          have hPA : [] = P := by have := HP.out; rw [← hFc] at this; exact this
          subst hEA hPA
          clear hFc
          go_wp2_with (go_at_call 23; refine hA.mono ?_; rintro _ w7 ⟨ad7, n7, cap7, rfl, hc7, m7⟩; have mx : Moves [] w7 (w7.alloc (.cells #[.slice ad7 n7 cap7] 25)) := (Moves.refl _ _).alloc _; have M7 := mb.then (m7.then mx); have p27 := M7.at p2 (by simp); obtain ⟨y0, y1⟩ := one_cell p27)
          try simp only [Exit.inBlock, Exit.then]
          exact bodyPost_ret (ret_row2 rfl _ _ _ _ rfl (set_one p27 _)) rfl ⟨_, _, _, rfl, ColsAt.nil _, ((bm.then mr).then M7).setCell (.inr (by show _ ≤ _ + 1; omega)) _⟩
      · have hk3 : ¬ (k : Int) < n := by omega
        obtain rfl : k = n := by omega
        have hFc := HF.out
        rw [HN.out, List.drop_length, cFold_nil] at hFc
        have hEA : 0 = E := by have := HE.out; rw [← hFc] at this; exact this
        have hPA : Q = P := by have := HP.out; rw [← hFc] at this; exact this
        subst hEA hPA
        clear hFc
        go_wp2_with fail
        try simp only [Exit.inBlock, Exit.then]
        obtain ⟨_, er, hcols⟩ := HQ.out.setRow p2 (.slice adq nq capq)
        simp only [Value.agg.injEq, Array.mk.injEq, List.cons.injEq, and_true] at er
        subst er
        exact bodyPost_ret (ret_row2 rfl _ _ _ _ rfl (set_one p2 _)) rfl ⟨_, _, _, rfl, hcols, (bm.then mr).setCell (.inr (by show _ ≤ _ + 1; omega)) _⟩
  · rw [if_neg hL0] at hEq hPq
    subst hEq hPq
    go_enter Try.func8, Try.ntmps8
    go_wp2_with (go_at_call 21; refine (hL _ hm).mono ?_; rintro _ w2 ⟨rfl, m2⟩; have r2 := m2.cell r0; have c2 := m2.at b2 (by simp); obtain ⟨f0, f1⟩ := one_cell c2)
    try simp only [Exit.inBlock, Exit.then]
    exact bodyPost_ret (ret_row2 rfl _ _ _ _ rfl (set_one c2 _)) rfl ⟨_, _, _, rfl, ColsAt.nil _, (bm.then m2).setCell (.inr (by show _ ≤ _ + 1; omega)) _⟩
end Go.Proofs.Ytfegflimnngfaab
