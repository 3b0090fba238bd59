/-
  The document's own Apply of a row that may be: it says what the program's says.
-/
import Derived.Test.YtbeobeedgeohlaaCBaseK
import Derived.Test.YtbeobeedgeohlaaCSum5
import Derived.Test.YtbeobeedgeohlaaCRef8
import Derived.Test.YtbeobeedgeohlaaCMade4
namespace Go.Proofs.Ytbeobeedgeohlaa
open Go.RowKit

theorem cApE_1 {R : List Pcol} {c : Pchg} (h : c.kind = 1) : cApE R c = pPutE R c.col c.t c.v := by unfold cApE; rw [if_pos h]
theorem cApE_2 {R : List Pcol} {c : Pchg} (h : c.kind = 2) : cApE R c = 0 := by unfold cApE; rw [if_neg (by omega), if_neg (by omega)]
theorem cApE_3 {R : List Pcol} {c : Pchg} (h : c.kind = 3) : cApE R c = 0 := by unfold cApE; rw [if_neg (by omega), if_neg (by omega)]
theorem cApE_4 {R : List Pcol} {c : Pchg} (h : c.kind = 4) : cApE R c = 0 := by unfold cApE; rw [if_neg (by omega), if_neg (by omega)]
theorem cApE_5 {R : List Pcol} {c : Pchg} (h : c.kind = 5) : cApE R c = cAddE R c := by unfold cApE; rw [if_neg (by omega), if_pos h]
theorem cAp_1 {R : List Pcol} {c : Pchg} (h : c.kind = 1) : cAp R c = pPut R c.col c.t c.v := by unfold cAp; rw [if_pos h]
theorem cAp_2 {R : List Pcol} {c : Pchg} (h : c.kind = 2) : cAp R c = pDrop R c.col c.t := by unfold cAp; rw [if_neg (by omega), if_pos h]
theorem cAp_3 {R : List Pcol} {c : Pchg} (h : c.kind = 3) : cAp R c = pDropCol R c.col := by unfold cAp; rw [if_neg (by omega), if_neg (by omega), if_pos h]
theorem cAp_4 {R : List Pcol} {c : Pchg} (h : c.kind = 4) : cAp R c = [] := by unfold cAp; rw [if_neg (by omega), if_neg (by omega), if_neg (by omega), if_neg (by omega)]
theorem cAp_5 {R : List Pcol} {c : Pchg} (h : c.kind = 5) : cAp R c = cAdd R c := by unfold cAp; rw [if_neg (by omega), if_neg (by omega), if_neg (by omega), if_pos h]
theorem cAp_right (R : List Pcol) (c : Pchg) : pright (cAp R c) = true := by
  unfold cAp
  split
  · exact pPut_right _ _ _ _
  · split
    · exact pDrop_right _ _ _
    · split
      · exact pDropCol_right _ _
      · split
        · unfold cAdd
          split
          · exact pPut_right _ _ _ _
          · exact pright_nil
        · exact pright_nil
theorem cFold_right (cs : List Pchg) (R : List Pcol) (h : pright R = true) : pright (cFold cs R).2 = true := by
  induction cs generalizing R with
  | nil => exact h
  | cons c cs ih =>
    rw [cFold_cons]
    split
    · exact ih _ (cAp_right R c)
    · exact pright_nil
theorem cApply_right (R : List Pcol) (cs : List Pchg) : pright (cApply R cs) = true := by
  unfold cApply
  split
  · exact cFold_right _ _ (pcopy_right R)
  · exact pright_nil
theorem pPlus_vc (w : World) (p q : Pv) : VC w [.int .i64 (pPlus p q).kind, .slice none 0 0, .float .f64 (pPlus p q).n] (pPlus p q) := by
  have hf : Pl.Fits (pPlus p q).n := by
    unfold pPlus
    split
    · exact fits_sum _ _
    · exact fits_zero
  have hb0 : (pPlus p q).bs = [] := by unfold pPlus; split <;> rfl
  exact ⟨none, 0, 0, 0, rfl, by rw [hb0]; exact isB_nil _ _, hf, by rw [hb0]; simp, by rw [hb0]; simp, .inl hb0⟩

set_option maxRecDepth 100000 in
set_option maxHeartbeats 16000000 in
theorem rfApply_w (W w : World) (v : Value) (R : List Pcol) (ad : Option Addr) (n cap : Nat) (cs : List Pchg) (h : RowAt W v R) (hr : pright R = true) (hc : ChgsAt W ad cs) (hn : n = cs.length) (hsm : n ≤ 1048576) (m : Moves [] W w) :
    Calls Try.prog 39 #[v, .slice ad n cap] w fun e w' => ∃ ad n cap, e = .returned (.tuple #[.agg #[.slice ad n cap], .int .i64 (cApplyE R cs)]) ∧ ColsAt w' (.slice ad n cap) (cApply R cs) ∧ Moves [] w w' := by
  have hC := fun w1 (m1 : Moves [] W w1) => refCopy_yes W w1 v R h m1 hr
  rw [← pcopy_of hr] at hC
  obtain ⟨lv, rfl, hl⟩ := h
  obtain ⟨adr, capr, elv, _⟩ := hl.slice
  obtain ⟨nr, hnr⟩ : ∃ nr, Hid (nr = R.length) := ⟨_, rfl⟩
  rw [← hnr.out] at elv
  subst elv
  obtain ⟨L, hLq⟩ : ∃ L, Hid (cListE cs = L) := ⟨_, rfl⟩
  obtain ⟨E, hE⟩ : ∃ E, Hid (cApplyE R cs = E) := ⟨_, rfl⟩
  obtain ⟨P, hP⟩ : ∃ P, Hid (cApply R cs = P) := ⟨_, rfl⟩
  rw [hE.out, hP.out]
  have hEq := hE.out
  have hPq := hP.out
  unfold cApplyE at hEq
  unfold cApply at hPq
  rw [hLq.out] at hEq hPq
  have HN : Hid (n = cs.length) := hn
  have HW : Hid (Moves [] W w) := m
  have HC := hc
  have HRT : Hid (pright (pcopy R) = true) := pcopy_right R
  obtain ⟨w1, hw1⟩ : ∃ w1, (w.alloc (.cells #[.slice adr nr capr] 36)).alloc (.cells #[.slice none 0 0] 36) = w1 := ⟨_, rfl⟩
  obtain ⟨b1, b2, bm⟩ := boxes (Moves.refl [] ((w.alloc (.cells #[.slice adr nr capr] 36)).alloc (.cells #[.slice none 0 0] 36)))
  rw [hw1] at b1 b2 bm
  have hm := m.then bm
  obtain ⟨r0, _⟩ := one_cell b1
  obtain ⟨rb0, rb1⟩ := one_cell b2
  have HEq : Hid ((if L = 0 then (cFold cs (pcopy R)).1 else L) = E) := by
    unfold Hid
    by_cases h0 : L = 0
    · rw [if_pos h0] at hEq ⊢; exact hEq
    · rw [if_neg h0] at hEq ⊢; exact hEq
  have HPq : Hid ((if L = 0 then (cFold cs (pcopy R)).2 else []) = P) := hPq
  clear hl m hc hr hEq hPq
  by_cases h8 : 8 < n
  · have hL3 : L = 3 := by rw [← hLq.out]; unfold cListE; rw [if_pos (by rw [← hn]; exact h8)]
    have hE3 : 3 = E := by have := HEq.out; rw [hL3] at this; exact this
    have hP3 : [] = P := by have := HPq.out; rw [hL3] at this; exact this
    subst hE3 hP3
    have h8' : (8 : Int) < n := by omega
    clear hn hL3
    go_enter Try.func39, Try.ntmps39
    go_wp2_with fail
    try simp only [Exit.inBlock, Exit.then]
    exact bodyPost_ret (ret_row2 rfl _ _ _ _ rfl (set_one b2 _)) rfl ⟨_, _, _, rfl, ColsAt.nil _, bm.setCell (.inr (by show _ ≤ _ + 1; omega)) _⟩
  · have h8' : ¬ (8 : Int) < n := by omega
    have h8l : Hid (¬ 8 < cs.length) := by unfold Hid; rw [← hn]; exact h8
    clear hn
    go_enter Try.func39, Try.ntmps39
    go_wp2_with fail
    try rw [hw1]
    go_loopw [6] (fun i wr => ∃ k : Nat, k ≤ n ∧ i = .int .i64 k ∧ Moves [] w1 wr ∧ ∀ j c, j < k → cs[j]? = some c → cRight c = 0) (fun i _ => n - (intOf i).toNat)
    case atStart => exact ⟨0, Nat.zero_le _, rfl, Moves.refl _ _, fun j c hj => absurd hj (by omega)⟩
    case round =>
      obtain ⟨k, hk, rfl, mr, hall⟩ := hrel
      have HA : Hid (∀ j c, j < k → cs[j]? = some c → cRight c = 0) := hall
      clear hall
      by_cases hlt : k < n
      · have hk3 : (k : Int) < n := by omega
        obtain ⟨c, hc⟩ : ∃ c, cs[k]? = some c := ⟨_, List.getElem?_eq_getElem (by rw [← HN.out]; exact hlt)⟩
        have hcc := HC k c hc
        obtain ⟨g, off, a, n2, c2, rfl, e0, e1, e2, e3, e4, e5, hv⟩ := hcc
        have MR := hm.then mr
        have d0 := MR.cell e0
        have d1 := MR.cell e1
        have d2 := MR.cell e2
        have d3 := MR.cell e3
        have d4 := MR.cell e4
        have d5 := MR.cell e5
        have HX : Hid (cs[k]? = some c) := hc
        have hR := rfRight5_w W wr c a n2 c2 hv MR
        have hS1 := (cListE_upto h8l.out HA.out).1 c hc
        have p2 := mr.at b2 (by simp)
        clear e0 e1 e2 e3 e4 e5 hc hv MR
        obtain ⟨F, hF⟩ : ∃ F, Hid (cRight c = F) := ⟨_, rfl⟩
        rw [hF.out] at hR hS1
        rw [hLq.out] at hS1
        by_cases hF0 : F = 0
        · subst hF0
          clear hS1
          go_wp2_with (go_at_call 58; refine hR.mono ?_; rintro _ w3 ⟨rfl, m3⟩)
          go_roundw
          case rel =>
            refine ⟨k + 1, by omega, by go_num, mr.then m3, fun j c' hj hc' => ?_⟩
            by_cases hjk : j = k
            · subst hjk
              rw [HX.out] at hc'
              simp at hc'
              rw [← hc']
              exact hF.out
            · exact HA.out j c' (by omega) hc'
          case measure => simp [intOf]; omega
        · obtain rfl := hS1 hF0
          have hE3 : L = E := by have := HEq.out; rw [if_neg hF0] at this; exact this
          have hP3 : [] = P := by have := HPq.out; rw [if_neg hF0] at this; exact this
          subst hE3 hP3
          go_wp2_with (go_at_call 58; refine hR.mono ?_; rintro _ w3 ⟨rfl, m3⟩; have p23 := m3.at p2 (by simp); obtain ⟨f0, f1⟩ := one_cell p23)
          try simp only [Exit.inBlock, Exit.then]
          exact bodyPost_ret (ret_row2 rfl _ _ _ _ rfl (set_one p23 _)) rfl ⟨_, _, _, rfl, ColsAt.nil _, (bm.then (mr.then m3)).setCell (.inr (by show _ ≤ _ + 1; omega)) _⟩
      · have hk3 : ¬ (k : Int) < n := by omega
        obtain rfl : n = k := by omega
        have hL0 := (cListE_upto h8l.out HA.out).2 HN.out
        rw [hLq.out] at hL0
        have HE : Hid ((cFold cs (pcopy R)).1 = E) := by unfold Hid; have := HEq.out; rw [if_pos hL0] at this; exact this
        have HP : Hid ((cFold cs (pcopy R)).2 = P) := by unfold Hid; have := HPq.out; rw [if_pos hL0] at this; exact this
        have HALL : Hid (∀ c ∈ cs, cRight c = 0) := (cListE_all (by rw [hLq.out]; exact hL0)).2
        have hmr := hm.then mr
        have r2 := mr.cell r0
        have m2 := mr
        go_wp2_with (go_at_call 35; refine (hC _ hmr).mono ?_; rintro _ w3 ⟨ad3, n3', cap3, rfl, hG, m3, _⟩; have HG : Hid (RowAt w3 (.agg #[.slice ad3 n3' cap3]) (pcopy R)) := ⟨_, rfl, hG.at⟩; clear hG)
        obtain ⟨w4, hw4⟩ : ∃ w4, w3.alloc (.cells #[.slice ad3 n3' cap3] 36) = w4 := ⟨_, rfl⟩
        have m4 : Moves [] w3 w4 := by rw [← hw4]; exact (Moves.refl _ _).alloc _
        have q4 : w4.heap[w3.heap.size]? = some (.cells #[.slice ad3 n3' cap3] 36 (0, 0)) := by rw [← hw4]; exact heap_alloc_new _ _
        have hlo : w.heap.size + 1 < w3.heap.size := lt_of_block ((m2.then m3).at b2 (by simp))
        have hl1 : w1.heap.size ≤ w3.heap.size := (m2.then m3).size
        obtain ⟨po, hpo⟩ : ∃ po, w3.heap.size = po := ⟨_, rfl⟩
        rw [hpo] at q4 hlo hl1
        have M4 := (m2.then m3).then m4
        have q2 := M4.at b2 (by simp)
        have HG4 := HG.out.moves m4
        try rw [hw4]
        try rw [hpo]
        clear hw4 hw1 HG hC hpo mr HA hk hlt r2 m2 m3 m4 hL0 HEq HPq
        go_loopw [9] (fun i wr => ∃ (k : Nat) (lv : Value) (Q : List Pcol), k ≤ n ∧ i = .int .i64 k ∧ Moves [] w1 wr ∧ wr.heap[w.heap.size + 1]? = some (.cells #[.slice none 0 0] 36 (0, 0)) ∧ wr.heap[po]? = some (.cells #[lv] 36 (0, 0)) ∧ RowAt wr (.agg #[lv]) Q ∧ pright Q = true ∧ cFold (cs.drop k) Q = cFold cs (pcopy R)) (fun i _ => n - (intOf i).toNat)
        case atStart => exact ⟨0, _, pcopy R, Nat.zero_le _, rfl, M4, q2, q4, HG4, HRT.out, by simp⟩
        case round =>
          obtain ⟨k, lv, Q, hk, rfl, mr, p2, p4, hQ, hQR, hF⟩ := hrel
          have HQR : Hid (pright Q = true) := hQR
          have HF : Hid (cFold (cs.drop k) Q = cFold cs (pcopy R)) := hF
          obtain ⟨_, elv, hCq⟩ := id hQ
          simp at elv
          subst elv
          obtain ⟨adq, capq, elv, _⟩ := hCq.slice
          obtain ⟨nq, hnq⟩ : ∃ nq, Hid (nq = Q.length) := ⟨_, rfl⟩
          rw [← hnq.out] at elv
          subst elv
          have HQ : Hid (RowAt wr (.agg #[.slice adq nq capq]) Q) := hQ
          obtain ⟨s0, s1⟩ := one_cell p4
          obtain ⟨t0, t1⟩ := one_cell p2
          clear hQ hCq hF q2 q4 HG4 hQR
          by_cases hlt : k < n
          · have hk3 : (k : Int) < n := by omega
            obtain ⟨c, hc⟩ : ∃ c, cs[k]? = some c := ⟨_, List.getElem?_eq_getElem (by rw [← HN.out]; exact hlt)⟩
            obtain ⟨g, off, a, n2, c2, rfl, e0, e1, e2, e3, e4, e5, hv⟩ := HC k c hc
            have MR := hm.then mr
            have d0 := MR.cell e0
            have d1 := MR.cell e1
            have d2 := MR.cell e2
            have d3 := MR.cell e3
            have d4 := MR.cell e4
            have d5 := MR.cell e5
            have hdr : cs.drop k = c :: cs.drop (k + 1) := by
              have hkl := (List.getElem?_eq_some_iff.1 hc).1
              rw [List.drop_eq_getElem_cons hkl, (List.getElem?_eq_some_iff.1 hc).2]
            have hkd := cRight_kind (HALL.out c (List.mem_of_getElem? hc))
            have hFc := HF.out
            rw [hdr, cFold_cons] at hFc
            have HVc : Hid (VA wr [.int .i64 c.v.kind, .slice a n2 c2, .float .f64 c.v.n] c.v) := hv.moves MR
            have mb : Moves [] wr (wr.alloc (.cells #[.int .i64 c.kind, .string c.col, .int .i64 c.t, .int .i64 c.v.kind, .slice a n2 c2, .float .f64 c.v.n] 84)) := (Moves.refl _ _).alloc _
            obtain ⟨i0, i1, i2, i3, i4, i5⟩ := six_cells (heap_alloc_new wr (.cells #[.int .i64 c.kind, .string c.col, .int .i64 c.t, .int .i64 c.v.kind, .slice a n2 c2, .float .f64 c.v.n] 84))
            have sb := mb.cell s0
            have HBR := cAp_right Q c
            clear e0 e1 e2 e3 e4 e5 hc hv hdr MR HF
            have hways : c.kind = 1 ∨ c.kind = 2 ∨ c.kind = 3 ∨ c.kind = 4 ∨ c.kind = 5 := by omega
            clear hkd
            rcases hways with hk' | hk' | hk' | hk' | hk'
            · rw [hk'] at d0 i0 mb i1 i2 i3 i4 i5 sb
              have hAq := cApE_1 (R := Q) hk'
              have hBq := cAp_1 (R := Q) hk'
              rw [hAq, hBq] at hFc
              rw [hBq] at HBR
              have HBe : Hid (pPut Q c.col c.t c.v = pPut Q c.col c.t c.v) := rfl
              obtain ⟨A, hA⟩ : ∃ A, pPutE Q c.col c.t c.v = A := ⟨_, rfl⟩
              obtain ⟨B, hB⟩ : ∃ B, pPut Q c.col c.t c.v = B := ⟨_, rfl⟩
              have HEc : Hid (pPutE Q c.col c.t c.v = A) := hA
              replace HBe : Hid (pPut Q c.col c.t c.v = B) := hB
              rw [hA, hB] at hFc
              rw [hB] at HBR
              have HB : Hid (pright B = true) := HBR
              clear hA hB hAq hBq HBR hk'
              by_cases hA0 : A = 0
              · rw [if_pos hA0] at hFc
                subst hA0
                have HFc : Hid (cFold (cs.drop (k + 1)) B = cFold cs (pcopy R)) := hFc
                clear hFc
                go_wp2_with (go_at_call 14; refine (refPut_p wr _ _ Q c.col c.t c.v.kind a n2 c2 c.v.n c.v HQ.out HVc.out mb HQR.out).mono ?_; rintro _ w7 ⟨ad7, n7, cap7, rfl, hc7, m7⟩; rw [HEc.out]; have HC7 : Hid (RowAt w7 (.agg #[.slice ad7 n7 cap7]) B) := ⟨_, rfl, (by rw [← HBe.out]; exact hc7)⟩; clear hc7; have M7 := mb.then m7; have p47 := M7.at p4 (by simp); obtain ⟨y0, y1⟩ := one_cell p47; have p27 := (moves_set w7 po 0 (.slice ad7 n7 cap7)).at (M7.at p2 (by simp)) (by simp; omega); obtain ⟨t0', t1'⟩ := one_cell p27)
                go_roundw
                case rel => exact ⟨k + 1, _, B, by omega, by go_num, (mr.then M7).setCell (.inr (by show w1.heap.size ≤ po; omega)) _, (moves_set _ _ _ _).at (M7.at p2 (by simp)) (by simp; omega), set_one p47 _, HC7.out.setRow p47 _, HB.out, HFc.out⟩
                case measure => simp [intOf]; omega
              · rw [if_neg hA0] at hFc
                have hEA : A = E := by have := HE.out; rw [← hFc] at this; exact this
                have hPA : [] = P := by have := HP.out; rw [← hFc] at this; exact this
                subst hEA hPA
                clear hFc
                go_wp2_with (go_at_call 14; refine (refPut_p wr _ _ Q c.col c.t c.v.kind a n2 c2 c.v.n c.v HQ.out HVc.out mb HQR.out).mono ?_; rintro _ w7 ⟨ad7, n7, cap7, rfl, hc7, m7⟩; rw [HEc.out]; have HC7 : Hid (RowAt w7 (.agg #[.slice ad7 n7 cap7]) B) := ⟨_, rfl, (by rw [← HBe.out]; exact hc7)⟩; clear hc7; have M7 := mb.then m7; have p47 := M7.at p4 (by simp); obtain ⟨y0, y1⟩ := one_cell p47; have p27 := (moves_set w7 po 0 (.slice ad7 n7 cap7)).at (M7.at p2 (by simp)) (by simp; omega); obtain ⟨t0', t1'⟩ := one_cell p27)
                try simp only [Exit.inBlock, Exit.then]
                exact bodyPost_ret (ret_row2 rfl _ _ _ _ rfl (set_one p27 _)) rfl ⟨_, _, _, rfl, ColsAt.nil _, (((bm.then mr).then M7).setCell (.inr (by show w.heap.size ≤ po; omega)) _).setCell (.inr (by show _ ≤ _ + 1; omega)) _⟩
            · rw [hk'] at d0 i0 mb i1 i2 i3 i4 i5 sb
              have hAq := cApE_2 (R := Q) hk'
              have hBq := cAp_2 (R := Q) hk'
              rw [hAq, hBq] at hFc
              rw [hBq] at HBR
              rw [if_pos rfl] at hFc
              obtain ⟨B, hB⟩ : ∃ B, pDrop Q c.col c.t = B := ⟨_, rfl⟩
              have HBe : Hid (pDrop Q c.col c.t = B) := hB
              rw [hB] at hFc HBR
              have HB : Hid (pright B = true) := HBR
              have HFc : Hid (cFold (cs.drop (k + 1)) B = cFold cs (pcopy R)) := hFc
              clear hB hFc hAq hBq HBR hk'
              go_wp2_with (go_at_call 59; refine (refDrop_yes wr _ _ Q c.col c.t HQ.out mb HQR.out).mono ?_; rintro _ w7 ⟨ad7, n7, cap7, rfl, hc7, m7⟩; have HC7 : Hid (RowAt w7 (.agg #[.slice ad7 n7 cap7]) B) := ⟨_, rfl, (by rw [← HBe.out]; exact hc7)⟩; clear hc7; have M7 := mb.then m7; have p47 := M7.at p4 (by simp); obtain ⟨y0, y1⟩ := one_cell p47; have p27 := (moves_set w7 po 0 (.slice ad7 n7 cap7)).at (M7.at p2 (by simp)) (by simp; omega); obtain ⟨t0', t1'⟩ := one_cell p27)
              go_roundw
              case rel => exact ⟨k + 1, _, B, by omega, by go_num, (mr.then M7).setCell (.inr (by show w1.heap.size ≤ po; omega)) _, (moves_set _ _ _ _).at (M7.at p2 (by simp)) (by simp; omega), set_one p47 _, HC7.out.setRow p47 _, HB.out, HFc.out⟩
              case measure => simp [intOf]; omega
            · rw [hk'] at d0 i0 mb i1 i2 i3 i4 i5 sb
              have hAq := cApE_3 (R := Q) hk'
              have hBq := cAp_3 (R := Q) hk'
              rw [hAq, hBq] at hFc
              rw [hBq] at HBR
              rw [if_pos rfl] at hFc
              obtain ⟨B, hB⟩ : ∃ B, pDropCol Q c.col = B := ⟨_, rfl⟩
              have HBe : Hid (pDropCol Q c.col = B) := hB
              rw [hB] at hFc HBR
              have HB : Hid (pright B = true) := HBR
              have HFc : Hid (cFold (cs.drop (k + 1)) B = cFold cs (pcopy R)) := hFc
              clear hB hFc hAq hBq HBR hk'
              go_wp2_with (go_at_call 60; refine (refDropCol_yes wr _ _ Q c.col HQ.out mb HQR.out).mono ?_; rintro _ w7 ⟨ad7, n7, cap7, rfl, hc7, m7⟩; have HC7 : Hid (RowAt w7 (.agg #[.slice ad7 n7 cap7]) B) := ⟨_, rfl, (by rw [← HBe.out]; exact hc7)⟩; clear hc7; have M7 := mb.then m7; have p47 := M7.at p4 (by simp); obtain ⟨y0, y1⟩ := one_cell p47; have p27 := (moves_set w7 po 0 (.slice ad7 n7 cap7)).at (M7.at p2 (by simp)) (by simp; omega); obtain ⟨t0', t1'⟩ := one_cell p27)
              go_roundw
              case rel => exact ⟨k + 1, _, B, by omega, by go_num, (mr.then M7).setCell (.inr (by show w1.heap.size ≤ po; omega)) _, (moves_set _ _ _ _).at (M7.at p2 (by simp)) (by simp; omega), set_one p47 _, HC7.out.setRow p47 _, HB.out, HFc.out⟩
              case measure => simp [intOf]; omega
            · rw [hk'] at d0 i0 mb i1 i2 i3 i4 i5 sb
              have hAq := cApE_4 (R := Q) hk'
              have hBq := cAp_4 (R := Q) hk'
              rw [hAq, hBq] at hFc
              rw [hBq] at HBR
              rw [if_pos rfl] at hFc
              have HFc : Hid (cFold (cs.drop (k + 1)) [] = cFold cs (pcopy R)) := hFc
              clear hFc hAq hBq HBR hk'
              have p47 := mb.at p4 (by simp)
              obtain ⟨y0, y1⟩ := one_cell p47
              go_wp2_with fail
              go_roundw
              case rel => exact ⟨k + 1, _, [], by omega, by go_num, (mr.then mb).setCell (.inr (by show w1.heap.size ≤ po; omega)) _, (moves_set _ _ _ _).at (mb.at p2 (by simp)) (by simp; omega), set_one p47 _, (RowAt.nil _), pright_nil, HFc.out⟩
              case measure => simp [intOf]; omega
            · rw [hk'] at d0 i0 mb i1 i2 i3 i4 i5 sb
              have hAq := cApE_5 (R := Q) hk'
              have hBq := cAp_5 (R := Q) hk'
              rw [hAq, hBq] at hFc
              rw [hBq] at HBR
              have hAd : cAddE Q c = if pPlusE (cOld Q c.col) c.v = 0 then pPutE Q c.col c.t (pPlus (cOld Q c.col) c.v) else pPlusE (cOld Q c.col) c.v := rfl
              have hBd : cAdd Q c = if pPlusE (cOld Q c.col) c.v = 0 then pPut Q c.col c.t (pPlus (cOld Q c.col) c.v) else [] := rfl
              have hib := heap_alloc_new wr (.cells #[.int .i64 5, .string c.col, .int .i64 c.t, .int .i64 c.v.kind, .slice a n2 c2, .float .f64 c.v.n] 84)
              have hN := fun w1 (m1 : Moves [] wr w1) => refNewest_yes wr w1 (.agg #[.slice adq nq capq]) Q c.col HQ.out m1 HQR.out
              obtain ⟨q, hq⟩ : ∃ q, cOld Q c.col = q := ⟨_, rfl⟩
              have HQo : Hid (cOld Q c.col = q) := hq
              obtain ⟨O, hO⟩ : ∃ O, pAt Q c.col 1099511627776 = O := ⟨_, rfl⟩
              have hq2 := hq
              unfold cOld at hq2
              rw [hO] at hN hq2
              clear hq hO hAq hBq hk'
              cases O with
              | none =>
                simp only [Option.getD_none] at hq2
                go_wp2_with (first | (go_at_call 61; refine (hN _ mb).mono ?_; rintro _ w2 ⟨k2, ad2, n3, cap2, v2, rfl, hV2, m2'⟩; have HV2 : Hid (VC w2 [.int .i64 k2, .slice ad2 n3 cap2, .float .f64 v2] ⟨0, [], 0⟩) := hV2; clear hV2; have mv : Moves [] w2 (w2.alloc (.cells #[.int .i64 k2, .slice ad2 n3 cap2, .float .f64 v2] 49)) := (Moves.refl _ _).alloc _; have M2 := mb.then (m2'.then mv); have hvb := heap_alloc_new w2 (.cells #[.int .i64 k2, .slice ad2 n3 cap2, .float .f64 v2] 49); obtain ⟨vv0, vv1, vv2, vf0, vf1, vf2⟩ := three_cells hvb; have hib2 := (m2'.then mv).at hib (by simp); obtain ⟨_, j1, j2, j3, j4, j5⟩ := six_cells hib2) | (go_at_call 62; refine (copysign_w _).mono ?_; rintro _ _ ⟨rfl, rfl⟩; have mvN : Moves [] w2 (w2.alloc (.cells #[.int .i64 2, .slice none 0 0, .float .f64 9223372036854775808] 49)) := (Moves.refl _ _).alloc _; have st2 := mb.then (m2'.then mvN); have hib3 := (m2'.then mvN).at hib (by simp); obtain ⟨_, z1, z2, z3, z4, z5⟩ := six_cells hib3))
                obtain ⟨wc, hwc⟩ : ∃ wc, w2.alloc (.cells #[.int .i64 2, .slice none 0 0, .float .f64 9223372036854775808] 49) = wc := ⟨_, rfl⟩
                rw [hwc] at st2 z1 z2 ⊢
                have c1 := z1
                have c2' := z2
                have HQV : Hid (VC wc [.int .i64 2, .slice none 0 0, .float .f64 9223372036854775808] q) := by unfold Hid; rw [← hq2]; exact VC.negZ wc
                have Mc := st2
                clear hwc
                obtain ⟨SE, hSE⟩ : ∃ SE, pPlusE q c.v = SE := ⟨_, rfl⟩
                have HSE : Hid (pPlusE q c.v = SE) := hSE
                rw [HQo.out, hSE] at hAd hBd
                clear hSE
                by_cases hS0 : SE = 0
                · rw [if_pos hS0] at hAd hBd
                  subst hS0
                  rw [hAd, hBd] at hFc
                  rw [hBd] at HBR
                  obtain ⟨A, hA⟩ : ∃ A, pPutE Q c.col c.t (pPlus q c.v) = A := ⟨_, rfl⟩
                  obtain ⟨B, hB⟩ : ∃ B, pPut Q c.col c.t (pPlus q c.v) = B := ⟨_, rfl⟩
                  have HEc : Hid (pPutE Q c.col c.t (pPlus q c.v) = A) := hA
                  have HBe : Hid (pPut Q c.col c.t (pPlus q c.v) = B) := hB
                  rw [hA, hB] at hFc
                  rw [hB] at HBR
                  have HB : Hid (pright B = true) := HBR
                  clear hA hB hAd hBd HBR
                  by_cases hA0 : A = 0
                  · rw [if_pos hA0] at hFc
                    subst hA0
                    have HFc : Hid (cFold (cs.drop (k + 1)) B = cFold cs (pcopy R)) := hFc
                    clear hFc
                    go_wp2_with (first | (go_at_call 63; refine (rplus_p wc _ _ _ _ _ _ _ _ _ _ _ q c.v HQV.out.va (HVc.out.moves Mc) (Moves.refl _ _)).mono ?_; rintro _ w5 ⟨rfl, m5⟩; rw [HSE.out]; have HS5 : Hid (VC w5 [.int .i64 (pPlus q c.v).kind, .slice none 0 0, .float .f64 (pPlus q c.v).n] (pPlus q c.v)) := pPlus_vc w5 q c.v; have mx : Moves [] w5 (w5.alloc (.cells #[.int .i64 (pPlus q c.v).kind, .slice none 0 0, .float .f64 (pPlus q c.v).n] 49)) := (Moves.refl _ _).alloc _; have M5 := Mc.then (m5.then mx); have s0' := M5.cell s0; have e1' := (m5.then mx).cell c1; have e2' := (m5.then mx).cell c2'; obtain ⟨sv0, sv1, sv2, _⟩ := three_cells (heap_alloc_new w5 (.cells #[.int .i64 (pPlus q c.v).kind, .slice none 0 0, .float .f64 (pPlus q c.v).n] 49)); have p25 := M5.at p2 (by simp); obtain ⟨u0', u1'⟩ := one_cell p25) | (go_at_call 14; refine (refPut_p (w5.alloc (.cells #[.int .i64 (pPlus q c.v).kind, .slice none 0 0, .float .f64 (pPlus q c.v).n] 49)) _ _ Q c.col c.t _ _ _ _ _ (pPlus q c.v) (HQ.out.moves M5) (HS5.out.va.moves mx) (Moves.refl _ _) HQR.out).mono ?_; rintro _ w7 ⟨ad7, n7, cap7, rfl, hc7, m7⟩; rw [HEc.out]; have HC7 : Hid (RowAt w7 (.agg #[.slice ad7 n7 cap7]) B) := ⟨_, rfl, (by rw [← HBe.out]; exact hc7)⟩; clear hc7; have M7 := M5.then m7; have p47 := M7.at p4 (by simp); obtain ⟨y0, y1⟩ := one_cell p47; have p27 := (moves_set w7 po 0 (.slice ad7 n7 cap7)).at (M7.at p2 (by simp)) (by simp; omega); obtain ⟨t0', t1'⟩ := one_cell p27))
                    go_roundw
                    case rel => exact ⟨k + 1, _, B, by omega, by go_num, (mr.then M7).setCell (.inr (by show w1.heap.size ≤ po; omega)) _, (moves_set _ _ _ _).at (M7.at p2 (by simp)) (by simp; omega), set_one p47 _, HC7.out.setRow p47 _, HB.out, HFc.out⟩
                    case measure => simp [intOf]; omega
                  · rw [if_neg hA0] at hFc
                    have hEA : A = E := by have := HE.out; rw [← hFc] at this; exact this
                    have hPA : [] = P := by have := HP.out; rw [← hFc] at this; exact this
                    subst hEA hPA
                    clear hFc
                    go_wp2_with (first | (go_at_call 63; refine (rplus_p wc _ _ _ _ _ _ _ _ _ _ _ q c.v HQV.out.va (HVc.out.moves Mc) (Moves.refl _ _)).mono ?_; rintro _ w5 ⟨rfl, m5⟩; rw [HSE.out]; have HS5 : Hid (VC w5 [.int .i64 (pPlus q c.v).kind, .slice none 0 0, .float .f64 (pPlus q c.v).n] (pPlus q c.v)) := pPlus_vc w5 q c.v; have mx : Moves [] w5 (w5.alloc (.cells #[.int .i64 (pPlus q c.v).kind, .slice none 0 0, .float .f64 (pPlus q c.v).n] 49)) := (Moves.refl _ _).alloc _; have M5 := Mc.then (m5.then mx); have s0' := M5.cell s0; have e1' := (m5.then mx).cell c1; have e2' := (m5.then mx).cell c2'; obtain ⟨sv0, sv1, sv2, _⟩ := three_cells (heap_alloc_new w5 (.cells #[.int .i64 (pPlus q c.v).kind, .slice none 0 0, .float .f64 (pPlus q c.v).n] 49)); have p25 := M5.at p2 (by simp); obtain ⟨u0', u1'⟩ := one_cell p25) | (go_at_call 14; refine (refPut_p (w5.alloc (.cells #[.int .i64 (pPlus q c.v).kind, .slice none 0 0, .float .f64 (pPlus q c.v).n] 49)) _ _ Q c.col c.t _ _ _ _ _ (pPlus q c.v) (HQ.out.moves M5) (HS5.out.va.moves mx) (Moves.refl _ _) HQR.out).mono ?_; rintro _ w7 ⟨ad7, n7, cap7, rfl, hc7, m7⟩; rw [HEc.out]; have HC7 : Hid (RowAt w7 (.agg #[.slice ad7 n7 cap7]) B) := ⟨_, rfl, (by rw [← HBe.out]; exact hc7)⟩; clear hc7; have M7 := M5.then m7; have p47 := M7.at p4 (by simp); obtain ⟨y0, y1⟩ := one_cell p47; have p27 := (moves_set w7 po 0 (.slice ad7 n7 cap7)).at (M7.at p2 (by simp)) (by simp; omega); obtain ⟨t0', t1'⟩ := one_cell p27))
                    try simp only [Exit.inBlock, Exit.then]
                    exact bodyPost_ret (ret_row2 rfl _ _ _ _ rfl (set_one p27 _)) rfl ⟨_, _, _, rfl, ColsAt.nil _, (((bm.then mr).then M7).setCell (.inr (by show w.heap.size ≤ po; omega)) _).setCell (.inr (by show _ ≤ _ + 1; omega)) _⟩
                · rw [if_neg hS0] at hAd hBd
                  rw [hAd, hBd, if_neg hS0] at hFc
                  have hEA : SE = E := by have := HE.out; rw [← hFc] at this; exact this
                  have hPA : [] = P := by have := HP.out; rw [← hFc] at this; exact this
                  subst hEA hPA
                  clear hFc hAd hBd
                  go_wp2_with (go_at_call 63; refine (rplus_p wc _ _ _ _ _ _ _ _ _ _ _ q c.v HQV.out.va (HVc.out.moves Mc) (Moves.refl _ _)).mono ?_; rintro _ w5 ⟨rfl, m5⟩; rw [HSE.out]; have HS5 : Hid (VC w5 [.int .i64 (pPlus q c.v).kind, .slice none 0 0, .float .f64 (pPlus q c.v).n] (pPlus q c.v)) := pPlus_vc w5 q c.v; have mx : Moves [] w5 (w5.alloc (.cells #[.int .i64 (pPlus q c.v).kind, .slice none 0 0, .float .f64 (pPlus q c.v).n] 49)) := (Moves.refl _ _).alloc _; have M5 := Mc.then (m5.then mx); have s0' := M5.cell s0; have e1' := (m5.then mx).cell c1; have e2' := (m5.then mx).cell c2'; obtain ⟨sv0, sv1, sv2, _⟩ := three_cells (heap_alloc_new w5 (.cells #[.int .i64 (pPlus q c.v).kind, .slice none 0 0, .float .f64 (pPlus q c.v).n] 49)); have p25 := M5.at p2 (by simp); obtain ⟨u0', u1'⟩ := one_cell p25)
                  try simp only [Exit.inBlock, Exit.then]
                  exact bodyPost_ret (ret_row2 rfl _ _ _ _ rfl (set_one p25 _)) rfl ⟨_, _, _, rfl, ColsAt.nil _, ((bm.then mr).then M5).setCell (.inr (by show _ ≤ _ + 1; omega)) _⟩
              | some p =>
                simp only [Option.getD_some] at hq2
                subst hq2
                go_wp2_with (go_at_call 61; refine (hN _ mb).mono ?_; rintro _ w2 ⟨k2, ad2, n3, cap2, v2, rfl, hV2, m2'⟩; have HV2 : Hid (VC w2 [.int .i64 k2, .slice ad2 n3 cap2, .float .f64 v2] p) := hV2; clear hV2; have mv : Moves [] w2 (w2.alloc (.cells #[.int .i64 k2, .slice ad2 n3 cap2, .float .f64 v2] 49)) := (Moves.refl _ _).alloc _; have M2 := mb.then (m2'.then mv); have hvb := heap_alloc_new w2 (.cells #[.int .i64 k2, .slice ad2 n3 cap2, .float .f64 v2] 49); obtain ⟨vv0, vv1, vv2, vf0, vf1, vf2⟩ := three_cells hvb; have hib2 := (m2'.then mv).at hib (by simp); obtain ⟨_, j1, j2, j3, j4, j5⟩ := six_cells hib2)
                obtain ⟨wc, hwc⟩ : ∃ wc, w2.alloc (.cells #[.int .i64 k2, .slice ad2 n3 cap2, .float .f64 v2] 49) = wc := ⟨_, rfl⟩
                rw [hwc] at M2 mv j1 j2 ⊢
                have c1 := j1
                have c2' := j2
                have HQV : Hid (VC wc [.int .i64 k2, .slice ad2 n3 cap2, .float .f64 v2] p) := HV2.out.moves mv
                have Mc := M2
                clear hwc
                obtain ⟨SE, hSE⟩ : ∃ SE, pPlusE p c.v = SE := ⟨_, rfl⟩
                have HSE : Hid (pPlusE p c.v = SE) := hSE
                rw [HQo.out, hSE] at hAd hBd
                clear hSE
                by_cases hS0 : SE = 0
                · rw [if_pos hS0] at hAd hBd
                  subst hS0
                  rw [hAd, hBd] at hFc
                  rw [hBd] at HBR
                  obtain ⟨A, hA⟩ : ∃ A, pPutE Q c.col c.t (pPlus p c.v) = A := ⟨_, rfl⟩
                  obtain ⟨B, hB⟩ : ∃ B, pPut Q c.col c.t (pPlus p c.v) = B := ⟨_, rfl⟩
                  have HEc : Hid (pPutE Q c.col c.t (pPlus p c.v) = A) := hA
                  have HBe : Hid (pPut Q c.col c.t (pPlus p c.v) = B) := hB
                  rw [hA, hB] at hFc
                  rw [hB] at HBR
                  have HB : Hid (pright B = true) := HBR
                  clear hA hB hAd hBd HBR
                  by_cases hA0 : A = 0
                  · rw [if_pos hA0] at hFc
                    subst hA0
                    have HFc : Hid (cFold (cs.drop (k + 1)) B = cFold cs (pcopy R)) := hFc
                    clear hFc
                    go_wp2_with (first | (go_at_call 63; refine (rplus_p wc _ _ _ _ _ _ _ _ _ _ _ p c.v HQV.out.va (HVc.out.moves Mc) (Moves.refl _ _)).mono ?_; rintro _ w5 ⟨rfl, m5⟩; rw [HSE.out]; have HS5 : Hid (VC w5 [.int .i64 (pPlus p c.v).kind, .slice none 0 0, .float .f64 (pPlus p c.v).n] (pPlus p c.v)) := pPlus_vc w5 p c.v; have mx : Moves [] w5 (w5.alloc (.cells #[.int .i64 (pPlus p c.v).kind, .slice none 0 0, .float .f64 (pPlus p c.v).n] 49)) := (Moves.refl _ _).alloc _; have M5 := Mc.then (m5.then mx); have s0' := M5.cell s0; have e1' := (m5.then mx).cell c1; have e2' := (m5.then mx).cell c2'; obtain ⟨sv0, sv1, sv2, _⟩ := three_cells (heap_alloc_new w5 (.cells #[.int .i64 (pPlus p c.v).kind, .slice none 0 0, .float .f64 (pPlus p c.v).n] 49)); have p25 := M5.at p2 (by simp); obtain ⟨u0', u1'⟩ := one_cell p25) | (go_at_call 14; refine (refPut_p (w5.alloc (.cells #[.int .i64 (pPlus p c.v).kind, .slice none 0 0, .float .f64 (pPlus p c.v).n] 49)) _ _ Q c.col c.t _ _ _ _ _ (pPlus p c.v) (HQ.out.moves M5) (HS5.out.va.moves mx) (Moves.refl _ _) HQR.out).mono ?_; rintro _ w7 ⟨ad7, n7, cap7, rfl, hc7, m7⟩; rw [HEc.out]; have HC7 : Hid (RowAt w7 (.agg #[.slice ad7 n7 cap7]) B) := ⟨_, rfl, (by rw [← HBe.out]; exact hc7)⟩; clear hc7; have M7 := M5.then m7; have p47 := M7.at p4 (by simp); obtain ⟨y0, y1⟩ := one_cell p47; have p27 := (moves_set w7 po 0 (.slice ad7 n7 cap7)).at (M7.at p2 (by simp)) (by simp; omega); obtain ⟨t0', t1'⟩ := one_cell p27))
                    go_roundw
                    case rel => exact ⟨k + 1, _, B, by omega, by go_num, (mr.then M7).setCell (.inr (by show w1.heap.size ≤ po; omega)) _, (moves_set _ _ _ _).at (M7.at p2 (by simp)) (by simp; omega), set_one p47 _, HC7.out.setRow p47 _, HB.out, HFc.out⟩
                    case measure => simp [intOf]; omega
                  · rw [if_neg hA0] at hFc
                    have hEA : A = E := by have := HE.out; rw [← hFc] at this; exact this
                    have hPA : [] = P := by have := HP.out; rw [← hFc] at this; exact this
                    subst hEA hPA
                    clear hFc
                    go_wp2_with (first | (go_at_call 63; refine (rplus_p wc _ _ _ _ _ _ _ _ _ _ _ p c.v HQV.out.va (HVc.out.moves Mc) (Moves.refl _ _)).mono ?_; rintro _ w5 ⟨rfl, m5⟩; rw [HSE.out]; have HS5 : Hid (VC w5 [.int .i64 (pPlus p c.v).kind, .slice none 0 0, .float .f64 (pPlus p c.v).n] (pPlus p c.v)) := pPlus_vc w5 p c.v; have mx : Moves [] w5 (w5.alloc (.cells #[.int .i64 (pPlus p c.v).kind, .slice none 0 0, .float .f64 (pPlus p c.v).n] 49)) := (Moves.refl _ _).alloc _; have M5 := Mc.then (m5.then mx); have s0' := M5.cell s0; have e1' := (m5.then mx).cell c1; have e2' := (m5.then mx).cell c2'; obtain ⟨sv0, sv1, sv2, _⟩ := three_cells (heap_alloc_new w5 (.cells #[.int .i64 (pPlus p c.v).kind, .slice none 0 0, .float .f64 (pPlus p c.v).n] 49)); have p25 := M5.at p2 (by simp); obtain ⟨u0', u1'⟩ := one_cell p25) | (go_at_call 14; refine (refPut_p (w5.alloc (.cells #[.int .i64 (pPlus p c.v).kind, .slice none 0 0, .float .f64 (pPlus p c.v).n] 49)) _ _ Q c.col c.t _ _ _ _ _ (pPlus p c.v) (HQ.out.moves M5) (HS5.out.va.moves mx) (Moves.refl _ _) HQR.out).mono ?_; rintro _ w7 ⟨ad7, n7, cap7, rfl, hc7, m7⟩; rw [HEc.out]; have HC7 : Hid (RowAt w7 (.agg #[.slice ad7 n7 cap7]) B) := ⟨_, rfl, (by rw [← HBe.out]; exact hc7)⟩; clear hc7; have M7 := M5.then m7; have p47 := M7.at p4 (by simp); obtain ⟨y0, y1⟩ := one_cell p47; have p27 := (moves_set w7 po 0 (.slice ad7 n7 cap7)).at (M7.at p2 (by simp)) (by simp; omega); obtain ⟨t0', t1'⟩ := one_cell p27))
                    try simp only [Exit.inBlock, Exit.then]
                    exact bodyPost_ret (ret_row2 rfl _ _ _ _ rfl (set_one p27 _)) rfl ⟨_, _, _, rfl, ColsAt.nil _, (((bm.then mr).then M7).setCell (.inr (by show w.heap.size ≤ po; omega)) _).setCell (.inr (by show _ ≤ _ + 1; omega)) _⟩
                · rw [if_neg hS0] at hAd hBd
                  rw [hAd, hBd, if_neg hS0] at hFc
                  have hEA : SE = E := by have := HE.out; rw [← hFc] at this; exact this
                  have hPA : [] = P := by have := HP.out; rw [← hFc] at this; exact this
                  subst hEA hPA
                  clear hFc hAd hBd
                  go_wp2_with (go_at_call 63; refine (rplus_p wc _ _ _ _ _ _ _ _ _ _ _ p c.v HQV.out.va (HVc.out.moves Mc) (Moves.refl _ _)).mono ?_; rintro _ w5 ⟨rfl, m5⟩; rw [HSE.out]; have HS5 : Hid (VC w5 [.int .i64 (pPlus p c.v).kind, .slice none 0 0, .float .f64 (pPlus p c.v).n] (pPlus p c.v)) := pPlus_vc w5 p c.v; have mx : Moves [] w5 (w5.alloc (.cells #[.int .i64 (pPlus p c.v).kind, .slice none 0 0, .float .f64 (pPlus p c.v).n] 49)) := (Moves.refl _ _).alloc _; have M5 := Mc.then (m5.then mx); have s0' := M5.cell s0; have e1' := (m5.then mx).cell c1; have e2' := (m5.then mx).cell c2'; obtain ⟨sv0, sv1, sv2, _⟩ := three_cells (heap_alloc_new w5 (.cells #[.int .i64 (pPlus p c.v).kind, .slice none 0 0, .float .f64 (pPlus p c.v).n] 49)); have p25 := M5.at p2 (by simp); obtain ⟨u0', u1'⟩ := one_cell p25)
                  try simp only [Exit.inBlock, Exit.then]
                  exact bodyPost_ret (ret_row2 rfl _ _ _ _ rfl (set_one p25 _)) rfl ⟨_, _, _, rfl, ColsAt.nil _, ((bm.then mr).then M5).setCell (.inr (by show _ ≤ _ + 1; omega)) _⟩
          · have hk3 : ¬ (k : Int) < n := by omega
            obtain rfl : n = k := by omega
            have hFc := HF.out
            rw [HN.out, List.drop_length, cFold_nil] at hFc
            have hEA : 0 = E := by have := HE.out; rw [← hFc] at this; exact this
            have hPA : Q = P := by have := HP.out; rw [← hFc] at this; exact this
            subst hEA hPA
            clear hFc
            go_wp2_with fail
            try simp only [Exit.inBlock, Exit.then]
            obtain ⟨_, er, hcols⟩ := HQ.out.setRow p2 (.slice adq nq capq)
            simp only [Value.agg.injEq, Array.mk.injEq, List.cons.injEq, and_true] at er
            subst er
            exact bodyPost_ret (ret_row2 rfl _ _ _ _ rfl (set_one p2 _)) rfl ⟨_, _, _, rfl, hcols, (bm.then mr).setCell (.inr (by show _ ≤ _ + 1; omega)) _⟩
end Go.Proofs.Ytbeobeedgeohlaa
