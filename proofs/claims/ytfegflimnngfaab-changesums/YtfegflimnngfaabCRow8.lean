/-
  row.Put: for every row, name, time and value the call returns what the chapter says, and writes nothing that was there.
-/
import Derived.Test.YtfegflimnngfaabCRow7
namespace Go.Proofs.Ytfegflimnngfaab
open Go.RowKit

theorem pPut_no {R : List Pcol} {s : ByteArray} {t : Int} {p : Pv} (h : (pname s && ptime t && pvr p) = false) : pPutE R s t p = 1 ∧ pPut R s t p = [] := by
  have e : pPutE R s t p = 1 := by unfold pPutE; rw [if_pos h]
  exact ⟨e, by unfold pPut; rw [e]; rfl⟩
theorem pPut_full {R : List Pcol} {s : ByteArray} {t : Int} {p : Pv} (h : (pname s && ptime t && pvr p) = true) (h2 : (pvers (pcopy R) s).length = 0 ∧ 4 ≤ (pcopy R).length) : pPutE R s t p = 13 ∧ pPut R s t p = [] := by
  have e : pPutE R s t p = 13 := by unfold pPutE; rw [if_neg (by simp [h]), if_pos h2]
  exact ⟨e, by unfold pPut; rw [e]; rfl⟩
theorem pPut_yes {R : List Pcol} {s : ByteArray} {t : Int} {p : Pv} (h : (pname s && ptime t && pvr p) = true) (h2 : ¬ ((pvers (pcopy R) s).length = 0 ∧ 4 ≤ (pcopy R).length)) : pPutE R s t p = 0 ∧ pPut R s t p = pwith (pcopy R) s (pput (pvers (pcopy R) s) ⟨t, pcanon p⟩) := by
  have e : pPutE R s t p = 0 := by unfold pPutE; rw [if_neg (by simp [h]), if_neg h2]
  exact ⟨e, by unfold pPut; rw [e]; rfl⟩

set_option maxRecDepth 100000 in
set_option maxHeartbeats 8000000 in
theorem rput_w (W w : World) (v : Value) (R : List Pcol) (s : ByteArray) (t : Int) (k : Int) (adv : Option Addr) (nv cv xv : Nat) (p : Pv) (h : RowAt W v R) (hv : VA W [.int .i64 k, .slice adv nv cv, .float .f64 xv] p) (m : Moves [] W w) :
    Calls Try.prog 47 #[v, .string s, .int .i64 t, .agg #[.int .i64 k, .slice adv nv cv, .float .f64 xv]] w fun e w' => ∃ ad n cap, e = .returned (.tuple #[.agg #[.slice ad n cap], .int .i64 (pPutE R s t p)]) ∧ ColsAt w' (.slice ad n cap) (pPut R s t p) ∧ Moves [] w w' := by
  have hC := fun w1 (m1 : Moves [] W w1) => copy_w W w1 v R h m1
  have hR := fun w1 (m1 : Moves [] W w1) => right4_w W w1 k adv nv cv xv p hv m1
  obtain ⟨lv, rfl, hl⟩ := h
  obtain ⟨ad, cap, rfl, hc⟩ := hl.slice
  have HV : Hid (VA W [.int .i64 k, .slice adv nv cv, .float .f64 xv] p) := hv
  have hlen := pcopy_len R
  have hvl := pvers_two (pcopy R) s (pcopy_l R)
  obtain ⟨E, hEq⟩ : ∃ E, Hid (pPutE R s t p = E) := ⟨_, rfl⟩
  obtain ⟨P, hPq⟩ : ∃ P, Hid (pPut R s t p = P) := ⟨_, rfl⟩
  obtain ⟨C, hCq⟩ : ∃ C, Hid (pcopy R = C) := ⟨_, rfl⟩
  obtain ⟨V, hVq⟩ : ∃ V, Hid (pvers C s = V) := ⟨_, rfl⟩
  rw [hEq.out, hPq.out]
  have hm : Moves [] W (((w.alloc (.cells #[.slice ad R.length cap] 25)).alloc (.cells #[.int .i64 k, .slice adv nv cv, .float .f64 xv] 35)).alloc (.cells #[.slice none 0 0] 25)) := ((m.alloc _).alloc _).alloc _
  obtain ⟨b1, b2, b3, bm⟩ := boxes3 (Moves.refl [] (((w.alloc (.cells #[.slice ad R.length cap] 25)).alloc (.cells #[.int .i64 k, .slice adv nv cv, .float .f64 xv] 35)).alloc (.cells #[.slice none 0 0] 25)))
  clear hl hv
  cases hp1 : pname s with
  | false =>
    obtain ⟨e1, e2⟩ := pPut_no (R := R) (s := s) (t := t) (p := p) (by rw [hp1]; rfl)
    rw [e1] at hEq
    rw [e2] at hPq
    obtain rfl : 1 = E := hEq.out
    obtain rfl : [] = P := hPq.out
    have HP : Hid (pname s = false) := hp1
    clear hp1 e1 e2
    obtain ⟨f0, f1⟩ := one_cell b3
    go_enter Try.func47, Try.ntmps47
    go_wp2_with (go_at_call 62; refine (name_w _ _).mono ?_; rintro _ _ ⟨rfl, rfl⟩; rw [HP.out])
    try simp only [Exit.inBlock, Exit.then]
    exact bodyPost_ret (ret_row2 rfl _ _ _ _ rfl b3) rfl ⟨_, _, _, rfl, ColsAt.nil _, bm⟩
  | true =>
    have HP : Hid (pname s = true) := hp1
    cases hp2 : ptime t with
    | false =>
      obtain ⟨e1, e2⟩ := pPut_no (R := R) (s := s) (t := t) (p := p) (by rw [hp1, hp2]; rfl)
      rw [e1] at hEq
      rw [e2] at hPq
      obtain rfl : 1 = E := hEq.out
      obtain rfl : [] = P := hPq.out
      have HT : Hid (ptime t = false) := hp2
      clear hp1 hp2 e1 e2
      obtain ⟨f0, f1⟩ := one_cell b3
      go_enter Try.func47, Try.ntmps47
      go_wp2_with (first | (go_at_call 62; refine (name_w _ _).mono ?_; rintro _ _ ⟨rfl, rfl⟩; rw [HP.out]) | (go_at_call 70; refine (rightTime_w _ _).mono ?_; rintro _ _ ⟨rfl, rfl⟩; rw [HT.out]))
      try simp only [Exit.inBlock, Exit.then]
      exact bodyPost_ret (ret_row2 rfl _ _ _ _ rfl b3) rfl ⟨_, _, _, rfl, ColsAt.nil _, bm⟩
    | true =>
      have HT : Hid (ptime t = true) := hp2
      cases hp3 : pvr p with
      | false =>
        obtain ⟨e1, e2⟩ := pPut_no (R := R) (s := s) (t := t) (p := p) (by rw [hp1, hp2, hp3]; rfl)
        rw [e1] at hEq
        rw [e2] at hPq
        obtain rfl : 1 = E := hEq.out
        obtain rfl : [] = P := hPq.out
        have HR : Hid (pvr p = false) := hp3
        clear hp1 hp2 hp3 e1 e2
        go_enter Try.func47, Try.ntmps47
        go_wp2_with (first | (go_at_call 62; refine (name_w _ _).mono ?_; rintro _ _ ⟨rfl, rfl⟩; rw [HP.out]) | (go_at_call 70; refine (rightTime_w _ _).mono ?_; rintro _ _ ⟨rfl, rfl⟩; rw [HT.out]) | (go_at_call 64; refine (right4_w _ _ _ _ _ _ _ p (HV.out.moves hm) (Moves.refl _ _)).mono ?_; rintro _ w2 ⟨rfl, m2⟩; rw [HR.out]; have c2 := m2.at b3 (by simp); obtain ⟨f0, f1⟩ := one_cell c2))
        try simp only [Exit.inBlock, Exit.then]
        exact bodyPost_ret (ret_row2 rfl _ _ _ _ rfl (set_one c2 _)) rfl ⟨_, _, _, rfl, ColsAt.nil _, (bm.then m2).setCell (.inr (by show _ ≤ _ + 1 + 1; omega)) _⟩
      | true =>
        have HR : Hid (pvr p = true) := hp3
        have hall : (pname s && ptime t && pvr p) = true := by rw [hp1, hp2, hp3]; rfl
        have hfull := pPut_full (R := R) hall
        have hyes := pPut_yes (R := R) hall
        rw [hCq.out, hVq.out] at hfull hyes hvl
        rw [hCq.out] at hlen hC
        rw [hEq.out, hPq.out] at hfull hyes
        obtain ⟨no, hno⟩ : ∃ no, Hid (no = C.length) := ⟨_, rfl⟩
        obtain ⟨nw, hnw⟩ : ∃ nw, Hid (nw = V.length) := ⟨_, rfl⟩
        rw [← hno.out, ← hnw.out] at hfull hyes
        rw [← hno.out] at hlen
        rw [← hnw.out] at hvl
        have hC1 : C.length ≤ 1048576 := by have := hno.out; omega
        have hC2 : C.length ≤ 100000 := by have := hno.out; omega
        have hV2 : nw ≤ 100000 := by omega
        clear hp1 hp2 hp3 hall hR
        by_cases hcase : nw = 0 ∧ 4 ≤ no
        · obtain ⟨e1, e2⟩ := hfull hcase
          subst e1 e2
          obtain ⟨hz, hf4⟩ := hcase
          subst hz
          have hf4' : (4 : Int) ≤ no := by omega
          clear hfull hyes
          go_enter Try.func47, Try.ntmps47
          go_wp2_with (first | (go_at_call 62; refine (name_w _ _).mono ?_; rintro _ _ ⟨rfl, rfl⟩; rw [HP.out]) | (go_at_call 70; refine (rightTime_w _ _).mono ?_; rintro _ _ ⟨rfl, rfl⟩; rw [HT.out]) | (go_at_call 64; refine (right4_w _ _ _ _ _ _ _ p (HV.out.moves hm) (Moves.refl _ _)).mono ?_; rintro _ w2 ⟨rfl, m2⟩; rw [HR.out]; have c1 := m2.at b1 (by simp); have c2 := m2.at b3 (by simp); obtain ⟨g0, g1⟩ := one_cell c1) | (go_at_call 22; refine (hC _ (hm.then m2)).mono ?_; rintro _ w3 ⟨lv3, rfl, hG3, m3⟩; have c3 := m3.at c2 (by simp); have hA3 := hG3.at; obtain ⟨ad3, n3, cap3, rfl, hn3⟩ := hG3.open; obtain rfl : n3 = no := hn3.out.trans hno.out.symm) | (go_at_call 71; refine (versions_w w3 _ _ C s ⟨_, rfl, hA3⟩ ((Moves.refl _ _).alloc _) hC1).mono ?_; rintro _ w4 ⟨ad4, n4, cap4, rfl, hV4, m4⟩; rw [hVq.out] at hV4; obtain rfl : 0 = n4 := (hnw.out.trans hV4.len.symm); obtain ⟨q1, mq⟩ := boxesW m4; obtain ⟨h0, h1⟩ := one_cell q1; have c4 := mq.at c3 (by simp); obtain ⟨f0, f1⟩ := one_cell c4))
          try simp only [Exit.inBlock, Exit.then]
          exact bodyPost_ret (ret_row2 rfl _ _ _ _ rfl (set_one c4 _)) rfl ⟨_, _, _, rfl, ColsAt.nil _, (((bm.then m2).then m3).then mq).setCell (.inr (by show _ ≤ _ + 1 + 1; omega)) _⟩
        · obtain ⟨e1, e2⟩ := hyes hcase
          subst e1 e2
          clear hfull hyes
          by_cases hz : nw = 0
          · subst hz
            have hf4 : no < 4 := by omega
            have hf4' : ¬ (4 : Int) ≤ no := by omega
            go_enter Try.func47, Try.ntmps47
            go_wp2_with (first | (go_at_call 62; refine (name_w _ _).mono ?_; rintro _ _ ⟨rfl, rfl⟩; rw [HP.out]) | (go_at_call 70; refine (rightTime_w _ _).mono ?_; rintro _ _ ⟨rfl, rfl⟩; rw [HT.out]) | (go_at_call 64; refine (right4_w _ _ _ _ _ _ _ p (HV.out.moves hm) (Moves.refl _ _)).mono ?_; rintro _ w2 ⟨rfl, m2⟩; rw [HR.out]; have c1 := m2.at b1 (by simp); have c2 := m2.at b3 (by simp); obtain ⟨g0, g1⟩ := one_cell c1) | (go_at_call 22; refine (hC _ (hm.then m2)).mono ?_; rintro _ w3 ⟨lv3, rfl, hG3, m3⟩; have c3 := m3.at c2 (by simp); have hA3 := hG3.at; obtain ⟨ad3, n3, cap3, rfl, hn3⟩ := hG3.open; obtain rfl : n3 = no := hn3.out.trans hno.out.symm) | (go_at_call 71; refine (versions_w w3 _ _ C s ⟨_, rfl, hA3⟩ ((Moves.refl _ _).alloc _) hC1).mono ?_; rintro _ w4 ⟨ad4, n4, cap4, rfl, hV4, m4⟩; rw [hVq.out] at hV4; obtain rfl : 0 = n4 := (hnw.out.trans hV4.len.symm); obtain ⟨q1, mq⟩ := boxesW m4; obtain ⟨h0, h1⟩ := one_cell q1; have c4 := mq.at c3 (by simp); skip))
            have e1 := mq.at (m3.at (m2.at b2 (by simp)) (by simp)) (by simp)
            obtain ⟨v0, v1, v2, _, _, _⟩ := three_cells e1
            have hlt3 := lt_of_block c3
            have HA3 : Hid (RowAt w3 (.agg #[.slice ad3 n3 cap3]) C) := ⟨_, rfl, hA3⟩
            have HV4 : Hid (VersAt w3 (.slice ad4 0 cap4) V) := hV4
            have HVC : Hid (VA w4.drew [.int .i64 k, .slice adv nv cv, .float .f64 xv] p) := HV.out.moves (((hm.then m2).then m3).then mq).drew
            have hM : Moves [] w w4 := ((bm.then m2).then m3).then mq
            clear hA3 hV4 hG3 hC e1 q1 m4 b1 b2 c1
            go_region_held3 (fun w' => w'.cell? ⟨w3.heap.size, 0, none⟩ = some (.slice ad3 n3 cap3) ∧ w'.cell? ⟨w.heap.size + 1, 0, none⟩ = some (.int .i64 k) ∧ w'.cell? ⟨w.heap.size + 1, 1, none⟩ = some (.slice adv nv cv) ∧ w'.cell? ⟨w.heap.size + 1, 2, none⟩ = some (.float .f64 xv)) (first | exact ⟨(moves_set _ _ _ _).cellOf (m9.cell h0) (by simp; omega), (moves_set _ _ _ _).cellOf (m9.cell v0) (by simp), (moves_set _ _ _ _).cellOf (m9.cell v1) (by simp), (moves_set _ _ _ _).cellOf (m9.cell v2) (by simp)⟩ | exact ⟨m9.cell h0, m9.cell v0, m9.cell v1, m9.cell v2⟩ | exact ⟨m7.cell h0, m7.cell v0, m7.cell v1, m7.cell v2⟩ | exact ⟨m5.cell h0, m5.cell v0, m5.cell v1, m5.cell v2⟩ | exact ⟨h0, v0, v1, v2⟩) (first | (go_at_call 46; refine (canonC_w w4.drew _ _ _ _ _ _ _ HVC.out (Moves.refl _ _)).mono ?_; rintro _ w5 ⟨ad5, n5, c5, rfl, hC5, m5, _⟩; have HC5 : Hid (VC w5 [.int .i64 (pcanon p).kind, .slice ad5 n5 c5, .float .f64 (pcanon p).n] (pcanon p)) := hC5; clear hC5) | (go_at_call 73; refine (put_w w5 _ _ _ _ V ⟨t, pcanon p⟩ _ _ _ (HV4.out.moves (mq.drew.then m5)) hnw HC5.out (Moves.refl _ _) hV2).mono ?_; rintro _ w7 ⟨ad7, n7, cap7, rfl, hn7, hG7, m57⟩; have m7 := m5.then m57) | (go_at_call 72; refine (with_w w7 _ _ C s _ _ _ _ (HA3.out.moves (mq.drew.then m7)) hG7 hn7 (Moves.refl _ _) hC2).mono ?_; rintro _ w9 ⟨ad9, n9, cap9, rfl, hG9, m79⟩; have m9 := m7.then m79; have c9 := m9.at c4 (by simp); obtain ⟨f0, f1⟩ := one_cell c9))
            go_wp2_with fail
            try simp only [Exit.inBlock, Exit.then]
            exact bodyPost_ret (ret_row2 rfl _ _ _ _ rfl (set_one c9 _)) rfl ⟨_, _, _, rfl, (hG9.setRow c9 _).at, (hM.drew.then m9).setCell (.inr (by show _ ≤ _ + 1 + 1; omega)) _⟩
          · have hz' : (nw : Int) ≠ 0 := by omega
            go_enter Try.func47, Try.ntmps47
            go_wp2_with (first | (go_at_call 62; refine (name_w _ _).mono ?_; rintro _ _ ⟨rfl, rfl⟩; rw [HP.out]) | (go_at_call 70; refine (rightTime_w _ _).mono ?_; rintro _ _ ⟨rfl, rfl⟩; rw [HT.out]) | (go_at_call 64; refine (right4_w _ _ _ _ _ _ _ p (HV.out.moves hm) (Moves.refl _ _)).mono ?_; rintro _ w2 ⟨rfl, m2⟩; rw [HR.out]; have c1 := m2.at b1 (by simp); have c2 := m2.at b3 (by simp); obtain ⟨g0, g1⟩ := one_cell c1) | (go_at_call 22; refine (hC _ (hm.then m2)).mono ?_; rintro _ w3 ⟨lv3, rfl, hG3, m3⟩; have c3 := m3.at c2 (by simp); have hA3 := hG3.at; obtain ⟨ad3, n3, cap3, rfl, hn3⟩ := hG3.open; obtain rfl : n3 = no := hn3.out.trans hno.out.symm) | (go_at_call 71; refine (versions_w w3 _ _ C s ⟨_, rfl, hA3⟩ ((Moves.refl _ _).alloc _) hC1).mono ?_; rintro _ w4 ⟨ad4, n4, cap4, rfl, hV4, m4⟩; rw [hVq.out] at hV4; obtain rfl : n4 = nw := (hV4.len.trans hnw.out.symm); obtain ⟨q1, mq⟩ := boxesW m4; obtain ⟨h0, h1⟩ := one_cell q1; have c4 := mq.at c3 (by simp); skip))
            have e1 := mq.at (m3.at (m2.at b2 (by simp)) (by simp)) (by simp)
            obtain ⟨v0, v1, v2, _, _, _⟩ := three_cells e1
            have hlt3 := lt_of_block c3
            have HA3 : Hid (RowAt w3 (.agg #[.slice ad3 n3 cap3]) C) := ⟨_, rfl, hA3⟩
            have HV4 : Hid (VersAt w3 (.slice ad4 n4 cap4) V) := hV4
            have HVC : Hid (VA w4.drew [.int .i64 k, .slice adv nv cv, .float .f64 xv] p) := HV.out.moves (((hm.then m2).then m3).then mq).drew
            have hM : Moves [] w w4 := ((bm.then m2).then m3).then mq
            clear hA3 hV4 hG3 hC e1 q1 m4 b1 b2 c1
            go_region_held3 (fun w' => w'.cell? ⟨w3.heap.size, 0, none⟩ = some (.slice ad3 n3 cap3) ∧ w'.cell? ⟨w.heap.size + 1, 0, none⟩ = some (.int .i64 k) ∧ w'.cell? ⟨w.heap.size + 1, 1, none⟩ = some (.slice adv nv cv) ∧ w'.cell? ⟨w.heap.size + 1, 2, none⟩ = some (.float .f64 xv)) (first | exact ⟨(moves_set _ _ _ _).cellOf (m9.cell h0) (by simp; omega), (moves_set _ _ _ _).cellOf (m9.cell v0) (by simp), (moves_set _ _ _ _).cellOf (m9.cell v1) (by simp), (moves_set _ _ _ _).cellOf (m9.cell v2) (by simp)⟩ | exact ⟨m9.cell h0, m9.cell v0, m9.cell v1, m9.cell v2⟩ | exact ⟨m7.cell h0, m7.cell v0, m7.cell v1, m7.cell v2⟩ | exact ⟨m5.cell h0, m5.cell v0, m5.cell v1, m5.cell v2⟩ | exact ⟨h0, v0, v1, v2⟩) (first | (go_at_call 46; refine (canonC_w w4.drew _ _ _ _ _ _ _ HVC.out (Moves.refl _ _)).mono ?_; rintro _ w5 ⟨ad5, n5, c5, rfl, hC5, m5, _⟩; have HC5 : Hid (VC w5 [.int .i64 (pcanon p).kind, .slice ad5 n5 c5, .float .f64 (pcanon p).n] (pcanon p)) := hC5; clear hC5) | (go_at_call 73; refine (put_w w5 _ _ _ _ V ⟨t, pcanon p⟩ _ _ _ (HV4.out.moves (mq.drew.then m5)) hnw HC5.out (Moves.refl _ _) hV2).mono ?_; rintro _ w7 ⟨ad7, n7, cap7, rfl, hn7, hG7, m57⟩; have m7 := m5.then m57) | (go_at_call 72; refine (with_w w7 _ _ C s _ _ _ _ (HA3.out.moves (mq.drew.then m7)) hG7 hn7 (Moves.refl _ _) hC2).mono ?_; rintro _ w9 ⟨ad9, n9, cap9, rfl, hG9, m79⟩; have m9 := m7.then m79; have c9 := m9.at c4 (by simp); obtain ⟨f0, f1⟩ := one_cell c9))
            go_wp2_with fail
            try simp only [Exit.inBlock, Exit.then]
            exact bodyPost_ret (ret_row2 rfl _ _ _ _ rfl (set_one c9 _)) rfl ⟨_, _, _, rfl, (hG9.setRow c9 _).at, (hM.drew.then m9).setCell (.inr (by show _ ≤ _ + 1 + 1; omega)) _⟩
end Go.Proofs.Ytfegflimnngfaab
