/- ours -/
import Derived.Test.YtilbbnmhnacnlaaGreatCB22
namespace Go.Proofs.YtilbbnmhnacnlaaGreat
open Go.RowKit

theorem eleven_cells {w : World} {p : Nat} {a0 a1 a2 a3 a4 a5 a6 a7 a8 a9 a10 : Value} {t : TypeId} (h : w.heap[p]? = some (.cells #[a0, a1, a2, a3, a4, a5, a6, a7, a8, a9, a10] t (0, 0))) :
    w.cell? ⟨p, 0, none⟩ = some a0 ∧ w.cell? ⟨p, 1, none⟩ = some a1 ∧ w.cell? ⟨p, 2, none⟩ = some a2 ∧ w.cell? ⟨p, 3, none⟩ = some a3 ∧ w.cell? ⟨p, 4, none⟩ = some a4 ∧ w.cell? ⟨p, 5, none⟩ = some a5 ∧ w.cell? ⟨p, 6, none⟩ = some a6 ∧ w.cell? ⟨p, 7, none⟩ = some a7 ∧ w.cell? ⟨p, 8, none⟩ = some a8 ∧ w.cell? ⟨p, 9, none⟩ = some a9 ∧ w.cell? ⟨p, 10, none⟩ = some a10 := by
  simp [World.cell?, h]

theorem cwithin_w (n a b : Int) (w : World) : Calls Tryz.prog 97 #[.int .i64 n, .int .i64 a, .int .i64 b] w fun e w' => e = .returned (.bool (wi n a b)) ∧ w = w' := by
  unfold wi
  by_cases h1 : a ≤ n
  · by_cases h2 : n ≤ b
    · rw [decide_eq_true h1, decide_eq_true h2]
      go_enter Tryz.func97, Tryz.ntmps97
      go_wp2
      go_ret
      exact ⟨rfl, rfl⟩
    · rw [decide_eq_true h1, decide_eq_false h2]
      go_enter Tryz.func97, Tryz.ntmps97
      go_wp2
      go_ret
      exact ⟨rfl, rfl⟩
  · rw [decide_eq_false h1]
    go_enter Tryz.func97, Tryz.ntmps97
    go_wp2
    go_ret
    exact ⟨rfl, rfl⟩
theorem cplace_w (s : ByteArray) (w : World) : Calls Tryz.prog 96 #[.string s] w fun e w' => e = .returned (.bool (rPlace s)) ∧ w = w' := by
  unfold rPlace
  by_cases h1 : s.size ≤ 16
  · have h1' : (s.size : Int) ≤ 16 := by omega
    rw [decide_eq_true h1]
    go_enter Tryz.func96, Tryz.ntmps96
    go_wp2
    go_ret
    exact ⟨rfl, rfl⟩
  · have h1' : ¬ (s.size : Int) ≤ 16 := by omega
    rw [decide_eq_false h1]
    go_enter Tryz.func96, Tryz.ntmps96
    go_wp2
    go_ret
    exact ⟨rfl, rfl⟩

theorem all_step {xs : List Pnam} {k : Nat} {x : Pnam} (h : xs[k]? = some x) : (xs.take (k + 1)).all rRow = ((xs.take k).all rRow && rRow x) := by
  rw [List.take_add_one, h]
  simp
theorem all_no {xs : List Pnam} {k : Nat} {x : Pnam} (h : xs[k]? = some x) (hx : rRow x = false) : xs.all rRow = false := by
  rw [List.all_eq_false]
  exact ⟨x, List.mem_of_getElem? h, by rw [hx]; simp⟩

set_option maxRecDepth 100000 in
set_option maxHeartbeats 8000000 in
theorem crows_w (W w : World) (v : Value) (xs : List Pnam) (h : NamsAt W v xs) (m : Moves [] W w) :
    Calls Tryz.prog 175 #[v] w fun e w' => e = .returned (.bool (rRows xs)) ∧ Moves [] w w' := by
  obtain ⟨ad, cap, rfl, _⟩ := h.slice
  obtain ⟨n, hn⟩ : ∃ n, xs.length = n := ⟨_, rfl⟩
  have HN : Hid (xs.length = n) := hn
  have HA : Hid (NamsAt W (.slice ad xs.length cap) xs) := h
  rw [hn] at HA ⊢
  have HM : Hid (Moves [] W w) := m
  unfold rRows
  rw [hn]
  clear h m
  by_cases h16 : n ≤ 16
  · have h16' : ¬ (16 : Int) < (n : Int) := by omega
    rw [decide_eq_true h16, Bool.true_and]
    clear hn
    go_enter Tryz.func175, Tryz.ntmps175
    go_wp2_with fail
    go_loopw [10] (fun iv wr => ∃ k : Nat, k ≤ n ∧ iv = .int .i64 (k : Int) ∧ (xs.take k).all rRow = true ∧ Moves [] w wr) (fun iv _ => (n - intOf iv).toNat)
    case atStart => exact ⟨0, Nat.zero_le _, rfl, by simp, Moves.refl _ _⟩
    case round =>
      obtain ⟨k, hk, rfl, hall, mr⟩ := hrel
      have HALL : Hid ((xs.take k).all rRow = true) := hall
      clear hall
      by_cases hkn : k < n
      · have hkn' : (k : Int) < (n : Int) := by omega
        obtain ⟨x, hx⟩ : ∃ x, xs[k]? = some x := ⟨_, List.getElem?_eq_getElem (by have := HN.out; omega)⟩
        obtain ⟨g, off, a2, n2, c2, rfl, y0, y1, hn2, hC⟩ := HA.out.at hx
        have z0 := (HM.out.then mr).cell y0
        have z1 := (HM.out.then mr).cell y1
        have HX : Hid (xs[k]? = some x) := hx
        have HR : Hid (RowAt W (.agg #[.slice a2 n2 c2]) x.r) := ⟨_, rfl, hC⟩
        obtain ⟨nm, hnm⟩ : ∃ nm, x.name = nm := ⟨_, rfl⟩
        rw [hnm] at z0
        have ma : Moves [] wr (wr.alloc (.cells #[.string nm, .slice a2 n2 c2] 99)) := (Moves.refl [] wr).alloc _
        have hrt := right_w W (wr.alloc (.cells #[.string nm, .slice a2 n2 c2] 99)) _ x.r HR.out ((HM.out.then mr).then ma)
        have hna := name_w nm
        have HRR : Hid (rRow x = (pname nm && pright x.r)) := by unfold Hid rRow; rw [hnm]
        clear y0 y1 hx hC hnm hn2
        cases hb1 : pname nm with
        | false =>
          have HF : Hid (xs.all rRow = false) := all_no HX.out (by rw [HRR.out, hb1]; rfl)
          rw [hb1] at hna
          go_wp2_with (go_at_call 121; refine (hna _).mono ?_; rintro _ _ ⟨rfl, rfl⟩)
          go_ret
          exact ⟨by rw [HF.out]; rfl, mr.then ma⟩
        | true =>
          rw [hb1] at hna
          cases hb2 : pright x.r with
          | false =>
            have HF : Hid (xs.all rRow = false) := all_no HX.out (by rw [HRR.out, hb1, hb2]; rfl)
            rw [hb2] at hrt
            go_wp2_with (first | (go_at_call 121; refine (hna _).mono ?_; rintro _ _ ⟨rfl, rfl⟩) | (go_at_call 170; refine hrt.mono ?_; rintro _ w5 ⟨rfl, m5⟩))
            go_ret
            exact ⟨by rw [HF.out]; rfl, (mr.then ma).then m5⟩
          | true =>
            have HF : Hid ((xs.take (k + 1)).all rRow = true) := by
              unfold Hid
              rw [all_step HX.out, HALL.out, HRR.out, hb1, hb2]
              rfl
            rw [hb2] at hrt
            go_wp2_with (first | (go_at_call 121; refine (hna _).mono ?_; rintro _ _ ⟨rfl, rfl⟩) | (go_at_call 170; refine hrt.mono ?_; rintro _ w5 ⟨rfl, m5⟩))
            go_roundw
            case rel => exact ⟨k + 1, by omega, by go_num, HF.out, (mr.then ma).then m5⟩
            case measure => simp [intOf]; omega
      · have hkn' : ¬ (k : Int) < (n : Int) := by omega
        have HF : Hid (xs.all rRow = true) := by
          have e : xs.take k = xs := List.take_of_length_le (by have := HN.out; omega)
          have := HALL.out
          rw [e] at this
          exact this
        go_wp2_with fail
        go_ret
        exact ⟨by rw [HF.out]; rfl, mr⟩
  · have h16' : (16 : Int) < (n : Int) := by omega
    rw [decide_eq_false h16, Bool.false_and]
    go_enter Tryz.func175, Tryz.ntmps175
    go_wp2_with fail
    go_ret
    exact ⟨rfl, Moves.refl _ _⟩

set_option maxRecDepth 100000 in
set_option maxHeartbeats 16000000 in
theorem crightA_w (W w : World) (c : List Value) (p : Pans) (h : AnsC W c p) (m : Moves [] W w) :
    Calls Tryz.prog 141 #[.agg c.toArray] w fun e w' => e = .returned (.bool (rAns p)) ∧ Moves [] w w' := by
  obtain ⟨ar, nr, cr, sa, ns, cs, g, rfl, hN, hB, -, -⟩ := h
  have hns : p.st.length = ns := by
    obtain ⟨_, _, _, e, h2, _⟩ := hB
    simp at e
    omega
  have HM : Hid (Moves [] W w) := m
  have hbox := heap_alloc_new w (.cells #[.int .i64 p.code, .slice ar nr cr, .string p.lo, .string p.hi, .int .i64 p.grp, .int .i64 p.gen, .int .i64 p.old, .int .i64 p.to, .int .i64 p.act, .string p.at', .slice sa ns cs] 48)
  have ma : Moves [] w (w.alloc (.cells #[.int .i64 p.code, .slice ar nr cr, .string p.lo, .string p.hi, .int .i64 p.grp, .int .i64 p.gen, .int .i64 p.old, .int .i64 p.to, .int .i64 p.act, .string p.at', .slice sa ns cs] 48)) := (Moves.refl [] w).alloc _
  have hrows := crows_w W _ _ p.rows hN (HM.out.then ma)
  have hspan := spRight_w p.lo p.hi
  obtain ⟨P, hP⟩ : ∃ P, w.heap.size = P := ⟨_, rfl⟩
  rw [hP] at hbox
  unfold rAns
  rw [hns]
  clear hN hB m
  obtain ⟨code, rows, lo, hi, grp, gen, old, to, act, at', st⟩ := p
  dsimp only at *
  cases hb0 : wi code 0 255 with
  | false =>
    go_enter Tryz.func141, Tryz.ntmps141
    go_wp2_with (first | (go_at_call 97; refine (cwithin_w _ _ _ _).mono ?_; rintro _ _ ⟨rfl, rfl⟩) | (go_at_call 96; refine (cplace_w _ _).mono ?_; rintro _ _ ⟨rfl, rfl⟩) | (go_at_call 175; refine hrows.mono ?_; rintro _ w4 ⟨rfl, m4⟩; have hb4 := m4.at hbox (by simp); obtain ⟨k0, k1, k2, k3, k4, k5, k6, k7, k8, k9, k10⟩ := eleven_cells hb4) | (go_at_call 124; refine (hspan _).mono ?_; rintro _ w5 ⟨rfl, m5⟩; have hb5 := m5.at hb4 (by simp); obtain ⟨j0, j1, j2, j3, j4, j5, j6, j7, j8, j9, j10⟩ := eleven_cells hb5))
    go_ret
    exact ⟨by first | (simp; done) | (simp; omega), ma⟩
  | true =>
    cases hb1 : rRows rows with
    | false =>
      rw [hb1] at hrows
      go_enter Tryz.func141, Tryz.ntmps141
      go_wp2_with (first | (go_at_call 97; refine (cwithin_w _ _ _ _).mono ?_; rintro _ _ ⟨rfl, rfl⟩) | (go_at_call 96; refine (cplace_w _ _).mono ?_; rintro _ _ ⟨rfl, rfl⟩) | (go_at_call 175; refine hrows.mono ?_; rintro _ w4 ⟨rfl, m4⟩; have hb4 := m4.at hbox (by simp); obtain ⟨k0, k1, k2, k3, k4, k5, k6, k7, k8, k9, k10⟩ := eleven_cells hb4) | (go_at_call 124; refine (hspan _).mono ?_; rintro _ w5 ⟨rfl, m5⟩; have hb5 := m5.at hb4 (by simp); obtain ⟨j0, j1, j2, j3, j4, j5, j6, j7, j8, j9, j10⟩ := eleven_cells hb5))
      go_ret
      exact ⟨by first | (simp; done) | (simp; omega), ma.then m4⟩
    | true =>
      rw [hb1] at hrows
      cases hb2 : spR ⟨lo, hi⟩ with
      | false =>
        simp only [hb2] at hspan
        go_enter Tryz.func141, Tryz.ntmps141
        go_wp2_with (first | (go_at_call 97; refine (cwithin_w _ _ _ _).mono ?_; rintro _ _ ⟨rfl, rfl⟩) | (go_at_call 96; refine (cplace_w _ _).mono ?_; rintro _ _ ⟨rfl, rfl⟩) | (go_at_call 175; refine hrows.mono ?_; rintro _ w4 ⟨rfl, m4⟩; have hb4 := m4.at hbox (by simp); obtain ⟨k0, k1, k2, k3, k4, k5, k6, k7, k8, k9, k10⟩ := eleven_cells hb4) | (go_at_call 124; refine (hspan _).mono ?_; rintro _ w5 ⟨rfl, m5⟩; have hb5 := m5.at hb4 (by simp); obtain ⟨j0, j1, j2, j3, j4, j5, j6, j7, j8, j9, j10⟩ := eleven_cells hb5))
        go_ret
        exact ⟨by first | (simp; done) | (simp; omega), (ma.then m4).then m5⟩
      | true =>
        simp only [hb2] at hspan
        cases hb3 : wi grp 0 255 with
        | false =>
          go_enter Tryz.func141, Tryz.ntmps141
          go_wp2_with (first | (go_at_call 97; refine (cwithin_w _ _ _ _).mono ?_; rintro _ _ ⟨rfl, rfl⟩) | (go_at_call 96; refine (cplace_w _ _).mono ?_; rintro _ _ ⟨rfl, rfl⟩) | (go_at_call 175; refine hrows.mono ?_; rintro _ w4 ⟨rfl, m4⟩; have hb4 := m4.at hbox (by simp); obtain ⟨k0, k1, k2, k3, k4, k5, k6, k7, k8, k9, k10⟩ := eleven_cells hb4) | (go_at_call 124; refine (hspan _).mono ?_; rintro _ w5 ⟨rfl, m5⟩; have hb5 := m5.at hb4 (by simp); obtain ⟨j0, j1, j2, j3, j4, j5, j6, j7, j8, j9, j10⟩ := eleven_cells hb5))
          go_ret
          exact ⟨by first | (simp; done) | (simp; omega), (ma.then m4).then m5⟩
        | true =>
          cases hb4 : wi to 0 255 with
          | false =>
            go_enter Tryz.func141, Tryz.ntmps141
            go_wp2_with (first | (go_at_call 97; refine (cwithin_w _ _ _ _).mono ?_; rintro _ _ ⟨rfl, rfl⟩) | (go_at_call 96; refine (cplace_w _ _).mono ?_; rintro _ _ ⟨rfl, rfl⟩) | (go_at_call 175; refine hrows.mono ?_; rintro _ w4 ⟨rfl, m4⟩; have hb4 := m4.at hbox (by simp); obtain ⟨k0, k1, k2, k3, k4, k5, k6, k7, k8, k9, k10⟩ := eleven_cells hb4) | (go_at_call 124; refine (hspan _).mono ?_; rintro _ w5 ⟨rfl, m5⟩; have hb5 := m5.at hb4 (by simp); obtain ⟨j0, j1, j2, j3, j4, j5, j6, j7, j8, j9, j10⟩ := eleven_cells hb5))
            go_ret
            exact ⟨by first | (simp; done) | (simp; omega), (ma.then m4).then m5⟩
          | true =>
            cases hb5 : wi act 0 255 with
            | false =>
              go_enter Tryz.func141, Tryz.ntmps141
              go_wp2_with (first | (go_at_call 97; refine (cwithin_w _ _ _ _).mono ?_; rintro _ _ ⟨rfl, rfl⟩) | (go_at_call 96; refine (cplace_w _ _).mono ?_; rintro _ _ ⟨rfl, rfl⟩) | (go_at_call 175; refine hrows.mono ?_; rintro _ w4 ⟨rfl, m4⟩; have hb4 := m4.at hbox (by simp); obtain ⟨k0, k1, k2, k3, k4, k5, k6, k7, k8, k9, k10⟩ := eleven_cells hb4) | (go_at_call 124; refine (hspan _).mono ?_; rintro _ w5 ⟨rfl, m5⟩; have hb5 := m5.at hb4 (by simp); obtain ⟨j0, j1, j2, j3, j4, j5, j6, j7, j8, j9, j10⟩ := eleven_cells hb5))
              go_ret
              exact ⟨by first | (simp; done) | (simp; omega), (ma.then m4).then m5⟩
            | true =>
              cases hb6 : wi gen 0 1073741824 with
              | false =>
                go_enter Tryz.func141, Tryz.ntmps141
                go_wp2_with (first | (go_at_call 97; refine (cwithin_w _ _ _ _).mono ?_; rintro _ _ ⟨rfl, rfl⟩) | (go_at_call 96; refine (cplace_w _ _).mono ?_; rintro _ _ ⟨rfl, rfl⟩) | (go_at_call 175; refine hrows.mono ?_; rintro _ w4 ⟨rfl, m4⟩; have hb4 := m4.at hbox (by simp); obtain ⟨k0, k1, k2, k3, k4, k5, k6, k7, k8, k9, k10⟩ := eleven_cells hb4) | (go_at_call 124; refine (hspan _).mono ?_; rintro _ w5 ⟨rfl, m5⟩; have hb5 := m5.at hb4 (by simp); obtain ⟨j0, j1, j2, j3, j4, j5, j6, j7, j8, j9, j10⟩ := eleven_cells hb5))
                go_ret
                exact ⟨by first | (simp; done) | (simp; omega), (ma.then m4).then m5⟩
              | true =>
                cases hb7 : wi old 0 1073741824 with
                | false =>
                  go_enter Tryz.func141, Tryz.ntmps141
                  go_wp2_with (first | (go_at_call 97; refine (cwithin_w _ _ _ _).mono ?_; rintro _ _ ⟨rfl, rfl⟩) | (go_at_call 96; refine (cplace_w _ _).mono ?_; rintro _ _ ⟨rfl, rfl⟩) | (go_at_call 175; refine hrows.mono ?_; rintro _ w4 ⟨rfl, m4⟩; have hb4 := m4.at hbox (by simp); obtain ⟨k0, k1, k2, k3, k4, k5, k6, k7, k8, k9, k10⟩ := eleven_cells hb4) | (go_at_call 124; refine (hspan _).mono ?_; rintro _ w5 ⟨rfl, m5⟩; have hb5 := m5.at hb4 (by simp); obtain ⟨j0, j1, j2, j3, j4, j5, j6, j7, j8, j9, j10⟩ := eleven_cells hb5))
                  go_ret
                  exact ⟨by first | (simp; done) | (simp; omega), (ma.then m4).then m5⟩
                | true =>
                  cases hb8 : rPlace at' with
                  | false =>
                    go_enter Tryz.func141, Tryz.ntmps141
                    go_wp2_with (first | (go_at_call 97; refine (cwithin_w _ _ _ _).mono ?_; rintro _ _ ⟨rfl, rfl⟩) | (go_at_call 96; refine (cplace_w _ _).mono ?_; rintro _ _ ⟨rfl, rfl⟩) | (go_at_call 175; refine hrows.mono ?_; rintro _ w4 ⟨rfl, m4⟩; have hb4 := m4.at hbox (by simp); obtain ⟨k0, k1, k2, k3, k4, k5, k6, k7, k8, k9, k10⟩ := eleven_cells hb4) | (go_at_call 124; refine (hspan _).mono ?_; rintro _ w5 ⟨rfl, m5⟩; have hb5 := m5.at hb4 (by simp); obtain ⟨j0, j1, j2, j3, j4, j5, j6, j7, j8, j9, j10⟩ := eleven_cells hb5))
                    go_ret
                    exact ⟨by first | (simp; done) | (simp; omega), (ma.then m4).then m5⟩
                  | true =>
                    cases hb9 : decide (ns ≤ 1048576) with
                    | false =>
                      have hns' : ¬ (ns : Int) ≤ 1048576 := by have := of_decide_eq_false hb9; omega
                      go_enter Tryz.func141, Tryz.ntmps141
                      go_wp2_with (first | (go_at_call 97; refine (cwithin_w _ _ _ _).mono ?_; rintro _ _ ⟨rfl, rfl⟩) | (go_at_call 96; refine (cplace_w _ _).mono ?_; rintro _ _ ⟨rfl, rfl⟩) | (go_at_call 175; refine hrows.mono ?_; rintro _ w4 ⟨rfl, m4⟩; have hb4 := m4.at hbox (by simp); obtain ⟨k0, k1, k2, k3, k4, k5, k6, k7, k8, k9, k10⟩ := eleven_cells hb4) | (go_at_call 124; refine (hspan _).mono ?_; rintro _ w5 ⟨rfl, m5⟩; have hb5 := m5.at hb4 (by simp); obtain ⟨j0, j1, j2, j3, j4, j5, j6, j7, j8, j9, j10⟩ := eleven_cells hb5))
                      go_ret
                      exact ⟨by first | (simp; done) | (simp; omega), (ma.then m4).then m5⟩
                    | true =>
                      have hns' : (ns : Int) ≤ 1048576 := by have := of_decide_eq_true hb9; omega
                      go_enter Tryz.func141, Tryz.ntmps141
                      go_wp2_with (first | (go_at_call 97; refine (cwithin_w _ _ _ _).mono ?_; rintro _ _ ⟨rfl, rfl⟩) | (go_at_call 96; refine (cplace_w _ _).mono ?_; rintro _ _ ⟨rfl, rfl⟩) | (go_at_call 175; refine hrows.mono ?_; rintro _ w4 ⟨rfl, m4⟩; have hb4 := m4.at hbox (by simp); obtain ⟨k0, k1, k2, k3, k4, k5, k6, k7, k8, k9, k10⟩ := eleven_cells hb4) | (go_at_call 124; refine (hspan _).mono ?_; rintro _ w5 ⟨rfl, m5⟩; have hb5 := m5.at hb4 (by simp); obtain ⟨j0, j1, j2, j3, j4, j5, j6, j7, j8, j9, j10⟩ := eleven_cells hb5))
                      go_ret
                      exact ⟨by first | rfl | (simp; done) | (simp; omega), (ma.then m4).then m5⟩
end Go.Proofs.YtilbbnmhnacnlaaGreat
