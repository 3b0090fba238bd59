/-
  RowNewest's walk.
-/
import Derived.Test.YtfegflimnngfaaaCTimes4
import Derived.Test.YtfegflimnngfaaaCOpen4
namespace Go.Proofs.Ytfegflimnngfaaa
open Go.RowKit

/-- What stands in the row behind k puts: the newest first. -/
def NewInv (k : Nat) (R : List Pcol) (a : Int) (p : Pv) : Prop := (k = 0 ∧ R = [] ∧ a = -1) ∨ (0 ≤ a ∧ a < 20 ∧ ∃ rest, R = [⟨sC, ⟨a, pcanon p⟩ :: rest⟩] ∧ prightV (⟨a, pcanon p⟩ :: rest) = true)

theorem prightV_head {x : Pver} {l : List Pver} (h : prightV (x :: l) = true) : ptime x.t = true ∧ pvr x.v = true := by
  rcases prightV_cases h with ⟨y, e, h1, h2⟩ | ⟨y, z, e, h1, h2, _⟩
  · simp at e; rw [e.1]; exact ⟨h1, h2⟩
  · simp at e; rw [e.1]; exact ⟨h1, h2⟩

theorem newest_head {a t : Int} {p q : Pv} {rest : List Pver} (h : prightV (⟨a, pcanon p⟩ :: rest) = true) : ∃ rest', pput ((⟨a, pcanon p⟩ :: rest).map pcanonV) ⟨t, pcanon q⟩ = (if a ≤ t then ⟨t, pcanon q⟩ else ⟨a, pcanon p⟩) :: rest' := by
  rcases prightV_cases h with ⟨y, e, _⟩ | ⟨y, z, e, _, _, _, _, hz⟩
  · simp at e
    obtain ⟨rfl, rfl⟩ := e
    simp only [List.map_cons, List.map_nil, pcanonV, pcanon_pcanon, pput]
    by_cases h1 : t < a
    · exact ⟨[⟨t, pcanon q⟩], by simp [h1, show ¬ a < t by omega, show ¬ a ≤ t by omega]⟩
    · by_cases h2 : a < t
      · exact ⟨[⟨a, pcanon p⟩], by simp [h1, h2, show a ≤ t by omega]⟩
      · exact ⟨[], by simp [h1, h2, show a ≤ t by omega]⟩
  · simp at e
    obtain ⟨rfl, rfl⟩ := e
    simp only at hz
    simp only [List.map_cons, List.map_nil, pcanonV, pcanon_pcanon, pput]
    by_cases h1 : t < a
    · by_cases h3 : t < z.t
      · exact ⟨[⟨z.t, pcanon z.v⟩], by simp [h1, h3, show ¬ a < t by omega, show ¬ z.t < t by omega, show ¬ a ≤ t by omega]⟩
      · by_cases h4 : z.t < t
        · exact ⟨[⟨t, pcanon q⟩], by simp [h1, h3, h4, show ¬ a < t by omega, show ¬ a ≤ t by omega]⟩
        · exact ⟨[⟨t, pcanon q⟩], by simp [h1, h3, h4, show ¬ a < t by omega, show ¬ a ≤ t by omega]⟩
    · by_cases h2 : a < t
      · exact ⟨[⟨a, pcanon p⟩], by simp [h1, h2, show ¬ t < z.t by omega, show z.t < t by omega, show a ≤ t by omega]⟩
      · exact ⟨[⟨z.t, pcanon z.v⟩], by simp [h1, h2, show ¬ t < z.t by omega, show z.t < t by omega, show a ≤ t by omega]⟩

/-- One put more. -/
theorem newest_step {k : Nat} {R : List Pcol} {a t : Int} {p q : Pv} (h : NewInv k R a p) (ht : 0 ≤ t ∧ t < 20) (hq : pvr q = true) :
    pPutE R sC t q = 0 ∧ ∃ l, pPut R sC t q = [⟨sC, l⟩] ∧ pright [⟨sC, l⟩] = true ∧ l.length ≤ 2 ∧ (a ≤ t → NewInv (k + 1) [⟨sC, l⟩] t q ∧ pAt [⟨sC, l⟩] sC 1099511627776 = some (pcanon q)) ∧ (¬ a ≤ t → NewInv (k + 1) [⟨sC, l⟩] a p ∧ pAt [⟨sC, l⟩] sC 1099511627776 = some (pcanon p)) := by
  have hn : pname sC = true := by decide
  have tt : ptime t = true := by unfold ptime; simp; omega
  have at_head : ∀ {b : Int} {r : Pv} {rest : List Pver}, b ≤ 1099511627776 → prightV (⟨b, pcanon r⟩ :: rest) = true → pAt [⟨sC, ⟨b, pcanon r⟩ :: rest⟩] sC 1099511627776 = some (pcanon r) := by
    intro b r rest hb hl
    rw [pAt_single hn hl]
    simp [hb, pcanon_pcanon]
  rcases h with ⟨rfl, rfl, rfl⟩ | ⟨h1, h2, rest, rfl, hl⟩
  · obtain ⟨e1, e2⟩ := pPut_first hn tt hq
    have hl : prightV [⟨t, pcanon q⟩] = true := by rw [prightV_one]; simp [tt, pvr_canon, hq]
    exact ⟨e1, _, e2, pright_single hn hl, by simp, fun _ => ⟨.inr ⟨ht.1, ht.2, [], rfl, hl⟩, at_head (by omega) hl⟩, fun hx => absurd (by omega) hx⟩
  · obtain ⟨e1, e2⟩ := pPut_single hn tt hq hl
    obtain ⟨rest', hr⟩ := newest_head (t := t) (q := q) hl
    have hl' : prightV (pput ((⟨a, pcanon p⟩ :: rest).map pcanonV) ⟨t, pcanon q⟩) = true := pput_right (prightV_canon hl) tt (by rw [pvr_canon]; exact hq)
    refine ⟨e1, _, e2, pright_single hn hl', (prightV_two hl').2, fun hx => ?_, fun hx => ?_⟩
    · rw [if_pos hx] at hr
      rw [hr] at hl' ⊢
      exact ⟨.inr ⟨ht.1, ht.2, rest', rfl, hl'⟩, at_head (by omega) hl'⟩
    · rw [if_neg hx] at hr
      rw [hr] at hl' ⊢
      exact ⟨.inr ⟨h1, h2, rest', rfl, hl'⟩, at_head (by omega) hl'⟩
theorem newest_end {k : Nat} {R : List Pcol} {a : Int} {p : Pv} (h : NewInv k R a p) : pDropCol R sC = [] := by
  rcases h with ⟨rfl, rfl, rfl⟩ | ⟨_, _, rest, rfl, hl⟩
  · exact pDropCol_nil _
  · exact pDropCol_single (by decide) hl
theorem rightK {R : List Pcol} (hR : pright R = true) (w : World) (v : Value) (h : RowAt w v R) : Calls Try.prog 19 #[v] w fun e w' => e = .returned (.bool true) ∧ Moves [] w w' := by
  have := right_w w w v R h (Moves.refl _ _)
  rw [hR] at this
  exact this

theorem RowAt.box3 {w w' : World} {v : Value} {xs : List Pcol} (h : RowAt w v xs) {b : Nat} {cs : Array Value} {fz : Nat × Nat} (hb : w.heap[b]? = some (.cells cs 39 fz)) (m : Moves [b] w w') : RowAt w' v xs := by
  obtain ⟨lv, rfl, css, h1, h2⟩ := h
  have st : Stay (fun t => t ≠ 39) w w' := Stay.ofMovesS m (fun k hk c t fz hc => by
    simp at hk
    subst hk
    rw [hb] at hc
    simp at hc
    rw [← hc.2.1]
    simp)
  exact ⟨lv, rfl, css, h1.stay st (by decide), h2.mono fun _ _ k => k.stay st (by decide) (by decide)⟩
/-- The one column of such a row. -/
theorem RowAt.only {w : World} {ad : Option Addr} {n cap : Nat} {x : Pcol} (h : RowAt w (.agg #[.slice ad n cap]) [x]) : n = 1 ∧ ∃ g off a2 n2 c2, ad = some ⟨g, off, none⟩ ∧ w.cell? ⟨g, off, none⟩ = some (.string x.name) ∧ w.cell? ⟨g, off + 1, none⟩ = some (.slice a2 n2 c2) ∧ n2 = x.l.length := by
  obtain ⟨lv, e, h⟩ := h
  simp at e
  subst e
  obtain ⟨g, off, a2, n2, c2, h1, h2, h3, h4, _⟩ := h.at (k := 0) (x := x) rfl
  exact ⟨h.len, g, off, a2, n2, c2, h1, by simpa using h2, by simpa using h3, h4⟩

set_option maxRecDepth 100000 in
set_option maxHeartbeats 8000000 in
theorem newestLaw_w (u0 u1 : Value) (w : World) (h0 : KArgs w u0) (h1 : IArgs w u1) :
    Calls Try.prog 5 #[u0, u1] w fun e w' => e = .returned (.bool true) ∧ Moves [] w w' := by
  obtain ⟨adv, nv, cv, rfl, hcv, hV⟩ := h0
  obtain ⟨adt, nt, ct, rfl, hct, hT⟩ := h1
  have HVs := hV
  have HTs := hT
  clear hV hT
  go_enter Try.func5, Try.ntmps5
  go_wp2_with fail
  obtain ⟨w1, hw1⟩ : ∃ w1, (w.alloc (.cells #[.slice none 0 0] 28)).alloc (.cells #[.int .i64 0, .slice none 0 0, .float .f64 0] 39) = w1 := ⟨_, rfl⟩
  obtain ⟨p0, p1, m1⟩ : w1.heap[w.heap.size]? = some (.cells #[.slice none 0 0] 28 (0, 0)) ∧ w1.heap[w.heap.size + 1]? = some (.cells #[.int .i64 0, .slice none 0 0, .float .f64 0] 39 (0, 0)) ∧ Moves [] w w1 := by rw [← hw1]; exact boxes (Moves.refl _ _)
  rw [hw1]
  clear hw1
  go_loopw [7, 8] (fun a i wr => ∃ (k : Nat) (b : Int) (lv : Value) (kd : Int) (ad : Option Addr) (n c x : Nat) (p : Pv) (R : List Pcol), (k ≤ 15 ∧ k ≤ nv ∧ k ≤ nt) ∧ a = .int .i64 b ∧ i = .int .i64 k ∧ Moves [] w wr ∧ wr.heap[w.heap.size]? = some (.cells #[lv] 28 (0, 0)) ∧ wr.heap[w.heap.size + 1]? = some (.cells #[.int .i64 kd, .slice ad n c, .float .f64 x] 39 (0, 0)) ∧ RowAt wr (.agg #[lv]) R ∧ VA w [.int .i64 kd, .slice ad n c, .float .f64 x] p ∧ NewInv k R b p) (fun _ i _ => 15 - (intOf i).toNat)
  case atStart => exact ⟨0, -1, _, _, _, _, _, _, ⟨0, [], 0⟩, [], ⟨by omega, by omega, by omega⟩, rfl, rfl, m1, p0, p1, RowAt.nil _, ⟨none, 0, 0, 0, rfl, isB_nil _ _, fits_zero, by simp, by simp⟩, .inl ⟨rfl, rfl, rfl⟩⟩
  case round =>
    obtain ⟨k, b, lv, kd, ad, n, c, x, p, R, ⟨hk1, hk2, hk3⟩, rfl, rfl, mr, q0, q1, hR, hVA, hI⟩ := hrel
    have hRl := hR
    obtain ⟨lv', elv, hCols⟩ := hRl
    simp at elv
    subst elv
    obtain ⟨adr, capr, elv, _⟩ := hCols.slice
    obtain ⟨nr, hnr⟩ : ∃ nr, Hid (nr = R.length) := ⟨_, rfl⟩
    rw [← hnr.out] at elv
    subst elv
    have HR : Hid (RowAt wr (.agg #[.slice adr nr capr]) R) := hR
    have HVA : Hid (VA w [.int .i64 kd, .slice ad n c, .float .f64 x] p) := hVA
    have HI : Hid (NewInv k R b p) := hI
    obtain ⟨r0, r1⟩ := one_cell q0
    clear hR hVA hI hCols p0 p1
    by_cases hc : k < nv ∧ k < nt ∧ k < 15
    · obtain ⟨hc1, hc2, hc3⟩ := hc
      have hc1' : (k : Int) < nv := by omega
      have hc2' : (k : Int) < nt := by omega
      have hc3' : (k : Int) < 15 := by omega
      obtain ⟨bv, offv, tb, tn, tx, a2, l2, c2, rfl, v0, v1, v2, v3, hK⟩ := HVs k hc1
      obtain ⟨bt, offt, tm, rfl, t0⟩ := HTs k hc2
      have vr0 := mr.cell v0
      have vr1 := mr.cell v1
      have vr2 := mr.cell v2
      have vr3 := mr.cell v3
      have tr0 := mr.cell t0
      have HK : Hid (KArg w (.agg #[.bool tb, .int .i64 tn, .float .f64 tx, .slice a2 l2 c2])) := hK
      have hx := tmod20 tm
      obtain ⟨t, ht⟩ : ∃ t, (wrap64 (tm.tmod 20 + 20)).tmod 20 = t := ⟨_, rfl⟩
      rw [ht] at hx
      have hmv : Hid (Moves [] w wr) := mr
      clear v0 v1 v2 v3 t0 hK
      by_cases hbt : b ≤ t
      · go_wp2_with (first | (go_at_call 15; refine (keep_b' w _ _ HK.out).mono ?_; rintro _ w3 ⟨A, adA, lenA, capA, rfl, hA, yA, m3⟩; have hlt1 := lt_of_block q1; have hs3 := m3.size; have ne1 : ¬ w3.heap.size = w.heap.size := (by omega); have ne2 : ¬ w.heap.size = w3.heap.size := (by omega); have ne3 : ¬ w3.heap.size = w.heap.size + 1 := (by omega); have ne4 : ¬ w.heap.size + 1 = w3.heap.size := (by omega); obtain ⟨e1, l, e2, hrt, hl2, hyes, hno⟩ := newest_step HI.out hx yA.right; have hP := putK e1 e2; have HA : Hid (VA w [.int .i64 A.kind, .slice adA lenA capA, .float .f64 A.n] A.pv) := hA.va (by have := yA.len16; omega); have mx : Moves [] w3 (w3.alloc (.cells #[.int .i64 A.kind, .slice adA lenA capA, .float .f64 A.n] 39)) := (Moves.refl _ _).alloc _; have q3 := (m3.then mx).at q0 (by simp); have q31 := (m3.then mx).at q1 (by simp); have q32 := heap_alloc_new w3 (.cells #[.int .i64 A.kind, .slice adA lenA capA, .float .f64 A.n] 39); obtain ⟨s0, s1⟩ := one_cell q3; have HYN : Hid ((NewInv (k + 1) [⟨sC, l⟩] t A.pv ∧ pAt [⟨sC, l⟩] sC 1099511627776 = some (pcanon A.pv)) ∧ pright [⟨sC, l⟩] = true ∧ l.length ≤ 2) := ⟨hyes hbt, hrt, hl2⟩; clear hyes hno e1 e2 hrt hl2 hA yA) | (go_at_call 16; refine (hP _ _ _ _ _ _ _ (HR.out.moves (m3.then mx)) (HA.out.moves (mr.then (m3.then mx)))).mono ?_; rintro _ w4 ⟨ad4, n4, cap4, rfl, hr4, m4⟩; have HR4 : Hid (RowAt w4 (.agg #[.slice ad4 n4 cap4]) [⟨sC, l⟩]) := hr4; clear hr4 hP; have my : Moves [] w4 (w4.alloc (.cells #[.slice ad4 n4 cap4] 28)) := (Moves.refl _ _).alloc _; have q4 := (m4.then my).at q3 (by simp); have q41 := (m4.then my).at q31 (by simp); have q42 := (m4.then my).at q32 (by simp); obtain ⟨y0, y1⟩ := one_cell q4; obtain ⟨z0, z1, z2, z3, z4, z5⟩ := three_cells q41; obtain ⟨u0, u1, u2, _, _, _⟩ := three_cells q42))
        have mw4 := mr.then ((m3.then mx).then (m4.then my))
        have hr5 := (HR4.out.moves my).setRow q4 (.slice ad4 n4 cap4)
        have qr5 := set_one q4 (.slice ad4 n4 cap4)
        have qt5 := (moves_set (w4.alloc (.cells #[.slice ad4 n4 cap4] 28)) w.heap.size 0 (.slice ad4 n4 cap4)).at q41 (by simp)
        have mw5 : Moves [] w ((w4.alloc (.cells #[.slice ad4 n4 cap4] 28)).setCell ⟨w.heap.size, 0, none⟩ (.slice ad4 n4 cap4)) := mw4.setCell (.inr (Nat.le_refl _)) _
        obtain ⟨st1, st2, st3⟩ := stored3 qt5 mw5 (by omega) (.int .i64 A.kind) (.slice adA lenA capA) (.float .f64 A.n)
        obtain ⟨wt, hwt⟩ : ∃ wt, ((((w4.alloc (.cells #[.slice ad4 n4 cap4] 28)).setCell ⟨w.heap.size, 0, none⟩ (.slice ad4 n4 cap4)).setCell ⟨w.heap.size + 1, 0, none⟩ (.int .i64 A.kind)).setCell ⟨w.heap.size + 1, 1, none⟩ (.slice adA lenA capA)).setCell ⟨w.heap.size + 1, 2, none⟩ (.float .f64 A.n) = wt := ⟨_, rfl⟩
        have hr6 := hr5.box3 qt5 st3
        have qr6 := st3.at qr5 (by simp)
        rw [hwt] at st1 st2 hr6 qr6 ⊢
        obtain ⟨en4, g4, off4, a5, n5, c5, rfl, _, x1, x2⟩ := hr6.only
        subst en4
        have HRt : Hid (RowAt wt (.agg #[.slice (some ⟨g4, off4, none⟩) 1 cap4]) [⟨sC, l⟩]) := hr6
        have hN5 : ¬ (2 : Int) < n5 := by have := HYN.out.2.2; simp only at x2; omega
        have hNw := newestK HYN.out.1.2
        have hRt := rightK HYN.out.2.1
        have HS : Hid (psame (pcanon A.pv) A.pv = true) := psame_canon _
        have HM : Hid (Moves [] w wt) := st2
        clear hr6 hr5 qr5 qt5 mw5 mw4 st2 hwt q4 q41 q42 y0 y1 z0 z1 z2 z3 z4 z5 u0 u1 u2 HR4 m4 my s0 s1 q3 q31 q32 x2
        go_wp2_with (first | (go_at_call 17; refine (hNw _ _ HRt.out).mono ?_; rintro _ w6 ⟨k6, ad6, n6, cap6, x6, rfl, hV6, m6⟩; have HV6 : Hid (VC w6 [.int .i64 k6, .slice ad6 n6 cap6, .float .f64 x6] (pcanon A.pv)) := hV6; clear hV6; have mz : Moves [] w6 (w6.alloc (.cells #[.int .i64 k6, .slice ad6 n6 cap6, .float .f64 x6] 39)) := (Moves.refl _ _).alloc _; obtain ⟨t0, t1, t2, _, _, _⟩ := three_cells ((m6.then mz).at st1 (by simp))) | (go_at_call 18; refine (rsame_p _ _ _ _ _ _ _ _ _ _ _ _ _ _ (HV6.out.va.moves mz) (HA.out.moves (HM.out.then (m6.then mz))) (Moves.refl _ _)).mono ?_; rintro _ w7 ⟨rfl, m7⟩; rw [HS.out]; have m67 := (m6.then mz).then m7; obtain ⟨r70, _⟩ := one_cell (m67.at qr6 (by simp)); have x71 := m67.cell x1) | (go_at_call 19; refine (hRt _ _ (HRt.out.moves m67)).mono ?_; rintro _ w8 ⟨rfl, m8⟩))
        go_roundw
        case rel => exact ⟨k + 1, t, _, _, _, _, _, _, A.pv, _, ⟨by omega, by omega, by omega⟩, rfl, by go_num, HM.out.then (m67.then m8), (m67.then m8).at qr6 (by simp), (m67.then m8).at st1 (by simp), HRt.out.moves (m67.then m8), HA.out, HYN.out.1.1⟩
        case measure => simp [intOf]; omega
      · go_wp2_with (first | (go_at_call 15; refine (keep_b' w _ _ HK.out).mono ?_; rintro _ w3 ⟨A, adA, lenA, capA, rfl, hA, yA, m3⟩; have hlt1 := lt_of_block q1; have hs3 := m3.size; have ne1 : ¬ w3.heap.size = w.heap.size := (by omega); have ne2 : ¬ w.heap.size = w3.heap.size := (by omega); have ne3 : ¬ w3.heap.size = w.heap.size + 1 := (by omega); have ne4 : ¬ w.heap.size + 1 = w3.heap.size := (by omega); obtain ⟨e1, l, e2, hrt, hl2, hyes, hno⟩ := newest_step HI.out hx yA.right; have hP := putK e1 e2; have HA : Hid (VA w [.int .i64 A.kind, .slice adA lenA capA, .float .f64 A.n] A.pv) := hA.va (by have := yA.len16; omega); have mx : Moves [] w3 (w3.alloc (.cells #[.int .i64 A.kind, .slice adA lenA capA, .float .f64 A.n] 39)) := (Moves.refl _ _).alloc _; have q3 := (m3.then mx).at q0 (by simp); have q31 := (m3.then mx).at q1 (by simp); have q32 := heap_alloc_new w3 (.cells #[.int .i64 A.kind, .slice adA lenA capA, .float .f64 A.n] 39); obtain ⟨s0, s1⟩ := one_cell q3; have HYN : Hid ((NewInv (k + 1) [⟨sC, l⟩] b p ∧ pAt [⟨sC, l⟩] sC 1099511627776 = some (pcanon p)) ∧ pright [⟨sC, l⟩] = true ∧ l.length ≤ 2) := ⟨hno hbt, hrt, hl2⟩; clear hyes hno e1 e2 hrt hl2 hA yA) | (go_at_call 16; refine (hP _ _ _ _ _ _ _ (HR.out.moves (m3.then mx)) (HA.out.moves (mr.then (m3.then mx)))).mono ?_; rintro _ w4 ⟨ad4, n4, cap4, rfl, hr4, m4⟩; have HR4 : Hid (RowAt w4 (.agg #[.slice ad4 n4 cap4]) [⟨sC, l⟩]) := hr4; clear hr4 hP; have my : Moves [] w4 (w4.alloc (.cells #[.slice ad4 n4 cap4] 28)) := (Moves.refl _ _).alloc _; have q4 := (m4.then my).at q3 (by simp); have q41 := (m4.then my).at q31 (by simp); have q42 := (m4.then my).at q32 (by simp); obtain ⟨y0, y1⟩ := one_cell q4; obtain ⟨z0, z1, z2, z3, z4, z5⟩ := three_cells q41; obtain ⟨u0, u1, u2, _, _, _⟩ := three_cells q42))
        have mw4 := mr.then ((m3.then mx).then (m4.then my))
        have hr5 := (HR4.out.moves my).setRow q4 (.slice ad4 n4 cap4)
        have qr5 := set_one q4 (.slice ad4 n4 cap4)
        have qt5 := (moves_set (w4.alloc (.cells #[.slice ad4 n4 cap4] 28)) w.heap.size 0 (.slice ad4 n4 cap4)).at q41 (by simp)
        have mw5 : Moves [] w ((w4.alloc (.cells #[.slice ad4 n4 cap4] 28)).setCell ⟨w.heap.size, 0, none⟩ (.slice ad4 n4 cap4)) := mw4.setCell (.inr (Nat.le_refl _)) _
        have st1 := qt5
        have st2 := mw5
        have hr6 := hr5
        have qr6 := qr5
        obtain ⟨wt, hwt⟩ : ∃ wt, (w4.alloc (.cells #[.slice ad4 n4 cap4] 28)).setCell ⟨w.heap.size, 0, none⟩ (.slice ad4 n4 cap4) = wt := ⟨_, rfl⟩
        rw [hwt] at st1 st2 hr6 qr6 ⊢
        obtain ⟨en4, g4, off4, a5, n5, c5, rfl, _, x1, x2⟩ := hr6.only
        subst en4
        have HRt : Hid (RowAt wt (.agg #[.slice (some ⟨g4, off4, none⟩) 1 cap4]) [⟨sC, l⟩]) := hr6
        have hN5 : ¬ (2 : Int) < n5 := by have := HYN.out.2.2; simp only at x2; omega
        have hNw := newestK HYN.out.1.2
        have hRt := rightK HYN.out.2.1
        have HS : Hid (psame (pcanon p) p = true) := psame_canon _
        have HM : Hid (Moves [] w wt) := st2
        clear hr6 hr5 qr5 qt5 mw5 mw4 st2 hwt q4 q41 q42 y0 y1 z0 z1 z2 z3 z4 z5 u0 u1 u2 HR4 m4 my s0 s1 q3 q31 q32 x2
        go_wp2_with (first | (go_at_call 17; refine (hNw _ _ HRt.out).mono ?_; rintro _ w6 ⟨k6, ad6, n6, cap6, x6, rfl, hV6, m6⟩; have HV6 : Hid (VC w6 [.int .i64 k6, .slice ad6 n6 cap6, .float .f64 x6] (pcanon p)) := hV6; clear hV6; have mz : Moves [] w6 (w6.alloc (.cells #[.int .i64 k6, .slice ad6 n6 cap6, .float .f64 x6] 39)) := (Moves.refl _ _).alloc _; obtain ⟨t0, t1, t2, _, _, _⟩ := three_cells ((m6.then mz).at st1 (by simp))) | (go_at_call 18; refine (rsame_p _ _ _ _ _ _ _ _ _ _ _ _ _ _ (HV6.out.va.moves mz) (HVA.out.moves (HM.out.then (m6.then mz))) (Moves.refl _ _)).mono ?_; rintro _ w7 ⟨rfl, m7⟩; rw [HS.out]; have m67 := (m6.then mz).then m7; obtain ⟨r70, _⟩ := one_cell (m67.at qr6 (by simp)); have x71 := m67.cell x1) | (go_at_call 19; refine (hRt _ _ (HRt.out.moves m67)).mono ?_; rintro _ w8 ⟨rfl, m8⟩))
        go_roundw
        case rel => exact ⟨k + 1, b, _, _, _, _, _, _, p, _, ⟨by omega, by omega, by omega⟩, rfl, by go_num, HM.out.then (m67.then m8), (m67.then m8).at qr6 (by simp), (m67.then m8).at st1 (by simp), HRt.out.moves (m67.then m8), HVA.out, HYN.out.1.1⟩
        case measure => simp [intOf]; omega
    · have hdrop := dropColK (newest_end HI.out)
      have hnone := newestK (pAt_nil sC 1099511627776)
      have hways : (¬ (k : Int) < nv) ∨ ((k : Int) < nv ∧ ¬ (k : Int) < nt) ∨ ((k : Int) < nv ∧ (k : Int) < nt ∧ ¬ (k : Int) < 15) := by omega
      clear HVs HTs
      rcases hways with g1 | ⟨g1, g2⟩ | ⟨g1, g2, g3⟩
      all_goals go_wp2_with (first | (go_at_call 20; refine (hdrop _ _ HR.out).mono ?_; rintro _ w5 ⟨ad5, n5, cap5, rfl, hr5, m5⟩; obtain ⟨_, e5, hc5⟩ := id hr5; simp only [Value.agg.injEq, Array.mk.injEq, List.cons.injEq, and_true] at e5; subst e5; obtain rfl : n5 = 0 := hc5.len; have mz : Moves [] w5 (w5.alloc (.cells #[.slice ad5 0 cap5] 28)) := (Moves.refl _ _).alloc _; have HR5 : Hid (RowAt (w5.alloc (.cells #[.slice ad5 0 cap5] 28)) (.agg #[.slice ad5 0 cap5]) []) := hr5.moves mz; obtain ⟨b0, _⟩ := one_cell (heap_alloc_new w5 (.cells #[.slice ad5 0 cap5] 28)); clear hr5 hc5) | (go_at_call 17; refine (hnone _ _ HR5.out).mono ?_; rintro _ w6 ⟨k6, ad6, n6, cap6, x6, rfl, hV6, m6⟩; clear hV6; have mu : Moves [] w6 (w6.alloc (.cells #[.int .i64 k6, .slice ad6 n6 cap6, .float .f64 x6] 39)) := (Moves.refl _ _).alloc _; have b1 := (m6.then mu).cell b0) | (go_at_call 9; refine (known_w _).mono ?_; rintro _ w8 ⟨rfl, m8⟩))
      all_goals go_ret
      all_goals exact ⟨rfl, ((mr.then (m5.then mz)).then (m6.then mu)).then m8⟩
end Go.Proofs.Ytfegflimnngfaaa
