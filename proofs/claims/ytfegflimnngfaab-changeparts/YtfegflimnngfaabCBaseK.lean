/-
  Chg1, Chg2, Chg3: our texts of these names, laid into one.
-/
import Derived.Test.YtfegflimnngfaabCChg0
import Derived.Test.YtfegflimnngfaabCRow12
/-
  Package change: rightList, add, apply, Apply: for every row and all changes the calls return what the chapter says, and write nothing that was there.
-/
namespace Go.Proofs.Ytfegflimnngfaab
open Go.RowKit

/-- The first refusal of a list. -/
def cListE (cs : List Pchg) : Int := if 8 < cs.length then 3 else ((cs.map cRight).find? (fun e => e != 0)).getD 0
theorem cListE_upto {cs : List Pchg} {k : Nat} (hl : ¬ 8 < cs.length) (h : ∀ j c, j < k → cs[j]? = some c → cRight c = 0) : (∀ c, cs[k]? = some c → cRight c ≠ 0 → cListE cs = cRight c) ∧ (k = cs.length → cListE cs = 0) := by
  unfold cListE
  rw [if_neg hl]
  clear hl
  induction cs generalizing k with
  | nil => exact ⟨fun c hc => by simp at hc, fun _ => rfl⟩
  | cons a t ih =>
    cases k with
    | zero =>
      refine ⟨fun c hc h0 => ?_, fun h => by simp at h⟩
      simp at hc
      subst hc
      simp [h0]
    | succ k =>
      have ha := h 0 a (by omega) rfl
      obtain ⟨h1, h2⟩ := ih (k := k) fun j c hj hc => h (j + 1) c (by omega) (by simpa using hc)
      refine ⟨fun c hc h0 => ?_, fun hk => ?_⟩
      · have := h1 c (by simpa using hc) h0
        simpa [ha] using this
      · have := h2 (by simpa using hk)
        simpa [ha] using this

set_option maxRecDepth 100000 in
set_option maxHeartbeats 4000000 in
theorem rightList_w (W w : World) (ad : Option Addr) (n cap : Nat) (cs : List Pchg) (h : ChgsAt W ad cs) (hn : n = cs.length) (hsm : n ≤ 1048576) (m : Moves [] W w) :
    Calls Try.prog 21 #[.slice ad n cap] w fun e w' => e = .returned (.int .i64 (cListE cs)) ∧ Moves [] w w' := by
  obtain ⟨E, hE⟩ : ∃ E, Hid (cListE cs = E) := ⟨_, rfl⟩
  rw [hE.out]
  have HN : Hid (n = cs.length) := hn
  have HC := h
  have HW : Hid (Moves [] W w) := m
  clear h m
  by_cases h8 : 8 < n
  · obtain rfl : E = 3 := by rw [← hE.out]; unfold cListE; rw [if_pos (by rw [← hn]; exact h8)]
    have h8' : (8 : Int) < n := by omega
    clear hn
    go_enter Try.func21, Try.ntmps21
    go_wp2_with fail
    go_ret
    exact ⟨rfl, Moves.refl _ _⟩
  · have h8' : ¬ (8 : Int) < n := by omega
    have h8l : Hid (¬ 8 < cs.length) := by unfold Hid; rw [← hn]; exact h8
    clear hn
    go_enter Try.func21, Try.ntmps21
    go_wp2_with fail
    go_loopw [11] (fun i wr => ∃ k : Nat, k ≤ n ∧ i = .int .i64 k ∧ Moves [] w wr ∧ ∀ j c, j < k → cs[j]? = some c → cRight c = 0) (fun i _ => n - (intOf i).toNat)
    case atStart => exact ⟨0, Nat.zero_le _, rfl, Moves.refl _ _, fun j c hj => absurd hj (by omega)⟩
    case round =>
      obtain ⟨k, hk, rfl, mr, hall⟩ := hrel
      have HA : Hid (∀ j c, j < k → cs[j]? = some c → cRight c = 0) := hall
      clear hall
      by_cases hlt : k < n
      · have hk3 : (k : Int) < n := by omega
        obtain ⟨c, hc⟩ : ∃ c, cs[k]? = some c := ⟨_, List.getElem?_eq_getElem (by rw [← HN.out]; exact hlt)⟩
        have hcc := HC k c hc
        obtain ⟨g, off, a, n2, c2, rfl, e0, e1, e2, e3, e4, e5, hv⟩ := hcc
        have MR := HW.out.then mr
        have d0 := MR.cell e0
        have d1 := MR.cell e1
        have d2 := MR.cell e2
        have d3 := MR.cell e3
        have d4 := MR.cell e4
        have d5 := MR.cell e5
        have HX : Hid (cs[k]? = some c) := hc
        obtain ⟨wb, hwb⟩ : ∃ wb, wr.alloc (.cells #[.int .i64 c.kind, .string c.col, .int .i64 c.t, .int .i64 c.v.kind, .slice a n2 c2, .float .f64 c.v.n] 37) = wb := ⟨_, rfl⟩
        have mb : Moves [] wr wb := by rw [← hwb]; exact (Moves.refl _ _).alloc _
        have qb : wb.heap[wr.heap.size]? = some (.cells #[.int .i64 c.kind, .string c.col, .int .i64 c.t, .int .i64 c.v.kind, .slice a n2 c2, .float .f64 c.v.n] 37 (0, 0)) := by rw [← hwb]; exact heap_alloc_new _ _
        have hR := fun w1 (m1 : Moves [] W w1) => cRight_w W w1 c a n2 c2 hv m1
        have hS := cListE_upto h8l.out HA.out
        have hS1 := hS.1 c hc
        have HM : Hid (Moves [] W wb) := MR.then mb
        clear e0 e1 e2 e3 e4 e5 hc hv hS MR
        obtain ⟨F, hF⟩ : ∃ F, Hid (cRight c = F) := ⟨_, rfl⟩
        rw [hF.out] at hR hS1
        rw [hE.out] at hS1
        obtain ⟨x0, x1, x2, x3, x4, x5⟩ := six_cells qb
        rw [← hwb] at x0 x1 x2 x3 x4 x5
        rw [← hwb] at HM mb
        by_cases hF0 : F = 0
        · subst hF0
          clear hS1 hwb qb
          go_wp2_with (go_at_call 44; refine (hR _ HM.out).mono ?_; rintro _ w3 ⟨rfl, m3⟩)
          go_roundw
          case rel =>
            refine ⟨k + 1, by omega, by go_num, mr.then (mb.then m3), fun j c' hj hc' => ?_⟩
            by_cases hjk : j = k
            · subst hjk
              rw [HX.out] at hc'
              simp at hc'
              rw [← hc']
              exact hF.out
            · exact HA.out j c' (by omega) hc'
          case measure => simp [intOf]; omega
        · obtain rfl := hS1 hF0
          clear hwb qb
          go_wp2_with (go_at_call 44; refine (hR _ HM.out).mono ?_; rintro _ w3 ⟨rfl, m3⟩)
          go_ret
          exact ⟨rfl, mr.then (mb.then m3)⟩
      · have hk3 : ¬ (k : Int) < n := by omega
        obtain rfl : k = n := by omega
        have hS := (cListE_upto h8l.out HA.out).2 HN.out
        rw [hE.out] at hS
        subst hS
        go_wp2_with fail
        go_ret
        exact ⟨rfl, mr⟩

/-- The Number that nothing was added to; a sum of two values. -/
def negZ : Nat := 9223372036854775808
def pPlusE (p q : Pv) : Int := if p.kind = 2 ∧ q.kind = 2 then 0 else 24
def pPlus (p q : Pv) : Pv := if p.kind = 2 ∧ q.kind = 2 then ⟨2, [], Pl.sum p.n q.n⟩ else ⟨0, [], 0⟩
def cOld (R : List Pcol) (s : ByteArray) : Pv := (pAt R s 1099511627776).getD ⟨2, [], negZ⟩
def cAddE (R : List Pcol) (c : Pchg) : Int := if pPlusE (cOld R c.col) c.v = 0 then pPutE R c.col c.t (pPlus (cOld R c.col) c.v) else pPlusE (cOld R c.col) c.v
def cAdd (R : List Pcol) (c : Pchg) : List Pcol := if pPlusE (cOld R c.col) c.v = 0 then pPut R c.col c.t (pPlus (cOld R c.col) c.v) else []
/-- One change of a row. -/
def cApE (R : List Pcol) (c : Pchg) : Int := if c.kind = 1 then pPutE R c.col c.t c.v else if c.kind = 5 then cAddE R c else 0
def cAp (R : List Pcol) (c : Pchg) : List Pcol := if c.kind = 1 then pPut R c.col c.t c.v else if c.kind = 2 then pDrop R c.col c.t else if c.kind = 3 then pDropCol R c.col else if c.kind = 5 then cAdd R c else []
/-- Changes, one behind the other. -/
def cFold : List Pchg → List Pcol → Int × List Pcol
  | [], R => (0, R)
  | c :: cs, R => if cApE R c = 0 then cFold cs (cAp R c) else (cApE R c, [])
def cApplyE (R : List Pcol) (cs : List Pchg) : Int := if cListE cs = 0 then (cFold cs (pcopy R)).1 else cListE cs
def cApply (R : List Pcol) (cs : List Pchg) : List Pcol := if cListE cs = 0 then (cFold cs (pcopy R)).2 else []

theorem plus_p (W w : World) (k l : Int) (ad ad' : Option Addr) (n n' cap cap' x y : Nat) (p q : Pv) (ha : VA W [.int .i64 k, .slice ad n cap, .float .f64 x] p) (hb : VA W [.int .i64 l, .slice ad' n' cap', .float .f64 y] q) (m : Moves [] W w) :
    Calls Try.prog 76 #[.agg #[.int .i64 k, .slice ad n cap, .float .f64 x], .agg #[.int .i64 l, .slice ad' n' cap', .float .f64 y]] w fun e w' => e = .returned (.tuple #[.agg #[.int .i64 (pPlus p q).kind, .slice none 0 0, .float .f64 (pPlus p q).n], .int .i64 (pPlusE p q)]) ∧ VC w' [.int .i64 (pPlus p q).kind, .slice none 0 0, .float .f64 (pPlus p q).n] (pPlus p q) ∧ Moves [] w w' := by
  obtain ⟨g, hV, _⟩ := ha.vis
  obtain ⟨g', hV', _⟩ := hb.vis
  refine (plus_b w w _ _ _ _ (hV.moves m) (hV'.moves m) (Moves.refl _ _)).mono ?_
  rintro e w' ⟨rfl, m2⟩
  have e1 : plusE (p.vm (.slice ad n cap) g) (q.vm (.slice ad' n' cap') g') = pPlusE p q := rfl
  have e2 : (plusV (p.vm (.slice ad n cap) g) (q.vm (.slice ad' n' cap') g')).val = .agg #[.int .i64 (pPlus p q).kind, .slice none 0 0, .float .f64 (pPlus p q).n] := by
    unfold plusV pPlus Vm.val
    by_cases h : p.kind = 2 ∧ q.kind = 2
    · rw [if_pos h, if_pos (show (p.vm (.slice ad n cap) g).kind = 2 ∧ (q.vm (.slice ad' n' cap') g').kind = 2 from h)]; rfl
    · rw [if_neg h, if_neg (show ¬ ((p.vm (.slice ad n cap) g).kind = 2 ∧ (q.vm (.slice ad' n' cap') g').kind = 2) from h)]; rfl
  refine ⟨by rw [e1, e2], ?_, m2⟩
  have hf : Pl.Fits (pPlus p q).n := by
    unfold pPlus
    split
    · exact fits_sum _ _
    · exact fits_zero
  have hb0 : (pPlus p q).bs = [] := by unfold pPlus; split <;> rfl
  exact ⟨none, 0, 0, 0, rfl, by rw [hb0]; exact isB_nil _ _, hf, by rw [hb0]; simp, by rw [hb0]; simp, .inl hb0⟩

set_option maxRecDepth 100000 in
theorem noNumber_w (w : World) : Calls Try.prog 75 #[] w fun e w' => e = .returned (.agg #[.int .i64 2, .slice none 0 0, .float .f64 9223372036854775808]) ∧ Moves [] w w' := by
  have s1 := heap_alloc_new w (.cells #[.int .i64 2, .slice none 0 0, .float .f64 9223372036854775808] 35)
  have s2 : Moves [] w (w.alloc (.cells #[.int .i64 2, .slice none 0 0, .float .f64 9223372036854775808] 35)) := (Moves.refl _ _).alloc _
  go_enter Try.func75, Try.ntmps75
  go_wp2_with (go_at_call 25; refine (copysign_w _).mono ?_; rintro _ _ ⟨rfl, rfl⟩)
  try simp only [Exit.inBlock, Exit.then]
  exact bodyPost_ret (ret_val rfl _ _ _ _ _ _ rfl s1) rfl ⟨rfl, s2⟩
theorem VC.negZ (w : World) : VC w [.int .i64 2, .slice none 0 0, .float .f64 9223372036854775808] ⟨2, [], Go.Proofs.Ytfegflimnngfaab.negZ⟩ := ⟨none, 0, 0, 0, rfl, isB_nil _ _, by unfold Pl.Fits Go.Proofs.Ytfegflimnngfaab.negZ; decide, by simp, by simp, .inl rfl⟩
end Go.Proofs.Ytfegflimnngfaab
/-
  Package change: add, apply, Apply.
-/
namespace Go.Proofs.Ytfegflimnngfaab
open Go.RowKit

set_option maxRecDepth 100000 in
set_option maxHeartbeats 8000000 in
theorem cAdd_w (W w : World) (v : Value) (R : List Pcol) (c : Pchg) (a : Option Addr) (n cap : Nat) (h : RowAt W v R) (hv : VA W [.int .i64 c.v.kind, .slice a n cap, .float .f64 c.v.n] c.v) (m : Moves [] W w) :
    Calls Try.prog 50 #[v, .agg #[.int .i64 c.kind, .string c.col, .int .i64 c.t, .int .i64 c.v.kind, .slice a n cap, .float .f64 c.v.n]] w fun e w' => ∃ ad n cap, e = .returned (.tuple #[.agg #[.slice ad n cap], .int .i64 (cAddE R c)]) ∧ ColsAt w' (.slice ad n cap) (cAdd R c) ∧ Moves [] w w' := by
  have hN := fun w1 (m1 : Moves [] W w1) => newest_w W w1 v R c.col h m1
  obtain ⟨lv, rfl, hl⟩ := h
  obtain ⟨adr, capr, elv, _⟩ := hl.slice
  obtain ⟨nr, hnr⟩ : ∃ nr, Hid (nr = R.length) := ⟨_, rfl⟩
  rw [← hnr.out] at elv
  subst elv
  obtain ⟨E, hE⟩ : ∃ E, Hid (cAddE R c = E) := ⟨_, rfl⟩
  obtain ⟨P, hP⟩ : ∃ P, Hid (cAdd R c = P) := ⟨_, rfl⟩
  rw [hE.out, hP.out]
  have HR : Hid (RowAt W (.agg #[.slice adr nr capr]) R) := ⟨_, rfl, hl⟩
  have HV : Hid (VA W [.int .i64 c.v.kind, .slice a n cap, .float .f64 c.v.n] c.v) := hv
  obtain ⟨w1, hw1⟩ : ∃ w1, ((w.alloc (.cells #[.slice adr nr capr] 25)).alloc (.cells #[.int .i64 c.kind, .string c.col, .int .i64 c.t, .int .i64 c.v.kind, .slice a n cap, .float .f64 c.v.n] 37)).alloc (.cells #[.slice none 0 0] 25) = w1 := ⟨_, rfl⟩
  obtain ⟨b1, b2, b3, bm⟩ := boxes3 (Moves.refl [] (((w.alloc (.cells #[.slice adr nr capr] 25)).alloc (.cells #[.int .i64 c.kind, .string c.col, .int .i64 c.t, .int .i64 c.v.kind, .slice a n cap, .float .f64 c.v.n] 37)).alloc (.cells #[.slice none 0 0] 25)))
  rw [hw1] at b1 b2 b3 bm
  have hm := m.then bm
  obtain ⟨r0, _⟩ := one_cell b1
  obtain ⟨x0, x1, x2, x3, x4, x5⟩ := six_cells b2
  obtain ⟨z0, z1⟩ := one_cell b3
  clear hl hv m
  obtain ⟨q, hq⟩ : ∃ q, cOld R c.col = q := ⟨_, rfl⟩
  have HQ : Hid (cOld R c.col = q) := hq
  obtain ⟨O, hO⟩ : ∃ O, pAt R c.col 1099511627776 = O := ⟨_, rfl⟩
  have hq2 := hq
  unfold cOld at hq2
  rw [hO] at hN hq2
  clear hq
  cases O with
  | none =>
    simp only [Option.getD_none] at hq2
    go_enter Try.func50, Try.ntmps50
    go_wp2_with fail
    clear hw1
    go_wp2_with (first | (go_at_call 35; refine (hN _ hm).mono ?_; rintro _ w2 ⟨k2, ad2, n2, cap2, v2, rfl, hV2, m2⟩; have HV2 : Hid (VC w2 [.int .i64 k2, .slice ad2 n2 cap2, .float .f64 v2] ⟨0, [], 0⟩) := hV2; clear hV2; have mv : Moves [] w2 (w2.alloc (.cells #[.int .i64 k2, .slice ad2 n2 cap2, .float .f64 v2] 35)) := (Moves.refl _ _).alloc _; have M2 := m2.then mv; have hvb := heap_alloc_new w2 (.cells #[.int .i64 k2, .slice ad2 n2 cap2, .float .f64 v2] 35); obtain ⟨vv0, vv1, vv2, vf0, vf1, vf2⟩ := three_cells hvb; have u0 := M2.cell r0; have u1 := M2.cell x1; have u2 := M2.cell x2; have u3 := M2.cell x3; have u4 := M2.cell x4; have u5 := M2.cell x5) | (go_at_call 75; refine (noNumber_w _).mono ?_; rintro _ w3 ⟨rfl, m3⟩; have c3 := m3.at hvb (by simp); obtain ⟨i0, i1, i2, j0, j1, j2⟩ := three_cells c3; obtain ⟨st1, st2, st3⟩ := stored3 c3 (M2.then m3) m2.size (.int .i64 2) (.slice none 0 0) (.float .f64 9223372036854775808); obtain ⟨t0, t1, t2, _, _, _⟩ := three_cells st1; have y3 := st2.cell x3; have y4 := st2.cell x4; have y5 := st2.cell x5))
    obtain ⟨wc, hwc⟩ : ∃ wc, ((w3.setCell ⟨w2.heap.size, 0, none⟩ (.int .i64 2)).setCell ⟨w2.heap.size, 1, none⟩ (.slice none 0 0)).setCell ⟨w2.heap.size, 2, none⟩ (.float .f64 9223372036854775808) = wc := ⟨_, rfl⟩
    rw [hwc] at st2 ⊢
    have HQV : Hid (VC wc [.int .i64 2, .slice none 0 0, .float .f64 9223372036854775808] q) := by unfold Hid; rw [← hq2]; exact VC.negZ wc
    clear hwc hq2 st1 st3 t0 t1 t2 y3 y4 y5 c3 i0 i1 i2 j0 j1 j2 m3 HV2 M2 m2 mv hvb vv0 vv1 vv2 vf0 vf1 vf2 u0 u1 u2 u3 u4 u5 hN
    obtain ⟨SE, hSE⟩ : ∃ SE, pPlusE q c.v = SE := ⟨_, rfl⟩
    have HSE : Hid (pPlusE q c.v = SE) := hSE
    have hEq := hE.out
    have hPq := hP.out
    unfold cAddE at hEq
    unfold cAdd at hPq
    rw [HQ.out, hSE] at hEq hPq
    clear hSE
    by_cases hS0 : SE = 0
    · rw [if_pos hS0] at hEq hPq
      subst hS0
      have HPE : Hid (pPutE R c.col c.t (pPlus q c.v) = E) := hEq
      have HPP : Hid (pPut R c.col c.t (pPlus q c.v) = P) := hPq
      clear hEq hPq
      go_wp2_with (first | (go_at_call 76; refine (plus_p wc _ _ _ _ _ _ _ _ _ _ _ q c.v HQV.out.va (HV.out.moves (hm.then st2)) (Moves.refl _ _)).mono ?_; rintro _ w5 ⟨rfl, hS5, m5⟩; rw [HSE.out]; have HS5 : Hid (VC w5 [.int .i64 (pPlus q c.v).kind, .slice none 0 0, .float .f64 (pPlus q c.v).n] (pPlus q c.v)) := hS5; clear hS5; have mx : Moves [] w5 (w5.alloc (.cells #[.int .i64 (pPlus q c.v).kind, .slice none 0 0, .float .f64 (pPlus q c.v).n] 35)) := (Moves.refl _ _).alloc _; have M5 := (st2).then (m5.then mx); have s0 := M5.cell r0; have s1 := M5.cell x1; have s2 := M5.cell x2; have sz := M5.at b3 (by simp); obtain ⟨sz0, sz1⟩ := one_cell sz; obtain ⟨sv0, sv1, sv2, _⟩ := three_cells (heap_alloc_new w5 (.cells #[.int .i64 (pPlus q c.v).kind, .slice none 0 0, .float .f64 (pPlus q c.v).n] 35))) | (go_at_call 47; refine (rput_w (w5.alloc (.cells #[.int .i64 (pPlus q c.v).kind, .slice none 0 0, .float .f64 (pPlus q c.v).n] 35)) _ _ R c.col c.t _ _ _ _ _ (pPlus q c.v) (HR.out.moves (hm.then M5)) (HS5.out.va.moves mx) (Moves.refl _ _)).mono ?_; rintro _ w7 ⟨ad7, n7, cap7, rfl, hc7, m7⟩; rw [HPE.out]; have q7 := (M5.then m7).at b3 (by simp); obtain ⟨y0, y1⟩ := one_cell q7))
      try simp only [Exit.inBlock, Exit.then]
      rw [HPP.out] at hc7
      obtain ⟨_, er, hcols⟩ := RowAt.setRow ⟨_, rfl, hc7⟩ q7 (.slice ad7 n7 cap7)
      simp only [Value.agg.injEq, Array.mk.injEq, List.cons.injEq, and_true] at er
      subst er
      exact bodyPost_ret (ret_row2 rfl _ _ _ _ rfl (set_one q7 _)) rfl ⟨_, _, _, rfl, hcols, (bm.then (M5.then m7)).setCell (.inr (by show _ ≤ _ + 1 + 1; omega)) _⟩
    · rw [if_neg hS0] at hEq hPq
      subst hEq hPq
      go_wp2_with (go_at_call 76; refine (plus_p wc _ _ _ _ _ _ _ _ _ _ _ q c.v HQV.out.va (HV.out.moves (hm.then st2)) (Moves.refl _ _)).mono ?_; rintro _ w5 ⟨rfl, hS5, m5⟩; rw [HSE.out]; have HS5 : Hid (VC w5 [.int .i64 (pPlus q c.v).kind, .slice none 0 0, .float .f64 (pPlus q c.v).n] (pPlus q c.v)) := hS5; clear hS5; have mx : Moves [] w5 (w5.alloc (.cells #[.int .i64 (pPlus q c.v).kind, .slice none 0 0, .float .f64 (pPlus q c.v).n] 35)) := (Moves.refl _ _).alloc _; have M5 := (st2).then (m5.then mx); have s0 := M5.cell r0; have s1 := M5.cell x1; have s2 := M5.cell x2; have sz := M5.at b3 (by simp); obtain ⟨sz0, sz1⟩ := one_cell sz; obtain ⟨sv0, sv1, sv2, _⟩ := three_cells (heap_alloc_new w5 (.cells #[.int .i64 (pPlus q c.v).kind, .slice none 0 0, .float .f64 (pPlus q c.v).n] 35)))
      try simp only [Exit.inBlock, Exit.then]
      exact bodyPost_ret (ret_row2 rfl _ _ _ _ rfl (set_one sz _)) rfl ⟨_, _, _, rfl, ColsAt.nil _, (bm.then M5).setCell (.inr (by show _ ≤ _ + 1 + 1; omega)) _⟩
  | some p =>
    simp only [Option.getD_some] at hq2
    subst hq2
    go_enter Try.func50, Try.ntmps50
    go_wp2_with fail
    clear hw1
    go_wp2_with (go_at_call 35; refine (hN _ hm).mono ?_; rintro _ w2 ⟨k2, ad2, n2, cap2, v2, rfl, hV2, m2⟩; have HV2 : Hid (VC w2 [.int .i64 k2, .slice ad2 n2 cap2, .float .f64 v2] p) := hV2; clear hV2; have mv : Moves [] w2 (w2.alloc (.cells #[.int .i64 k2, .slice ad2 n2 cap2, .float .f64 v2] 35)) := (Moves.refl _ _).alloc _; have M2 := m2.then mv; have hvb := heap_alloc_new w2 (.cells #[.int .i64 k2, .slice ad2 n2 cap2, .float .f64 v2] 35); obtain ⟨vv0, vv1, vv2, vf0, vf1, vf2⟩ := three_cells hvb; have u0 := M2.cell r0; have u1 := M2.cell x1; have u2 := M2.cell x2; have u3 := M2.cell x3; have u4 := M2.cell x4; have u5 := M2.cell x5)
    obtain ⟨wc, hwc⟩ : ∃ wc, w2.alloc (.cells #[.int .i64 k2, .slice ad2 n2 cap2, .float .f64 v2] 35) = wc := ⟨_, rfl⟩
    rw [hwc] at M2 mv ⊢
    have HQV : Hid (VC wc [.int .i64 k2, .slice ad2 n2 cap2, .float .f64 v2] p) := HV2.out.moves mv
    have st2 := M2
    clear hwc HV2 M2 m2 mv hvb vv0 vv1 vv2 vf0 vf1 vf2 u0 u1 u2 u3 u4 u5 hN
    obtain ⟨SE, hSE⟩ : ∃ SE, pPlusE p c.v = SE := ⟨_, rfl⟩
    have HSE : Hid (pPlusE p c.v = SE) := hSE
    have hEq := hE.out
    have hPq := hP.out
    unfold cAddE at hEq
    unfold cAdd at hPq
    rw [HQ.out, hSE] at hEq hPq
    clear hSE
    by_cases hS0 : SE = 0
    · rw [if_pos hS0] at hEq hPq
      subst hS0
      have HPE : Hid (pPutE R c.col c.t (pPlus p c.v) = E) := hEq
      have HPP : Hid (pPut R c.col c.t (pPlus p c.v) = P) := hPq
      clear hEq hPq
      go_wp2_with (first | (go_at_call 76; refine (plus_p wc _ _ _ _ _ _ _ _ _ _ _ p c.v HQV.out.va (HV.out.moves (hm.then st2)) (Moves.refl _ _)).mono ?_; rintro _ w5 ⟨rfl, hS5, m5⟩; rw [HSE.out]; have HS5 : Hid (VC w5 [.int .i64 (pPlus p c.v).kind, .slice none 0 0, .float .f64 (pPlus p c.v).n] (pPlus p c.v)) := hS5; clear hS5; have mx : Moves [] w5 (w5.alloc (.cells #[.int .i64 (pPlus p c.v).kind, .slice none 0 0, .float .f64 (pPlus p c.v).n] 35)) := (Moves.refl _ _).alloc _; have M5 := (st2).then (m5.then mx); have s0 := M5.cell r0; have s1 := M5.cell x1; have s2 := M5.cell x2; have sz := M5.at b3 (by simp); obtain ⟨sz0, sz1⟩ := one_cell sz; obtain ⟨sv0, sv1, sv2, _⟩ := three_cells (heap_alloc_new w5 (.cells #[.int .i64 (pPlus p c.v).kind, .slice none 0 0, .float .f64 (pPlus p c.v).n] 35))) | (go_at_call 47; refine (rput_w (w5.alloc (.cells #[.int .i64 (pPlus p c.v).kind, .slice none 0 0, .float .f64 (pPlus p c.v).n] 35)) _ _ R c.col c.t _ _ _ _ _ (pPlus p c.v) (HR.out.moves (hm.then M5)) (HS5.out.va.moves mx) (Moves.refl _ _)).mono ?_; rintro _ w7 ⟨ad7, n7, cap7, rfl, hc7, m7⟩; rw [HPE.out]; have q7 := (M5.then m7).at b3 (by simp); obtain ⟨y0, y1⟩ := one_cell q7))
      try simp only [Exit.inBlock, Exit.then]
      rw [HPP.out] at hc7
      obtain ⟨_, er, hcols⟩ := RowAt.setRow ⟨_, rfl, hc7⟩ q7 (.slice ad7 n7 cap7)
      simp only [Value.agg.injEq, Array.mk.injEq, List.cons.injEq, and_true] at er
      subst er
      exact bodyPost_ret (ret_row2 rfl _ _ _ _ rfl (set_one q7 _)) rfl ⟨_, _, _, rfl, hcols, (bm.then (M5.then m7)).setCell (.inr (by show _ ≤ _ + 1 + 1; omega)) _⟩
    · rw [if_neg hS0] at hEq hPq
      subst hEq hPq
      go_wp2_with (go_at_call 76; refine (plus_p wc _ _ _ _ _ _ _ _ _ _ _ p c.v HQV.out.va (HV.out.moves (hm.then st2)) (Moves.refl _ _)).mono ?_; rintro _ w5 ⟨rfl, hS5, m5⟩; rw [HSE.out]; have HS5 : Hid (VC w5 [.int .i64 (pPlus p c.v).kind, .slice none 0 0, .float .f64 (pPlus p c.v).n] (pPlus p c.v)) := hS5; clear hS5; have mx : Moves [] w5 (w5.alloc (.cells #[.int .i64 (pPlus p c.v).kind, .slice none 0 0, .float .f64 (pPlus p c.v).n] 35)) := (Moves.refl _ _).alloc _; have M5 := (st2).then (m5.then mx); have s0 := M5.cell r0; have s1 := M5.cell x1; have s2 := M5.cell x2; have sz := M5.at b3 (by simp); obtain ⟨sz0, sz1⟩ := one_cell sz; obtain ⟨sv0, sv1, sv2, _⟩ := three_cells (heap_alloc_new w5 (.cells #[.int .i64 (pPlus p c.v).kind, .slice none 0 0, .float .f64 (pPlus p c.v).n] 35)))
      try simp only [Exit.inBlock, Exit.then]
      exact bodyPost_ret (ret_row2 rfl _ _ _ _ rfl (set_one sz _)) rfl ⟨_, _, _, rfl, ColsAt.nil _, (bm.then M5).setCell (.inr (by show _ ≤ _ + 1 + 1; omega)) _⟩

set_option maxRecDepth 100000 in
set_option maxHeartbeats 8000000 in
theorem cApply1_w (W w : World) (v : Value) (R : List Pcol) (c : Pchg) (a : Option Addr) (n cap : Nat) (h : RowAt W v R) (hv : VA W [.int .i64 c.v.kind, .slice a n cap, .float .f64 c.v.n] c.v) (m : Moves [] W w) (hk : 1 ≤ c.kind ∧ c.kind ≤ 5) :
    Calls Try.prog 23 #[v, .agg #[.int .i64 c.kind, .string c.col, .int .i64 c.t, .int .i64 c.v.kind, .slice a n cap, .float .f64 c.v.n]] w fun e w' => ∃ ad n cap, e = .returned (.tuple #[.agg #[.slice ad n cap], .int .i64 (cApE R c)]) ∧ ColsAt w' (.slice ad n cap) (cAp R c) ∧ Moves [] w w' := by
  have hP1 := fun w1 (m1 : Moves [] W w1) => rput_w W w1 v R c.col c.t c.v.kind a n cap c.v.n c.v h hv m1
  have hP2 := fun w1 (m1 : Moves [] W w1) => drop2_w W w1 v R c.col c.t h m1
  have hP3 := fun w1 (m1 : Moves [] W w1) => dropCol_w W w1 v R c.col h m1
  have hP5 := fun w1 (m1 : Moves [] W w1) => cAdd_w W w1 v R c a n cap h hv m1
  obtain ⟨lv, rfl, hl⟩ := h
  obtain ⟨adr, capr, elv, _⟩ := hl.slice
  obtain ⟨nr, hnr⟩ : ∃ nr, Hid (nr = R.length) := ⟨_, rfl⟩
  rw [← hnr.out] at elv
  subst elv
  obtain ⟨E, hE⟩ : ∃ E, Hid (cApE R c = E) := ⟨_, rfl⟩
  obtain ⟨P, hP⟩ : ∃ P, Hid (cAp R c = P) := ⟨_, rfl⟩
  rw [hE.out, hP.out]
  have HR : Hid (RowAt W (.agg #[.slice adr nr capr]) R) := ⟨_, rfl, hl⟩
  have HV : Hid (VA W [.int .i64 c.v.kind, .slice a n cap, .float .f64 c.v.n] c.v) := hv
  obtain ⟨w1, hw1⟩ : ∃ w1, ((w.alloc (.cells #[.slice adr nr capr] 25)).alloc (.cells #[.int .i64 c.kind, .string c.col, .int .i64 c.t, .int .i64 c.v.kind, .slice a n cap, .float .f64 c.v.n] 37)).alloc (.cells #[.slice none 0 0] 25) = w1 := ⟨_, rfl⟩
  obtain ⟨b1, b2, b3, bm⟩ := boxes3 (Moves.refl [] (((w.alloc (.cells #[.slice adr nr capr] 25)).alloc (.cells #[.int .i64 c.kind, .string c.col, .int .i64 c.t, .int .i64 c.v.kind, .slice a n cap, .float .f64 c.v.n] 37)).alloc (.cells #[.slice none 0 0] 25)))
  rw [hw1] at b1 b2 b3 bm
  have hm := m.then bm
  obtain ⟨r0, _⟩ := one_cell b1
  obtain ⟨x0, x1, x2, x3, x4, x5⟩ := six_cells b2
  obtain ⟨z0, z1⟩ := one_cell b3
  clear hl hv m
  have hways : c.kind = 1 ∨ c.kind = 2 ∨ c.kind = 3 ∨ c.kind = 4 ∨ c.kind = 5 := by omega
  have hEq := hE.out
  have hPq := hP.out
  unfold cApE at hEq
  unfold cAp at hPq
  clear hk
  rcases hways with hk | hk | hk | hk | hk
  · rw [if_pos hk] at hEq hPq
    have HE : Hid (pPutE R c.col c.t c.v = E) := hEq
    have HP : Hid (pPut R c.col c.t c.v = P) := hPq
    clear hEq hPq
    rw [hk] at hw1 x0 ⊢
    clear hk
    go_enter Try.func23, Try.ntmps23
    go_wp2_with (go_at_call 47; refine (hP1 _ hm).mono ?_; rintro _ w7 ⟨ad7, n7, cap7, rfl, hc7, m7⟩; rw [HE.out]; have q7 := m7.at b3 (by simp); obtain ⟨y0, y1⟩ := one_cell q7)
    try simp only [Exit.inBlock, Exit.then]
    rw [HP.out] at hc7
    obtain ⟨_, er, hcols⟩ := RowAt.setRow ⟨_, rfl, hc7⟩ q7 (.slice ad7 n7 cap7)
    simp only [Value.agg.injEq, Array.mk.injEq, List.cons.injEq, and_true] at er
    subst er
    exact bodyPost_ret (ret_row2 rfl _ _ _ _ rfl (set_one q7 _)) rfl ⟨_, _, _, rfl, hcols, (bm.then m7).setCell (.inr (by show _ ≤ _ + 1 + 1; omega)) _⟩
  · rw [if_neg (by omega), if_neg (by omega)] at hEq
    rw [if_neg (by omega), if_pos hk] at hPq
    subst hEq
    have HP : Hid (pDrop R c.col c.t = P) := hPq
    clear hPq
    rw [hk] at hw1 x0 ⊢
    clear hk
    go_enter Try.func23, Try.ntmps23
    go_wp2_with (go_at_call 48; refine (hP2 _ hm).mono ?_; rintro _ w7 ⟨ad7, n7, cap7, rfl, hc7, m7⟩; have q7 := m7.at b3 (by simp); obtain ⟨y0, y1⟩ := one_cell q7)
    try simp only [Exit.inBlock, Exit.then]
    rw [HP.out] at hc7
    obtain ⟨_, er, hcols⟩ := RowAt.setRow ⟨_, rfl, hc7⟩ q7 (.slice ad7 n7 cap7)
    simp only [Value.agg.injEq, Array.mk.injEq, List.cons.injEq, and_true] at er
    subst er
    exact bodyPost_ret (ret_row2 rfl _ _ _ _ rfl (set_one q7 _)) rfl ⟨_, _, _, rfl, hcols, (bm.then m7).setCell (.inr (by show _ ≤ _ + 1 + 1; omega)) _⟩
  · rw [if_neg (by omega), if_neg (by omega)] at hEq
    rw [if_neg (by omega), if_neg (by omega), if_pos hk] at hPq
    subst hEq
    have HP : Hid (pDropCol R c.col = P) := hPq
    clear hPq
    rw [hk] at hw1 x0 ⊢
    clear hk
    go_enter Try.func23, Try.ntmps23
    go_wp2_with (go_at_call 49; refine (hP3 _ hm).mono ?_; rintro _ w7 ⟨ad7, n7, cap7, rfl, hc7, m7⟩; have q7 := m7.at b3 (by simp); obtain ⟨y0, y1⟩ := one_cell q7)
    try simp only [Exit.inBlock, Exit.then]
    rw [HP.out] at hc7
    obtain ⟨_, er, hcols⟩ := RowAt.setRow ⟨_, rfl, hc7⟩ q7 (.slice ad7 n7 cap7)
    simp only [Value.agg.injEq, Array.mk.injEq, List.cons.injEq, and_true] at er
    subst er
    exact bodyPost_ret (ret_row2 rfl _ _ _ _ rfl (set_one q7 _)) rfl ⟨_, _, _, rfl, hcols, (bm.then m7).setCell (.inr (by show _ ≤ _ + 1 + 1; omega)) _⟩
  · rw [if_neg (by omega), if_neg (by omega)] at hEq
    rw [if_neg (by omega), if_neg (by omega), if_neg (by omega), if_neg (by omega)] at hPq
    subst hEq hPq
    rw [hk] at hw1 x0 ⊢
    clear hk
    go_enter Try.func23, Try.ntmps23
    go_wp2_with fail
    try simp only [Exit.inBlock, Exit.then]
    exact bodyPost_ret (ret_row2 rfl _ _ _ _ rfl (set_one b3 _)) rfl ⟨_, _, _, rfl, ColsAt.nil _, bm.setCell (.inr (by show _ ≤ _ + 1 + 1; omega)) _⟩
  · rw [if_neg (by omega), if_pos hk] at hEq
    rw [if_neg (by omega), if_neg (by omega), if_neg (by omega), if_pos hk] at hPq
    have HE : Hid (cAddE R c = E) := hEq
    have HP : Hid (cAdd R c = P) := hPq
    clear hEq hPq
    rw [hk] at hP5 hw1 x0 ⊢
    clear hk
    go_enter Try.func23, Try.ntmps23
    go_wp2_with (go_at_call 50; refine (hP5 _ hm).mono ?_; rintro _ w7 ⟨ad7, n7, cap7, rfl, hc7, m7⟩; rw [HE.out]; have q7 := m7.at b3 (by simp); obtain ⟨y0, y1⟩ := one_cell q7)
    try simp only [Exit.inBlock, Exit.then]
    rw [HP.out] at hc7
    obtain ⟨_, er, hcols⟩ := RowAt.setRow ⟨_, rfl, hc7⟩ q7 (.slice ad7 n7 cap7)
    simp only [Value.agg.injEq, Array.mk.injEq, List.cons.injEq, and_true] at er
    subst er
    exact bodyPost_ret (ret_row2 rfl _ _ _ _ rfl (set_one q7 _)) rfl ⟨_, _, _, rfl, hcols, (bm.then m7).setCell (.inr (by show _ ≤ _ + 1 + 1; omega)) _⟩
end Go.Proofs.Ytfegflimnngfaab
/-
  Package change: Apply: for every row and every list of changes the call returns what the chapter says, and writes nothing that was there.
-/
namespace Go.Proofs.Ytfegflimnngfaab
open Go.RowKit

theorem cFold_nil (R : List Pcol) : cFold [] R = (0, R) := rfl
theorem cFold_cons (c : Pchg) (cs : List Pchg) (R : List Pcol) : cFold (c :: cs) R = if cApE R c = 0 then cFold cs (cAp R c) else (cApE R c, []) := rfl
theorem cRight_kind {c : Pchg} (h : cRight c = 0) : 1 ≤ c.kind ∧ c.kind ≤ 5 := by
  unfold cRight at h
  by_cases hk : ¬ (1 ≤ c.kind ∧ c.kind ≤ 5)
  · rw [if_pos hk] at h
    simp at h
  · simpa using hk
theorem cListE_all {cs : List Pchg} (h : cListE cs = 0) : cs.length ≤ 8 ∧ ∀ c ∈ cs, cRight c = 0 := by
  unfold cListE at h
  by_cases h8 : 8 < cs.length
  · rw [if_pos h8] at h
    simp at h
  · rw [if_neg h8] at h
    refine ⟨by omega, fun c hc => ?_⟩
    cases hf : (cs.map cRight).find? (fun e => e != 0) with
    | none =>
      have := List.find?_eq_none.1 hf (cRight c) (List.mem_map.2 ⟨c, hc, rfl⟩)
      simpa using this
    | some e =>
      rw [hf] at h
      have := List.find?_some hf
      simp at h this
      exact absurd h this

set_option maxRecDepth 100000 in
set_option maxHeartbeats 8000000 in
theorem cApply_w (W w : World) (v : Value) (R : List Pcol) (ad : Option Addr) (n cap : Nat) (cs : List Pchg) (h : RowAt W v R) (hc : ChgsAt W ad cs) (hn : n = cs.length) (hsm : n ≤ 1048576) (m : Moves [] W w) :
    Calls Try.prog 8 #[v, .slice ad n cap] w fun e w' => ∃ ad n cap, e = .returned (.tuple #[.agg #[.slice ad n cap], .int .i64 (cApplyE R cs)]) ∧ ColsAt w' (.slice ad n cap) (cApply R cs) ∧ Moves [] w w' := by
  have hL := fun w1 (m1 : Moves [] W w1) => rightList_w W w1 ad n cap cs hc hn hsm m1
  have hC := fun w1 (m1 : Moves [] W w1) => copy_w W w1 v R h m1
  obtain ⟨lv, rfl, hl⟩ := h
  obtain ⟨adr, capr, elv, _⟩ := hl.slice
  obtain ⟨nr, hnr⟩ : ∃ nr, Hid (nr = R.length) := ⟨_, rfl⟩
  rw [← hnr.out] at elv
  subst elv
  obtain ⟨L, hLq⟩ : ∃ L, Hid (cListE cs = L) := ⟨_, rfl⟩
  rw [hLq.out] at hL
  obtain ⟨E, hE⟩ : ∃ E, Hid (cApplyE R cs = E) := ⟨_, rfl⟩
  obtain ⟨P, hP⟩ : ∃ P, Hid (cApply R cs = P) := ⟨_, rfl⟩
  rw [hE.out, hP.out]
  have hEq := hE.out
  have hPq := hP.out
  unfold cApplyE at hEq
  unfold cApply at hPq
  rw [hLq.out] at hEq hPq
  have HN : Hid (n = cs.length) := hn
  have HW : Hid (Moves [] W w) := m
  have HC := hc
  obtain ⟨w1, hw1⟩ : ∃ w1, (w.alloc (.cells #[.slice adr nr capr] 25)).alloc (.cells #[.slice none 0 0] 25) = w1 := ⟨_, rfl⟩
  obtain ⟨b1, b2, bm⟩ := boxes (Moves.refl [] ((w.alloc (.cells #[.slice adr nr capr] 25)).alloc (.cells #[.slice none 0 0] 25)))
  rw [hw1] at b1 b2 bm
  have hm := m.then bm
  obtain ⟨r0, _⟩ := one_cell b1
  clear hl m hn hc
  by_cases hL0 : L = 0
  · rw [if_pos hL0] at hEq hPq
    subst hL0
    obtain ⟨h8, hall⟩ := cListE_all hLq.out
    have HALL : Hid (∀ c ∈ cs, cRight c = 0) := hall
    have HE : Hid ((cFold cs (pcopy R)).1 = E) := hEq
    have HP : Hid ((cFold cs (pcopy R)).2 = P) := hPq
    clear hEq hPq hall h8
    go_enter Try.func8, Try.ntmps8
    go_wp2_with (first | (go_at_call 21; refine (hL _ hm).mono ?_; rintro _ w2 ⟨rfl, m2⟩; have r2 := m2.cell r0) | (go_at_call 22; refine (hC _ (hm.then m2)).mono ?_; rintro _ w3 ⟨lv, rfl, hG, m3⟩; have HG : Hid (RowAt w3 (.agg #[lv]) (pcopy R)) := ⟨_, rfl, hG.at⟩; obtain ⟨ad3, n3, cap3, rfl, _⟩ := hG.open; clear hG))
    obtain ⟨w4, hw4⟩ : ∃ w4, w3.alloc (.cells #[.slice ad3 n3 cap3] 25) = w4 := ⟨_, rfl⟩
    have m4 : Moves [] w3 w4 := by rw [← hw4]; exact (Moves.refl _ _).alloc _
    have q4 : w4.heap[w3.heap.size]? = some (.cells #[.slice ad3 n3 cap3] 25 (0, 0)) := by rw [← hw4]; exact heap_alloc_new _ _
    have hlo : w.heap.size + 1 < w3.heap.size := lt_of_block ((m2.then m3).at b2 (by simp))
    obtain ⟨po, hpo⟩ : ∃ po, w3.heap.size = po := ⟨_, rfl⟩
    rw [hpo] at q4 hlo
    have M4 := (m2.then m3).then m4
    have q2 := M4.at b2 (by simp)
    have HG4 := HG.out.moves m4
    try rw [hw4]
    try rw [hpo]
    clear hw4 hw1 HG hC hL
    go_loopw [22] (fun i wr => ∃ (k : Nat) (lv : Value) (Q : List Pcol), k ≤ n ∧ i = .int .i64 k ∧ Moves [] w1 wr ∧ wr.heap[w.heap.size + 1]? = some (.cells #[.slice none 0 0] 25 (0, 0)) ∧ wr.heap[po]? = some (.cells #[lv] 25 (0, 0)) ∧ RowAt wr (.agg #[lv]) Q ∧ cFold (cs.drop k) Q = cFold cs (pcopy R)) (fun i _ => n - (intOf i).toNat)
    case atStart => exact ⟨0, _, pcopy R, Nat.zero_le _, rfl, M4, q2, q4, HG4, by simp⟩
    case round =>
      obtain ⟨k, lv, Q, hk, rfl, mr, p2, p4, hQ, hF⟩ := hrel
      have HF : Hid (cFold (cs.drop k) Q = cFold cs (pcopy R)) := hF
      obtain ⟨_, elv, hCq⟩ := id hQ
      simp at elv
      subst elv
      obtain ⟨adq, capq, elv, _⟩ := hCq.slice
      obtain ⟨nq, hnq⟩ : ∃ nq, Hid (nq = Q.length) := ⟨_, rfl⟩
      rw [← hnq.out] at elv
      subst elv
      have HQ : Hid (RowAt wr (.agg #[.slice adq nq capq]) Q) := hQ
      obtain ⟨s0, s1⟩ := one_cell p4
      obtain ⟨t0, t1⟩ := one_cell p2
      clear hQ hCq hF q2 q4 HG4
      by_cases hlt : k < n
      · have hk3 : (k : Int) < n := by omega
        obtain ⟨c, hc⟩ : ∃ c, cs[k]? = some c := ⟨_, List.getElem?_eq_getElem (by rw [← HN.out]; exact hlt)⟩
        obtain ⟨g, off, a, n2, c2, rfl, e0, e1, e2, e3, e4, e5, hv⟩ := HC k c hc
        have MR := (HW.out.then bm).then mr
        have d0 := MR.cell e0
        have d1 := MR.cell e1
        have d2 := MR.cell e2
        have d3 := MR.cell e3
        have d4 := MR.cell e4
        have d5 := MR.cell e5
        have hdr : cs.drop k = c :: cs.drop (k + 1) := by
          have hkl := (List.getElem?_eq_some_iff.1 hc).1
          rw [List.drop_eq_getElem_cons hkl, (List.getElem?_eq_some_iff.1 hc).2]
        have hkd := cRight_kind (HALL.out c (List.mem_of_getElem? hc))
        have hFc := HF.out
        rw [hdr, cFold_cons] at hFc
        have HVc : Hid (VA wr [.int .i64 c.v.kind, .slice a n2 c2, .float .f64 c.v.n] c.v) := hv.moves MR
        have mb : Moves [] wr (wr.alloc (.cells #[.int .i64 c.kind, .string c.col, .int .i64 c.t, .int .i64 c.v.kind, .slice a n2 c2, .float .f64 c.v.n] 37)) := (Moves.refl _ _).alloc _
        obtain ⟨i0, i1, i2, i3, i4, i5⟩ := six_cells (heap_alloc_new wr (.cells #[.int .i64 c.kind, .string c.col, .int .i64 c.t, .int .i64 c.v.kind, .slice a n2 c2, .float .f64 c.v.n] 37))
        have hA := cApply1_w wr (wr.alloc (.cells #[.int .i64 c.kind, .string c.col, .int .i64 c.t, .int .i64 c.v.kind, .slice a n2 c2, .float .f64 c.v.n] 37)) (.agg #[.slice adq nq capq]) Q c a n2 c2 HQ.out HVc.out mb hkd
        have sb := mb.cell s0
        obtain ⟨A, hAq⟩ : ∃ A, cApE Q c = A := ⟨_, rfl⟩
        obtain ⟨B, hBq⟩ : ∃ B, cAp Q c = B := ⟨_, rfl⟩
        rw [hAq, hBq] at hA hFc
        clear e0 e1 e2 e3 e4 e5 hc hv hdr hkd hAq hBq MR
        by_cases hA0 : A = 0
        · rw [if_pos hA0] at hFc
          subst hA0
          have HFc : Hid (cFold (cs.drop (k + 1)) B = cFold cs (pcopy R)) := hFc
          clear hFc
          go_wp2_with (go_at_call 23; refine hA.mono ?_; rintro _ w7 ⟨ad7, n7, cap7, rfl, hc7, m7⟩; have HC7 : Hid (RowAt w7 (.agg #[.slice ad7 n7 cap7]) B) := ⟨_, rfl, hc7⟩; clear hc7; have mx : Moves [] w7 (w7.alloc (.cells #[.slice ad7 n7 cap7] 25)) := (Moves.refl _ _).alloc _; have M7 := mb.then (m7.then mx); have p47 := M7.at p4 (by simp); obtain ⟨y0, y1⟩ := one_cell p47; obtain ⟨z0, _⟩ := one_cell (heap_alloc_new w7 (.cells #[.slice ad7 n7 cap7] 25)); have hne : ¬ w7.heap.size = po := (by have := lt_of_block ((mb.then m7).at p4 (by simp)); omega); have hne' : ¬ po = w7.heap.size := (by omega))
          go_roundw
          case rel => exact ⟨k + 1, _, B, by omega, by go_num, (mr.then M7).setCell (.inr (by show w1.heap.size ≤ po; rw [← hpo]; exact (m2.then m3).size)) _, (moves_set _ _ _ _).at (M7.at p2 (by simp)) (by simp; omega), set_one p47 _, (HC7.out.moves mx).setRow p47 _, HFc.out⟩
          case measure => simp [intOf]; omega
        · rw [if_neg hA0] at hFc
          have hEA : A = E := by have := HE.out; rw [← hFc] at this; exact this
          have hPA : [] = P := by have := HP.out; rw [← hFc] at this; exact this
          subst hEA hPA
          clear hFc
          go_wp2_with (go_at_call 23; refine hA.mono ?_; rintro _ w7 ⟨ad7, n7, cap7, rfl, hc7, m7⟩; have mx : Moves [] w7 (w7.alloc (.cells #[.slice ad7 n7 cap7] 25)) := (Moves.refl _ _).alloc _; have M7 := mb.then (m7.then mx); have p27 := M7.at p2 (by simp); obtain ⟨y0, y1⟩ := one_cell p27)
          try simp only [Exit.inBlock, Exit.then]
          exact bodyPost_ret (ret_row2 rfl _ _ _ _ rfl (set_one p27 _)) rfl ⟨_, _, _, rfl, ColsAt.nil _, ((bm.then mr).then M7).setCell (.inr (by show _ ≤ _ + 1; omega)) _⟩
      · have hk3 : ¬ (k : Int) < n := by omega
        obtain rfl : k = n := by omega
        have hFc := HF.out
        rw [HN.out, List.drop_length, cFold_nil] at hFc
        have hEA : 0 = E := by have := HE.out; rw [← hFc] at this; exact this
        have hPA : Q = P := by have := HP.out; rw [← hFc] at this; exact this
        subst hEA hPA
        clear hFc
        go_wp2_with fail
        try simp only [Exit.inBlock, Exit.then]
        obtain ⟨_, er, hcols⟩ := HQ.out.setRow p2 (.slice adq nq capq)
        simp only [Value.agg.injEq, Array.mk.injEq, List.cons.injEq, and_true] at er
        subst er
        exact bodyPost_ret (ret_row2 rfl _ _ _ _ rfl (set_one p2 _)) rfl ⟨_, _, _, rfl, hcols, (bm.then mr).setCell (.inr (by show _ ≤ _ + 1; omega)) _⟩
  · rw [if_neg hL0] at hEq hPq
    subst hEq hPq
    go_enter Try.func8, Try.ntmps8
    go_wp2_with (go_at_call 21; refine (hL _ hm).mono ?_; rintro _ w2 ⟨rfl, m2⟩; have r2 := m2.cell r0; have c2 := m2.at b2 (by simp); obtain ⟨f0, f1⟩ := one_cell c2)
    try simp only [Exit.inBlock, Exit.then]
    exact bodyPost_ret (ret_row2 rfl _ _ _ _ rfl (set_one c2 _)) rfl ⟨_, _, _, rfl, ColsAt.nil _, (bm.then m2).setCell (.inr (by show _ ≤ _ + 1; omega)) _⟩
end Go.Proofs.Ytfegflimnngfaab
