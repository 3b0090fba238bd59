/-
  Package change: rightList, add, apply, Apply: for every row and all changes the calls return what the chapter says, and write nothing that was there.
-/
import Derived.Test.YtfegflimnngfaabCChg0
namespace Go.Proofs.Ytfegflimnngfaab
open Go.RowKit

/-- The first refusal of a list. -/
def cListE (cs : List Pchg) : Int := if 8 < cs.length then 3 else ((cs.map cRight).find? (fun e => e != 0)).getD 0
theorem cListE_upto {cs : List Pchg} {k : Nat} (hl : ¬ 8 < cs.length) (h : ∀ j c, j < k → cs[j]? = some c → cRight c = 0) : (∀ c, cs[k]? = some c → cRight c ≠ 0 → cListE cs = cRight c) ∧ (k = cs.length → cListE cs = 0) := by
  unfold cListE
  rw [if_neg hl]
  clear hl
  induction cs generalizing k with
  | nil => exact ⟨fun c hc => by simp at hc, fun _ => rfl⟩
  | cons a t ih =>
    cases k with
    | zero =>
      refine ⟨fun c hc h0 => ?_, fun h => by simp at h⟩
      simp at hc
      subst hc
      simp [h0]
    | succ k =>
      have ha := h 0 a (by omega) rfl
      obtain ⟨h1, h2⟩ := ih (k := k) fun j c hj hc => h (j + 1) c (by omega) (by simpa using hc)
      refine ⟨fun c hc h0 => ?_, fun hk => ?_⟩
      · have := h1 c (by simpa using hc) h0
        simpa [ha] using this
      · have := h2 (by simpa using hk)
        simpa [ha] using this

set_option maxRecDepth 100000 in
set_option maxHeartbeats 4000000 in
theorem rightList_w (W w : World) (ad : Option Addr) (n cap : Nat) (cs : List Pchg) (h : ChgsAt W ad cs) (hn : n = cs.length) (hsm : n ≤ 1048576) (m : Moves [] W w) :
    Calls Try.prog 21 #[.slice ad n cap] w fun e w' => e = .returned (.int .i64 (cListE cs)) ∧ Moves [] w w' := by
  obtain ⟨E, hE⟩ : ∃ E, Hid (cListE cs = E) := ⟨_, rfl⟩
  rw [hE.out]
  have HN : Hid (n = cs.length) := hn
  have HC := h
  have HW : Hid (Moves [] W w) := m
  clear h m
  by_cases h8 : 8 < n
  · obtain rfl : E = 3 := by rw [← hE.out]; unfold cListE; rw [if_pos (by rw [← hn]; exact h8)]
    have h8' : (8 : Int) < n := by omega
    clear hn
    go_enter Try.func21, Try.ntmps21
    go_wp2_with fail
    go_ret
    exact ⟨rfl, Moves.refl _ _⟩
  · have h8' : ¬ (8 : Int) < n := by omega
    have h8l : Hid (¬ 8 < cs.length) := by unfold Hid; rw [← hn]; exact h8
    clear hn
    go_enter Try.func21, Try.ntmps21
    go_wp2_with fail
    go_loopw [11] (fun i wr => ∃ k : Nat, k ≤ n ∧ i = .int .i64 k ∧ Moves [] w wr ∧ ∀ j c, j < k → cs[j]? = some c → cRight c = 0) (fun i _ => n - (intOf i).toNat)
    case atStart => exact ⟨0, Nat.zero_le _, rfl, Moves.refl _ _, fun j c hj => absurd hj (by omega)⟩
    case round =>
      obtain ⟨k, hk, rfl, mr, hall⟩ := hrel
      have HA : Hid (∀ j c, j < k → cs[j]? = some c → cRight c = 0) := hall
      clear hall
      by_cases hlt : k < n
      · have hk3 : (k : Int) < n := by omega
        obtain ⟨c, hc⟩ : ∃ c, cs[k]? = some c := ⟨_, List.getElem?_eq_getElem (by rw [← HN.out]; exact hlt)⟩
        have hcc := HC k c hc
        obtain ⟨g, off, a, n2, c2, rfl, e0, e1, e2, e3, e4, e5, hv⟩ := hcc
        have MR := HW.out.then mr
        have d0 := MR.cell e0
        have d1 := MR.cell e1
        have d2 := MR.cell e2
        have d3 := MR.cell e3
        have d4 := MR.cell e4
        have d5 := MR.cell e5
        have HX : Hid (cs[k]? = some c) := hc
        obtain ⟨wb, hwb⟩ : ∃ wb, wr.alloc (.cells #[.int .i64 c.kind, .string c.col, .int .i64 c.t, .int .i64 c.v.kind, .slice a n2 c2, .float .f64 c.v.n] 37) = wb := ⟨_, rfl⟩
        have mb : Moves [] wr wb := by rw [← hwb]; exact (Moves.refl _ _).alloc _
        have qb : wb.heap[wr.heap.size]? = some (.cells #[.int .i64 c.kind, .string c.col, .int .i64 c.t, .int .i64 c.v.kind, .slice a n2 c2, .float .f64 c.v.n] 37 (0, 0)) := by rw [← hwb]; exact heap_alloc_new _ _
        have hR := fun w1 (m1 : Moves [] W w1) => cRight_w W w1 c a n2 c2 hv m1
        have hS := cListE_upto h8l.out HA.out
        have hS1 := hS.1 c hc
        have HM : Hid (Moves [] W wb) := MR.then mb
        clear e0 e1 e2 e3 e4 e5 hc hv hS MR
        obtain ⟨F, hF⟩ : ∃ F, Hid (cRight c = F) := ⟨_, rfl⟩
        rw [hF.out] at hR hS1
        rw [hE.out] at hS1
        obtain ⟨x0, x1, x2, x3, x4, x5⟩ := six_cells qb
        rw [← hwb] at x0 x1 x2 x3 x4 x5
        rw [← hwb] at HM mb
        by_cases hF0 : F = 0
        · subst hF0
          clear hS1 hwb qb
          go_wp2_with (go_at_call 44; refine (hR _ HM.out).mono ?_; rintro _ w3 ⟨rfl, m3⟩)
          go_roundw
          case rel =>
            refine ⟨k + 1, by omega, by go_num, mr.then (mb.then m3), fun j c' hj hc' => ?_⟩
            by_cases hjk : j = k
            · subst hjk
              rw [HX.out] at hc'
              simp at hc'
              rw [← hc']
              exact hF.out
            · exact HA.out j c' (by omega) hc'
          case measure => simp [intOf]; omega
        · obtain rfl := hS1 hF0
          clear hwb qb
          go_wp2_with (go_at_call 44; refine (hR _ HM.out).mono ?_; rintro _ w3 ⟨rfl, m3⟩)
          go_ret
          exact ⟨rfl, mr.then (mb.then m3)⟩
      · have hk3 : ¬ (k : Int) < n := by omega
        obtain rfl : k = n := by omega
        have hS := (cListE_upto h8l.out HA.out).2 HN.out
        rw [hE.out] at hS
        subst hS
        go_wp2_with fail
        go_ret
        exact ⟨rfl, mr⟩

/-- The Number that nothing was added to; a sum of two values. -/
def negZ : Nat := 9223372036854775808
def pPlusE (p q : Pv) : Int := if p.kind = 2 ∧ q.kind = 2 then 0 else 24
def pPlus (p q : Pv) : Pv := if p.kind = 2 ∧ q.kind = 2 then ⟨2, [], Pl.sum p.n q.n⟩ else ⟨0, [], 0⟩
def cOld (R : List Pcol) (s : ByteArray) : Pv := (pAt R s 1099511627776).getD ⟨2, [], negZ⟩
def cAddE (R : List Pcol) (c : Pchg) : Int := if pPlusE (cOld R c.col) c.v = 0 then pPutE R c.col c.t (pPlus (cOld R c.col) c.v) else pPlusE (cOld R c.col) c.v
def cAdd (R : List Pcol) (c : Pchg) : List Pcol := if pPlusE (cOld R c.col) c.v = 0 then pPut R c.col c.t (pPlus (cOld R c.col) c.v) else []
/-- One change of a row. -/
def cApE (R : List Pcol) (c : Pchg) : Int := if c.kind = 1 then pPutE R c.col c.t c.v else if c.kind = 5 then cAddE R c else 0
def cAp (R : List Pcol) (c : Pchg) : List Pcol := if c.kind = 1 then pPut R c.col c.t c.v else if c.kind = 2 then pDrop R c.col c.t else if c.kind = 3 then pDropCol R c.col else if c.kind = 5 then cAdd R c else []
/-- Changes, one behind the other. -/
def cFold : List Pchg → List Pcol → Int × List Pcol
  | [], R => (0, R)
  | c :: cs, R => if cApE R c = 0 then cFold cs (cAp R c) else (cApE R c, [])
def cApplyE (R : List Pcol) (cs : List Pchg) : Int := if cListE cs = 0 then (cFold cs (pcopy R)).1 else cListE cs
def cApply (R : List Pcol) (cs : List Pchg) : List Pcol := if cListE cs = 0 then (cFold cs (pcopy R)).2 else []

theorem plus_p (W w : World) (k l : Int) (ad ad' : Option Addr) (n n' cap cap' x y : Nat) (p q : Pv) (ha : VA W [.int .i64 k, .slice ad n cap, .float .f64 x] p) (hb : VA W [.int .i64 l, .slice ad' n' cap', .float .f64 y] q) (m : Moves [] W w) :
    Calls Try.prog 76 #[.agg #[.int .i64 k, .slice ad n cap, .float .f64 x], .agg #[.int .i64 l, .slice ad' n' cap', .float .f64 y]] w fun e w' => e = .returned (.tuple #[.agg #[.int .i64 (pPlus p q).kind, .slice none 0 0, .float .f64 (pPlus p q).n], .int .i64 (pPlusE p q)]) ∧ VC w' [.int .i64 (pPlus p q).kind, .slice none 0 0, .float .f64 (pPlus p q).n] (pPlus p q) ∧ Moves [] w w' := by
  obtain ⟨g, hV, _⟩ := ha.vis
  obtain ⟨g', hV', _⟩ := hb.vis
  refine (plus_b w w _ _ _ _ (hV.moves m) (hV'.moves m) (Moves.refl _ _)).mono ?_
  rintro e w' ⟨rfl, m2⟩
  have e1 : plusE (p.vm (.slice ad n cap) g) (q.vm (.slice ad' n' cap') g') = pPlusE p q := rfl
  have e2 : (plusV (p.vm (.slice ad n cap) g) (q.vm (.slice ad' n' cap') g')).val = .agg #[.int .i64 (pPlus p q).kind, .slice none 0 0, .float .f64 (pPlus p q).n] := by
    unfold plusV pPlus Vm.val
    by_cases h : p.kind = 2 ∧ q.kind = 2
    · rw [if_pos h, if_pos (show (p.vm (.slice ad n cap) g).kind = 2 ∧ (q.vm (.slice ad' n' cap') g').kind = 2 from h)]; rfl
    · rw [if_neg h, if_neg (show ¬ ((p.vm (.slice ad n cap) g).kind = 2 ∧ (q.vm (.slice ad' n' cap') g').kind = 2) from h)]; rfl
  refine ⟨by rw [e1, e2], ?_, m2⟩
  have hf : Pl.Fits (pPlus p q).n := by
    unfold pPlus
    split
    · exact fits_sum _ _
    · exact fits_zero
  have hb0 : (pPlus p q).bs = [] := by unfold pPlus; split <;> rfl
  exact ⟨none, 0, 0, 0, rfl, by rw [hb0]; exact isB_nil _ _, hf, by rw [hb0]; simp, by rw [hb0]; simp, .inl hb0⟩

set_option maxRecDepth 100000 in
theorem noNumber_w (w : World) : Calls Try.prog 75 #[] w fun e w' => e = .returned (.agg #[.int .i64 2, .slice none 0 0, .float .f64 9223372036854775808]) ∧ Moves [] w w' := by
  have s1 := heap_alloc_new w (.cells #[.int .i64 2, .slice none 0 0, .float .f64 9223372036854775808] 35)
  have s2 : Moves [] w (w.alloc (.cells #[.int .i64 2, .slice none 0 0, .float .f64 9223372036854775808] 35)) := (Moves.refl _ _).alloc _
  go_enter Try.func75, Try.ntmps75
  go_wp2_with (go_at_call 25; refine (copysign_w _).mono ?_; rintro _ _ ⟨rfl, rfl⟩)
  try simp only [Exit.inBlock, Exit.then]
  exact bodyPost_ret (ret_val rfl _ _ _ _ _ _ rfl s1) rfl ⟨rfl, s2⟩
theorem VC.negZ (w : World) : VC w [.int .i64 2, .slice none 0 0, .float .f64 9223372036854775808] ⟨2, [], Go.Proofs.Ytfegflimnngfaab.negZ⟩ := ⟨none, 0, 0, 0, rfl, isB_nil _ _, by unfold Pl.Fits Go.Proofs.Ytfegflimnngfaab.negZ; decide, by simp, by simp, .inl rfl⟩
end Go.Proofs.Ytfegflimnngfaab
