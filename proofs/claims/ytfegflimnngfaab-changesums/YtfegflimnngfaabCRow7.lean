/-
  row's Put, Drop, DropCol, At, Newest: for every row the call returns what the chapter says, and writes nothing that was there.
-/
import Derived.Test.YtfegflimnngfaabCRow6
import Derived.Test.YtfegflimnngfaabCRow2
namespace Go.Proofs.Ytfegflimnngfaab
open Go.RowKit

theorem VersAt.len {w : World} {ad : Option Addr} {n cap : Nat} {xs : List Pver} (h : VersAt w (.slice ad n cap) xs) : n = xs.length := by
  obtain ⟨ad', cap', e, _⟩ := h.slice
  simp at e
  exact e.2.1
theorem ColsAt.len {w : World} {ad : Option Addr} {n cap : Nat} {xs : List Pcol} (h : ColsAt w (.slice ad n cap) xs) : n = xs.length := by
  obtain ⟨ad', cap', e, _⟩ := h.slice
  simp at e
  exact e.2.1
theorem pvers_two (R : List Pcol) (s : ByteArray) (h : ∀ x ∈ R, x.l.length ≤ 2) : (pvers R s).length ≤ 2 := by
  unfold pvers
  split
  · simp
  · rename_i c hc
    exact h c (List.mem_of_find?_eq_some hc)

def pPutE (R : List Pcol) (s : ByteArray) (t : Int) (p : Pv) : Int := if (pname s && ptime t && pvr p) = false then 1 else if (pvers (pcopy R) s).length = 0 ∧ 4 ≤ (pcopy R).length then 13 else 0
def pPut (R : List Pcol) (s : ByteArray) (t : Int) (p : Pv) : List Pcol := if pPutE R s t p = 0 then pwith (pcopy R) s (pput (pvers (pcopy R) s) ⟨t, pcanon p⟩) else []
def pDrop (R : List Pcol) (s : ByteArray) (t : Int) : List Pcol := pwith (pcopy R) s (pdrop (pvers (pcopy R) s) t)
def pDropCol (R : List Pcol) (s : ByteArray) : List Pcol := pwith (pcopy R) s []
def pAt (R : List Pcol) (s : ByteArray) (t : Int) : Option Pv := ((pvers (pasked R) s).find? (fun x => decide (x.t ≤ t))).map (fun x => pcanon x.v)

theorem ret_row2 {fn : Func} {p u : Tmp} (h : fn.results = #[.cell p 25, .tmp u]) (tmps : Array Value) (w : World) (g : Nat) (x : Value) (hp : tmps.getD p undef = .pointer (some ⟨g, 0, none⟩)) (hg : w.heap[g]? = some (.cells #[x] 25 (0, 0))) :
    (results fn tmps).run Try.prog w = .ok (.tuple #[.agg #[x], tmps.getD u undef]) w := by
  have hl := run_loadVar_row (P := Try.prog) w g 25 25 _ (0, 0) _ hg Try.underlying25 rfl Try.size25
  rw [results_cell_tmp h, hp]
  simp only [asAddr, Sem.run_pure, Result.andThen, hl]

/-- One box that a call laid. -/
theorem boxesW {w w' : World} {A : Array Value} {t : TypeId} (m : Moves [] (w.alloc (.cells A t)) w') : w'.heap[w.heap.size]? = some (.cells A t (0, 0)) ∧ Moves [] w w' :=
  ⟨m.at (heap_alloc_new _ _) (by simp), ((Moves.refl [] w).alloc _).then m⟩
/-- A value, behind a store into a box of a value. -/
theorem VC.box3 {w w' : World} {c : List Value} {p : Pv} (h : VC w c p) {b : Nat} {cs : Array Value} {fz : Nat × Nat} (hb : w.heap[b]? = some (.cells cs 35 fz)) (m : Moves [b] w w') : VC w' c p :=
  h.stay (T := (· = 5)) (Stay.ofMovesS m (fun k hk c t fz hc => by
    simp at hk
    subst hk
    rw [hb] at hc
    simp at hc
    rw [← hc.2.1]
    decide)) rfl

set_option maxRecDepth 100000 in
set_option maxHeartbeats 4000000 in
theorem dropCol_w (W w : World) (v : Value) (R : List Pcol) (s : ByteArray) (h : RowAt W v R) (m : Moves [] W w) :
    Calls Try.prog 49 #[v, .string s] w fun e w' => ∃ ad n cap, e = .returned (.agg #[.slice ad n cap]) ∧ ColsAt w' (.slice ad n cap) (pDropCol R s) ∧ Moves [] w w' := by
  have hC := fun w1 (m1 : Moves [] W w1) => copy_w W w1 v R h m1
  obtain ⟨lv, rfl, hl⟩ := h
  obtain ⟨ad, cap, rfl, hc⟩ := hl.slice
  have hlen := pcopy_len R
  unfold pDropCol
  obtain ⟨C, hCq⟩ : ∃ C, Hid (pcopy R = C) := ⟨_, rfl⟩
  rw [hCq.out] at hC hlen ⊢
  clear hl
  have hm : Moves [] W ((w.alloc (.cells #[.slice ad R.length cap] 25)).alloc (.cells #[.slice none 0 0] 25)) := (m.alloc _).alloc _
  go_enter Try.func49, Try.ntmps49
  go_wp2_with (first | (go_at_call 22; refine (hC _ hm).mono ?_; rintro _ w2 ⟨lv2, rfl, hG, m2⟩; obtain ⟨p1, p2, m0⟩ := boxes m2; have hAt := hG.at; obtain ⟨ad2, n2, cap2, rfl, hn2⟩ := hG.open) | (go_at_call 72; refine (with_w w2 _ _ C s _ _ _ [] ⟨_, rfl, hAt⟩ (VersAt.nil _) rfl (Moves.refl _ _) (by omega)).mono ?_; rintro _ w3 ⟨ad3, n3, cap3, rfl, hG3, m3⟩; have c3 := m3.at p2 (by simp); obtain ⟨f0, f1⟩ := one_cell c3))
  try simp only [Exit.inBlock, Exit.then]
  exact bodyPost_ret (ret_row rfl _ _ _ _ rfl (set_one c3 _)) rfl ⟨_, _, _, rfl, (hG3.setRow c3 _).at, (m0.then m3).setCell (.inr (by show _ ≤ _ + 1; omega)) _⟩

set_option maxRecDepth 100000 in
set_option maxHeartbeats 4000000 in
theorem drop2_w (W w : World) (v : Value) (R : List Pcol) (s : ByteArray) (t : Int) (h : RowAt W v R) (m : Moves [] W w) :
    Calls Try.prog 48 #[v, .string s, .int .i64 t] w fun e w' => ∃ ad n cap, e = .returned (.agg #[.slice ad n cap]) ∧ ColsAt w' (.slice ad n cap) (pDrop R s t) ∧ Moves [] w w' := by
  have hC := fun w1 (m1 : Moves [] W w1) => copy_w W w1 v R h m1
  obtain ⟨lv, rfl, hl⟩ := h
  obtain ⟨ad, cap, rfl, hc⟩ := hl.slice
  have hlen := pcopy_len R
  have hvl := pvers_two (pcopy R) s (pcopy_l R)
  unfold pDrop
  obtain ⟨C, hCq⟩ : ∃ C, Hid (pcopy R = C) := ⟨_, rfl⟩
  rw [hCq.out] at hC hlen hvl ⊢
  clear hl
  have hm : Moves [] W ((w.alloc (.cells #[.slice ad R.length cap] 25)).alloc (.cells #[.slice none 0 0] 25)) := (m.alloc _).alloc _
  go_enter Try.func48, Try.ntmps48
  go_wp2_with (first | (go_at_call 22; refine (hC _ hm).mono ?_; rintro _ w2 ⟨lv2, rfl, hG, m2⟩; obtain ⟨p1, p2, m0⟩ := boxes m2; have hAt := hG.at; obtain ⟨ad2, n2, cap2, rfl, hn2⟩ := hG.open))
  have hlt2 := lt_of_block p2
  obtain ⟨wc, hwc⟩ : ∃ wc, w2.alloc (.cells #[.slice ad2 n2 cap2] 25) = wc := ⟨_, rfl⟩
  have mc : Moves [] w2 wc := by rw [← hwc]; exact (Moves.refl _ _).alloc _
  obtain ⟨b0, _⟩ : wc.cell? ⟨w2.heap.size, 0, none⟩ = some (.slice ad2 n2 cap2) ∧ wc.frozen? ⟨w2.heap.size, 0, none⟩ = false := by rw [← hwc]; exact one_cell (heap_alloc_new _ _)
  have HR : Hid (RowAt w2 (.agg #[.slice ad2 n2 cap2]) C) := ⟨_, rfl, hAt⟩
  rw [hwc]
  clear hwc hG hAt p1 m2
  have hC1 : C.length ≤ 1048576 := by omega
  have hC2 : C.length ≤ 100000 := by omega
  go_region_held3 (fun w' => w'.cell? ⟨w2.heap.size, 0, none⟩ = some (.slice ad2 n2 cap2)) (first | exact (moves_set _ _ _ _).cellOf ((m3.then m5).then m7 |>.cell b0) (by simp; omega) | exact ((m3.then m5).then m7).cell b0 | exact (m3.then m5).cell b0 | exact m3.cell b0 | exact b0) (first | (go_at_call 71; refine (versions_w w2 _ _ C s HR.out mc.drew hC1).mono ?_; rintro _ w3 ⟨ad3, n3, cap3, rfl, hV3, m3⟩; have hn3 : Hid (n3 = (pvers C s).length) := hV3.len; have hs3 : n3 ≤ 1048576 := (by have := hn3.out; omega)) | (go_at_call 74; refine (drop_w w2 _ _ _ _ _ t hV3 hn3 (mc.drew.then m3) hs3).mono ?_; rintro _ w5 ⟨ad5, n5, cap5, rfl, hn5, hG5, m5⟩) | (go_at_call 72; refine (with_w w5 _ _ C s _ _ _ _ (HR.out.moves ((mc.drew.then m3).then m5)) hG5.at hn5 (Moves.refl _ _) hC2).mono ?_; rintro _ w7 ⟨ad7, n7, cap7, rfl, hG7, m7⟩; have c7 := (((mc.drew.then m3).then m5).then m7).at p2 (by simp); obtain ⟨f0, f1⟩ := one_cell c7))
  go_wp2_with fail
  try simp only [Exit.inBlock, Exit.then]
  exact bodyPost_ret (ret_row rfl _ _ _ _ rfl (set_one c7 _)) rfl ⟨_, _, _, rfl, (hG7.setRow c7 _).at, (m0.then (((mc.drew.then m3).then m5).then m7)).setCell (.inr (by show _ ≤ _ + 1; omega)) _⟩

set_option maxRecDepth 100000 in
set_option maxHeartbeats 4000000 in
theorem at_w (W w : World) (v : Value) (R : List Pcol) (s : ByteArray) (t : Int) (h : RowAt W v R) (m : Moves [] W w) :
    Calls Try.prog 55 #[v, .string s, .int .i64 t] w fun e w' => ∃ k ad n cap x, e = .returned (.tuple #[.agg #[.int .i64 k, .slice ad n cap, .float .f64 x], .bool (pAt R s t).isSome]) ∧ VC w' [.int .i64 k, .slice ad n cap, .float .f64 x] ((pAt R s t).getD ⟨0, [], 0⟩) ∧ Moves [] w w' := by
  have hA := fun w1 (m1 : Moves [] W w1) => asked_w W w1 v R h m1
  obtain ⟨lv, rfl, hl⟩ := h
  obtain ⟨ad, cap, rfl, hc⟩ := hl.slice
  have hlen := pasked_len R
  have hvl := pvers_two (pasked R) s (pasked_l R)
  obtain ⟨C, hCq⟩ : ∃ C, Hid (pasked R = C) := ⟨_, rfl⟩
  obtain ⟨V, hVq⟩ : ∃ V, Hid (pvers C s = V) := ⟨_, rfl⟩
  obtain ⟨A, hAq⟩ : ∃ A, Hid (pAt R s t = A) := ⟨_, rfl⟩
  have hAV : Hid (A = (V.find? (fun x => decide (x.t ≤ t))).map (fun x => pcanon x.v)) := by unfold Hid; rw [← hAq.out, ← hVq.out, ← hCq.out]; rfl
  rw [hCq.out] at hA hlen hvl
  rw [hVq.out] at hvl
  rw [hAq.out]
  clear hl
  have hm : Moves [] W ((w.alloc (.cells #[.slice ad R.length cap] 25)).alloc (.cells #[.int .i64 0, .slice none 0 0, .float .f64 0] 35)) := (m.alloc _).alloc _
  go_enter Try.func55, Try.ntmps55
  go_wp2_with (first | (go_at_call 45; refine (hA _ hm).mono ?_; rintro _ w2 ⟨ad2, cap2, rfl, hAt, m2⟩; obtain ⟨p1, p2, m0⟩ := boxes m2) | (go_at_call 71; refine (versions_w W _ _ C s ⟨_, rfl, hAt⟩ (m.then m0) (by omega)).mono ?_; rintro _ w3 ⟨ad3, n3, cap3, rfl, hV3, m3⟩))
  rw [hVq.out] at hV3
  have hn3 : Hid (n3 = V.length) := hV3.len
  have HV3 : Hid (VersAt W (.slice ad3 n3 cap3) V) := hV3
  have M3 := m0.then m3
  have c3 := m3.at p2 (by simp)
  have hb3 : n3 ≤ 2 := by have := hn3.out; omega
  clear hV3 hA hAt m2 p1 p2 m0 m3
  go_loopw [15] (fun i wr => ∃ k : Nat, k ≤ n3 ∧ i = .int .i64 k ∧ Moves [] w wr ∧ wr.heap[w.heap.size + 1]? = some (.cells #[.int .i64 0, .slice none 0 0, .float .f64 0] 35 (0, 0)) ∧ (V.take k).find? (fun x => decide (x.t ≤ t)) = none) (fun i _ => n3 - (intOf i).toNat)
  case atStart => exact ⟨0, Nat.zero_le _, rfl, M3, c3, by simp⟩
  case round =>
    obtain ⟨k, hk, rfl, mr, q2, hnone⟩ := hrel
    have HNone : Hid ((V.take k).find? (fun x => decide (x.t ≤ t)) = none) := hnone
    clear hnone
    by_cases hlt : k < n3
    · have hk3 : (k : Int) < n3 := by omega
      obtain ⟨x, hx⟩ : ∃ x, V[k]? = some x := ⟨_, List.getElem?_eq_getElem (by rw [← hn3.out]; exact hlt)⟩
      obtain ⟨g, off, a2, n2, c2, rfl, e0, e1, e2, e3, hVC⟩ := HV3.out.at hx
      have MR := m.then mr
      have d0 := MR.cell e0
      have d1 := MR.cell e1
      have d2 := MR.cell e2
      have d3 := MR.cell e3
      have HX : Hid (V[k]? = some x) := hx
      have ma : Moves [] wr (wr.alloc (.cells #[.int .i64 x.t, .int .i64 x.v.kind, .slice a2 n2 c2, .float .f64 x.v.n] 69)) := (Moves.refl _ _).alloc _
      have HVC : Hid (VC wr [.int .i64 x.v.kind, .slice a2 n2 c2, .float .f64 x.v.n] x.v) := hVC.moves MR
      clear e0 e1 e2 e3 hx hVC MR
      by_cases hq : x.t ≤ t
      · have hf := find_some_take (fun x : Pver => decide (x.t ≤ t)) HX.out HNone.out (decide_eq_true hq)
        have he : Hid (A = some (pcanon x.v)) := by unfold Hid; rw [hAV.out, hf]; rfl
        clear hf
        go_wp2_with (go_at_call 46; refine (canonC_w wr _ _ _ _ _ _ _ HVC.out.va ma).mono ?_; rintro _ w5 ⟨ad6, n6, c6, rfl, hC5, m5, m6⟩; have c5 := m6.at q2 (by simp); obtain ⟨x0, x1, x2, f0, f1, f2⟩ := three_cells c5)
        try simp only [Exit.inBlock, Exit.then]
        obtain ⟨s1, s2, s3⟩ := stored3 c5 (mr.then m6) (by omega) (.int .i64 (pcanon x.v).kind) (.slice ad6 n6 c6) (.float .f64 (pcanon x.v).n)
        refine bodyPost_ret (ret_val2 rfl _ _ _ _ _ _ rfl s1) rfl ⟨(pcanon x.v).kind, ad6, n6, c6, (pcanon x.v).n, ?_, ?_, s2⟩
        · rw [he.out]; rfl
        · rw [he.out]
          exact hC5.box3 c5 s3
      · have hf := find_none_take (fun x : Pver => decide (x.t ≤ t)) HX.out HNone.out (decide_eq_false hq)
        have HF : Hid ((V.take (k + 1)).find? (fun x => decide (x.t ≤ t)) = none) := hf
        clear hf
        go_wp2_with fail
        go_roundw
        case rel => exact ⟨k + 1, by omega, by go_num, mr.then ma, ma.at q2 (by simp), HF.out⟩
        case measure => simp [intOf]; omega
    · have hk3 : ¬ (k : Int) < n3 := by omega
      obtain rfl : k = n3 := by omega
      have hf := HNone.out
      rw [hn3.out, List.take_length] at hf
      have he : Hid (A = none) := by unfold Hid; rw [hAV.out, hf]; rfl
      obtain ⟨x0, x1, x2, f0, f1, f2⟩ := three_cells q2
      clear hf
      go_wp2_with fail
      try simp only [Exit.inBlock, Exit.then]
      obtain ⟨s1, s2, s3⟩ := stored3 q2 mr (by omega) (.int .i64 0) (.slice none 0 0) (.float .f64 0)
      refine bodyPost_ret (ret_val2 rfl _ _ _ _ _ _ rfl s1) rfl ⟨0, none, 0, 0, 0, ?_, ?_, s2⟩
      · rw [he.out]; rfl
      · rw [he.out]
        exact ⟨none, 0, 0, 0, rfl, isB_nil _ _, fits_zero, by simp, by simp, .inl rfl⟩

set_option maxRecDepth 100000 in
set_option maxHeartbeats 4000000 in
theorem newest_w (W w : World) (v : Value) (R : List Pcol) (s : ByteArray) (h : RowAt W v R) (m : Moves [] W w) :
    Calls Try.prog 35 #[v, .string s] w fun e w' => ∃ k ad n cap x, e = .returned (.tuple #[.agg #[.int .i64 k, .slice ad n cap, .float .f64 x], .bool (pAt R s 1099511627776).isSome]) ∧ VC w' [.int .i64 k, .slice ad n cap, .float .f64 x] ((pAt R s 1099511627776).getD ⟨0, [], 0⟩) ∧ Moves [] w w' := by
  have hA := fun w1 (m1 : Moves [] W w1) => at_w W w1 v R s 1099511627776 h m1
  obtain ⟨lv, rfl, hl⟩ := h
  obtain ⟨ad, cap, rfl, hc⟩ := hl.slice
  clear hl
  obtain ⟨A, hAq⟩ : ∃ A, Hid (pAt R s 1099511627776 = A) := ⟨_, rfl⟩
  rw [hAq.out] at hA ⊢
  have hm : Moves [] W ((w.alloc (.cells #[.slice ad R.length cap] 25)).alloc (.cells #[.int .i64 0, .slice none 0 0, .float .f64 0] 35)) := (m.alloc _).alloc _
  go_enter Try.func35, Try.ntmps35
  go_wp2_with (go_at_call 55; refine (hA _ hm).mono ?_; rintro _ w2 ⟨k2, ad2, n2, cap2, x2, rfl, hVC, m2⟩; obtain ⟨p1, p2, m0⟩ := boxes m2; obtain ⟨x0, x1, x2', f0, f1, f2⟩ := three_cells p2)
  try simp only [Exit.inBlock, Exit.then]
  obtain ⟨s1, s2, s3⟩ := stored3 p2 m0 (by omega) (.int .i64 k2) (.slice ad2 n2 cap2) (.float .f64 x2)
  refine bodyPost_ret (ret_val2 rfl _ _ _ _ _ _ rfl s1) rfl ⟨_, _, _, _, _, rfl, ?_, s2⟩
  exact hVC.box3 p2 s3
end Go.Proofs.Ytfegflimnngfaab
