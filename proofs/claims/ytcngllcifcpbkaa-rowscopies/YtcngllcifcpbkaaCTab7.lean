/-
  Same of two tables that differ at one row.
-/
import Derived.Test.YtcngllcifcpbkaaCTab5
import Derived.Test.YtcngllcifcpbkaaCKeep5
namespace Go.Proofs.Ytcngllcifcpbkaa
open Go.RowKit

theorem rowSame_no1 (w : World) (ad ad' : Option Addr) (n n' cap cap' : Nat) (hne : ((n : Int) != n') = true) :
    Calls Try.prog 54 #[.agg #[.slice ad n cap], .agg #[.slice ad' n' cap']] w fun e w' => e = .returned (.bool false) ∧ Moves [] w w' := by
  go_enter Try.func54, Try.ntmps54
  go_wp2_with fail
  go_ret
  exact ⟨rfl, ((Moves.refl _ _).alloc _).alloc _⟩

set_option maxRecDepth 100000 in
set_option maxHeartbeats 4000000 in
theorem rowSame_no2 (W w : World) (ad ad' : Option Addr) (n cap cap' : Nat) (R Q : List Pcol) (x y : Pcol) (h : ColsAt W (.slice ad n cap) R) (h' : ColsAt W (.slice ad' n cap') Q) (m : Moves [] W w) (hn : n ≤ 1000) (hx : R[0]? = some x) (hy : Q[0]? = some y) (hnR : n = R.length) (hne : (x.name.toList == y.name.toList) = false) :
    Calls Try.prog 54 #[.agg #[.slice ad n cap], .agg #[.slice ad' n cap']] w fun e w' => e = .returned (.bool false) ∧ Moves [] w w' := by
  obtain ⟨g, off, a2, n2, c2, rfl, f0, f1, en, hle, hV⟩ := h.at hx
  obtain ⟨g', off', a2', n2', c2', rfl, i0, i1, en', hle', hV'⟩ := h'.at hy
  simp only [Nat.zero_mul, Nat.add_zero] at f0 f1 i0
  have hpos : (0 : Int) < n := by have := (List.getElem?_eq_some_iff.1 hx).1; omega
  have HW : Hid (Moves [] W w) := m
  clear h h' hx hy hV hV' en en' hle hle' i1 hnR m
  go_enter Try.func54, Try.ntmps54
  go_wp2_with fail
  obtain ⟨w1, hw1⟩ : ∃ w1, (w.alloc (.cells #[.slice (some ⟨g, off, none⟩) n cap] 36)).alloc (.cells #[.slice (some ⟨g', off', none⟩) n cap'] 36) = w1 := ⟨_, rfl⟩
  obtain ⟨p0, p1, m1⟩ : w1.heap[w.heap.size]? = some (.cells #[.slice (some ⟨g, off, none⟩) n cap] 36 (0, 0)) ∧ w1.heap[w.heap.size + 1]? = some (.cells #[.slice (some ⟨g', off', none⟩) n cap'] 36 (0, 0)) ∧ Moves [] w w1 := by rw [← hw1]; exact boxes (Moves.refl _ _)
  rw [hw1]
  obtain ⟨z0, _⟩ := one_cell p0
  obtain ⟨z1, _⟩ := one_cell p1
  clear hw1 p0 p1
  go_loopw [17] (fun i wr => i = .int .i64 0 ∧ Moves [] w wr ∧ wr.cell? ⟨w.heap.size + 1, 0, none⟩ = some (.slice (some ⟨g', off', none⟩) n cap')) (fun _ _ => 0)
  case atStart => exact ⟨rfl, m1, z1⟩
  case round =>
    obtain ⟨rfl, mr, r1'⟩ := hrel
    have d0 := (HW.out.then mr).cell f0
    have d1 := (HW.out.then mr).cell f1
    go_wp2_with fail
    obtain ⟨wc, hwc⟩ : ∃ wc, wr.alloc (.cells #[.string x.name, .slice a2 n2 c2] 33) = wc := ⟨_, rfl⟩
    have mc : Moves [] wr wc := by rw [← hwc]; exact (Moves.refl _ _).alloc _
    have qc : wc.heap[wr.heap.size]? = some (.cells #[.string x.name, .slice a2 n2 c2] 33 (0, 0)) := by rw [← hwc]; exact heap_alloc_new _ _
    rw [hwc]
    obtain ⟨b0, b1⟩ := pair_cells qc
    obtain ⟨pb, hpb⟩ : ∃ pb, wr.heap.size = pb := ⟨_, rfl⟩
    rw [hpb] at b0 b1 ⊢
    have r1 := mc.cell r1'
    have e0 := ((HW.out.then mr).then mc).cell i0
    have hM : Hid (Moves [] w wc) := mr.then mc
    clear hwc qc hpb i0 d0 d1 r1' mc mr z0 z1 m1 b1
    refine wp_region_noPanic ?_
    refine wp_region_held_drew (S := (fun w' => w'.cell? ⟨pb, 0, none⟩ = some (.string x.name) ∧ w'.cell? ⟨w.heap.size + 1, 0, none⟩ = some (.slice (some ⟨g', off', none⟩) n cap') ∧ w'.cell? ⟨g', off', none⟩ = some (.string y.name))) (by kernel_rfl) ?_ (fun hHeld => ?_)
    · first | (go_keep; done) | exact ⟨b0, r1, e0⟩
    refine wpT 0 ⟨some 22, .fieldAddr 33 (.tmp 6) 0, 0, "row.go:90", #[], none⟩ ?_
    try simp only [Act.put, List.setIfInBounds_toArray, List.set_cons_zero, List.set_cons_succ]
    refine wpT 1 ⟨some 23, .load 9 (.tmp 22), 9, "row.go:90", #[⟨0, .data⟩], none⟩ ?_
    try simp only [Act.put, List.setIfInBounds_toArray, List.set_cons_zero, List.set_cons_succ]
    refine wpT 2 ⟨some 24, .fieldAddr 36 (.tmp 3) 0, 0, "row.go:90", #[], none⟩ ?_
    try simp only [Act.put, List.setIfInBounds_toArray, List.set_cons_zero, List.set_cons_succ]
    refine wpT 3 ⟨some 25, .load 34 (.tmp 24), 34, "row.go:90", #[⟨2, .data⟩], none⟩ ?_
    try simp only [Act.put, List.setIfInBounds_toArray, List.set_cons_zero, List.set_cons_succ]
    refine wpT 4 ⟨some 26, .move (.tmp 5), 3, "row.go:90", #[], none⟩ ?_
    try simp only [Act.put, List.setIfInBounds_toArray, List.set_cons_zero, List.set_cons_succ]
    refine wpT 5 ⟨some 27, .indexAddr 34 (.tmp 25) (.tmp 26), 0, "row.go:90", #[⟨3, .data⟩, ⟨4, .data⟩], none⟩ ?_
    try simp only [Act.put, List.setIfInBounds_toArray, List.set_cons_zero, List.set_cons_succ]
    refine wpT 6 ⟨some 28, .fieldAddr 33 (.tmp 27) 0, 0, "row.go:90", #[⟨5, .data⟩], none⟩ ?_
    try simp only [Act.put, List.setIfInBounds_toArray, List.set_cons_zero, List.set_cons_succ]
    refine wpT 7 ⟨some 29, .load 9 (.tmp 28), 9, "row.go:90", #[⟨6, .data⟩], none⟩ ?_
    try simp only [Act.put, List.setIfInBounds_toArray, List.set_cons_zero, List.set_cons_succ]
    refine wpT 8 ⟨some 30, .binOp .neq 9 (.tmp 23) (.tmp 29) 9, 4, "row.go:90", #[⟨1, .data⟩, ⟨7, .data⟩], none⟩ ?_
    try simp only [Act.put, List.setIfInBounds_toArray, List.set_cons_zero, List.set_cons_succ]
    refine wpT 9 ⟨some 31, .move (.tmp 30), 4, "row.go:90", #[⟨8, .data⟩], none⟩ ?_
    try simp only [Act.put, List.setIfInBounds_toArray, List.set_cons_zero, List.set_cons_succ]
    refine wpAnyH_take (i := 10) (oi := ⟨some 32, .fieldAddr 33 (.tmp 6) 1, 0, "row.go:90", #[⟨9, .guard⟩], some (9, false)⟩) rfl (by kernel_rfl) (by kernel_rfl) (by kernel_rfl) (fun _ _ _ h => h) (Or.inr ⟨by rfl, rfl⟩) (by assumption) ?_
    try simp only [Act.put, List.setIfInBounds_toArray, List.set_cons_zero, List.set_cons_succ]
    refine wpAnyH_take (i := 11) (oi := ⟨some 33, .load 31 (.tmp 32), 31, "row.go:90", #[⟨10, .data⟩, ⟨9, .guard⟩], some (9, false)⟩) rfl (by kernel_rfl) (by kernel_rfl) (by kernel_rfl) (fun _ _ _ h => h) (Or.inr ⟨by rfl, rfl⟩) (by assumption) ?_
    try simp only [Act.put, List.setIfInBounds_toArray, List.set_cons_zero, List.set_cons_succ]
    refine wpAnyH_take (i := 12) (oi := ⟨some 34, .fieldAddr 36 (.tmp 3) 0, 0, "row.go:90", #[⟨9, .guard⟩], some (9, false)⟩) rfl (by kernel_rfl) (by kernel_rfl) (by kernel_rfl) (fun _ _ _ h => h) (Or.inr ⟨by rfl, rfl⟩) (by assumption) ?_
    try simp only [Act.put, List.setIfInBounds_toArray, List.set_cons_zero, List.set_cons_succ]
    refine wpAnyH_take (i := 13) (oi := ⟨some 35, .load 34 (.tmp 34), 34, "row.go:90", #[⟨12, .data⟩, ⟨9, .guard⟩], some (9, false)⟩) rfl (by kernel_rfl) (by kernel_rfl) (by kernel_rfl) (fun _ _ _ h => h) (Or.inr ⟨by rfl, rfl⟩) (by assumption) ?_
    try simp only [Act.put, List.setIfInBounds_toArray, List.set_cons_zero, List.set_cons_succ]
    refine wpAnyH_take (i := 14) (oi := ⟨some 36, .move (.tmp 5), 3, "row.go:90", #[⟨9, .guard⟩], some (9, false)⟩) rfl (by kernel_rfl) (by kernel_rfl) (by kernel_rfl) (fun _ _ _ h => h) (Or.inr ⟨by rfl, rfl⟩) (by assumption) ?_
    try simp only [Act.put, List.setIfInBounds_toArray, List.set_cons_zero, List.set_cons_succ]
    refine wpAnyH_take (i := 15) (oi := ⟨some 37, .indexAddr 34 (.tmp 35) (.tmp 36), 0, "row.go:90", #[⟨13, .data⟩, ⟨14, .data⟩, ⟨9, .guard⟩], some (9, false)⟩) rfl (by kernel_rfl) (by kernel_rfl) (by kernel_rfl) (fun _ _ _ h => h) (Or.inr ⟨by rfl, rfl⟩) (by assumption) ?_
    try simp only [Act.put, List.setIfInBounds_toArray, List.set_cons_zero, List.set_cons_succ]
    refine wpAnyH_take (i := 16) (oi := ⟨some 38, .fieldAddr 33 (.tmp 37) 1, 0, "row.go:90", #[⟨15, .data⟩, ⟨9, .guard⟩], some (9, false)⟩) rfl (by kernel_rfl) (by kernel_rfl) (by kernel_rfl) (fun _ _ _ h => h) (Or.inr ⟨by rfl, rfl⟩) (by assumption) ?_
    try simp only [Act.put, List.setIfInBounds_toArray, List.set_cons_zero, List.set_cons_succ]
    refine wpAnyH_take (i := 17) (oi := ⟨some 39, .load 31 (.tmp 38), 31, "row.go:90", #[⟨16, .data⟩, ⟨9, .guard⟩], some (9, false)⟩) rfl (by kernel_rfl) (by kernel_rfl) (by kernel_rfl) (fun _ _ _ h => h) (Or.inr ⟨by rfl, rfl⟩) (by assumption) ?_
    try simp only [Act.put, List.setIfInBounds_toArray, List.set_cons_zero, List.set_cons_succ]
    refine wpAnyH_take (i := 18) (oi := ⟨some 40, .call ⟨.value (.func 77), #[.tmp 33, .tmp 39], #[31, 31]⟩, 4, "row.go:90", #[⟨11, .data⟩, ⟨17, .data⟩, ⟨9, .chain⟩, ⟨9, .guard⟩], some (9, false)⟩) rfl (by kernel_rfl) (by kernel_rfl) (by kernel_rfl) (fun _ _ _ h => h) (Or.inr ⟨by rfl, rfl⟩) (by assumption) ?_
    try simp only [Act.put, List.setIfInBounds_toArray, List.set_cons_zero, List.set_cons_succ]
    refine wpAnyH_take (i := 19) (oi := ⟨some 41, .unOp .not 4 (.tmp 40), 4, "row.go:90", #[⟨18, .data⟩, ⟨9, .guard⟩], some (9, false)⟩) rfl (by kernel_rfl) (by kernel_rfl) (by kernel_rfl) (fun _ _ _ h => h) (Or.inr ⟨by rfl, rfl⟩) (by assumption) ?_
    try simp only [Act.put, List.setIfInBounds_toArray, List.set_cons_zero, List.set_cons_succ]
    refine wpT 20 ⟨some 42, .pick (.tmp 31) (.const (.bool true)) (.tmp 41), 4, "row.go:90", #[⟨9, .data⟩, ⟨19, .data⟩], none⟩ ?_
    try simp only [Act.put, List.setIfInBounds_toArray, List.set_cons_zero, List.set_cons_succ]
    refine wpAnyH_done (by kernel_rfl) ?_ _
    refine NoPanic.normal ?_
    go_wp2_with fail
    go_ret
    exact ⟨rfl, hM.out.drew⟩
/-- One column of that name, and a row with none of that name. -/
theorem rowSame_no (W w : World) (ad ad' : Option Addr) (n n' cap cap' : Nat) (l : List Pver) (Q : List Pcol) (h : ColsAt W (.slice ad n cap) [⟨bTurned, l⟩]) (h' : ColsAt W (.slice ad' n' cap') Q) (m : Moves [] W w) (hQ : NT Q) :
    Calls Try.prog 54 #[.agg #[.slice ad n cap], .agg #[.slice ad' n' cap']] w fun e w' => e = .returned (.bool false) ∧ Moves [] w w' := by
  obtain ⟨_, _, e1, _⟩ := h.slice
  obtain ⟨_, _, e2, _⟩ := h'.slice
  simp at e1 e2
  obtain ⟨_, rfl, _⟩ := e1
  obtain ⟨_, rfl, _⟩ := e2
  by_cases hl : Q.length = 1
  · rw [hl] at h' ⊢
    obtain ⟨y, hy⟩ : ∃ y, Q[0]? = some y := ⟨_, List.getElem?_eq_getElem (by omega)⟩
    refine rowSame_no2 W w ad ad' 1 cap cap' _ Q ⟨bTurned, l⟩ y h h' m (by omega) rfl hy rfl ?_
    have hne := hQ y (List.mem_of_getElem? hy)
    cases hq : (bTurned.toList == y.name.toList) with
    | false => rfl
    | true => exact absurd (neq_iff.1 hq).symm hne
  · exact rowSame_no1 w ad ad' 1 Q.length cap cap' (by simp; omega)

set_option maxRecDepth 100000 in
set_option maxHeartbeats 2000000 in
theorem sameNamed_no (w : World) (nm : ByteArray) (a a' : Option Addr) (n n' c c' : Nat)
    (hr : ∀ w1, Moves [] w w1 → Calls Try.prog 54 #[.agg #[.slice a n c], .agg #[.slice a' n' c']] w1 fun e w' => e = .returned (.bool false) ∧ Moves [] w1 w') :
    Calls Try.prog 31 #[.agg #[.string nm, .slice a n c], .agg #[.string nm, .slice a' n' c']] w fun e w' => e = .returned (.bool false) ∧ Moves [] w w' := by
  have m1 : Moves [] w ((w.alloc (.cells #[.string nm, .slice a n c] 53)).alloc (.cells #[.string nm, .slice a' n' c'] 53)) := ((Moves.refl _ _).alloc _).alloc _
  have hr2 := hr _ m1
  clear hr
  go_enter Try.func31, Try.ntmps31
  go_wp2_with (go_at_call 54; refine hr2.mono ?_; rintro _ w2 ⟨rfl, m2⟩)
  go_ret
  exact ⟨rfl, m1.then m2⟩

set_option maxRecDepth 100000 in
set_option maxHeartbeats 4000000 in
theorem equalNamed_at (W w : World) (ad ad' : Option Addr) (n cap cap' : Nat) (ys xs : List Pnam) (i : Nat) (l : List Pver) (x : Pnam) (h : NamsAt W (.slice ad n cap) ys) (h' : NamsAt W (.slice ad' n cap') xs) (m : Moves [] W w) (hn : n = xs.length) (hl : n ≤ 1000) (hS : ∀ x ∈ xs, SameR x.r x.r ∧ x.r.length ≤ 1048576 ∧ ∀ c ∈ x.r, c.l.length ≤ 1048576)
    (hpre : ∀ k, k < i → ys[k]? = xs[k]?) (hi : xs[i]? = some x) (hy : ys[i]? = some ⟨x.name, [⟨bTurned, l⟩]⟩) (hnt : NT x.r) :
    Calls Try.prog 30 #[.slice ad n cap, .slice ad' n cap', .func (.func 31) #[] #[]] w fun e w' => e = .returned (.bool false) ∧ Moves [] w w' := by
  have hin : i < n := by have := (List.getElem?_eq_some_iff.1 hi).1; omega
  have HH : Hid (NamsAt W (.slice ad n cap) ys) := h
  have HH' : Hid (NamsAt W (.slice ad' n cap') xs) := h'
  have MW : Hid (Moves [] W w) := m
  have HN : Hid (n = xs.length) := hn
  have HS : Hid (∀ x ∈ xs, SameR x.r x.r ∧ x.r.length ≤ 1048576 ∧ ∀ c ∈ x.r, c.l.length ≤ 1048576) := hS
  have HP : Hid (∀ k, k < i → ys[k]? = xs[k]?) := hpre
  have HX : Hid (xs[i]? = some x) := hi
  have HY : Hid (ys[i]? = some ⟨x.name, [⟨bTurned, l⟩]⟩) := hy
  have HT : Hid (NT x.r) := hnt
  have hcf : ∀ (args : Array Value) (w : World), (callFunc 31 args).run Try.prog w = .ok (.enter 31 args) w := fun _ _ => rfl
  clear h h' m hn hS hpre hi hy hnt
  go_enter Try.func30, Try.ntmps30
  go_wp2_with fail
  go_loopw [17] (fun vi wr => ∃ k : Nat, k ≤ i ∧ vi = .int .i64 (k : Nat) ∧ Moves [] w wr) (fun vi _ => i - (intOf vi).toNat)
  case atStart => exact ⟨0, by omega, rfl, Moves.refl _ _⟩
  case round =>
    obtain ⟨k, hkn, rfl, mr⟩ := hrel
    have hkI : (k : Int) < n := by omega
    by_cases hlt : k < i
    · obtain ⟨z, hz⟩ : ∃ z, xs[k]? = some z := ⟨_, List.getElem?_eq_getElem (by have := HN.out; omega)⟩
      have hz2 : ys[k]? = some z := by rw [HP.out k hlt]; exact hz
      obtain ⟨g, off, a2, n2, c2, rfl, y0, y1, hn2, hC⟩ := HH.out.at hz2
      clear hn2
      obtain ⟨g', off', a2', n2', c2', rfl, z0, z1, hn2', hC'⟩ := HH'.out.at hz
      clear hn2'
      replace y0 := (MW.out.then mr).cell y0
      replace y1 := (MW.out.then mr).cell y1
      have z0' := ((MW.out.then mr).alloc (.cells #[.string z.name, .slice a2 n2 c2] 53)).cell z0
      have z1' := ((MW.out.then mr).alloc (.cells #[.string z.name, .slice a2 n2 c2] 53)).cell z1
      have m2 : Moves [] wr ((wr.alloc (.cells #[.string z.name, .slice a2 n2 c2] 53)).alloc (.cells #[.string z.name, .slice a2' n2' c2'] 53)) := ((Moves.refl _ _).alloc _).alloc _
      have hs := HS.out z (List.mem_of_getElem? hz)
      have hsn := sameNamed_yes W _ z.name a2 a2' n2 n2' c2 c2' z.r hC hC' ((MW.out.then mr).then m2) hs.1 hs.2
      clear hC hC' hs hz hz2 z0 z1
      go_wp2_with (go_at_call 31; refine hsn.mono ?_; rintro _ w3 ⟨rfl, m3⟩)
      go_roundw
      case rel => exact ⟨k + 1, by omega, by go_num, mr.then (m2.then m3)⟩
      case measure => simp [intOf]; omega
    · obtain rfl : i = k := by omega
      obtain ⟨g, off, a2, n2, c2, rfl, y0, y1, hn2, hC⟩ := HH.out.at HY.out
      clear hn2
      obtain ⟨g', off', a2', n2', c2', rfl, z0, z1, hn2', hC'⟩ := HH'.out.at HX.out
      clear hn2'
      replace y0 := (MW.out.then mr).cell y0
      replace y1 := (MW.out.then mr).cell y1
      have z0' := ((MW.out.then mr).alloc (.cells #[.string x.name, .slice a2 n2 c2] 53)).cell z0
      have z1' := ((MW.out.then mr).alloc (.cells #[.string x.name, .slice a2 n2 c2] 53)).cell z1
      have m2 : Moves [] wr ((wr.alloc (.cells #[.string x.name, .slice a2 n2 c2] 53)).alloc (.cells #[.string x.name, .slice a2' n2' c2'] 53)) := ((Moves.refl _ _).alloc _).alloc _
      have hsn := sameNamed_no ((wr.alloc (.cells #[.string x.name, .slice a2 n2 c2] 53)).alloc (.cells #[.string x.name, .slice a2' n2' c2'] 53)) x.name a2 a2' n2 n2' c2 c2' (fun w1 mw => rowSame_no W w1 a2 a2' n2 n2' c2 c2' l x.r hC hC' (((MW.out.then mr).then m2).then mw) HT.out)
      clear hC hC' z0 z1
      go_wp2_with (go_at_call 31; refine hsn.mono ?_; rintro _ w3 ⟨rfl, m3⟩)
      go_ret
      exact ⟨rfl, mr.then (m2.then m3)⟩

set_option maxRecDepth 100000 in
set_option maxHeartbeats 4000000 in
theorem tsame_at (W W' w : World) (p q : Nat) (a b : Option Nat) (ys xs : List Pnam) (i : Nat) (l : List Pver) (x : Pnam) (h : TabIs W w p a ys) (h' : TabIs W' w q b xs) (hlen : ys.length = xs.length) (hl : xs.length ≤ 1000) (hS : ∀ x ∈ xs, x.r.length ≤ 1048576 ∧ ∀ c ∈ x.r, c.l.length ≤ 1048576)
    (hpre : ∀ k, k < i → ys[k]? = xs[k]?) (hi : xs[i]? = some x) (hy : ys[i]? = some ⟨x.name, [⟨bTurned, l⟩]⟩) (hnt : NT x.r) :
    Calls Try.prog 12 #[.pointer (some ⟨p, 0, none⟩), .pointer (some ⟨q, 0, none⟩)] w fun e w' => e = .returned (.bool false) ∧ Moves [] w w' := by
  obtain ⟨v, hp, _, hG⟩ := h
  obtain ⟨v', hq, _, hG'⟩ := h'
  obtain ⟨ad, cap, rfl, hc⟩ := hG.slice
  obtain ⟨ad', cap', rfl, hc'⟩ := hG'.slice
  rw [hlen] at hp hG
  obtain ⟨n, hn⟩ : ∃ n, xs.length = n := ⟨_, rfl⟩
  have he := fun w2 (m : Moves [] w w2) => equalNamed_at w w2 ad ad' xs.length cap cap' ys xs i l x hG.at hG'.at m rfl hl (fun x hx => ⟨SameR.refl _, hS x hx⟩) hpre hi hy hnt
  rw [hn] at he hp hq
  obtain ⟨x1, _⟩ := one_cell hp
  obtain ⟨y1, _⟩ := one_cell hq
  clear hG hG' hl hS hn hc hc' hlen hpre hi hy hnt
  go_enter Try.func12, Try.ntmps12
  go_wp2_with fail
  go_region_held3 (fun w' => w'.cell? ⟨p, 0, none⟩ = some (.slice ad n cap) ∧ w'.cell? ⟨q, 0, none⟩ = some (.slice ad' n cap')) (first | (with_reducible exact ⟨x1, y1⟩) | exact ⟨m2.cell x1, m2.cell y1⟩ | (go_keep; done)) ((go_at_call 30; refine (he _ (Moves.refl [] _).drew).mono ?_; rintro _ w2 ⟨rfl, m2⟩))
  go_wp2
  go_ret
  exact ⟨rfl, (Moves.refl [] _).drew.then m2⟩
end Go.Proofs.Ytcngllcifcpbkaa
