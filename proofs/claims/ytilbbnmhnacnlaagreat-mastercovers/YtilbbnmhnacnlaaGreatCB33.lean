/- ours -/
import Derived.Test.YtilbbnmhnacnlaaGreatCMt5
import Derived.Test.YtilbbnmhnacnlaaGreatCB12
import Derived.Deep.RegionHeld3
/-
  Package meta: Meta, Find, Before, Root.
-/
namespace Go.Proofs.YtilbbnmhnacnlaaGreat
open Go.RowKit

theorem spK_rise : ∀ (t : List Ptb) (lo hi : ByteArray), zlt lo hi = true ∨ t = [] → spK hi (t.map Ptb.sp) = true → RiseZ (lo :: t.map Ptb.lo)
  | [], lo, hi, _, _ => List.pairwise_singleton _ _
  | x :: t, lo, hi, h0, h => by
    simp only [List.map_cons, spK, Bool.and_eq_true, Bool.not_eq_true'] at h
    obtain ⟨⟨⟨h1, h2⟩, h3⟩, h4⟩ := h
    have e : hi = x.lo := zeq_iff.1 h2
    have hlt : zlt lo x.lo = true := by
      rcases h0 with h0 | h0
      · rw [← e]; exact h0
      · simp at h0
    have hx : zlt x.lo x.hi = true ∨ t = [] := by
      cases t with
      | nil => exact .inr rfl
      | cons y t =>
        left
        simp only [List.map_cons, spK, Bool.and_eq_true, Bool.not_eq_true'] at h4
        obtain ⟨_, _, r3⟩ := spR_parts h3
        unfold spB at r3
        rw [h4.1.1.1, Bool.false_or] at r3
        exact r3
    have ih := spK_rise t x.lo x.hi hx h4
    refine List.Pairwise.cons (fun y hy => ?_) ih
    rcases List.mem_cons.1 hy with rfl | hy
    · exact hlt
    · exact zlt_trans hlt ((List.pairwise_cons.1 ih).1 y hy)
theorem cov_rise {xs : List Ptb} (h : spCov (xs.map Ptb.sp) = true) : RiseZ (xs.map Ptb.lo) ∧ ∃ x t, xs = x :: t ∧ x.lo = ⟨#[]⟩ := by
  cases xs with
  | nil => simp [spCov] at h
  | cons x t =>
    simp only [List.map_cons, spCov, Bool.and_eq_true] at h
    obtain ⟨⟨h1, h2⟩, h3⟩ := h
    refine ⟨?_, x, t, rfl, bz_iff.1 h2⟩
    refine spK_rise t x.lo x.hi ?_ h3
    cases t with
    | nil => exact .inr rfl
    | cons y t =>
      left
      simp only [List.map_cons, spK, Bool.and_eq_true, Bool.not_eq_true'] at h3
      obtain ⟨_, _, r3⟩ := spR_parts h1
      unfold spB at r3
      rw [h3.1.1.1, Bool.false_or] at r3
      exact r3
theorem last_ex : ∀ (ks : List ByteArray) (s x0 : ByteArray), RiseZ ks → ks[0]? = some x0 → zlt s x0 = false → ∃ i, LastZ ks s i
  | [], s, x0, _, h0, _ => by simp at h0
  | [x], s, x0, _, h0, hs => by
    simp at h0
    subst h0
    refine ⟨0, by simp, fun k y hy hk => ?_, fun k y hy hk => ?_⟩
    · obtain rfl : k = 0 := by omega
      simp at hy; subst hy; exact hs
    · match k, hk with
      | k + 1, _ => simp at hy
  | x :: x1 :: t, s, x0, hr, h0, hs => by
    simp at h0
    subst h0
    have hr' : RiseZ (x1 :: t) := (List.pairwise_cons.1 hr).2
    cases h1 : zlt s x1 with
    | false =>
      obtain ⟨i, hi⟩ := last_ex (x1 :: t) s x1 hr' rfl h1
      refine ⟨i + 1, by have := hi.lt; simp at this ⊢; omega, fun k y hy hk => ?_, fun k y hy hk => ?_⟩
      · match k, hy, hk with
        | 0, hy, _ => simp at hy; subst hy; exact hs
        | k + 1, hy, hk => exact hi.lo k y (by simpa using hy) (by omega)
      · match k, hy, hk with
        | k + 1, hy, hk => exact hi.hi k y (by simpa using hy) (by omega)
    | true =>
      refine ⟨0, by simp, fun k y hy hk => ?_, fun k y hy hk => ?_⟩
      · obtain rfl : k = 0 := by omega
        simp at hy; subst hy; exact hs
      · match k, hy, hk with
        | 1, hy, _ => simp at hy; subst hy; exact h1
        | k + 2, hy, _ =>
          have := (List.pairwise_cons.1 hr').1 y (List.mem_of_getElem? (by simpa using hy))
          exact zlt_trans h1 this
theorem cov_last {xs : List Ptb} (h : spCov (xs.map Ptb.sp) = true) (s : ByteArray) : ∃ i, LastZ (xs.map Ptb.lo) s i := by
  obtain ⟨hr, x, t, rfl, hx⟩ := cov_rise h
  exact last_ex _ s x.lo hr rfl (by rw [hx]; exact zlt_nil _)
theorem four_first {xs : List Ptb} {k : Nat} {m : List Ptb} (hm : (fours xs)[k]? = some m) : ∃ x, xs[k * 4]? = some x ∧ mLo m = x.lo ∧ m = (xs.drop (k * 4)).take 4 ∧ m[0]? = some x := by
  rw [fours_get] at hm
  split at hm
  · rename_i h
    simp at hm
    have hx := List.getElem?_eq_getElem h
    have h0 : m[0]? = some xs[k * 4] := by
      rw [← hm, List.getElem?_take, if_pos (by omega), List.getElem?_drop, Nat.add_zero]
      exact hx
    refine ⟨_, hx, ?_, hm.symm, h0⟩
    unfold mLo
    cases m with
    | nil => simp at h0
    | cons y t => simp at h0; simp [h0]
  · simp at hm
theorem four_rise {xs : List Ptb} (hr : RiseZ (xs.map Ptb.lo)) : RiseZ ((fours xs).map mLo) := by
  unfold RiseZ
  rw [List.pairwise_iff_getElem]
  intro i j hi hj hij
  simp only [List.length_map] at hi hj
  obtain ⟨x, hx, ex, _⟩ := four_first (List.getElem?_eq_getElem hi)
  obtain ⟨y, hy, ey, _⟩ := four_first (List.getElem?_eq_getElem hj)
  simp only [List.getElem_map]
  rw [ex, ey]
  have a1 : (xs.map Ptb.lo)[i * 4]? = some x.lo := by rw [List.getElem?_map, hx]; rfl
  have a2 : (xs.map Ptb.lo)[j * 4]? = some y.lo := by rw [List.getElem?_map, hy]; rfl
  obtain ⟨h1, e1⟩ := List.getElem?_eq_some_iff.1 a1
  obtain ⟨h2, e2⟩ := List.getElem?_eq_some_iff.1 a2
  have := List.pairwise_iff_getElem.1 hr (i * 4) (j * 4) h1 h2 (by omega)
  rw [e1, e2] at this
  exact this
theorem four_last {xs : List Ptb} {s : ByteArray} {i : Nat} (h : LastZ (xs.map Ptb.lo) s i) : LastZ ((fours xs).map mLo) s (i / 4) := by
  have hlt := h.lt
  simp only [List.length_map] at hlt
  refine ⟨by rw [List.length_map, fours_len]; omega, fun k y hy hk => ?_, fun k y hy hk => ?_⟩
  all_goals
    rw [List.getElem?_map] at hy
    cases hm : (fours xs)[k]? with
    | none => rw [hm] at hy; simp at hy
    | some m =>
      rw [hm] at hy
      simp at hy
      obtain ⟨x, hx, ex, _⟩ := four_first hm
      rw [← hy, ex]
      have a1 : (xs.map Ptb.lo)[k * 4]? = some x.lo := by rw [List.getElem?_map, hx]; rfl
      first
        | exact h.lo _ _ a1 (by omega)
        | exact h.hi _ _ a1 (by omega)
theorem four_in {xs : List Ptb} {s : ByteArray} {i : Nat} (h : LastZ (xs.map Ptb.lo) s i) {m : List Ptb} (hm : (fours xs)[i / 4]? = some m) : LastZ (m.map Ptb.lo) s (i % 4) ∧ ∀ r x, m[r]? = some x → xs[i / 4 * 4 + r]? = some x := by
  have hlt := h.lt
  simp only [List.length_map] at hlt
  obtain ⟨x0, hx0, _, em, _⟩ := four_first hm
  have hget : ∀ r x, m[r]? = some x → xs[i / 4 * 4 + r]? = some x := by
    intro r x hx
    rw [em, List.getElem?_take] at hx
    split at hx
    · rw [List.getElem?_drop] at hx; exact hx
    · simp at hx
  refine ⟨⟨?_, fun k y hy hk => ?_, fun k y hy hk => ?_⟩, hget⟩
  · rw [em]; simp; omega
  all_goals
    rw [List.getElem?_map] at hy
    cases hq : m[k]? with
    | none => rw [hq] at hy; simp at hy
    | some x =>
      rw [hq] at hy
      simp at hy
      have a1 : (xs.map Ptb.lo)[i / 4 * 4 + k]? = some x.lo := by rw [List.getElem?_map, hget k x hq]; rfl
      rw [← hy]
      first
        | exact h.lo _ _ a1 (by omega)
        | exact h.hi _ _ a1 (by omega)
theorem four_ne {xs : List Ptb} : ∀ m ∈ fours xs, m ≠ [] := by
  intro m hm e
  obtain ⟨k, hk, rfl⟩ := List.getElem_of_mem hm
  obtain ⟨x, _, _, _, h0⟩ := four_first (List.getElem?_eq_getElem hk)
  rw [e] at h0
  simp at h0

set_option maxRecDepth 100000 in
set_option maxHeartbeats 1000000 in
theorem mtMeta_w (w : World) (p : Nat) (xs : List Ptb) (h : MtIs w p xs) (hcov : spCov (xs.map Ptb.sp) = true) (hl : xs.length ≤ 1000) (s : ByteArray) (i : Nat) (hi : LastZ (xs.map Ptb.lo) s i) :
    Calls Tryz.prog 99 #[.pointer (some ⟨p, 0, none⟩), .string s] w fun e w' => e = .returned (.int .i64 ((i / 4 : Nat) : Int)) ∧ Moves [] w w' := by
  obtain ⟨hr, x0, t0, ex, hx0⟩ := cov_rise hcov
  have hne : xs ≠ [] := by rw [ex]; simp
  have hno := mtNone_w w p xs h hne
  obtain ⟨v, hp, hM⟩ := h
  obtain ⟨ad, n, cap, rfl, hn, hc, HL⟩ := hM.open
  obtain ⟨m0, hm0⟩ : ∃ m, (fours xs)[0]? = some m := ⟨_, List.getElem?_eq_getElem (MtIs.pos hne)⟩
  have hk0 : ((fours xs).map mLo)[0]? = some ⟨#[]⟩ := by
    obtain ⟨x, hx, e, _⟩ := four_first hm0
    rw [List.getElem?_map, hm0]
    rw [ex] at hx
    simp at hx
    simp [e, ← hx, hx0]
  have hla := mtLastM_w w 0 ad n cap (fours xs) s ⟨#[]⟩ HL.out hn.out (four_rise hr) (by rw [hn.out, fours_len]; omega) four_ne hk0 (zlt_nil _)
  obtain ⟨c0, _⟩ := one_cell hp
  have HI : Hid (LastZ ((fours xs).map mLo) s (i / 4)) := four_last hi
  clear hM hp
  go_enter Tryz.func99, Tryz.ntmps99
  go_wp2_with fail
  refine hno.mono ?_
  rintro _ _ ⟨rfl, rfl⟩
  go_wp2_with fail
  refine hla.mono ?_
  rintro _ w2 ⟨j, rfl, hj, m2⟩
  have e : Hid (j = i / 4) := hj.one HI.out
  clear hj
  go_wp2_with fail
  go_ret
  exact ⟨by rw [← e.out]; rfl, m2⟩

set_option maxRecDepth 100000 in
set_option maxHeartbeats 4000000 in
theorem mtFind_w (w : World) (p : Nat) (xs : List Ptb) (h : MtIs w p xs) (hcov : spCov (xs.map Ptb.sp) = true) (hl : xs.length ≤ 1000) (s : ByteArray) (i : Nat) (hi : LastZ (xs.map Ptb.lo) s i) (x : Ptb) (hx : xs[i]? = some x) :
    Calls Tryz.prog 63 #[.pointer (some ⟨p, 0, none⟩), .string s] w fun e w' => e = .returned (.agg #[.string x.lo, .string x.hi, .int .i64 x.g, .int .i64 x.n]) ∧ Moves [] w w' := by
  obtain ⟨hr, x0, t0, ex, hx0⟩ := cov_rise hcov
  have hne : xs ≠ [] := by rw [ex]; simp
  have mA : Moves [] w (w.alloc (.cells #[.string ⟨#[]⟩, .string ⟨#[]⟩, .int .i64 0, .int .i64 0] 54)) := (Moves.refl _ _).alloc _
  have hA := heap_alloc_new w (.cells #[.string ⟨#[]⟩, .string ⟨#[]⟩, .int .i64 0, .int .i64 0] 54)
  have hno := mtNone_w _ p xs (h.moves0 mA) hne
  have hme := fun w1 (m : Moves [] w w1) => mtMeta_w w1 p xs (h.moves0 m) hcov hl s i hi
  obtain ⟨v, hp, hM⟩ := h
  obtain ⟨ad, n, cap, rfl, hn, hc, HL⟩ := hM.open
  have hlt := hi.lt
  simp only [List.length_map] at hlt
  have h4 : i / 4 < (fours xs).length := by rw [fours_len]; omega
  obtain ⟨m, hm⟩ : ∃ m, (fours xs)[i / 4]? = some m := ⟨_, List.getElem?_eq_getElem h4⟩
  obtain ⟨g, off, u, gu, rfl, _, hu, hTu, _⟩ := HL.out.at hm
  obtain ⟨hin4, hget⟩ := four_in hi hm
  obtain ⟨y0, hy0, _, em, hm0⟩ := four_first hm
  have hr4 : RiseZ (m.map Ptb.lo) := by
    rw [em, List.map_take, List.map_drop]
    exact List.Pairwise.sublist ((List.take_sublist _ _).trans (List.drop_sublist _ _)) hr
  have hy0s : zlt s y0.lo = false := hi.lo (i / 4 * 4) y0.lo (by rw [List.getElem?_map, hy0]; rfl) (by omega)
  obtain ⟨adu, nu, capu, rfl, hnu, hcu, HTu⟩ := hTu.open
  have hm4 : m.length ≤ 4 := by rw [em]; simp; omega
  obtain ⟨j4, hj4⟩ : ∃ j4, i / 4 = j4 := ⟨_, rfl⟩
  rw [hj4] at hu hme h4
  have hj4n : (j4 : Int) < n := by have := hn.out; omega
  have hla := fun w1 (mm : Moves [] w w1) => mtLast_w w1 gu adu nu capu m s y0.lo (HTu.out.moves mm (by simp)) hnu.out hr4 (by rw [hnu.out]; omega) (by rw [List.getElem?_map, hm0]; rfl) hy0s
  have hr4i : m[i % 4]? = some x := by
    have hlt4 := hin4.lt
    simp only [List.length_map] at hlt4
    have e := hget (i % 4) _ (List.getElem?_eq_getElem hlt4)
    have e2 : i / 4 * 4 + i % 4 = i := by omega
    rw [e2, hx] at e
    rw [List.getElem?_eq_getElem hlt4]
    exact e.symm
  obtain ⟨offu, eadu, z0, z1, z2, z3⟩ := HTu.out.at hr4i
  subst eadu
  obtain ⟨r4, er4⟩ : ∃ r4, i % 4 = r4 := ⟨_, rfl⟩
  have hrn : (r4 : Int) < nu := by
    have := hin4.lt
    simp only [List.length_map] at this
    have := hnu.out
    omega
  rw [er4] at z0 z1 z2 z3
  have HI4 : Hid (LastZ (m.map Ptb.lo) s r4) := by rw [← er4]; exact hin4
  obtain ⟨c0, _⟩ := one_cell hp
  clear hM hTu HL HTu hm hr hget hy0 hm0 hr4 hr4i hin4 hi
  have hmx : Tryz.prog.follows .mixedOrders = true := by kernel_rfl
  go_enter Tryz.func63, Tryz.ntmps63
  go_wp2_with fail
  refine hno.mono ?_
  rintro _ _ ⟨rfl, rfl⟩
  have c1 := mA.cell c0
  have u1 := mA.cell hu
  generalize hw1 : w.alloc (.cells #[.string ⟨#[]⟩, .string ⟨#[]⟩, .int .i64 0, .int .i64 0] 54) = w1 at *
  go_wp2_with fail
  go_region_held3 (fun w' => Moves [] w1 w' ∧ w'.cell? ⟨p, 0, none⟩ = some (.slice (some ⟨g, off, none⟩) n cap) ∧ w'.cell? ⟨g, off + j4, none⟩ = some (.slice (some ⟨gu, offu, none⟩) nu capu)) (first | (go_keep; done) | exact ⟨(Moves.refl _ _).drew, c1, u1⟩ | exact ⟨(Moves.refl _ _).drew.then m2, m2.cell c1, m2.cell u1⟩) ((go_at_call 99; refine (hme _ mA.drew).mono ?_; rintro _ w2 ⟨rfl, m2⟩))
  have m12 : Moves [] w w2 := mA.drew.then m2
  go_wp2_with fail
  refine (hla w2 m12).mono ?_
  rintro _ w3 ⟨j, rfl, hj, m3⟩
  have e := hj.one HI4.out
  subst e
  have m13 := m12.then m3
  clear hj
  have hb3 := (m2.then m3).at (k := w.heap.size) (show w1.drew.heap[w.heap.size]? = _ from hA) (by simp)
  obtain ⟨d0, d1, d2, d3, f0, f1, f2, f3⟩ := four_cells hb3
  replace z0 := m13.cell z0
  replace z1 := m13.cell z1
  replace z2 := m13.cell z2
  replace z3 := m13.cell z3
  go_wp2_with fail
  obtain ⟨t1, t2⟩ := four_info hb3 (.string x.lo) (.string x.hi) (.int .i64 x.g) (.int .i64 x.n)
  try simp only [Exit.inBlock, Exit.then]
  refine bodyPost_ret (ret_tablet rfl _ _ _ _ _ _ _ rfl t1) rfl ⟨rfl, m13.trans t2 (fun k hk => .inr (by simp at hk; omega))⟩

theorem ret_tablet1 {fn : Func} {p u : Tmp} (h : fn.results = #[.cell p 54, .tmp u]) (tmps : Array Value) (w : World) (g : Nat) (x0 x1 x2 x3 : Value) (hp : tmps.getD p undef = .pointer (some ⟨g, 0, none⟩)) (hg : w.heap[g]? = some (.cells #[x0, x1, x2, x3] 54 (0, 0))) :
    (results fn tmps).run Tryz.prog w = .ok (.tuple #[.agg #[x0, x1, x2, x3], tmps.getD u undef]) w := by
  have hl := run_loadVar_row (P := Tryz.prog) w g 54 54 _ (0, 0) _ hg Tryz.underlying54 rfl Tryz.size54
  rw [results_cell_tmp h, hp]
  simp only [asAddr, Sem.run_pure, Result.andThen, hl]
set_option maxRecDepth 100000 in
set_option maxHeartbeats 4000000 in
theorem mtBefore_w (w : World) (p : Nat) (xs : List Ptb) (h : MtIs w p xs) (hcov : spCov (xs.map Ptb.sp) = true) (hl : xs.length ≤ 1000) (s : ByteArray) (i : Nat) (hi : LastZ (xs.map Ptb.lo) s i) (x : Ptb) (hx : x = if i = 0 then Ptb.zero else (xs[i - 1]?).getD Ptb.zero) :
    Calls Tryz.prog 179 #[.pointer (some ⟨p, 0, none⟩), .string s] w fun e w' => e = .returned (.tuple #[.agg #[.string x.lo, .string x.hi, .int .i64 x.g, .int .i64 x.n], .bool (decide (0 < i))]) ∧ Moves [] w w' := by
  obtain ⟨hr, x0, t0, ex, hx0⟩ := cov_rise hcov
  have hne : xs ≠ [] := by rw [ex]; simp
  have mA : Moves [] w (w.alloc (.cells #[.string ⟨#[]⟩, .string ⟨#[]⟩, .int .i64 0, .int .i64 0] 54)) := (Moves.refl _ _).alloc _
  have hA := heap_alloc_new w (.cells #[.string ⟨#[]⟩, .string ⟨#[]⟩, .int .i64 0, .int .i64 0] 54)
  have hno := mtNone_w _ p xs (h.moves0 mA) hne
  have hal := mtAll_w _ p xs (h.moves0 mA) hne hl
  have hk0 : (xs.map Ptb.lo)[0]? = some ⟨#[]⟩ := by rw [ex]; simp [hx0]
  have HI : Hid (LastZ (xs.map Ptb.lo) s i) := hi
  have hlt := hi.lt
  simp only [List.length_map] at hlt
  have HLT : Hid (i < xs.length) := hlt
  have HL : Hid (xs.length ≤ 1000) := hl
  have HX : Hid (x = if i = 0 then Ptb.zero else (xs[i - 1]?).getD Ptb.zero) := hx
  clear h hi hlt hl hx
  go_enter Tryz.func179, Tryz.ntmps179
  go_wp2_with fail
  refine hno.mono ?_
  rintro _ _ ⟨rfl, rfl⟩
  generalize hw1 : w.alloc (.cells #[.string ⟨#[]⟩, .string ⟨#[]⟩, .int .i64 0, .int .i64 0] 54) = w1 at *
  go_wp2_with fail
  refine hal.mono ?_
  rintro _ w2 ⟨v2, rfl, hO, hF, m2⟩
  obtain ⟨g2, hT, hg2⟩ := hO.ex hF
  obtain ⟨ad, n, cap, rfl, hn, hc, HT⟩ := hT.open
  have hla := mtLast_w w2 g2 ad n cap xs s ⟨#[]⟩ HT.out hn.out hr (by rw [hn.out]; exact HL.out) hk0 (zlt_nil _)
  clear hT hO hF hal hno
  go_wp2_with fail
  refine hla.mono ?_
  rintro _ w3 ⟨j, rfl, hj, m3⟩
  have e := hj.one HI.out
  subst e
  clear hj hla
  have hb3 := (m2.then m3).at (k := w.heap.size) hA (by simp)
  obtain ⟨d0, d1, d2, d3, f0, f1, f2, f3⟩ := four_cells hb3
  have m13 := (mA.then m2).then m3
  cases j with
  | zero =>
    have ex0 : x = Ptb.zero := by rw [HX.out]; rfl
    subst ex0
    go_wp2_with fail
    obtain ⟨t1, t2⟩ := four_info hb3 (.string ⟨#[]⟩) (.string ⟨#[]⟩) (.int .i64 0) (.int .i64 0)
    try simp only [Exit.inBlock, Exit.then]
    exact bodyPost_ret (ret_tablet1 rfl _ _ _ _ _ _ _ rfl t1) rfl ⟨rfl, m13.trans t2 (fun k hk => .inr (by simp at hk; omega))⟩
  | succ j =>
    have hjn : (j : Int) < n := by have := hn.out; have := HLT.out; omega
    obtain ⟨y, hy⟩ : ∃ y, xs[j]? = some y := ⟨_, List.getElem?_eq_getElem (by have := HLT.out; omega)⟩
    have exy : x = y := by rw [HX.out, if_neg (by omega), Nat.add_sub_cancel, hy]; rfl
    subst exy
    obtain ⟨off, rfl, z0, z1, z2, z3⟩ := HT.out.at hy
    replace z0 := m3.cell z0
    replace z1 := m3.cell z1
    replace z2 := m3.cell z2
    replace z3 := m3.cell z3
    have hj1 : ((j + 1 : Nat) : Int) = (j : Int) + 1 := by omega
    have hj3 : j < 1000 := by have := HLT.out; have := HL.out; omega
    rw [hj1]
    clear hy
    go_wp2_with fail
    obtain ⟨t1, t2⟩ := four_info hb3 (.string x.lo) (.string x.hi) (.int .i64 x.g) (.int .i64 x.n)
    try simp only [Exit.inBlock, Exit.then]
    refine bodyPost_ret (ret_tablet1 rfl _ _ _ _ _ _ _ rfl t1) rfl ⟨?_, m13.trans t2 (fun k hk => .inr (by simp at hk; omega))⟩
    rw [decide_eq_true (show 0 < j + 1 by omega)]
    rfl

end Go.Proofs.YtilbbnmhnacnlaaGreat
/-
  Package meta: the library's stable sort of tablets by their Los, as far as one insertion sort does it (at most twenty).
-/
namespace Go.Proofs.YtilbbnmhnacnlaaGreat
open Go.RowKit

theorem tbCells_set : ∀ (xs : List Ptb) (i : Nat) (y : Ptb), i < xs.length → ((((tbCells xs).set (i * 4) (.string y.lo)).set (i * 4 + 1) (.string y.hi)).set (i * 4 + 2) (.int .i64 y.g)).set (i * 4 + 3) (.int .i64 y.n) = tbCells (xs.set i y)
  | [], i, y, h => by simp at h
  | x :: t, 0, y, h => by simp [tbCells]
  | x :: t, i + 1, y, h => by
    have := tbCells_set t i y (by simpa using h)
    have e : (i + 1) * 4 = i * 4 + 1 + 1 + 1 + 1 := by omega
    rw [e]
    simp only [tbCells, List.set_cons_succ]
    rw [this]
def World.set4 (w : World) (g i : Nat) (y : Ptb) : World := (((w.setCell ⟨g, i * 4, none⟩ (.string y.lo)).setCell ⟨g, i * 4 + 1, none⟩ (.string y.hi)).setCell ⟨g, i * 4 + 2, none⟩ (.int .i64 y.g)).setCell ⟨g, i * 4 + 3, none⟩ (.int .i64 y.n)
theorem OwnT.set {w : World} {g n cap : Nat} {xs : List Ptb} (h : OwnT w (.slice (some ⟨g, 0, none⟩) n cap) xs) {i : Nat} (hi : i < xs.length) (y : Ptb) : OwnT (World.set4 w g i y) (.slice (some ⟨g, 0, none⟩) n cap) (xs.set i y) ∧ Moves [g] w (World.set4 w g i y) := by
  refine ⟨?_, (((moves_set w g _ _).then (moves_set _ g _ _)).then (moves_set _ g _ _)).then (moves_set _ g _ _)⟩
  unfold World.set4
  rcases h.2 with ⟨e, _⟩ | ⟨g', cap', cur, e, hb, hgg, h1, h2, h3, h4⟩
  · simp at e
  · simp at e
    obtain ⟨rfl, rfl, rfl⟩ := e
    refine ⟨by rw [tbCells_length], .inr ⟨g, cap, _, by rw [List.length_set], hb, heap_set (i := i * 4 + 3) (heap_set (i := i * 4 + 2) (heap_set (i := i * 4 + 1) (heap_set (i := i * 4) hgg (.string y.lo)) (.string y.hi)) (.int .i64 y.g)) (.int .i64 y.n), by rw [List.length_set]; exact h1, h2, by simpa using h3, ?_⟩⟩
    rw [Array.toList_setIfInBounds, Array.toList_setIfInBounds, Array.toList_setIfInBounds, Array.toList_setIfInBounds, List.take_set, List.take_set, List.take_set, List.take_set, List.length_set, h4]
    exact tbCells_set xs i y hi
theorem OwnT.cells {w : World} {g n cap : Nat} {xs : List Ptb} (h : OwnT w (.slice (some ⟨g, 0, none⟩) n cap) xs) {k : Nat} {x : Ptb} (hk : xs[k]? = some x) :
    (w.cell? ⟨g, k * 4, none⟩ = some (.string x.lo) ∧ w.cell? ⟨g, k * 4 + 1, none⟩ = some (.string x.hi) ∧ w.cell? ⟨g, k * 4 + 2, none⟩ = some (.int .i64 x.g) ∧ w.cell? ⟨g, k * 4 + 3, none⟩ = some (.int .i64 x.n)) ∧ (w.frozen? ⟨g, k * 4, none⟩ = false ∧ w.frozen? ⟨g, k * 4 + 1, none⟩ = false ∧ w.frozen? ⟨g, k * 4 + 2, none⟩ = false ∧ w.frozen? ⟨g, k * 4 + 3, none⟩ = false) := by
  refine ⟨?_, ?_⟩
  · obtain ⟨off, e, h1, h2, h3, h4⟩ := (h.tbl (g := g) (fun k hk => by simp [Value.ownBlock] at hk; exact hk.symm)).at hk
    simp at e
    subst e
    simp only [Nat.zero_add] at h1 h2 h3 h4
    exact ⟨h1, h2, h3, h4⟩
  · obtain ⟨cur, hc⟩ : ∃ cur, w.heap[g]? = some (.cells cur 54 (0, 0)) := by
      rcases h.2 with ⟨e, _⟩ | ⟨g', cap', cur, e, hb, hgg, _⟩
      · simp at e
      · simp at e
        obtain ⟨rfl, _⟩ := e
        exact ⟨_, hgg⟩
    simp [World.frozen?, hc]

theorem mtLo4_w (lo hi : ByteArray) (g n : Int) (w : World) : Calls Tryz.prog 101 #[.agg #[.string lo, .string hi, .int .i64 g, .int .i64 n]] w fun e w' => e = .returned (.string lo) ∧ Moves [] w w' := mtLo_w ⟨lo, hi, g, n⟩ w

set_option maxRecDepth 100000 in
set_option maxHeartbeats 2000000 in
theorem mtCmp_w (a b : Ptb) (w : World) : Calls Tryz.prog 152 #[.agg #[.string a.lo, .string a.hi, .int .i64 a.g, .int .i64 a.n], .agg #[.string b.lo, .string b.hi, .int .i64 b.g, .int .i64 b.n]] w fun e w' => e = .returned (.int .i64 (tcmp a.lo b.lo)) ∧ Moves [] w w' := by
  have M : Moves [] w ((w.alloc (.cells #[.string a.lo, .string a.hi, .int .i64 a.g, .int .i64 a.n] 54)).alloc (.cells #[.string b.lo, .string b.hi, .int .i64 b.g, .int .i64 b.n] 54)) := ((Moves.refl _ _).alloc _).alloc _
  have hA := ((Moves.refl [] (w.alloc (.cells #[.string a.lo, .string a.hi, .int .i64 a.g, .int .i64 a.n] 54))).alloc (.cells #[.string b.lo, .string b.hi, .int .i64 b.g, .int .i64 b.n] 54)).at (heap_alloc_new w (.cells #[.string a.lo, .string a.hi, .int .i64 a.g, .int .i64 a.n] 54)) (by simp)
  have hB := heap_alloc_new (w.alloc (.cells #[.string a.lo, .string a.hi, .int .i64 a.g, .int .i64 a.n] 54)) (.cells #[.string b.lo, .string b.hi, .int .i64 b.g, .int .i64 b.n] 54)
  rw [World.size_alloc] at hB
  have hmx : Tryz.prog.follows .mixedOrders = true := by kernel_rfl
  go_enter Tryz.func152, Tryz.ntmps152
  go_wp2_with fail
  generalize hw1 : (w.alloc (.cells #[.string a.lo, .string a.hi, .int .i64 a.g, .int .i64 a.n] 54)).alloc (.cells #[.string b.lo, .string b.hi, .int .i64 b.g, .int .i64 b.n] 54) = w1 at *
  generalize hq : w.heap.size = q at *
  have M1 : Moves [] w w1.drew := M.drew
  obtain ⟨a0, a1, a2, a3, _⟩ := four_cells (show w1.drew.heap[q]? = _ from hA)
  obtain ⟨b0, b1, b2, b3, _⟩ := four_cells (show w1.drew.heap[q + 1]? = _ from hB)
  clear hA hB M hw1 hq
  go_region_with (first | (go_at_call 101; refine (mtLo4_w _ _ _ _ _).mono ?_; rintro _ w2 ⟨rfl, m2⟩; have M1 := M1.then m2; have a0 := m2.cell a0; have a1 := m2.cell a1; have a2 := m2.cell a2; have a3 := m2.cell a3; have b0 := m2.cell b0; have b1 := m2.cell b1; have b2 := m2.cell b2; have b3 := m2.cell b3) | (go_at_call 129; refine (compareT_w _ _ _).mono ?_; rintro _ _ ⟨rfl, rfl⟩))
  all_goals go_wp2_with fail
  all_goals go_ret
  all_goals exact ⟨rfl, M1⟩
end Go.Proofs.YtilbbnmhnacnlaaGreat
