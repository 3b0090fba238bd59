/-
  Row9, Row10, Row11: our texts of these names, laid into one.
-/
import Derived.Test.YtdngndkdkbggkaaCBaseI
import Derived.Lib.ConvBytes
import Derived.Test.YtdngndkdkbggkaaCLaw3
import Derived.Test.YtdngndkdkbggkaaCBaseG
/-
  Rows as plain data: what follows of what their functions answer.
-/
namespace Go.Proofs.Ytdngndkdkbggkaa
open Go.RowKit

theorem kd_kd (k : Int) : kd (kd k) = kd k := by
  rcases kd_cases k with ⟨_, e⟩ | ⟨_, e⟩ | ⟨_, _, e⟩ <;> rw [e] <;> decide
theorem pvr_canon (p : Pv) : pvr (pcanon p) = pvr p := by
  unfold pvr vright Pv.vm pcanon
  rcases kd_cases p.kind with ⟨h, e⟩ | ⟨h, e⟩ | ⟨h1, h2, e⟩ <;> simp [e] <;> simp_all
theorem neq_self (s : ByteArray) : neq s s = true := by unfold neq; simp
theorem nlt_self (s : ByteArray) : nlt s s = false := by unfold nlt; rw [bytesLess_eq]; simp
theorem ngt_self (s : ByteArray) : ngt s s = false := by unfold ngt; rw [neq_self]; simp

theorem prightV_one (x : Pver) : prightV [x] = (ptime x.t && pvr x.v) := by
  simp [prightV, verGood, List.range_succ]
theorem prightV_pair (x y : Pver) : prightV [x, y] = (ptime x.t && pvr x.v && (ptime y.t && pvr y.v && decide (y.t < x.t))) := by
  simp [prightV, verGood, List.range_succ]
theorem prightV_cases {l : List Pver} (h : prightV l = true) : (∃ x, l = [x] ∧ ptime x.t = true ∧ pvr x.v = true) ∨ (∃ x y, l = [x, y] ∧ ptime x.t = true ∧ pvr x.v = true ∧ ptime y.t = true ∧ pvr y.v = true ∧ y.t < x.t) := by
  have h2 := prightV_two h
  match l, h2 with
  | [x], _ =>
    rw [prightV_one] at h
    simp only [Bool.and_eq_true] at h
    exact .inl ⟨x, rfl, h⟩
  | [x, y], _ =>
    rw [prightV_pair] at h
    simp only [Bool.and_eq_true, decide_eq_true_eq] at h
    exact .inr ⟨x, y, rfl, h.1.1, h.1.2, h.2.1.1, h.2.1.2, h.2.2⟩
theorem prightV_canon {l : List Pver} (h : prightV l = true) : prightV (l.map pcanonV) = true := by
  rcases prightV_cases h with ⟨x, rfl, h1, h2⟩ | ⟨x, y, rfl, h1, h2, h3, h4, h5⟩
  · simp [prightV_one, pcanonV, pvr_canon, h1, h2]
  · simp [prightV_pair, pcanonV, pvr_canon, h1, h2, h3, h4, h5]

/-- A row of one column. -/
theorem pright_single {s : ByteArray} {l : List Pver} (hs : pname s = true) (h : prightV l = true) : pright [⟨s, l⟩] = true := by
  simp [pright, colGood, List.range_succ, hs, h]
theorem pcopy_nil : pcopy [] = [] := by decide
theorem pcopy_single {s : ByteArray} {l : List Pver} (hs : pname s = true) (h : prightV l = true) : pcopy [⟨s, l⟩] = [⟨s, l.map pcanonV⟩] := by
  unfold pcopy pasked
  rw [pright_single hs h]
  rfl
theorem pasked_single {s : ByteArray} {l : List Pver} (hs : pname s = true) (h : prightV l = true) : pasked [⟨s, l⟩] = [⟨s, l⟩] := by
  unfold pasked
  rw [pright_single hs h]
  rfl
theorem pvers_single (s : ByteArray) (l : List Pver) : pvers [⟨s, l⟩] s = l := by
  unfold pvers
  simp [neq_self]
theorem pwith_single (s : ByteArray) (l l' : List Pver) (h : l' ≠ []) : pwith [⟨s, l⟩] s l' = [⟨s, l'⟩] := by
  unfold pwith
  simp [nlt_self, ngt_self, h]
theorem pwith_nil (s : ByteArray) (l' : List Pver) (h : l' ≠ []) : pwith [] s l' = [⟨s, l'⟩] := by
  unfold pwith
  simp [h]
theorem pput_ne (l : List Pver) (v : Pver) : pput l v ≠ [] := by
  unfold pput
  cases hq : l.filter (fun x => decide (v.t < x.t)) with
  | nil => simp
  | cons a t =>
    cases t <;> simp
theorem pPutE_ok {R : List Pcol} {s : ByteArray} {t : Int} {p : Pv} (h1 : pname s = true) (h2 : ptime t = true) (h3 : pvr p = true) (h4 : ¬ ((pvers (pcopy R) s).length = 0 ∧ 4 ≤ (pcopy R).length)) : pPutE R s t p = 0 ∧ pPut R s t p = pwith (pcopy R) s (pput (pvers (pcopy R) s) ⟨t, pcanon p⟩) :=
  pPut_yes (by rw [h1, h2, h3]; rfl) h4
theorem pPut_first {s : ByteArray} {t : Int} {p : Pv} (h1 : pname s = true) (h2 : ptime t = true) (h3 : pvr p = true) : pPutE [] s t p = 0 ∧ pPut [] s t p = [⟨s, [⟨t, pcanon p⟩]⟩] := by
  obtain ⟨e1, e2⟩ := pPutE_ok (R := []) h1 h2 h3 (by rw [pcopy_nil]; simp)
  refine ⟨e1, e2.trans ?_⟩
  rw [pcopy_nil, pwith_nil _ _ (pput_ne _ _)]
  rfl
theorem pPut_single {s : ByteArray} {l : List Pver} {t : Int} {p : Pv} (h1 : pname s = true) (h2 : ptime t = true) (h3 : pvr p = true) (hl : prightV l = true) : pPutE [⟨s, l⟩] s t p = 0 ∧ pPut [⟨s, l⟩] s t p = [⟨s, pput (l.map pcanonV) ⟨t, pcanon p⟩⟩] := by
  obtain ⟨e1, e2⟩ := pPutE_ok (R := [⟨s, l⟩]) h1 h2 h3 (by rw [pcopy_single h1 hl]; simp)
  refine ⟨e1, e2.trans ?_⟩
  rw [pcopy_single h1 hl, pvers_single, pwith_single _ _ _ (pput_ne _ _)]
theorem pput_right {l : List Pver} {v : Pver} (hl : prightV l = true) (h1 : ptime v.t = true) (h2 : pvr v.v = true) : prightV (pput l v) = true := by
  rcases prightV_cases hl with ⟨x, rfl, k1, k2⟩ | ⟨x, y, rfl, k1, k2, k3, k4, k5⟩
  · unfold pput
    rcases Int.lt_trichotomy v.t x.t with h | h | h
    · simp [h, Int.not_lt.2 (Int.le_of_lt h), prightV_pair, h1, h2, k1, k2]
    · simp [h, prightV_one, h2, k1]
    · simp [h, Int.not_lt.2 (Int.le_of_lt h), prightV_pair, h1, h2, k1, k2]
  · unfold pput
    rcases Int.lt_trichotomy v.t x.t with h | h | h
    · rcases Int.lt_trichotomy v.t y.t with h' | h' | h'
      · simp [h, h', prightV_pair, k1, k2, k3, k4, k5]
      · simp [h', k5, prightV_pair, h2, k1, k2, k3, show ¬ x.t < y.t by omega]
      · simp [h, h', prightV_pair, h1, h2, k1, k2, show ¬ v.t < y.t by omega, show ¬ x.t < v.t by omega]
    · simp [h, k5, prightV_pair, h2, k1, k3, k4, show ¬ x.t < y.t by omega]
    · simp [h, prightV_pair, h1, h2, k1, k2, show ¬ v.t < x.t by omega, show ¬ v.t < y.t by omega, show y.t < v.t by omega]
theorem pAt_single {s : ByteArray} {l : List Pver} {t : Int} (hs : pname s = true) (hl : prightV l = true) : pAt [⟨s, l⟩] s t = (l.find? (fun x => decide (x.t ≤ t))).map (fun x => pcanon x.v) := by
  unfold pAt
  rw [pasked_single hs hl, pvers_single]
/-- The bytes of a text. -/
def sbs (s : ByteArray) : List Nat := s.data.toList.map (·.toNat)
end Go.Proofs.Ytdngndkdkbggkaa
/-
  The law's own text and known: chapter 4's run.
-/
namespace Go.Proofs.Ytdngndkdkbggkaa
open Go.RowKit

theorem sbs_length (s : ByteArray) : (sbs s).length = s.size := by simp [sbs]
theorem sbs_oct (s : ByteArray) : ∀ z ∈ sbs s, z < 256 := by
  intro z hz
  simp only [sbs, List.mem_map] at hz
  obtain ⟨b, _, rfl⟩ := hz
  exact b.toNat_lt
/-- What a piece of code leaves, told by the slots that it may have written: the rest is walked once. -/
theorem wp_some {P : Program} {c : Code} {Q : Exit → Act → World → Prop} {a0 : Act} {w0 : World} (sl : List Nat) (H : (Nat → Value) → World → Prop)
    (h1 : c.wp P (fun e a w => e = .normal ∧ a = { tmps := sl.foldl (fun t s => t.setIfInBounds s (a.tmps.getD s undef)) a0.tmps, defers := a0.defers } ∧ H (fun s => a.tmps.getD s undef) w) a0 w0)
    (h2 : ∀ (u : Nat → Value) w, H u w → Q .normal { tmps := sl.foldl (fun t s => t.setIfInBounds s (u s)) a0.tmps, defers := a0.defers } w) : c.wp P Q a0 w0 :=
  Code.wp_mono (fun e a w ⟨he, ha, hH⟩ => by subst he; rw [ha]; exact h2 _ w hH) h1
/-- []byte(s). -/
theorem strBytes_run (w : World) (s : ByteArray) : ∃ g cap w', (convert 9 23 (.string s)).run Try.prog w = .ok (.slice (some ⟨g, 0, none⟩) s.size cap) w' ∧ IsB w' g (.slice (some ⟨g, 0, none⟩) s.size cap) (sbs s) ∧ U8 w' g (sbs s) ∧ Moves [] w w' ∧ s.size ≤ cap := by
  refine ⟨w.heap.size, _, _, Lib.run_convert_string_bytes w 9 23 5 s Try.underlying9 Try.underlying23 Try.underlying5, ?_, ?_, ?_, grownCap_ge _ _ _ _⟩
  · refine ⟨_, _, _, rfl, sbs_length s, grownCap_ge _ _ _ _, fun h => by simp at h, .inr ⟨0, rfl, fun j b hj => ?_⟩⟩
    have hlt : j < s.size := by
      have := (List.getElem?_eq_some_iff.1 hj).1
      rw [sbs_length] at this
      exact this
    rw [Nat.zero_add, Lib.bytesWorld_cell _ _ _ _ hlt]
    simp only [sbs, List.getElem?_map, Option.map_eq_some_iff] at hj
    obtain ⟨u, hu, rfl⟩ := hj
    rw [List.getD_eq_getElem?_getD, hu]
    rfl
  · exact .inr ⟨_, _, Lib.bytesWorld_at_new _ _ _⟩
  · refine ⟨rfl, rfl, rfl, ?_, fun k hk _ => Lib.bytesWorld_at_old _ _ _ _ hk⟩
    rw [Lib.bytesWorld_size]
    omega

set_option maxRecDepth 100000 in
set_option maxHeartbeats 1000000 in
theorem text_w (s : ByteArray) (w : World) (hs : s.size ≤ 1048576) : Calls Try.prog 36 #[.string s] w fun e w' => ∃ ad n cap, e = .returned (.agg #[.int .i64 1, .slice ad n cap, .float .f64 0]) ∧ VC w' [.int .i64 1, .slice ad n cap, .float .f64 0] ⟨1, sbs s, 0⟩ ∧ Moves [] w w' := by
  obtain ⟨g, cap, w2, hrun, hB, hU, m2, _⟩ := strBytes_run (w.alloc (.cells #[.int .i64 0, .slice none 0 0, .float .f64 0] 61)) s
  obtain ⟨p1, m0⟩ := boxesW m2
  obtain ⟨x0, x1, x2, f0, f1, f2⟩ := three_cells p1
  have HB : Hid (VC w2 [.int .i64 1, .slice (some ⟨g, 0, none⟩) s.size cap, .float .f64 0] ⟨1, sbs s, 0⟩) := ⟨_, _, _, _, rfl, hB, fits_zero, sbs_oct s, by show (sbs s).length ≤ _; rw [sbs_length]; exact hs, hU⟩
  clear hB hU m2
  go_enter Try.func36, Try.ntmps36
  go_wp2_with fail
  try simp only [Exit.inBlock, Exit.then]
  obtain ⟨s1, s2, s3⟩ := stored3 p1 m0 (Nat.le_refl _) (.int .i64 1) (.slice (some ⟨g, 0, none⟩) s.size cap) (.float .f64 0)
  exact bodyPost_ret (ret_val rfl _ _ _ _ _ _ rfl s1) rfl ⟨_, _, _, rfl, HB.out.box3 p1 s3, s2⟩

theorem RowAt.setRow {w : World} {v : Value} {xs : List Pcol} (h : RowAt w v xs) {p : Nat} {c : Array Value} {fz : Nat × Nat} (hp : w.heap[p]? = some (.cells c 26 fz)) (u : Value) : RowAt (w.setCell ⟨p, 0, none⟩ u) v xs := by
  obtain ⟨lv, rfl, css, h1, h2⟩ := h
  have st : Stay (fun t => t ≠ 26) w (w.setCell ⟨p, 0, none⟩ u) := Stay.set hp (by simp) _
  exact ⟨lv, rfl, css, h1.stay st (by decide), h2.mono fun _ _ k => k.stay st (by decide) (by decide)⟩
/-- The names and texts of the chapter's run. -/
def sA : ByteArray := ⟨#[97]⟩
def sX : ByteArray := ⟨#[120]⟩
def sY : ByteArray := ⟨#[121]⟩
def sZ : ByteArray := ⟨#[122]⟩
def kR1 : List Pcol := [⟨sA, [⟨5, ⟨1, [120], 0⟩⟩]⟩]
def kR2 : List Pcol := [⟨sA, [⟨5, ⟨1, [120], 0⟩⟩, ⟨3, ⟨1, [121], 0⟩⟩]⟩]
theorem known_plain : pPutE [] sA 5 ⟨1, sbs sX, 0⟩ = 0 ∧ pPut [] sA 5 ⟨1, sbs sX, 0⟩ = kR1 ∧ pPutE kR1 sA 3 ⟨1, sbs sY, 0⟩ = 0 ∧ pPut kR1 sA 3 ⟨1, sbs sY, 0⟩ = kR2 ∧ pAt kR2 sA 1099511627776 = some ⟨1, [120], 0⟩ ∧ pPutE kR2 sA (-1) ⟨1, sbs sZ, 0⟩ = 1 ∧ pright kR2 = true ∧ pname sA = true ∧ pname ⟨#[]⟩ = false := by
  have hn : pname sA = true := by decide
  have hl1 : prightV [⟨5, ⟨1, [120], 0⟩⟩] = true := by decide
  have hl2 : prightV [⟨5, ⟨1, [120], 0⟩⟩, ⟨3, ⟨1, [121], 0⟩⟩] = true := by decide
  obtain ⟨a1, a2⟩ := pPut_first (s := sA) (t := 5) (p := ⟨1, sbs sX, 0⟩) hn (by decide) (by decide)
  obtain ⟨b1, b2⟩ := pPut_single (s := sA) (t := 3) (p := ⟨1, sbs sY, 0⟩) hn (by decide) (by decide) hl1
  refine ⟨a1, a2.trans rfl, b1, b2.trans rfl, (pAt_single hn hl2).trans rfl, (pPut_no (by decide)).1, pright_single hn hl2, hn, by decide⟩

/-- Put, where the row and the answer are known. -/
theorem putK {R R' : List Pcol} {s : ByteArray} {t E : Int} {p : Pv} (hE : pPutE R s t p = E) (hR : pPut R s t p = R') (w : World) (v : Value) (k : Int) (adv : Option Addr) (nv cv xv : Nat) (h : RowAt w v R) (hv : VA w [.int .i64 k, .slice adv nv cv, .float .f64 xv] p) :
    Calls Try.prog 35 #[v, .string s, .int .i64 t, .agg #[.int .i64 k, .slice adv nv cv, .float .f64 xv]] w fun e w' => ∃ ad n cap, e = .returned (.tuple #[.agg #[.slice ad n cap], .int .i64 E]) ∧ RowAt w' (.agg #[.slice ad n cap]) R' ∧ Moves [] w w' := by
  refine (rput_w w w v R s t k adv nv cv xv p h hv (Moves.refl _ _)).mono ?_
  rintro e w' ⟨ad, n, cap, rfl, h1, h2⟩
  rw [hE]
  rw [hR] at h1
  exact ⟨ad, n, cap, rfl, ⟨_, rfl, h1⟩, h2⟩

set_option maxRecDepth 100000 in
set_option maxHeartbeats 8000000 in
theorem known_w (w : World) : Calls Try.prog 11 #[] w fun e w' => e = .returned (.bool true) ∧ Moves [] w w' := by
  obtain ⟨k1, k2, k3, k4, k5, k6, k7, k8, k9⟩ := known_plain
  have HN : Hid (pname sA = true) := k8
  have HN0 : Hid (pname ⟨#[]⟩ = false) := k9
  have hP1 := putK k1 k2
  have hP2 := putK k3 k4
  have hP3 := putK (R' := _) k6 rfl
  have hNw := fun w1 v (h : RowAt w1 v kR2) => newest_w w1 w1 v kR2 sA h (Moves.refl _ _)
  rw [k5] at hNw
  have hRt := fun w1 v (h : RowAt w1 v kR2) => right_w w1 w1 v kR2 h (Moves.refl _ _)
  rw [k7] at hRt
  have tX := fun w1 => text_w sX w1 (by decide)
  have tY := fun w1 => text_w sY w1 (by decide)
  have tZ := fun w1 => text_w sZ w1 (by decide)
  obtain ⟨R1, hR1⟩ : ∃ R1, Hid (kR1 = R1) := ⟨_, rfl⟩
  obtain ⟨R2, hR2⟩ : ∃ R2, Hid (kR2 = R2) := ⟨_, rfl⟩
  rw [hR1.out] at hP1 hP2
  rw [hR2.out] at hP2 hP3 hNw hRt
  clear k1 k2 k3 k4 k5 k6 k7 k8 k9
  go_enter Try.func11, Try.ntmps11
  go_wp2_with (first | (go_at_call 36; refine (tX _).mono ?_; rintro _ w1 ⟨ad1, n1, c1, rfl, hT1, m1⟩; have HT1 : Hid (VC w1 [.int .i64 1, .slice ad1 n1 c1, .float .f64 0] ⟨1, sbs sX, 0⟩) := hT1; clear hT1) | (go_at_call 35; refine (hP1 _ _ _ _ _ _ _ (RowAt.nil _) HT1.out.va).mono ?_; rintro _ w2 ⟨ad2, n2, c2, rfl, hr2, m2⟩; have HR2 : Hid (RowAt w2 (.agg #[.slice ad2 n2 c2]) R1) := hr2; clear hr2))
  obtain ⟨wa, hwa⟩ : ∃ wa, w2.alloc (.cells #[.slice ad2 n2 c2] 26) = wa := ⟨_, rfl⟩
  have ma : Moves [] w2 wa := by rw [← hwa]; exact (Moves.refl _ _).alloc _
  have qa : wa.heap[w2.heap.size]? = some (.cells #[.slice ad2 n2 c2] 26 (0, 0)) := by rw [← hwa]; exact heap_alloc_new _ _
  rw [hwa]
  obtain ⟨r0, r1⟩ := one_cell qa
  clear hwa
  refine wp_some [15, 16, 17, 14, 18, 19, 3] (fun u w' => u 3 = .int .i64 0 ∧ Moves [] w w' ∧ ∃ ad n cap, RowAt w' (.agg #[.slice ad n cap]) R2 ∧ w'.heap[w2.heap.size]? = some (.cells #[.slice ad n cap] 26 (0, 0))) ?_ ?_
  · refine wp_region_noPanic ?_
    go_region_with (first | (go_at_call 36; refine (tY _).mono ?_; rintro _ w3 ⟨ad3, n3, c3, rfl, hT3, m3⟩; have HT3 : Hid (VC w3 [.int .i64 1, .slice ad3 n3 c3, .float .f64 0] ⟨1, sbs sY, 0⟩) := hT3; clear hT3; have q3 := m3.at qa (by simp); obtain ⟨r3, _⟩ := one_cell q3) | (go_at_call 35; refine (hP2 _ _ _ _ _ _ _ (HR2.out.moves (ma.drew.then m3)) HT3.out.va).mono ?_; rintro _ w4 ⟨ad4, n4, c4, rfl, hr4, m4⟩; have HR4 : Hid (RowAt w4 (.agg #[.slice ad4 n4 c4]) R2) := hr4; clear hr4; have q4 := m4.at q3 (by simp); obtain ⟨f0, f1⟩ := one_cell q4))
    all_goals exact NoPanic.normal ⟨rfl, by kernel_rfl, by kernel_rfl, ((((m1.then m2).then ma).drew.then m3).then m4).setCell (.inr (by have := (m1.then m2).size; show _ ≤ _; omega)) _, ad4, n4, c4, HR4.out.setRow q4 _, set_one q4 _⟩
  · rintro u w4 ⟨hu3, m4, ad4, n4, c4, hr4, q4⟩
    simp only [List.foldl_cons, List.foldl_nil, List.setIfInBounds_toArray, List.set_cons_zero, List.set_cons_succ, hu3]
    clear hu3
    generalize u 15 = u15
    generalize u 16 = u16
    generalize u 17 = u17
    generalize u 14 = u14
    generalize u 18 = u18
    generalize u 19 = u19
    have HR4 : Hid (RowAt w4 (.agg #[.slice ad4 n4 c4]) R2) := hr4
    obtain ⟨r4, _⟩ := one_cell q4
    clear hr4 qa r0 r1 ma m1 m2 HT1 HR2 hP1 hP2
    go_wp2_with (go_at_call 37; refine (hNw _ _ HR4.out).mono ?_; rintro _ w5 ⟨k5, ad5, n5, c5, x5, rfl, hV5, m5⟩; have q5 := m5.at q4 (by simp); have HV5 : Hid (VC w5 [.int .i64 k5, .slice ad5 n5 c5, .float .f64 x5] ⟨1, [120], 0⟩) := hV5; clear hV5)
    obtain ⟨wb, hwb⟩ : ∃ wb, w5.alloc (.cells #[.int .i64 k5, .slice ad5 n5 c5, .float .f64 x5] 61) = wb := ⟨_, rfl⟩
    have mb : Moves [] w5 wb := by rw [← hwb]; exact (Moves.refl _ _).alloc _
    have qb : wb.heap[w5.heap.size]? = some (.cells #[.int .i64 k5, .slice ad5 n5 c5, .float .f64 x5] 61 (0, 0)) := by rw [← hwb]; exact heap_alloc_new _ _
    have qr := mb.at q5 (by simp)
    obtain ⟨r0, r1⟩ := one_cell qr
    have M5 : Hid (Moves [] w wb) := (m4.then m5).then mb
    have HRb : Hid (RowAt wb (.agg #[.slice ad4 n4 c4]) R2) := HR4.out.moves (m5.then mb)
    have HVb : Hid (VC wb [.int .i64 k5, .slice ad5 n5 c5, .float .f64 x5] ⟨1, [120], 0⟩) := HV5.out.moves mb
    rw [hwb]
    clear hwb
    refine wp_some [26, 27, 28, 25, 29, 30, 6, 7] (fun u w' => u 7 = .int .i64 1 ∧ Moves [] wb w') ?_ ?_
    · have hS : ∀ w', Moves [] wb w' → w'.cell? ⟨w2.heap.size, 0, none⟩ = some (.slice ad4 n4 c4) := fun w' m' => m'.cell r0
      have md : Moves [] wb wb.drew := (Moves.refl _ _).drew
      refine wp_region_noPanic ?_
      go_region_held3 (fun w' => w'.cell? ⟨w2.heap.size, 0, none⟩ = some (.slice ad4 n4 c4)) ((refine hS _ ?_; first | assumption | exact Moves.alloc (by assumption) _ | exact Moves.setCell (by assumption) (.inr (by show _ ≤ _; first | exact Nat.le_refl _ | (have := mw7.size; omega))) _)) (first | (go_at_call 36; refine (tZ _).mono ?_; rintro _ w7 ⟨ad7, n7, c7, rfl, hT7, m7⟩; have HT7 : Hid (VC w7 [.int .i64 1, .slice ad7 n7 c7, .float .f64 0] ⟨1, sbs sZ, 0⟩) := hT7; clear hT7; have mw7 : Moves [] wb w7 := (by first | exact md.then m7 | exact (md.alloc _).then m7); (try have t7 : w7.heap[wb.heap.size]? = some (.cells #[.slice none 0 0] 26 (0, 0)) := m7.at (heap_alloc_new wb.drew _) (by simp))) | (go_at_call 35; refine (hP3 _ _ _ _ _ _ _ (HRb.out.moves (by first | exact mw7 | exact mw7.alloc _)) (by first | exact HT7.out.va | exact HT7.out.va.moves ((Moves.refl _ _).alloc _))).mono ?_; rintro _ w8 ⟨ad8, n8, c8, rfl, hr8, m8⟩; have mw8 : Moves [] wb w8 := (by first | exact mw7.then m8 | exact (mw7.alloc _).then m8); (first | (have t8 : w8.heap[wb.heap.size]? = some (.cells #[.slice none 0 0] 26 (0, 0)) := m8.at t7 (by simp); obtain ⟨f0, f1⟩ := one_cell t8) | (have t8 : w8.heap[w7.heap.size]? = some (.cells #[.slice none 0 0] 26 (0, 0)) := m8.at (heap_alloc_new w7 _) (by simp); obtain ⟨f0, f1⟩ := one_cell t8) | skip)))
      all_goals refine NoPanic.normal ⟨rfl, by kernel_rfl, by kernel_rfl, ?_⟩
      all_goals first | exact Moves.alloc (by assumption) _ | exact Moves.setCell (by assumption) (.inr (by show _ ≤ _; first | exact Nat.le_refl _ | (have := mw7.size; omega))) _
    · rintro u w9 ⟨hu7, m9⟩
      simp only [List.foldl_cons, List.foldl_nil, List.setIfInBounds_toArray, List.set_cons_zero, List.set_cons_succ, hu7]
      clear hu7
      generalize u 26 = u26
      generalize u 27 = u27
      generalize u 28 = u28
      generalize u 25 = u25
      generalize u 29 = u29
      generalize u 30 = u30
      generalize u 6 = u6
      have HR9 : Hid (RowAt w9 (.agg #[.slice ad4 n4 c4]) R2) := HRb.out.moves m9
      obtain ⟨g0, g1, g2, _⟩ := three_cells (m9.at qb (by simp))
      obtain ⟨h0, _⟩ := one_cell (m9.at qr (by simp))
      obtain ⟨ad', len', cap', gb, eb, hB, _, ho, _⟩ := HVb.out.moves m9
      simp at eb
      obtain ⟨rfl, ⟨rfl, rfl, rfl⟩, rfl⟩ := eb
      have hs := run_str hB ho
      have hstr : strOf [120] = ⟨#[120]⟩ := by decide
      rw [hstr] at hs
      have HN' : Hid (pname ⟨#[97]⟩ = true) := HN.out
      clear hB ho hstr hP3 hNw
      go_wp2_with (first | (go_at_call 38; refine (hRt _ _ HR9.out).mono ?_; rintro _ w10 ⟨rfl, m10⟩) | (go_at_call_of 39 (Value.string ⟨#[97]⟩); refine (name_w _ _).mono ?_; rintro _ _ ⟨rfl, rfl⟩; rw [HN'.out]) | (go_at_call 39; refine (name_w _ _).mono ?_; rintro _ _ ⟨rfl, rfl⟩; rw [HN0.out]))
      go_ret
      exact ⟨rfl, (M5.out.then m9).then m10⟩
end Go.Proofs.Ytdngndkdkbggkaa
/-
  Values held against one another, as plain data; a value that is drawn.
-/
namespace Go.Proofs.Ytdngndkdkbggkaa
open Go.RowKit

def psame (p q : Pv) : Bool := vord (p.vm (.slice none 0 0) 0) (q.vm (.slice none 0 0) 0) == 0
theorem psame_self (p : Pv) : psame p p = true := by unfold psame; rw [vord_self]; rfl
theorem psame_canon (p : Pv) : psame (pcanon p) p = true := by
  unfold psame vord Pv.vm pcanon
  simp only [kd_kd]
  rcases kd_cases p.kind with ⟨_, e⟩ | ⟨_, e⟩ | ⟨_, _, e⟩ <;> rw [e] <;> simp [icmp]
  · exact bcmp_self _
  · unfold Pl.ord Pl.rank
    rw [Pl.canon_canon]
    simp [Pl.cmp]

theorem rsame_p (W w : World) (k l : Int) (ad ad' : Option Addr) (n n' cap cap' x y : Nat) (p q : Pv) (ha : VA W [.int .i64 k, .slice ad n cap, .float .f64 x] p) (hb : VA W [.int .i64 l, .slice ad' n' cap', .float .f64 y] q) (m : Moves [] W w) :
    Calls Try.prog 77 #[.agg #[.int .i64 k, .slice ad n cap, .float .f64 x], .agg #[.int .i64 l, .slice ad' n' cap', .float .f64 y]] w fun e w' => e = .returned (.bool (psame p q)) ∧ Moves [] w w' := by
  obtain ⟨g, hV, _⟩ := ha.vis
  obtain ⟨g', hV', _⟩ := hb.vis
  refine (rsame_b w w _ _ _ _ (hV.moves m) (hV'.moves m) (Moves.refl _ _)).mono ?_
  rintro e w' ⟨rfl, m2⟩
  exact ⟨rfl, m2⟩

/-- The plain part of a value. -/
def Vm.pv (a : Vm) : Pv := ⟨a.kind, a.bs, a.n⟩
theorem VIs.va {W : World} {A : Vm} {ad : Option Addr} {n cap : Nat} (h : VIs W (.agg #[.int .i64 A.kind, .slice ad n cap, .float .f64 A.n]) A) (hl : A.bs.length ≤ 1048576) : VA W [.int .i64 A.kind, .slice ad n cap, .float .f64 A.n] A.pv := by
  have hv := h.val
  simp [Vm.val] at hv
  refine ⟨ad, n, cap, A.g, rfl, ?_, h.isIn.fits, h.isIn.oct, hl⟩
  rw [hv]
  exact h.isIn.isB
theorem VWays.len16 {A : Vm} (h : VWays A) : A.bs.length ≤ 16 := by
  rcases h with ⟨_, _, h⟩ | ⟨_, h⟩
  · exact h
  · rw [h]; simp
theorem VWays.right {A : Vm} (h : VWays A) : pvr A.pv = true := by
  unfold pvr vright Pv.vm Vm.pv
  rcases h with ⟨h1, _, h2⟩ | ⟨h1, h2⟩
  · simp [h1, h2]
  · simp [h1]

end Go.Proofs.Ytdngndkdkbggkaa
