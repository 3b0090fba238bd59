/-
  Sums in one column, as plain data: what was added is there, newest first.
-/
import Derived.Test.YtfegflimnngfaabCBaseK
import Derived.Test.YtfegflimnngfaabCNewest4
import Derived.Test.YtfegflimnngfaabCBaseA
namespace Go.Proofs.Ytfegflimnngfaab
open Go.RowKit

def pnum (x : Nat) : Pv := ⟨2, [], x⟩
theorem pcanon_num (x : Nat) : pcanon (pnum x) = pnum (Pl.canon x) := by
  unfold pcanon pnum
  simp [kd]
theorem pvr_num (x : Nat) : pvr (pnum x) = true := by
  unfold pvr vright Pv.vm pnum
  simp
theorem canon_sum (a b : Nat) : Pl.canon (Pl.sum a b) = Pl.sum a b := by
  unfold Pl.sum
  split
  · exact Pl.canon_canon _
  · decide
theorem pPlus_num (a b : Nat) : pPlusE (pnum a) (pnum b) = 0 ∧ pPlus (pnum a) (pnum b) = pnum (Pl.sum a b) := ⟨rfl, rfl⟩

/-- One column, its newest a Number. -/
def One (s : ByteArray) (R : List Pcol) (t0 : Int) (w : Nat) : Prop := Pl.canon w = w ∧ ∃ rest, R = [⟨s, ⟨t0, pnum w⟩ :: rest⟩] ∧ prightV (⟨t0, pnum w⟩ :: rest) = true
theorem One.right {s : ByteArray} {R : List Pcol} {t0 : Int} {w : Nat} (h : One s R t0 w) (hs : pname s = true) : pright R = true := by
  obtain ⟨_, rest, rfl, hl⟩ := h
  exact pright_single hs hl
theorem One.copy {s : ByteArray} {R : List Pcol} {t0 : Int} {w : Nat} (h : One s R t0 w) (hs : pname s = true) : One s (pcopy R) t0 w := by
  obtain ⟨hc, rest, rfl, hl⟩ := h
  refine ⟨hc, rest.map pcanonV, ?_, ?_⟩
  · rw [pcopy_single hs hl, List.map_cons]
    show [(⟨s, ⟨t0, pcanon (pnum w)⟩ :: _⟩ : Pcol)] = _
    rw [pcanon_num, hc]
  · have := prightV_canon hl
    rw [List.map_cons] at this
    change prightV (⟨t0, pcanon (pnum w)⟩ :: _) = true at this
    rw [pcanon_num, hc] at this
    exact this
theorem One.newest {s : ByteArray} {R : List Pcol} {t0 : Int} {w : Nat} (h : One s R t0 w) (hs : pname s = true) : pAt R s 1099511627776 = some (pnum w) := by
  obtain ⟨hc, rest, rfl, hl⟩ := h
  have ht := (prightV_head hl).1
  unfold ptime at ht
  simp at ht
  rw [pAt_single hs hl]
  simp [ht.2, pcanon_num, hc]
theorem addC_right {s : ByteArray} {t : Int} {x : Nat} (hs : pname s = true) (ht : ptime t = true) : cRight ⟨5, s, t, pnum x⟩ = 0 := by
  unfold cRight
  rw [if_neg (by simp), if_neg (by simp), if_neg (by simp [hs]), if_neg (by simp), if_neg (by simp [ht]), if_neg (by simp), if_neg (by simp [pvr_num]), if_neg (by simp [pnum])]
theorem add_first {s : ByteArray} {t : Int} {x : Nat} (hs : pname s = true) (ht : ptime t = true) (hx : Pl.Fits x) : cApE [] ⟨5, s, t, pnum x⟩ = 0 ∧ One s (cAp [] ⟨5, s, t, pnum x⟩) t (Pl.canon x) := by
  have h0 : cOld [] s = pnum 9223372036854775808 := rfl
  obtain ⟨p1, p2⟩ := pPlus_num 9223372036854775808 x
  rw [Pl.sum_nzero hx] at p2
  obtain ⟨e1, e2⟩ := pPut_first (p := pnum (Pl.canon x)) hs ht (pvr_num _)
  have hE : cAddE [] ⟨5, s, t, pnum x⟩ = 0 := by
    unfold cAddE
    rw [h0, if_pos p1, p2]
    exact e1
  have hP : cAdd [] ⟨5, s, t, pnum x⟩ = [⟨s, [⟨t, pnum (Pl.canon x)⟩]⟩] := by
    unfold cAdd
    rw [h0, if_pos p1, p2, e2, pcanon_num, Pl.canon_canon]
  refine ⟨by unfold cApE; rw [if_neg (by simp), if_pos rfl]; exact hE, Pl.canon_canon _, [], ?_, ?_⟩
  · unfold cAp
    rw [if_neg (by simp), if_neg (by simp), if_neg (by simp), if_pos rfl]
    exact hP
  · rw [prightV_one]
    simp [ht, pvr_num]
theorem put_next {s : ByteArray} {R : List Pcol} {t0 t : Int} {w : Nat} {q : Pv} (h : One s R t0 w) (hs : pname s = true) (ht : ptime t = true) (hlt : t0 < t) (hq : pvr q = true) : pPutE R s t q = 0 ∧ ∃ rest, pPut R s t q = [⟨s, ⟨t, pcanon q⟩ :: rest⟩] ∧ prightV (⟨t, pcanon q⟩ :: rest) = true := by
  obtain ⟨hc, rest, rfl, hl⟩ := h
  have e0 : pnum w = pcanon (pnum w) := by rw [pcanon_num, hc]
  obtain ⟨e1, e2⟩ := pPut_single hs ht hq hl
  rw [e0] at hl
  obtain ⟨rest', hr⟩ := newest_head (t := t) (q := q) hl
  rw [if_pos (by omega)] at hr
  have hl' : prightV (pput ((⟨t0, pcanon (pnum w)⟩ :: rest).map pcanonV) ⟨t, pcanon q⟩) = true := pput_right (prightV_canon hl) ht (by rw [pvr_canon]; exact hq)
  rw [← e0] at hr hl'
  rw [hr] at e2 hl'
  exact ⟨e1, rest', e2, hl'⟩
theorem add_next {s : ByteArray} {R : List Pcol} {t0 t : Int} {w x : Nat} (h : One s R t0 w) (hs : pname s = true) (ht : ptime t = true) (hlt : t0 < t) : cApE R ⟨5, s, t, pnum x⟩ = 0 ∧ One s (cAp R ⟨5, s, t, pnum x⟩) t (Pl.sum w x) := by
  have h0 : cOld R s = pnum w := by unfold cOld; rw [h.newest hs]; rfl
  obtain ⟨p1, p2⟩ := pPlus_num w x
  obtain ⟨e1, rest, e2, e3⟩ := put_next h hs ht hlt (pvr_num (Pl.sum w x))
  rw [pcanon_num, canon_sum] at e2 e3
  have hE : cAddE R ⟨5, s, t, pnum x⟩ = 0 := by
    unfold cAddE
    rw [show cOld R (⟨5, s, t, pnum x⟩ : Pchg).col = pnum w from h0, if_pos p1, p2]
    exact e1
  have hP : cAdd R ⟨5, s, t, pnum x⟩ = [⟨s, ⟨t, pnum (Pl.sum w x)⟩ :: rest⟩] := by
    unfold cAdd
    rw [show cOld R (⟨5, s, t, pnum x⟩ : Pchg).col = pnum w from h0, if_pos p1, p2]
    exact e2
  refine ⟨by unfold cApE; rw [if_neg (by simp), if_pos rfl]; exact hE, canon_sum _ _, rest, ?_, e3⟩
  unfold cAp
  rw [if_neg (by simp), if_neg (by simp), if_neg (by simp), if_pos rfl]
  exact hP
/-- One change, applied. -/
theorem apply_one {R : List Pcol} {c : Pchg} (h1 : cRight c = 0) (h2 : cApE (pcopy R) c = 0) : cApplyE R [c] = 0 ∧ cApply R [c] = cAp (pcopy R) c := by
  have hl : cListE [c] = 0 := by unfold cListE; simp [h1]
  have hf : cFold [c] (pcopy R) = (0, cAp (pcopy R) c) := by rw [cFold_cons, if_pos h2, cFold_nil]
  unfold cApplyE cApply
  rw [if_pos hl, if_pos hl, hf]
  exact ⟨rfl, rfl⟩
theorem rplus_p (W w : World) (k l : Int) (ad ad' : Option Addr) (n n' cap cap' x y : Nat) (p q : Pv) (ha : VA W [.int .i64 k, .slice ad n cap, .float .f64 x] p) (hb : VA W [.int .i64 l, .slice ad' n' cap', .float .f64 y] q) (m : Moves [] W w) :
    Calls Try.prog 14 #[.agg #[.int .i64 k, .slice ad n cap, .float .f64 x], .agg #[.int .i64 l, .slice ad' n' cap', .float .f64 y]] w fun e w' => e = .returned (.tuple #[.agg #[.int .i64 (pPlus p q).kind, .slice none 0 0, .float .f64 (pPlus p q).n], .int .i64 (pPlusE p q)]) ∧ Moves [] w w' := by
  obtain ⟨g, hV, _⟩ := ha.vis
  obtain ⟨g', hV', _⟩ := hb.vis
  obtain ⟨e0, hI⟩ := hV.moves m
  obtain ⟨e0', hI'⟩ := hV'.moves m
  have h1 := rPlus_w _ _ w hI hI'
  rw [← e0, ← e0'] at h1
  refine h1.mono ?_
  rintro e w' ⟨rfl, m2⟩
  refine ⟨?_, m2⟩
  have e1 : plusE (p.vm (.slice ad n cap) g) (q.vm (.slice ad' n' cap') g') = pPlusE p q := rfl
  have e2 : (plusV (p.vm (.slice ad n cap) g) (q.vm (.slice ad' n' cap') g')).val = .agg #[.int .i64 (pPlus p q).kind, .slice none 0 0, .float .f64 (pPlus p q).n] := by
    unfold plusV pPlus Vm.val
    by_cases h : p.kind = 2 ∧ q.kind = 2
    · rw [if_pos h, if_pos (show (p.vm (.slice ad n cap) g).kind = 2 ∧ (q.vm (.slice ad' n' cap') g').kind = 2 from h)]; rfl
    · rw [if_neg h, if_neg (show ¬ ((p.vm (.slice ad n cap) g).kind = 2 ∧ (q.vm (.slice ad' n' cap') g').kind = 2) from h)]; rfl
  rw [e1, e2]
theorem VC.num (w : World) {x : Nat} (h : Pl.Fits x) : VC w [.int .i64 2, .slice none 0 0, .float .f64 x] (pnum x) := ⟨none, 0, 0, 0, rfl, isB_nil _ _, h, by simp [pnum], by simp [pnum], .inl rfl⟩
/-- A list of changes that was just made. -/
theorem chgs_one (w : World) (c : Pchg) (a : Option Addr) (n cap : Nat) (hv : VA w [.int .i64 c.v.kind, .slice a n cap, .float .f64 c.v.n] c.v) : ChgsAt (w.alloc (.cells #[.int .i64 c.kind, .string c.col, .int .i64 c.t, .int .i64 c.v.kind, .slice a n cap, .float .f64 c.v.n] 37)) (some ⟨w.heap.size, 0, none⟩) [c] := by
  intro k c' hc
  cases k with
  | zero =>
    simp at hc
    subst hc
    have hb := heap_alloc_new w (.cells #[.int .i64 c.kind, .string c.col, .int .i64 c.t, .int .i64 c.v.kind, .slice a n cap, .float .f64 c.v.n] 37)
    refine ⟨_, 0, a, n, cap, rfl, ?_, ?_, ?_, ?_, ?_, ?_, hv.moves ((Moves.refl _ _).alloc _)⟩ <;> (simp only [World.cell?, hb]; rfl)
  | succ k => simp at hc
theorem chgs_two (w : World) (c d : Pchg) (a b : Option Addr) (n cap n' cap' : Nat) (hv : VA w [.int .i64 c.v.kind, .slice a n cap, .float .f64 c.v.n] c.v) (hv' : VA w [.int .i64 d.v.kind, .slice b n' cap', .float .f64 d.v.n] d.v) : ChgsAt (w.alloc (.cells #[.int .i64 c.kind, .string c.col, .int .i64 c.t, .int .i64 c.v.kind, .slice a n cap, .float .f64 c.v.n, .int .i64 d.kind, .string d.col, .int .i64 d.t, .int .i64 d.v.kind, .slice b n' cap', .float .f64 d.v.n] 37)) (some ⟨w.heap.size, 0, none⟩) [c, d] := by
  have hb := heap_alloc_new w (.cells #[.int .i64 c.kind, .string c.col, .int .i64 c.t, .int .i64 c.v.kind, .slice a n cap, .float .f64 c.v.n, .int .i64 d.kind, .string d.col, .int .i64 d.t, .int .i64 d.v.kind, .slice b n' cap', .float .f64 d.v.n] 37)
  have mb : Moves [] w (w.alloc (.cells #[.int .i64 c.kind, .string c.col, .int .i64 c.t, .int .i64 c.v.kind, .slice a n cap, .float .f64 c.v.n, .int .i64 d.kind, .string d.col, .int .i64 d.t, .int .i64 d.v.kind, .slice b n' cap', .float .f64 d.v.n] 37)) := (Moves.refl _ _).alloc _
  intro k c' hc
  match k with
  | 0 =>
    simp at hc
    subst hc
    refine ⟨_, 0, a, n, cap, rfl, ?_, ?_, ?_, ?_, ?_, ?_, hv.moves mb⟩ <;> (simp only [World.cell?, hb]; rfl)
  | 1 =>
    simp at hc
    subst hc
    refine ⟨_, 0, b, n', cap', rfl, ?_, ?_, ?_, ?_, ?_, ?_, hv'.moves mb⟩ <;> (simp only [World.cell?, hb]; rfl)
  | k + 2 => simp at hc
set_option maxRecDepth 100000 in
theorem num5_w (w : World) (x : Nat) : Calls Try.prog 11 #[.float .f64 x] w fun e w' => e = .returned (.agg #[.int .i64 2, .slice none 0 0, .float .f64 x]) ∧ Moves [] w w' := by
  have s1 := heap_alloc_new w (.cells #[.int .i64 2, .slice none 0 0, .float .f64 x] 35)
  have s2 : Moves [] w (w.alloc (.cells #[.int .i64 2, .slice none 0 0, .float .f64 x] 35)) := (Moves.refl _ _).alloc _
  go_enter Try.func11, Try.ntmps11
  go_wp2_with fail
  try simp only [Exit.inBlock, Exit.then]
  exact bodyPost_ret (ret_val rfl _ _ _ _ _ _ rfl s1) rfl ⟨rfl, s2⟩
end Go.Proofs.Ytfegflimnngfaab
