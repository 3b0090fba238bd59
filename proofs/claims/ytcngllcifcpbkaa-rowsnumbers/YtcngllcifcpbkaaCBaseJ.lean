/-
  Row9, Row10, Row11: our texts of these names, laid into one.
-/
import Derived.Test.YtcngllcifcpbkaaCBaseI
import Derived.Lib.ConvBytes
import Derived.Test.YtcngllcifcpbkaaCBaseX
import Derived.Test.YtcngllcifcpbkaaCBaseG
/-
  Rows as plain data: what follows of what their functions answer.
-/
namespace Go.Proofs.Ytcngllcifcpbkaa
open Go.RowKit

theorem kd_kd (k : Int) : kd (kd k) = kd k := by
  rcases kd_cases k with ⟨_, e⟩ | ⟨_, e⟩ | ⟨_, _, e⟩ <;> rw [e] <;> decide
theorem pcanon_pcanon (p : Pv) : pcanon (pcanon p) = pcanon p := by
  unfold pcanon
  simp only [kd_kd]
  rcases kd_cases p.kind with ⟨_, e⟩ | ⟨_, e⟩ | ⟨_, _, e⟩ <;> simp [e, Pl.canon_canon]
theorem pvr_canon (p : Pv) : pvr (pcanon p) = pvr p := by
  unfold pvr vright Pv.vm pcanon
  rcases kd_cases p.kind with ⟨h, e⟩ | ⟨h, e⟩ | ⟨h1, h2, e⟩ <;> simp [e] <;> simp_all
theorem neq_self (s : ByteArray) : neq s s = true := by unfold neq; simp
theorem nlt_self (s : ByteArray) : nlt s s = false := by unfold nlt; rw [bytesLess_eq]; simp
theorem ngt_self (s : ByteArray) : ngt s s = false := by unfold ngt; rw [neq_self]; simp

theorem prightV_one (x : Pver) : prightV [x] = (ptime x.t && pvr x.v) := by
  simp [prightV, verGood, List.range_succ]
theorem prightV_pair (x y : Pver) : prightV [x, y] = (ptime x.t && pvr x.v && (ptime y.t && pvr y.v && decide (y.t < x.t))) := by
  simp [prightV, verGood, List.range_succ]
theorem prightV_cases {l : List Pver} (h : prightV l = true) : (∃ x, l = [x] ∧ ptime x.t = true ∧ pvr x.v = true) ∨ (∃ x y, l = [x, y] ∧ ptime x.t = true ∧ pvr x.v = true ∧ ptime y.t = true ∧ pvr y.v = true ∧ y.t < x.t) := by
  have h2 := prightV_two h
  match l, h2 with
  | [x], _ =>
    rw [prightV_one] at h
    simp only [Bool.and_eq_true] at h
    exact .inl ⟨x, rfl, h⟩
  | [x, y], _ =>
    rw [prightV_pair] at h
    simp only [Bool.and_eq_true, decide_eq_true_eq] at h
    exact .inr ⟨x, y, rfl, h.1.1, h.1.2, h.2.1.1, h.2.1.2, h.2.2⟩
theorem prightV_canon {l : List Pver} (h : prightV l = true) : prightV (l.map pcanonV) = true := by
  rcases prightV_cases h with ⟨x, rfl, h1, h2⟩ | ⟨x, y, rfl, h1, h2, h3, h4, h5⟩
  · simp [prightV_one, pcanonV, pvr_canon, h1, h2]
  · simp [prightV_pair, pcanonV, pvr_canon, h1, h2, h3, h4, h5]

theorem pput_ne (l : List Pver) (v : Pver) : pput l v ≠ [] := by
  unfold pput
  cases hq : l.filter (fun x => decide (v.t < x.t)) with
  | nil => simp
  | cons a t =>
    cases t <;> simp
theorem pput_right {l : List Pver} {v : Pver} (hl : prightV l = true) (h1 : ptime v.t = true) (h2 : pvr v.v = true) : prightV (pput l v) = true := by
  rcases prightV_cases hl with ⟨x, rfl, k1, k2⟩ | ⟨x, y, rfl, k1, k2, k3, k4, k5⟩
  · unfold pput
    rcases Int.lt_trichotomy v.t x.t with h | h | h
    · simp [h, Int.not_lt.2 (Int.le_of_lt h), prightV_pair, h1, h2, k1, k2]
    · simp [h, prightV_one, h2, k1]
    · simp [h, Int.not_lt.2 (Int.le_of_lt h), prightV_pair, h1, h2, k1, k2]
  · unfold pput
    rcases Int.lt_trichotomy v.t x.t with h | h | h
    · rcases Int.lt_trichotomy v.t y.t with h' | h' | h'
      · simp [h, h', prightV_pair, k1, k2, k3, k4, k5]
      · simp [h', k5, prightV_pair, h2, k1, k2, k3, show ¬ x.t < y.t by omega]
      · simp [h, h', prightV_pair, h1, h2, k1, k2, show ¬ v.t < y.t by omega, show ¬ x.t < v.t by omega]
    · simp [h, k5, prightV_pair, h2, k1, k3, k4, show ¬ x.t < y.t by omega]
    · simp [h, prightV_pair, h1, h2, k1, k2, show ¬ v.t < x.t by omega, show ¬ v.t < y.t by omega, show y.t < v.t by omega]
end Go.Proofs.Ytcngllcifcpbkaa
/-
  The law's own text and known: chapter 4's run.
-/
namespace Go.Proofs.Ytcngllcifcpbkaa
open Go.RowKit

/-- What a piece of code leaves, told by the slots that it may have written: the rest is walked once. -/
theorem wp_some {P : Program} {c : Code} {Q : Exit → Act → World → Prop} {a0 : Act} {w0 : World} (sl : List Nat) (H : (Nat → Value) → World → Prop)
    (h1 : c.wp P (fun e a w => e = .normal ∧ a = { tmps := sl.foldl (fun t s => t.setIfInBounds s (a.tmps.getD s undef)) a0.tmps, defers := a0.defers } ∧ H (fun s => a.tmps.getD s undef) w) a0 w0)
    (h2 : ∀ (u : Nat → Value) w, H u w → Q .normal { tmps := sl.foldl (fun t s => t.setIfInBounds s (u s)) a0.tmps, defers := a0.defers } w) : c.wp P Q a0 w0 :=
  Code.wp_mono (fun e a w ⟨he, ha, hH⟩ => by subst he; rw [ha]; exact h2 _ w hH) h1
theorem RowAt.setRow {w : World} {v : Value} {xs : List Pcol} (h : RowAt w v xs) {p : Nat} {c : Array Value} {fz : Nat × Nat} (hp : w.heap[p]? = some (.cells c 36 fz)) (u : Value) : RowAt (w.setCell ⟨p, 0, none⟩ u) v xs := by
  obtain ⟨lv, rfl, css, h1, h2⟩ := h
  have st : Stay (fun t => t ≠ 36) w (w.setCell ⟨p, 0, none⟩ u) := Stay.set hp (by simp) _
  exact ⟨lv, rfl, css, h1.stay st (by decide), h2.mono fun _ _ k => k.stay st (by decide) (by decide)⟩
end Go.Proofs.Ytcngllcifcpbkaa
/-
  Values held against one another, as plain data; a value that is drawn.
-/
namespace Go.Proofs.Ytcngllcifcpbkaa
open Go.RowKit

def psame (p q : Pv) : Bool := vord (p.vm (.slice none 0 0) 0) (q.vm (.slice none 0 0) 0) == 0
theorem psame_self (p : Pv) : psame p p = true := by unfold psame; rw [vord_self]; rfl
theorem rsame_p (W w : World) (k l : Int) (ad ad' : Option Addr) (n n' cap cap' x y : Nat) (p q : Pv) (ha : VA W [.int .i64 k, .slice ad n cap, .float .f64 x] p) (hb : VA W [.int .i64 l, .slice ad' n' cap', .float .f64 y] q) (m : Moves [] W w) :
    Calls Try.prog 45 #[.agg #[.int .i64 k, .slice ad n cap, .float .f64 x], .agg #[.int .i64 l, .slice ad' n' cap', .float .f64 y]] w fun e w' => e = .returned (.bool (psame p q)) ∧ Moves [] w w' := by
  obtain ⟨g, hV, _⟩ := ha.vis
  obtain ⟨g', hV', _⟩ := hb.vis
  refine (rsame_b w w _ _ _ _ (hV.moves m) (hV'.moves m) (Moves.refl _ _)).mono ?_
  rintro e w' ⟨rfl, m2⟩
  exact ⟨rfl, m2⟩

end Go.Proofs.Ytcngllcifcpbkaa
