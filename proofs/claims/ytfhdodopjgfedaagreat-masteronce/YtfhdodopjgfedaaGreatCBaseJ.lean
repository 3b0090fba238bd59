/-
  Row9, Row10, Row11: our texts of these names, laid into one.
-/
import Derived.Test.YtfhdodopjgfedaaGreatCBaseI
import Derived.Lib.ConvBytes
import Derived.Test.YtfhdodopjgfedaaGreatCBaseX
import Derived.Test.YtfhdodopjgfedaaGreatCBaseG
/-
  Rows as plain data: what follows of what their functions answer.
-/
namespace Go.Proofs.YtfhdodopjgfedaaGreat
open Go.RowKit

theorem pvr_canon (p : Pv) : pvr (pcanon p) = pvr p := by
  unfold pvr vright Pv.vm pcanon
  rcases kd_cases p.kind with ⟨h, e⟩ | ⟨h, e⟩ | ⟨h1, h2, e⟩ <;> simp [e] <;> simp_all
theorem prightV_one (x : Pver) : prightV [x] = (ptime x.t && pvr x.v) := by
  simp [prightV, verGood, List.range_succ]
theorem prightV_pair (x y : Pver) : prightV [x, y] = (ptime x.t && pvr x.v && (ptime y.t && pvr y.v && decide (y.t < x.t))) := by
  simp [prightV, verGood, List.range_succ]
theorem prightV_cases {l : List Pver} (h : prightV l = true) : (∃ x, l = [x] ∧ ptime x.t = true ∧ pvr x.v = true) ∨ (∃ x y, l = [x, y] ∧ ptime x.t = true ∧ pvr x.v = true ∧ ptime y.t = true ∧ pvr y.v = true ∧ y.t < x.t) := by
  have h2 := prightV_two h
  match l, h2 with
  | [x], _ =>
    rw [prightV_one] at h
    simp only [Bool.and_eq_true] at h
    exact .inl ⟨x, rfl, h⟩
  | [x, y], _ =>
    rw [prightV_pair] at h
    simp only [Bool.and_eq_true, decide_eq_true_eq] at h
    exact .inr ⟨x, y, rfl, h.1.1, h.1.2, h.2.1.1, h.2.1.2, h.2.2⟩
theorem prightV_canon {l : List Pver} (h : prightV l = true) : prightV (l.map pcanonV) = true := by
  rcases prightV_cases h with ⟨x, rfl, h1, h2⟩ | ⟨x, y, rfl, h1, h2, h3, h4, h5⟩
  · simp [prightV_one, pcanonV, pvr_canon, h1, h2]
  · simp [prightV_pair, pcanonV, pvr_canon, h1, h2, h3, h4, h5]

/-- The bytes of a text. -/
def sbs (s : ByteArray) : List Nat := s.data.toList.map (·.toNat)
end Go.Proofs.YtfhdodopjgfedaaGreat
/-
  The law's own text and known: chapter 4's run.
-/
namespace Go.Proofs.YtfhdodopjgfedaaGreat
open Go.RowKit

theorem sbs_length (s : ByteArray) : (sbs s).length = s.size := by simp [sbs]
/-- What a piece of code leaves, told by the slots that it may have written: the rest is walked once. -/
theorem wp_some {P : Program} {c : Code} {Q : Exit → Act → World → Prop} {a0 : Act} {w0 : World} (sl : List Nat) (H : (Nat → Value) → World → Prop)
    (h1 : c.wp P (fun e a w => e = .normal ∧ a = { tmps := sl.foldl (fun t s => t.setIfInBounds s (a.tmps.getD s undef)) a0.tmps, defers := a0.defers } ∧ H (fun s => a.tmps.getD s undef) w) a0 w0)
    (h2 : ∀ (u : Nat → Value) w, H u w → Q .normal { tmps := sl.foldl (fun t s => t.setIfInBounds s (u s)) a0.tmps, defers := a0.defers } w) : c.wp P Q a0 w0 :=
  Code.wp_mono (fun e a w ⟨he, ha, hH⟩ => by subst he; rw [ha]; exact h2 _ w hH) h1
end Go.Proofs.YtfhdodopjgfedaaGreat
/-
  Values held against one another, as plain data; a value that is drawn.
-/
namespace Go.Proofs.YtfhdodopjgfedaaGreat
open Go.RowKit

end Go.Proofs.YtfhdodopjgfedaaGreat
