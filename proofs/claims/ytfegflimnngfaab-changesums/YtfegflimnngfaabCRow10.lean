/-
  The law's own text and known: chapter 4's run.
-/
import Derived.Test.YtfegflimnngfaabCRow9
import Derived.Test.YtfegflimnngfaabCLaw3
namespace Go.Proofs.Ytfegflimnngfaab
open Go.RowKit

/-- What a piece of code leaves, told by the slots that it may have written: the rest is walked once. -/
theorem wp_some {P : Program} {c : Code} {Q : Exit → Act → World → Prop} {a0 : Act} {w0 : World} (sl : List Nat) (H : (Nat → Value) → World → Prop)
    (h1 : c.wp P (fun e a w => e = .normal ∧ a = { tmps := sl.foldl (fun t s => t.setIfInBounds s (a.tmps.getD s undef)) a0.tmps, defers := a0.defers } ∧ H (fun s => a.tmps.getD s undef) w) a0 w0)
    (h2 : ∀ (u : Nat → Value) w, H u w → Q .normal { tmps := sl.foldl (fun t s => t.setIfInBounds s (u s)) a0.tmps, defers := a0.defers } w) : c.wp P Q a0 w0 :=
  Code.wp_mono (fun e a w ⟨he, ha, hH⟩ => by subst he; rw [ha]; exact h2 _ w hH) h1
theorem RowAt.setRow {w : World} {v : Value} {xs : List Pcol} (h : RowAt w v xs) {p : Nat} {c : Array Value} {fz : Nat × Nat} (hp : w.heap[p]? = some (.cells c 25 fz)) (u : Value) : RowAt (w.setCell ⟨p, 0, none⟩ u) v xs := by
  obtain ⟨lv, rfl, css, h1, h2⟩ := h
  have st : Stay (fun t => t ≠ 25) w (w.setCell ⟨p, 0, none⟩ u) := Stay.set hp (by simp) _
  exact ⟨lv, rfl, css, h1.stay st (by decide), h2.mono fun _ _ k => k.stay st (by decide) (by decide)⟩
/-- The names and texts of the chapter's run. -/
def sA : ByteArray := ⟨#[97]⟩
end Go.Proofs.Ytfegflimnngfaab
