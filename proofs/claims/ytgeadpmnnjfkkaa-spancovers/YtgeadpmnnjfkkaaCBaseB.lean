/-
  Calls, Calls2, Float, Ref, Floats: our texts of these names, laid into one.
-/
import Derived.Test.YtgeadpmnnjfkkaaRows
import Derived.Test.YtgeadpmnnjfkkaaCBaseA
import Derived.WalkKit
import Derived.WalkSpells
import Derived.WalkLawsBesides
import Derived.Deep.Draws
/-
  What each function of package num that takes floats alone does, as plain arithmetic on words: for every word of 64 bits the call returns, and leaves memory as it was.
-/
namespace Go.Proofs.Ytgeadpmnnjfkkaa
open Go.RowKit

@[go_sem] theorem run_negfloat (n : Nat) (w : World) : (Op.unary .neg (.float .f64 n)).run Try.prog w = .ok (.float .f64 (n ^^^ 9223372036854775808)) w := rfl

/-- The world is as it was, but for how many answers the tape has given. -/
def Still (w w' : World) : Prop := ∃ m, w' = w.drewN m
theorem Still.refl (w : World) : Still w w := ⟨0, rfl⟩
theorem Still.trans {a b c : World} (h : Still a b) (k : Still b c) : Still a c := by
  obtain ⟨n, rfl⟩ := h; obtain ⟨m, rfl⟩ := k; exact ⟨n + m, World.drewN_drewN _ _ _⟩
theorem Still.drew (w : World) : Still w w.drew := ⟨1, rfl⟩
theorem Still.grown {w w' : World} (h : Still w w') : Grown w w' := by
  obtain ⟨n, rfl⟩ := h
  have k := World.keptBut_refl w (fun _ => False)
  exact ⟨k, fun _ => rfl, Nat.le_refl _⟩
theorem Still.cell {w w' : World} (h : Still w w') (a : Addr) : w'.cell? a = w.cell? a := by
  obtain ⟨n, rfl⟩ := h; rfl

end Go.Proofs.Ytgeadpmnnjfkkaa
/-
  What Class, math's constants, the law's own 'known' and the drawn float do: for every word of 64 bits the call returns, and leaves memory as it was.
-/
namespace Go.Proofs.Ytgeadpmnnjfkkaa
open Go.RowKit

theorem c1 {a : Nat} (ha : Pl.Fits a) (hn : Pl.isNan a = false) : (FloatKind.f64.format.order a 9218868437227405311 == some .gt) = decide (a = 9218868437227405312) := Pl.order_maxf ha hn
theorem c2 {a : Nat} (ha : Pl.Fits a) (hn : Pl.isNan a = false) : (FloatKind.f64.format.order (a ^^^ 9223372036854775808) 9218868437227405311 == some .gt) = decide (a = 18442240474082181120) := by
  have e : (FloatKind.f64.format.order (a ^^^ 9223372036854775808) 9218868437227405311 == some .gt) = decide (a ^^^ 9223372036854775808 = 9218868437227405312) :=
    Pl.order_maxf (Pl.fits_neg ha) (by rw [Pl.isNan_neg ha]; exact hn)
  rw [e, Pl.neg_word ha]
  congr 1
  apply propext
  unfold Pl.Fits at ha
  split <;> omega
theorem c3 {a : Nat} (ha : Pl.Fits a) (hn : Pl.isNan a = false) : (FloatKind.f64.format.order a 0 != some .eq) = decide (a ≠ 0 ∧ a ≠ 9223372036854775808) := Pl.order_zero ha hn

/-- The word of an infinity, by a sign. -/
def infOf (s : Int) : Nat := if 0 ≤ s then 9218868437227405312 else 18442240474082181120

theorem k1 : (Pl.ord 9223372036854775808 0 == -1) = true := by decide +kernel
theorem k2 : (Pl.ord (infOf 1) 9221120237041090561 == -1) = true := by decide +kernel
end Go.Proofs.Ytgeadpmnnjfkkaa
/-
  The drawn float: for every number and every word of 64 bits the call returns a word of 64 bits, and leaves memory as it was.
-/
namespace Go.Proofs.Ytgeadpmnnjfkkaa
open Go.RowKit

theorem tmod_bounds (n : Int) : -1048577 < n.tmod 1048577 ∧ n.tmod 1048577 < 1048577 := by
  rcases Int.le_total 0 n with h | h
  · rw [Int.tmod_eq_emod_of_nonneg h]; omega
  · have e : n.tmod 1048577 = -((-n).tmod 1048577) := by rw [Int.neg_tmod, Int.neg_neg]
    rw [e, Int.tmod_eq_emod_of_nonneg (by omega)]; omega

end Go.Proofs.Ytgeadpmnnjfkkaa
/-
  What the document's own answer (the reference of layer 1) does: for every word of 64 bits it returns what package num's functions are proved to return, and leaves memory as it was.
-/
namespace Go.Proofs.Ytgeadpmnnjfkkaa
open Go.RowKit

namespace Pl
/-- A word's place in the document's order. -/
def place (a : Nat) : Nat := if isNan a then 18446744073709551615 else rank a

end Pl

end Go.Proofs.Ytgeadpmnnjfkkaa
/-
  What each function on floats that the layers above call does: one text to import.
-/
