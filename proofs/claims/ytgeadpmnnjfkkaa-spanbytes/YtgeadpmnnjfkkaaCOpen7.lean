/-
  A span that was handed in, opened.
-/
import Derived.Test.YtgeadpmnnjfkkaaCBaseR
namespace Go.Proofs.Ytgeadpmnnjfkkaa
open Go.RowKit
open Go.ChangeShapes Go.WideShapes

/-- A span that was handed in. -/
def SArg (v : Value) : Prop := ∃ lo hi, v = .agg #[.string lo, .string hi]
set_option maxRecDepth 100000 in
theorem sarg_of_trod {H : Type} {enc : TypeId × Value → H} {W : World} {base b0 : Nat} {r : Reach} {spare : Nat → Bool} {held : Bool} {v : Value} {d : DataW H} {p : List MemPlace}
    (hv : Value.okWide Try.prog W r b0 27 v) (h : DataW.Trod enc Try.prog W base spare held 27 v d p) : SArg v := by
  obtain ⟨cs, rfl, hcs⟩ := okWide_struct Try.underlying27 hv
  have c28 : Try.prog.cellsOf 27 = 2 := by kernel_rfl
  rw [c28] at hcs
  obtain ⟨fuel, h⟩ := h
  have hlen : cs.toList.length = 2 := by simpa using hcs
  have h' : DataW.trod enc Try.prog W base spare held fuel 27 cs.toList = some (d, p) := by simpa [Value.cells] using h
  obtain ⟨xs, k, hk, hxy, _, hxl, hf⟩ := DataW.trod_struct Try.underlying27 h'
  have c9 : Try.prog.cellsOf 9 = 1 := by kernel_rfl
  obtain ⟨l, rfl⟩ : ∃ l : List Value, cs = l.toArray := ⟨cs.toList, by simp⟩
  simp only at hlen hf
  match xs, hxl, l, hlen with
  | [y0, y1], _, [v0, v1], _ =>
    have g0 := hf 0 _ rfl
    have g1 := hf 1 _ rfl
    simp [c9] at g0 g1
    obtain ⟨s0, rfl⟩ := str_of_trod g0
    obtain ⟨s1, rfl⟩ := str_of_trod g1
    exact ⟨s0, s1, rfl⟩
end Go.Proofs.Ytgeadpmnnjfkkaa
