/-
  Arguments opened: drawn plans, lists of them, lists of bools.
-/
import Derived.Test.YtfhdodopjgfedaaGreatCB08
import Derived.Deep.Grids
namespace Go.Proofs.YtfhdodopjgfedaaGreat
open Go.RowKit
open Go.ChangeShapes Go.WideShapes

def PArg (v : Value) : Prop := ∃ d i t : Int, v = .agg #[.int .i64 d, .int .i64 i, .int .i64 t]
set_option maxRecDepth 100000 in
theorem parg_of_trod {H : Type} {enc : TypeId × Value → H} {W : World} {base b0 : Nat} {r : Reach} {spare : Nat → Bool} {held : Bool} {v : Value} {d : DataW H} {p : List MemPlace}
    (hv : Value.okWide Tryz.prog W r b0 42 v) (h : DataW.Trod enc Tryz.prog W base spare held 42 v d p) : PArg v := by
  obtain ⟨cs, rfl, hcs⟩ := okWide_struct Tryz.underlying42 hv
  have c28 : Tryz.prog.cellsOf 42 = 3 := by kernel_rfl
  rw [c28] at hcs
  obtain ⟨fuel, h⟩ := h
  have hlen : cs.toList.length = 3 := by simpa using hcs
  have h' : DataW.trod enc Tryz.prog W base spare held fuel 42 cs.toList = some (d, p) := by simpa [Value.cells] using h
  obtain ⟨xs, k, hk, hxy, _, hxl, hf⟩ := DataW.trod_struct Tryz.underlying42 h'
  have c3 : Tryz.prog.cellsOf 3 = 1 := by kernel_rfl
  obtain ⟨l, rfl⟩ : ∃ l : List Value, cs = l.toArray := ⟨cs.toList, by simp⟩
  simp only at hlen hf
  match xs, hxl, l, hlen with
  | [y0, y1, y2], _, [v0, v1, v2], _ =>
    have g0 := hf 0 _ rfl
    have g1 := hf 1 _ rfl
    have g2 := hf 2 _ rfl
    simp [c3] at g0 g1 g2
    obtain ⟨z0, hz0, _, _⟩ := DataW.trod_int Tryz.underlying3 g0
    obtain ⟨z1, hz1, _, _⟩ := DataW.trod_int Tryz.underlying3 g1
    obtain ⟨z2, hz2, _, _⟩ := DataW.trod_int Tryz.underlying3 g2
    simp at hz0 hz1 hz2
    subst hz0 hz1 hz2
    exact ⟨z0, z1, z2, rfl⟩
end Go.Proofs.YtfhdodopjgfedaaGreat
