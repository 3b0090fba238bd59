/-
  Arguments opened: a value, and a value as it is drawn, as the rows' reading finds them in memory.
-/
import Derived.Test.YtpofalalfemkhaaAny2
import Derived.Deep.Slices
import Derived.Deep.Fields
namespace Go.Proofs.Ytpofalalfemkhaa
open Go.RowKit
open Go.ChangeShapes Go.WideShapes

theorem bool_of_trod {H : Type} {enc : TypeId × Value → H} {W : World} {base : Nat} {spare : Nat → Bool} {held : Bool} {fuel : Nat} {v : Value} {x : DataW H × List MemPlace}
    (h : DataW.trod enc Try.prog W base spare held fuel 4 [v] = some x) : ∃ b : Bool, v = .bool b := by
  cases fuel with
  | zero => simp [DataW.trod] at h
  | succ n =>
    simp only [DataW.trod, Try.underlying4] at h
    cases v <;> simp at h
    rename_i b
    exact ⟨b, rfl⟩

theorem agg_cells {cs : Array Value} {k : Nat} (hc : cs.size = k) : (Value.agg cs).cells.toList = cs.toList ∧ cs.toList.length = k := ⟨rfl, by simpa using hc⟩

set_option maxRecDepth 100000 in
theorem karg_of_trod {H : Type} {enc : TypeId × Value → H} {W : World} {base b0 : Nat} {r : Reach} {spare : Nat → Bool} {held : Bool} {v : Value} {d : DataW H} {p : List MemPlace}
    (hv : Value.okWide Try.prog W r b0 42 v) (h : DataW.Trod enc Try.prog W base spare held 42 v d p) : KArg W v := by
  obtain ⟨cs, rfl, hcs⟩ := okWide_struct Try.underlying42 hv
  have c34 : Try.prog.cellsOf 42 = 4 := by kernel_rfl
  rw [c34] at hcs
  obtain ⟨fuel, h⟩ := h
  have hlen : cs.toList.length = 4 := by simpa using hcs
  have h' : DataW.trod enc Try.prog W base spare held fuel 42 cs.toList = some (d, p) := by simpa [Value.cells] using h
  obtain ⟨xs, k, hk, hxy, _, hxl, hf⟩ := DataW.trod_struct Try.underlying42 h'
  have c3 : Try.prog.cellsOf 3 = 1 := by kernel_rfl
  have c4 : Try.prog.cellsOf 4 = 1 := by kernel_rfl
  have cf : Try.prog.cellsOf 37 = 1 := by kernel_rfl
  have cb : Try.prog.cellsOf 25 = 1 := by kernel_rfl
  obtain ⟨l, rfl⟩ : ∃ l : List Value, cs = l.toArray := ⟨cs.toList, by simp⟩
  simp only at hlen hf
  match xs, hxl, l, hlen with
  | [y0, y1, y2, y3], _, [v0, v1, v2, v3], _ =>
    have g0 := hf 0 _ rfl
    have g1 := hf 1 _ rfl
    have g2 := hf 2 _ rfl
    have g3 := hf 3 _ rfl
    simp [c3, c4, cf, cb] at g0 g1 g2 g3
    obtain ⟨t, rfl⟩ := bool_of_trod g0
    obtain ⟨n, hn, _, _⟩ := DataW.trod_int Try.underlying3 g1
    obtain ⟨x, hx, rfl⟩ := float_of_trod g2
    obtain ⟨g, bs, hB, hO⟩ := isB_of_trod g3
    simp at hn
    subst hn
    obtain ⟨ad, len, cap, rfl, _⟩ := id hB
    exact ⟨t, n, x, ad, len, cap, g, bs, rfl, hx, hB, hO⟩

set_option maxRecDepth 100000 in
theorem vis_of_trod {H : Type} {enc : TypeId × Value → H} {W : World} {base b0 : Nat} {r : Reach} {spare : Nat → Bool} {held : Bool} {v : Value} {d : DataW H} {p : List MemPlace}
    (hv : Value.okWide Try.prog W r b0 39 v) (h : DataW.Trod enc Try.prog W base spare held 39 v d p) : ∃ A, VIs W v A := by
  obtain ⟨cs, rfl, hcs⟩ := okWide_struct Try.underlying39 hv
  have c28 : Try.prog.cellsOf 39 = 3 := by kernel_rfl
  rw [c28] at hcs
  obtain ⟨fuel, h⟩ := h
  have hlen : cs.toList.length = 3 := by simpa using hcs
  have h' : DataW.trod enc Try.prog W base spare held fuel 39 cs.toList = some (d, p) := by simpa [Value.cells] using h
  obtain ⟨xs, k, hk, hxy, _, hxl, hf⟩ := DataW.trod_struct Try.underlying39 h'
  have c3 : Try.prog.cellsOf 3 = 1 := by kernel_rfl
  have cf : Try.prog.cellsOf 37 = 1 := by kernel_rfl
  have cb : Try.prog.cellsOf 25 = 1 := by kernel_rfl
  obtain ⟨l, rfl⟩ : ∃ l : List Value, cs = l.toArray := ⟨cs.toList, by simp⟩
  simp only at hlen hf
  match xs, hxl, l, hlen with
  | [y0, y1, y2], _, [v0, v1, v2], _ =>
    have g0 := hf 0 _ rfl
    have g1 := hf 1 _ rfl
    have g2 := hf 2 _ rfl
    simp [c3, cf, cb] at g0 g1 g2
    obtain ⟨n, hn, _, _⟩ := DataW.trod_int Try.underlying3 g0
    obtain ⟨g, bs, hB, hO⟩ := isB_of_trod g1
    obtain ⟨x, hx, rfl⟩ := float_of_trod g2
    simp at hn
    subst hn
    exact ⟨⟨n, v1, g, bs, x⟩, rfl, ⟨hB, hx, hO⟩⟩
end Go.Proofs.Ytpofalalfemkhaa
