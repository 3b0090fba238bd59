/-
  Arguments opened: integers, lists of integers, lists of values as they are drawn, of calls.
-/
import Derived.Test.YtbeobeedgeohlaaCBaseG
import Derived.Test.YtbeobeedgeohlaaCBaseR
import Derived.ChangeShapes
namespace Go.Proofs.Ytbeobeedgeohlaa
open Go.RowKit
open Go.ChangeShapes Go.WideShapes

set_option maxRecDepth 100000 in
theorem karg_of_raw {H : Type} {enc : TypeId × Value → H} {W : World} {base fuel : Nat} {spare : Nat → Bool} {held : Bool} {v0 v1 v2 v3 : Value} {x : DataW H × List MemPlace}
    (h : DataW.trod enc Try.prog W base spare held fuel 87 [v0, v1, v2, v3] = some x) : ∃ t n x ad len cap, v0 = .bool t ∧ v1 = .int .i64 n ∧ v2 = .float .f64 x ∧ v3 = .slice ad len cap ∧ KArg W (.agg #[.bool t, .int .i64 n, .float .f64 x, .slice ad len cap]) := by
  obtain ⟨xs, k, hk, hxy, _, hxl, hf⟩ := DataW.trod_struct Try.underlying87 h
  have c3 : Try.prog.cellsOf 3 = 1 := by kernel_rfl
  have c4 : Try.prog.cellsOf 4 = 1 := by kernel_rfl
  have cf : Try.prog.cellsOf 47 = 1 := by kernel_rfl
  have cb : Try.prog.cellsOf 46 = 1 := by kernel_rfl
  match xs, hxl with
  | [y0, y1, y2, y3], _ =>
    have g0 := hf 0 _ rfl
    have g1 := hf 1 _ rfl
    have g2 := hf 2 _ rfl
    have g3 := hf 3 _ rfl
    simp [c3, c4, cf, cb] at g0 g1 g2 g3
    obtain ⟨t, rfl⟩ := bool_of_trod g0
    obtain ⟨n, hn, _, _⟩ := DataW.trod_int Try.underlying3 g1
    obtain ⟨x, hx, rfl⟩ := float_of_trod g2
    obtain ⟨g, bs, hB, hO⟩ := isB_of_trod g3
    simp at hn
    subst hn
    obtain ⟨ad, len, cap, rfl, _⟩ := id hB
    exact ⟨t, n, x, ad, len, cap, rfl, rfl, rfl, rfl, ⟨t, n, x, ad, len, cap, g, bs, rfl, hx, hB, hO⟩⟩

end Go.Proofs.Ytbeobeedgeohlaa
