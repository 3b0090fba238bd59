/-
  Any, Any2, Val7, Par3: our texts of these names, laid into one.
-/
import Derived.Test.YtfegflimnngfaabCBaseF
import Derived.Orders
import Derived.Laws.Tables
import Derived.Deep.Slices
import Derived.Deep.Fields
/-
  A region that draws its order, by one condition that every operation keeps, whichever comes up: plain laws over the guide's own, no program in sight.
-/
namespace Go.Proofs.Ytfegflimnngfaab
open Go.RowKit

end Go.Proofs.Ytfegflimnngfaab
/-
  The operations of 'x1, .., xn := f1(y1), .., fn(yn)' over boxed values, each by what it does to a state and a world.
-/
namespace Go.Proofs.Ytfegflimnngfaab
open Go.RowKit

end Go.Proofs.Ytfegflimnngfaab
/-
  Arguments opened: a value, and a value as it is drawn, as the rows' reading finds them in memory.
-/
namespace Go.Proofs.Ytfegflimnngfaab
open Go.RowKit
open Go.ChangeShapes Go.WideShapes

theorem bool_of_trod {H : Type} {enc : TypeId × Value → H} {W : World} {base : Nat} {spare : Nat → Bool} {held : Bool} {fuel : Nat} {v : Value} {x : DataW H × List MemPlace}
    (h : DataW.trod enc Try.prog W base spare held fuel 4 [v] = some x) : ∃ b : Bool, v = .bool b := by
  cases fuel with
  | zero => simp [DataW.trod] at h
  | succ n =>
    simp only [DataW.trod, Try.underlying4] at h
    cases v <;> simp at h
    rename_i b
    exact ⟨b, rfl⟩

end Go.Proofs.Ytfegflimnngfaab
/-
  What several statements share: drawn values in boxes of their own.
-/
namespace Go.Proofs.Ytfegflimnngfaab
open Go.RowKit

theorem KArg.moves {W W' : World} {v : Value} (h : KArg W v) (m : Moves [] W W') : KArg W' v := by
  obtain ⟨t, n, x, ad, len, cap, g, bs, h1, h2, h3, h4⟩ := h.out
  exact ⟨t, n, x, ad, len, cap, g, bs, h1, h2, h3.moves m (by simp), h4⟩

end Go.Proofs.Ytfegflimnngfaab
