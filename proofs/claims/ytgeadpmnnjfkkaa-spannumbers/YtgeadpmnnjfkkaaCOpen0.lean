/-
  Arguments opened: integers, lists of integers, strings, lists of strings.
-/
import Derived.Test.YtgeadpmnnjfkkaaCBaseC
import Derived.Deep.Slices
import Derived.Deep.Fields
import Derived.ChangeShapes
namespace Go.Proofs.Ytgeadpmnnjfkkaa
open Go.RowKit
open Go.ChangeShapes Go.WideShapes

/-- An integer that was handed in. -/
def IArg (v : Value) : Prop := ∃ n : Int, v = .int .i64 n
set_option maxRecDepth 100000 in
theorem iarg_of_trod {H : Type} {enc : TypeId × Value → H} {W : World} {base b0 : Nat} {r : Reach} {spare : Nat → Bool} {held : Bool} {t : TypeId} {v : Value} {d : DataW H} {p : List MemPlace}
    (ht : Try.prog.underlying t = some (.int .i64)) (hv : Value.okWide Try.prog W r b0 t v) (h : DataW.Trod enc Try.prog W base spare held t v d p) : IArg v := by
  obtain ⟨n, rfl, _⟩ := open_int ht hv h
  exact ⟨n, rfl⟩

end Go.Proofs.Ytgeadpmnnjfkkaa
