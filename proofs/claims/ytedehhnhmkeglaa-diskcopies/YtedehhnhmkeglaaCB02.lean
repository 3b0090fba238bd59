/-
  Any, Any2, Peel: our texts of these names, laid into one.
-/
import Derived.Test.YtedehhnhmkeglaaCB01
import Derived.Orders
import Derived.Laws.Tables
import Derived.OrdersHeld
/-
  A region that draws its order, by one condition that every operation keeps, whichever comes up: plain laws over the guide's own, no program in sight.
-/
namespace Go.Proofs.Ytedehhnhmkeglaa
open Go.RowKit

section
variable {P : Program} {ops : Array Oper} {Q : Exit → Act → World → Prop} {a0 : Act} {W : World} {n : Nat} {L C D : Nat → Nat} {T : TypeId} {Z : Array Value} {src : Nat → Value} {Res : Nat → Value → Array Value → Prop}

end
end Go.Proofs.Ytedehhnhmkeglaa
/-
  The operations of 'x1, .., xn := f1(y1), .., fn(yn)' over boxed values, each by what it does to a state and a world.
-/
namespace Go.Proofs.Ytedehhnhmkeglaa
open Go.RowKit

end Go.Proofs.Ytedehhnhmkeglaa
/-
  A drawn region whose last operation waits for all the others: the others in any order, then it. Plain laws, no program in sight.
-/
namespace Go.Proofs.Ytedehhnhmkeglaa
open Go.RowKit

end Go.Proofs.Ytedehhnhmkeglaa
