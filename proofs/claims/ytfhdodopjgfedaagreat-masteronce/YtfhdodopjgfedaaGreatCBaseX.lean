/-
  Law3, Any3: our texts of these names, laid into one.
-/
import Derived.Test.YtfhdodopjgfedaaGreatCBaseP
import Derived.Test.YtfhdodopjgfedaaGreatCBaseV
import Derived.Test.YtfhdodopjgfedaaGreatCBaseG
/-
  What the law's own 'writes' and 'reads' do: for every value, and for any bytes, they return true, and write nothing that was there.
-/
namespace Go.Proofs.YtfhdodopjgfedaaGreat
open Go.RowKit

end Go.Proofs.YtfhdodopjgfedaaGreat
/-
  'x1, .., xn := f1(y1), .., fn(yn)' over boxes once more, where what is handed back lies in new memory: what is said of it is said of the world.
-/
namespace Go.Proofs.YtfhdodopjgfedaaGreat
open Go.RowKit

section
variable {P : Program} {ops : Array Oper} {Q : Exit → Act → World → Prop} {a0 : Act} {W : World} {n : Nat} {L C D : Nat → Nat} {T : TypeId} {Z : Array Value} {src : Nat → Value} {Res : World → Nat → Value → Array Value → Prop}

end
end Go.Proofs.YtfhdodopjgfedaaGreat
