/-
  Lists of texts: as they are handed in, and of the call's own.
-/
import Derived.Test.YtfhdodopjgfedaaGreatCSpV
import Derived.Test.YtfhdodopjgfedaaGreatCBaseR
namespace Go.Proofs.YtfhdodopjgfedaaGreat
open Go.RowKit
open Go.ChangeShapes Go.WideShapes

end Go.Proofs.YtfhdodopjgfedaaGreat
