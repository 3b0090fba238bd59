/-
  Arguments opened: lists of changes as they are drawn.
-/
import Derived.Test.YtfhdodopjgfedaaGreatCBaseY
namespace Go.Proofs.YtfhdodopjgfedaaGreat
open Go.RowKit
open Go.ChangeShapes Go.WideShapes

end Go.Proofs.YtfhdodopjgfedaaGreat
