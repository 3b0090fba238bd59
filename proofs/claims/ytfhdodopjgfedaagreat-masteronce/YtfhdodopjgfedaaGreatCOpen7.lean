/-
  A span that was handed in, opened.
-/
import Derived.Test.YtfhdodopjgfedaaGreatCBaseR
namespace Go.Proofs.YtfhdodopjgfedaaGreat
open Go.RowKit
open Go.ChangeShapes Go.WideShapes

end Go.Proofs.YtfhdodopjgfedaaGreat
