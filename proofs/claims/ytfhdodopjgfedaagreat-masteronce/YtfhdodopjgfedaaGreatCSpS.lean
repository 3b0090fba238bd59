/-
  What is split: plain facts; SpanSplits' walk.
-/
import Derived.Test.YtfhdodopjgfedaaGreatCSp10
import Derived.Test.YtfhdodopjgfedaaGreatCBaseR
namespace Go.Proofs.YtfhdodopjgfedaaGreat
open Go.RowKit

end Go.Proofs.YtfhdodopjgfedaaGreat
