/-
  Spans as bytes: what Write leaves, what Take takes of it.
-/
import Derived.Test.YtfhdodopjgfedaaGreatCLi0
import Derived.Test.YtfhdodopjgfedaaGreatCSp10
import Derived.Test.YtfhdodopjgfedaaGreatCBaseC
import Derived.Test.YtfhdodopjgfedaaGreatCBaseD
import Derived.Lib.ConvBytes
namespace Go.Proofs.YtfhdodopjgfedaaGreat
open Go.RowKit

end Go.Proofs.YtfhdodopjgfedaaGreat
