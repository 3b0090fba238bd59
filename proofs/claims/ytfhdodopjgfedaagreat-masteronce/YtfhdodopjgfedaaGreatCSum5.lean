/-
  Sums in one column, as plain data: what was added is there, newest first.
-/
import Derived.Test.YtfhdodopjgfedaaGreatCBaseK
import Derived.Test.YtfhdodopjgfedaaGreatCBaseY
import Derived.Test.YtfhdodopjgfedaaGreatCBaseA
namespace Go.Proofs.YtfhdodopjgfedaaGreat
open Go.RowKit

end Go.Proofs.YtfhdodopjgfedaaGreat
