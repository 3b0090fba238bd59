/-
  cmd.takeOp of any bytes.
-/
import Derived.Test.YtfhdodopjgfedaaGreatCTt8
import Derived.Test.YtfhdodopjgfedaaGreatCChgs5
namespace Go.Proofs.YtfhdodopjgfedaaGreat
open Go.RowKit

end Go.Proofs.YtfhdodopjgfedaaGreat
