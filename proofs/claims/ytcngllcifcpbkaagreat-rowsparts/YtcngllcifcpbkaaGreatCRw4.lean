/-
  The document's own Write of rows: of a row that may be the call returns the bytes that it was handed and the row's behind them, in a row of its own, and writes nothing that was there.
-/
import Derived.Test.YtcngllcifcpbkaaGreatCBaseY
import Derived.Test.YtcngllcifcpbkaaGreatCBaseW
import Derived.Test.YtcngllcifcpbkaaGreatCBaseX
namespace Go.Proofs.YtcngllcifcpbkaaGreat
open Go.RowKit

end Go.Proofs.YtcngllcifcpbkaaGreat
