/-
  The document's own Write of rows: of a row that may be the call returns the bytes that it was handed and the row's behind them, in a row of its own, and writes nothing that was there.
-/
import Derived.Test.YtcngllcifcpbkaaCBaseY
import Derived.Test.YtcngllcifcpbkaaCBaseW
import Derived.Test.YtcngllcifcpbkaaCBaseX
namespace Go.Proofs.Ytcngllcifcpbkaa
open Go.RowKit

end Go.Proofs.Ytcngllcifcpbkaa
