/-
  Sums in one column, as plain data: what was added is there, newest first.
-/
import Derived.Test.YtcngllcifcpbkaaCBaseK
import Derived.Test.YtcngllcifcpbkaaCBaseY
import Derived.Test.YtcngllcifcpbkaaCBaseA
namespace Go.Proofs.Ytcngllcifcpbkaa
open Go.RowKit

end Go.Proofs.Ytcngllcifcpbkaa
