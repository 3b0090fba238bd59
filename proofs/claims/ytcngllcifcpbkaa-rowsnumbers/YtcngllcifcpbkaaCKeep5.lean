/-
  A change as it is drawn: one that may be; the law's own made: a row by the document's own changes.
-/
import Derived.Test.YtcngllcifcpbkaaCBaseZ
import Derived.Test.YtcngllcifcpbkaaCBaseS
namespace Go.Proofs.Ytcngllcifcpbkaa
open Go.RowKit

end Go.Proofs.Ytcngllcifcpbkaa
