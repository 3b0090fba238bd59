/-
  The law's own made: a row by the document's own changes: one that may be.
-/
import Derived.Test.YtcngllcifcpbkaaCKeep5
import Derived.Test.YtcngllcifcpbkaaCOpen5
namespace Go.Proofs.Ytcngllcifcpbkaa
open Go.RowKit

end Go.Proofs.Ytcngllcifcpbkaa
