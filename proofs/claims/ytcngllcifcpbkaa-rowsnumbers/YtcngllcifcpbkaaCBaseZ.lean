/-
  Ref7, Ref8, Rf5: our texts of these names, laid into one.
-/
import Derived.Test.YtcngllcifcpbkaaCRow12
import Derived.Test.YtcngllcifcpbkaaCBaseK
import Derived.Test.YtcngllcifcpbkaaCSum5
import Derived.Test.YtcngllcifcpbkaaCBaseS
/-
  The document's own At, Newest, DropCol of a row that may be.
-/
namespace Go.Proofs.Ytcngllcifcpbkaa
open Go.RowKit

end Go.Proofs.Ytcngllcifcpbkaa
/-
  The document's own Drop of a row that may be.
-/
namespace Go.Proofs.Ytcngllcifcpbkaa
open Go.RowKit

end Go.Proofs.Ytcngllcifcpbkaa
/-
  The document's own Apply of a row that may be: it says what the program's says.
-/
namespace Go.Proofs.Ytcngllcifcpbkaa
open Go.RowKit

end Go.Proofs.Ytcngllcifcpbkaa
