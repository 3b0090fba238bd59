/-
  Package change: changes as plain data; Right of a change, of a list, as the program and as the document have it.
-/
import Derived.Test.YtcngllcifcpbkaaCBaseW
namespace Go.Proofs.Ytcngllcifcpbkaa
open Go.RowKit

end Go.Proofs.Ytcngllcifcpbkaa
