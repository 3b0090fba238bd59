/-
  Arguments opened: lists of changes as they are drawn.
-/
import Derived.Test.YtcngllcifcpbkaaCBaseY
namespace Go.Proofs.Ytcngllcifcpbkaa
open Go.RowKit
open Go.ChangeShapes Go.WideShapes

end Go.Proofs.Ytcngllcifcpbkaa
