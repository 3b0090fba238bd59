/-
  Dec4, Wr4, Open4, Times4, Newest4: our texts of these names, laid into one.
-/
import Derived.Test.YtcngllcifcpbkaaCBaseJ
import Derived.Test.YtcngllcifcpbkaaCBaseG
import Derived.Test.YtcngllcifcpbkaaCBaseR
import Derived.ChangeShapes
/-
  Rows as bytes, as plain data: what is written of a row, and what is read of bytes, with what must be so of a time or without. Plain facts, no program in sight.
-/
namespace Go.Proofs.Ytcngllcifcpbkaa
open Go.RowKit

end Go.Proofs.Ytcngllcifcpbkaa
/-
  row.Write: for every row what is written behind what was written is the row's bytes, as the chapter gives them, of a row that may not be those of an empty one; nothing else is written.
-/
namespace Go.Proofs.Ytcngllcifcpbkaa
open Go.RowKit

end Go.Proofs.Ytcngllcifcpbkaa
/-
  Arguments opened: integers, lists of integers, lists of values as they are drawn, of calls.
-/
namespace Go.Proofs.Ytcngllcifcpbkaa
open Go.RowKit
open Go.ChangeShapes Go.WideShapes

end Go.Proofs.Ytcngllcifcpbkaa
/-
  RowTimes' walk.
-/
namespace Go.Proofs.Ytcngllcifcpbkaa
open Go.RowKit

end Go.Proofs.Ytcngllcifcpbkaa
/-
  RowNewest's walk.
-/
namespace Go.Proofs.Ytcngllcifcpbkaa
open Go.RowKit

end Go.Proofs.Ytcngllcifcpbkaa
