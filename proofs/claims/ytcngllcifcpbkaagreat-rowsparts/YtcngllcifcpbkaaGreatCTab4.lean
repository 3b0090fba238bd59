/-
  Copy of a table: a table by itself, with the same rows.
-/
import Derived.Test.YtcngllcifcpbkaaGreatCBaseM
namespace Go.Proofs.YtcngllcifcpbkaaGreat
open Go.RowKit

end Go.Proofs.YtcngllcifcpbkaaGreat
