/-
  A drawn region whose last operation waits for all the others: the others in any order, then it. Plain laws, no program in sight.
-/
import Derived.Test.YtdilihcimnoplaaCBaseG
import Derived.OrdersHeld
namespace Go.Proofs.Ytdilihcimnoplaa
open Go.RowKit

end Go.Proofs.Ytdilihcimnoplaa
