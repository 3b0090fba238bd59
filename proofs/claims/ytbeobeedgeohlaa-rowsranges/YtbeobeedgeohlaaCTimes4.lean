/-
  RowTimes' walk.
-/
import Derived.Test.YtbeobeedgeohlaaCBaseJ
namespace Go.Proofs.Ytbeobeedgeohlaa
open Go.RowKit

end Go.Proofs.Ytbeobeedgeohlaa
