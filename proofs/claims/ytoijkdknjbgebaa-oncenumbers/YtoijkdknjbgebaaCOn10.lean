/-
  A cache's Copy, Join, Same.
-/
import Derived.Test.YtoijkdknjbgebaaCOn6
import Derived.Laws.StructEq
namespace Go.Proofs.Ytoijkdknjbgebaa
open Go.RowKit

end Go.Proofs.Ytoijkdknjbgebaa
