/-
  The document's own Join of entries.
-/
import Derived.Test.YtoijkdknjbgebaaCOe1
namespace Go.Proofs.Ytoijkdknjbgebaa
open Go.RowKit

end Go.Proofs.Ytoijkdknjbgebaa
