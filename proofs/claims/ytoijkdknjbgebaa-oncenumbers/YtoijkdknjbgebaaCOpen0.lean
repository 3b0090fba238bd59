/-
  Arguments opened: integers, lists of integers, strings, lists of strings.
-/
import Derived.Test.YtoijkdknjbgebaaCBaseC
import Derived.Deep.Slices
import Derived.Deep.Fields
import Derived.ChangeShapes
namespace Go.Proofs.Ytoijkdknjbgebaa
open Go.RowKit
open Go.ChangeShapes Go.WideShapes

end Go.Proofs.Ytoijkdknjbgebaa
