/-
  What is split: plain facts; SpanSplits' walk.
-/
import Derived.Test.YtgeadpmnnjfkkaaCSp10
import Derived.Test.YtgeadpmnnjfkkaaCBaseR
namespace Go.Proofs.Ytgeadpmnnjfkkaa
open Go.RowKit

end Go.Proofs.Ytgeadpmnnjfkkaa
