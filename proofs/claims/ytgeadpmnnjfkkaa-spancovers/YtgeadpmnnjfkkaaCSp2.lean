/-
  The document's own Right, Has, Meet of spans.
-/
import Derived.Test.YtgeadpmnnjfkkaaCSp1
namespace Go.Proofs.Ytgeadpmnnjfkkaa
open Go.RowKit

end Go.Proofs.Ytgeadpmnnjfkkaa
