/-
  The document's own Cover.
-/
import Derived.Test.YtgeadpmnnjfkkaaCSp5
namespace Go.Proofs.Ytgeadpmnnjfkkaa
open Go.RowKit

end Go.Proofs.Ytgeadpmnnjfkkaa
