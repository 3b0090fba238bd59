/-
  The document's own Apart.
-/
import Derived.Test.YtgeadpmnnjfkkaaCSp7
import Derived.Deep.RegionHeld3
namespace Go.Proofs.Ytgeadpmnnjfkkaa
open Go.RowKit

end Go.Proofs.Ytgeadpmnnjfkkaa
