/-
  law7's two and made.
-/
import Derived.Test.YtgeadpmnnjfkkaaCSp9
namespace Go.Proofs.Ytgeadpmnnjfkkaa
open Go.RowKit

end Go.Proofs.Ytgeadpmnnjfkkaa
