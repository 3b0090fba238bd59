/-
  Apart of spans, the program's and the document's own.
-/
import Derived.Test.YtgeadpmnnjfkkaaCSp6
namespace Go.Proofs.Ytgeadpmnnjfkkaa
open Go.RowKit

end Go.Proofs.Ytgeadpmnnjfkkaa
