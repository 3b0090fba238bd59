/-
  The document's own Right, Has, Meet of spans.
-/
import Derived.Test.YtfhdodopjgfedaaGreatCSp1
namespace Go.Proofs.YtfhdodopjgfedaaGreat
open Go.RowKit

end Go.Proofs.YtfhdodopjgfedaaGreat
