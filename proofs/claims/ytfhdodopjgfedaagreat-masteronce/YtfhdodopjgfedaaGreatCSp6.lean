/-
  The document's own Cover.
-/
import Derived.Test.YtfhdodopjgfedaaGreatCSp5
namespace Go.Proofs.YtfhdodopjgfedaaGreat
open Go.RowKit

end Go.Proofs.YtfhdodopjgfedaaGreat
