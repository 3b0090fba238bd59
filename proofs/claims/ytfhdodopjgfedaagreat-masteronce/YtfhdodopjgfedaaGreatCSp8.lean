/-
  The document's own Apart.
-/
import Derived.Test.YtfhdodopjgfedaaGreatCSp7
import Derived.Deep.RegionHeld3
namespace Go.Proofs.YtfhdodopjgfedaaGreat
open Go.RowKit

end Go.Proofs.YtfhdodopjgfedaaGreat
