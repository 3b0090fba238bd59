/-
  The document's own Apart.
-/
import Derived.Test.YtdilihcimnoplaaCSp7
import Derived.Deep.RegionHeld3
namespace Go.Proofs.Ytdilihcimnoplaa
open Go.RowKit

end Go.Proofs.Ytdilihcimnoplaa
