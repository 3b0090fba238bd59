/-
  The document's own Apart.
-/
import Derived.Test.YtbjbljkcodkebaaCSp7
import Derived.Deep.RegionHeld3
namespace Go.Proofs.Ytbjbljkcodkebaa
open Go.RowKit

end Go.Proofs.Ytbjbljkcodkebaa
