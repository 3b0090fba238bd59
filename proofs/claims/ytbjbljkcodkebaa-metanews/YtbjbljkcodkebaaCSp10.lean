/-
  law7's two and made.
-/
import Derived.Test.YtbjbljkcodkebaaCSp9
namespace Go.Proofs.Ytbjbljkcodkebaa
open Go.RowKit

end Go.Proofs.Ytbjbljkcodkebaa
