/-
  Apart of spans, the program's and the document's own.
-/
import Derived.Test.YtbjbljkcodkebaaCSp6
namespace Go.Proofs.Ytbjbljkcodkebaa
open Go.RowKit

end Go.Proofs.Ytbjbljkcodkebaa
