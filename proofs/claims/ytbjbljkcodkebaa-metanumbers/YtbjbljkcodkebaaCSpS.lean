/-
  What is split: plain facts; SpanSplits' walk.
-/
import Derived.Test.YtbjbljkcodkebaaCSp10
import Derived.Test.YtbjbljkcodkebaaCBaseR
namespace Go.Proofs.Ytbjbljkcodkebaa
open Go.RowKit

end Go.Proofs.Ytbjbljkcodkebaa
