/-
  A span that was handed in, opened.
-/
import Derived.Test.YtbjbljkcodkebaaCBaseR
namespace Go.Proofs.Ytbjbljkcodkebaa
open Go.RowKit
open Go.ChangeShapes Go.WideShapes

end Go.Proofs.Ytbjbljkcodkebaa
