/-
  Lists of tablets, and of what is put, that were handed in, opened.
-/
import Derived.Test.YtbjbljkcodkebaaCMte
namespace Go.Proofs.Ytbjbljkcodkebaa
open Go.RowKit
open Go.ChangeShapes Go.WideShapes

end Go.Proofs.Ytbjbljkcodkebaa
