/-
  law11's asked: some tablets, four at most.
-/
import Derived.Test.YtbjbljkcodkebaaCMtb
import Derived.Test.YtbjbljkcodkebaaCSsaG
namespace Go.Proofs.Ytbjbljkcodkebaa
open Go.RowKit

end Go.Proofs.Ytbjbljkcodkebaa
