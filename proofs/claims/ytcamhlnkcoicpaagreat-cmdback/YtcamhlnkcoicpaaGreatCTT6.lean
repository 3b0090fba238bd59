/-
  Tables out of bytes: what is read.
-/
import Derived.Test.YtcamhlnkcoicpaaGreatCB16
namespace Go.Proofs.YtcamhlnkcoicpaaGreat
open Go.RowKit

end Go.Proofs.YtcamhlnkcoicpaaGreat
