/-
  A Reader, and boxes of the call's own beside it.
-/
import Derived.Test.YtfhdodopjgfedaaGreatCAm4
namespace Go.Proofs.YtfhdodopjgfedaaGreat
open Go.RowKit

end Go.Proofs.YtfhdodopjgfedaaGreat
