/-
  Changes as bytes: what is written.
-/
import Derived.Test.YtfhdodopjgfedaaGreatCChg0
import Derived.Test.YtfhdodopjgfedaaGreatCBaseY
namespace Go.Proofs.YtfhdodopjgfedaaGreat
open Go.RowKit

end Go.Proofs.YtfhdodopjgfedaaGreat
