/-
  change.Take of any bytes.
-/
import Derived.Test.YtfhdodopjgfedaaGreatCBx0
import Derived.Test.YtfhdodopjgfedaaGreatCKeep5
import Derived.Test.YtfhdodopjgfedaaGreatCCw5
import Derived.Test.YtfhdodopjgfedaaGreatCAm6
namespace Go.Proofs.YtfhdodopjgfedaaGreat
open Go.RowKit

def pz : Pv := ⟨0, [], 0⟩
end Go.Proofs.YtfhdodopjgfedaaGreat
