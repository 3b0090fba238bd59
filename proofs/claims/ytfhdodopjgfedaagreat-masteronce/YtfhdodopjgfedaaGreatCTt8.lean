/-
  cmd.takeTablet, takePlan of any bytes.
-/
import Derived.Test.YtfhdodopjgfedaaGreatCCr8
namespace Go.Proofs.YtfhdodopjgfedaaGreat
open Go.RowKit

end Go.Proofs.YtfhdodopjgfedaaGreat
