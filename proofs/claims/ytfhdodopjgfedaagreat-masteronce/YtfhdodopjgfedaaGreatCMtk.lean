/-
  Package meta: Same of tables with the same tablets.
-/
import Derived.Test.YtfhdodopjgfedaaGreatCMtg
namespace Go.Proofs.YtfhdodopjgfedaaGreat
open Go.RowKit

end Go.Proofs.YtfhdodopjgfedaaGreat
