/-
  A change as it is drawn: one that may be; the law's own made: a row by the document's own changes.
-/
import Derived.Test.YtfhdodopjgfedaaGreatCBaseZ
import Derived.Test.YtfhdodopjgfedaaGreatCBaseS
namespace Go.Proofs.YtfhdodopjgfedaaGreat
open Go.RowKit

end Go.Proofs.YtfhdodopjgfedaaGreat
