/-
  La6, Lb6: our texts of these names, laid into one.
-/
import Derived.Test.YtfhdodopjgfedaaGreatCBaseN
import Derived.Test.YtfhdodopjgfedaaGreatCRw4
import Derived.Test.YtfhdodopjgfedaaGreatCBaseS
/-
  A table and the list that the document has of it: what tells says.
-/
namespace Go.Proofs.YtfhdodopjgfedaaGreat
open Go.RowKit

end Go.Proofs.YtfhdodopjgfedaaGreat
/-
  law6's some and known.
-/
namespace Go.Proofs.YtfhdodopjgfedaaGreat
open Go.RowKit

end Go.Proofs.YtfhdodopjgfedaaGreat
