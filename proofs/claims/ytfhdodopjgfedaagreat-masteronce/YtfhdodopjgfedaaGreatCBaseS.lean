/-
  Keep4, Made4: our texts of these names, laid into one.
-/
import Derived.Test.YtfhdodopjgfedaaGreatCBaseJ
import Derived.Test.YtfhdodopjgfedaaGreatCRow12
import Derived.Test.YtfhdodopjgfedaaGreatCBaseY
/-
  Names of columns as they are drawn: pick, Col, Head, and the law's own col.
-/
namespace Go.Proofs.YtfhdodopjgfedaaGreat
open Go.RowKit

end Go.Proofs.YtfhdodopjgfedaaGreat
/-
  The law's own made: a row by the document's own puts: one that may be, with few names.
-/
namespace Go.Proofs.YtfhdodopjgfedaaGreat
open Go.RowKit

end Go.Proofs.YtfhdodopjgfedaaGreat
