/-
  Ref7, Ref8, Rf5: our texts of these names, laid into one.
-/
import Derived.Test.YtfhdodopjgfedaaGreatCRow12
import Derived.Test.YtfhdodopjgfedaaGreatCBaseK
import Derived.Test.YtfhdodopjgfedaaGreatCSum5
import Derived.Test.YtfhdodopjgfedaaGreatCBaseS
/-
  The document's own At, Newest, DropCol of a row that may be.
-/
namespace Go.Proofs.YtfhdodopjgfedaaGreat
open Go.RowKit

end Go.Proofs.YtfhdodopjgfedaaGreat
/-
  The document's own Drop of a row that may be.
-/
namespace Go.Proofs.YtfhdodopjgfedaaGreat
open Go.RowKit

end Go.Proofs.YtfhdodopjgfedaaGreat
/-
  The document's own Apply of a row that may be: it says what the program's says.
-/
namespace Go.Proofs.YtfhdodopjgfedaaGreat
open Go.RowKit

end Go.Proofs.YtfhdodopjgfedaaGreat
