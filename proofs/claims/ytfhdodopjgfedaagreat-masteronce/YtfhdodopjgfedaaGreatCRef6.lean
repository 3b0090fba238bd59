/-
  The document's own Same of rows that are the same; the program's own.
-/
import Derived.Test.YtfhdodopjgfedaaGreatCRow12
namespace Go.Proofs.YtfhdodopjgfedaaGreat
open Go.RowKit

end Go.Proofs.YtfhdodopjgfedaaGreat
