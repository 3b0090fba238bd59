/-
  The law's own made: a row by the document's own changes: one that may be.
-/
import Derived.Test.YtfhdodopjgfedaaGreatCKeep5
import Derived.Test.YtfhdodopjgfedaaGreatCOpen5
namespace Go.Proofs.YtfhdodopjgfedaaGreat
open Go.RowKit

end Go.Proofs.YtfhdodopjgfedaaGreat
