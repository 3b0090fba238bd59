/-
  law11's spans, right; what New and the document's own test say of the same tablets.
-/
import Derived.Test.YtfhdodopjgfedaaGreatCMtd
namespace Go.Proofs.YtfhdodopjgfedaaGreat
open Go.RowKit

end Go.Proofs.YtfhdodopjgfedaaGreat
