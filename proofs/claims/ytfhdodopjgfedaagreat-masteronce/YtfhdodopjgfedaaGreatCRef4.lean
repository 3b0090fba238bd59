/-
  The document's own Put of a row that may be: the call returns what its words come to, and writes nothing that was there.
-/
import Derived.Test.YtfhdodopjgfedaaGreatCBaseW
import Derived.Test.YtfhdodopjgfedaaGreatCPeel
namespace Go.Proofs.YtfhdodopjgfedaaGreat
open Go.RowKit

end Go.Proofs.YtfhdodopjgfedaaGreat
