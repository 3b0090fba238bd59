/-
  The document's own Write of rows: of a row that may be the call returns the bytes that it was handed and the row's behind them, in a row of its own, and writes nothing that was there.
-/
import Derived.Test.YtbeobeedgeohlaaCWr4
import Derived.Test.YtbeobeedgeohlaaCRef2
import Derived.Test.YtbeobeedgeohlaaCLaw3
namespace Go.Proofs.Ytbeobeedgeohlaa
open Go.RowKit

end Go.Proofs.Ytbeobeedgeohlaa
