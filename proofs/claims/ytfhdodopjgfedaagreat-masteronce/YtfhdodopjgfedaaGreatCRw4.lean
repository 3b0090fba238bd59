/-
  The document's own Write of rows: of a row that may be the call returns the bytes that it was handed and the row's behind them, in a row of its own, and writes nothing that was there.
-/
import Derived.Test.YtfhdodopjgfedaaGreatCBaseY
import Derived.Test.YtfhdodopjgfedaaGreatCBaseW
import Derived.Test.YtfhdodopjgfedaaGreatCBaseX
namespace Go.Proofs.YtfhdodopjgfedaaGreat
open Go.RowKit

end Go.Proofs.YtfhdodopjgfedaaGreat
