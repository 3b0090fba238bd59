/-
  The document's own Write of rows: of a row that may be the call returns the bytes that it was handed and the row's behind them, in a row of its own, and writes nothing that was there.
-/
import Derived.Test.YtdngndkdkbggkaaCWr4
import Derived.Test.YtdngndkdkbggkaaCRef2
import Derived.Test.YtdngndkdkbggkaaCLaw3
namespace Go.Proofs.Ytdngndkdkbggkaa
open Go.RowKit

end Go.Proofs.Ytdngndkdkbggkaa
