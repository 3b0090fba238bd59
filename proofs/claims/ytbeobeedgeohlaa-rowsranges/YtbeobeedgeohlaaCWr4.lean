/-
  row.Write: for every row what is written behind what was written is the row's bytes, as the chapter gives them, of a row that may not be those of an empty one; nothing else is written.
-/
import Derived.Test.YtbeobeedgeohlaaCDec4
namespace Go.Proofs.Ytbeobeedgeohlaa
open Go.RowKit

end Go.Proofs.Ytbeobeedgeohlaa
