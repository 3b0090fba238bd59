/-
  What package value's Put does: it writes a value's bytes as the chapter gives them, behind what was written, and nothing else.
-/
import Derived.Test.YtbeobeedgeohlaaCBaseG
namespace Go.Proofs.Ytbeobeedgeohlaa
open Go.RowKit

end Go.Proofs.Ytbeobeedgeohlaa
