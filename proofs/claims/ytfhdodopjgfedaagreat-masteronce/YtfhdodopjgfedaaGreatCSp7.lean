/-
  Apart of spans, the program's and the document's own.
-/
import Derived.Test.YtfhdodopjgfedaaGreatCSp6
namespace Go.Proofs.YtfhdodopjgfedaaGreat
open Go.RowKit

end Go.Proofs.YtfhdodopjgfedaaGreat
