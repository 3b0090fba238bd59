/-
  Apart of spans, the program's and the document's own.
-/
import Derived.Test.YtdilihcimnoplaaCSp6
namespace Go.Proofs.Ytdilihcimnoplaa
open Go.RowKit

end Go.Proofs.Ytdilihcimnoplaa
