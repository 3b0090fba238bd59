/-
  The document's own Cover.
-/
import Derived.Test.YtdilihcimnoplaaCSp5
namespace Go.Proofs.Ytdilihcimnoplaa
open Go.RowKit

end Go.Proofs.Ytdilihcimnoplaa
