/-
  law7's two and made.
-/
import Derived.Test.YtdilihcimnoplaaCSp9
namespace Go.Proofs.Ytdilihcimnoplaa
open Go.RowKit

end Go.Proofs.Ytdilihcimnoplaa
