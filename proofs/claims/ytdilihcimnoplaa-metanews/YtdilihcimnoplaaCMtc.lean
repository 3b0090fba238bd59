/-
  law11's asked: some tablets, four at most.
-/
import Derived.Test.YtdilihcimnoplaaCMtb
import Derived.Test.YtdilihcimnoplaaCSsaG
namespace Go.Proofs.Ytdilihcimnoplaa
open Go.RowKit

end Go.Proofs.Ytdilihcimnoplaa
