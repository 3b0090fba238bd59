/-
  What covers all: split, joined it covers all; each name is in just one; no two meet. Plain facts.
-/
import Derived.Test.YtdilihcimnoplaaCSp11
import Derived.Test.YtdilihcimnoplaaCSpS
namespace Go.Proofs.Ytdilihcimnoplaa
open Go.RowKit

end Go.Proofs.Ytdilihcimnoplaa
