/-
  What is split: plain facts; SpanSplits' walk.
-/
import Derived.Test.YtdilihcimnoplaaCSp10
import Derived.Test.YtdilihcimnoplaaCBaseR
namespace Go.Proofs.Ytdilihcimnoplaa
open Go.RowKit

end Go.Proofs.Ytdilihcimnoplaa
