/-
  A span that was handed in, opened.
-/
import Derived.Test.YtdilihcimnoplaaCBaseR
namespace Go.Proofs.Ytdilihcimnoplaa
open Go.RowKit
open Go.ChangeShapes Go.WideShapes

end Go.Proofs.Ytdilihcimnoplaa
