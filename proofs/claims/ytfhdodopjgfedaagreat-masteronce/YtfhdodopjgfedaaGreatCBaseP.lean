/-
  Rf3, Rf3b, Rf3c, Rf3d: our texts of these names, laid into one.
-/
import Derived.Test.YtfhdodopjgfedaaGreatCBaseV
import Derived.Deep.RegionHeld3
/-
  What the document's own answer on values (the reference of layer 3) does: Order, Same, Right, Plus and Canon return what package value's functions are proved to return, and write nothing that was there.
-/
namespace Go.Proofs.YtfhdodopjgfedaaGreat
open Go.RowKit

end Go.Proofs.YtfhdodopjgfedaaGreat
/-
  What the document's own Same, Right, Plus and Canon of values do: they return what package value's functions are proved to return, and write nothing that was there.
-/
namespace Go.Proofs.YtfhdodopjgfedaaGreat
open Go.RowKit

end Go.Proofs.YtfhdodopjgfedaaGreat
/-
  What the document's own Put of a value does: it returns the bytes that it was handed and the value's behind them, in a row of its own, and writes nothing that was there.
-/
namespace Go.Proofs.YtfhdodopjgfedaaGreat
open Go.RowKit

end Go.Proofs.YtfhdodopjgfedaaGreat
/-
  What the document's own Get of a value does: it takes a value where the document lets it, and else marks its Reader as bad; no other memory is written.
-/
namespace Go.Proofs.YtfhdodopjgfedaaGreat
open Go.RowKit

end Go.Proofs.YtfhdodopjgfedaaGreat
