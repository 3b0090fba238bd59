/-
  Lists1, Ssa, Some1, Some2: our texts of these names, laid into one.
-/
import Derived.Test.YtfhdodopjgfedaaGreatCBaseX
import Derived.Test.YtfhdodopjgfedaaGreatCLi0
import Derived.Great.BuildSlice
/-
  Slices of structs that a call made itself: what lies in them, element by element; what an append leaves. Plain laws, for any element type.
-/
namespace Go.Proofs.YtfhdodopjgfedaaGreat
open Go.RowKit

end Go.Proofs.YtfhdodopjgfedaaGreat
/-
  A drawn region each of whose operations writes a slot of its own: what each one leaves there, told of a world, and kept by whatever comes up behind it.
-/
namespace Go.Proofs.YtfhdodopjgfedaaGreat
open Go.RowKit

end Go.Proofs.YtfhdodopjgfedaaGreat
/-
  The law's own list of values: what the operations of its literal leave, told of a world in which rows of bytes may have been frozen.
-/
namespace Go.Proofs.YtfhdodopjgfedaaGreat
open Go.RowKit

end Go.Proofs.YtfhdodopjgfedaaGreat
/-
  The law's own list of values: its literal, whichever order its operations take; then the nine that are drawn.
-/
namespace Go.Proofs.YtfhdodopjgfedaaGreat
open Go.RowKit

end Go.Proofs.YtfhdodopjgfedaaGreat
