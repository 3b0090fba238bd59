/-
  A list of changes of the call's own that grows; keep.Changes.
-/
import Derived.Test.YtfhdodopjgfedaaGreatCMade5
namespace Go.Proofs.YtfhdodopjgfedaaGreat
open Go.RowKit

end Go.Proofs.YtfhdodopjgfedaaGreat
