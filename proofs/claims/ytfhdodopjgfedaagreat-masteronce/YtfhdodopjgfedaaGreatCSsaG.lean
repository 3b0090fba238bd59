/-
  A drawn region each of whose operations writes a slot of its own, with guards: an operation that its guard lets by leaves its value, one that it does not leaves none. Plain laws, no program in sight.
-/
import Derived.Test.YtfhdodopjgfedaaGreatCBaseH
namespace Go.Proofs.YtfhdodopjgfedaaGreat
open Go.RowKit

end Go.Proofs.YtfhdodopjgfedaaGreat
