/-
  RowTimes' walk.
-/
import Derived.Test.YtfegflimnngfaabCRow11
namespace Go.Proofs.Ytfegflimnngfaab
open Go.RowKit

end Go.Proofs.Ytfegflimnngfaab
