/-
  RowTimes' walk.
-/
import Derived.Test.YtfegflimnngfaaaCRow11
namespace Go.Proofs.Ytfegflimnngfaaa
open Go.RowKit

end Go.Proofs.Ytfegflimnngfaaa
