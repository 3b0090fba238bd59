/-
  What package value's Put does: it writes a value's bytes as the chapter gives them, behind what was written, and nothing else.
-/
import Derived.Test.YtfegflimnngfaabCBaseG
namespace Go.Proofs.Ytfegflimnngfaab
open Go.RowKit

end Go.Proofs.Ytfegflimnngfaab
