/-
  What the document's own Put of a value does: it returns the bytes that it was handed and the value's behind them, in a row of its own, and writes nothing that was there.
-/
import Derived.Test.YtfegflimnngfaabCRf3b
namespace Go.Proofs.Ytfegflimnngfaab
open Go.RowKit

end Go.Proofs.Ytfegflimnngfaab
