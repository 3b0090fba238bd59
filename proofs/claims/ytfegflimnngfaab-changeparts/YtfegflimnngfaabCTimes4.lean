/-
  RowTimes' walk.
-/
import Derived.Test.YtfegflimnngfaabCBaseJ
namespace Go.Proofs.Ytfegflimnngfaab
open Go.RowKit

def sC : ByteArray := ⟨#[99]⟩

end Go.Proofs.Ytfegflimnngfaab
