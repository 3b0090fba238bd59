/-
  change.TakeCond of any bytes.
-/
import Derived.Test.YtfhdodopjgfedaaGreatCB29
namespace Go.Proofs.YtfhdodopjgfedaaGreat
open Go.RowKit

/-- A condition, as plain data. -/
structure Pcd where
  has : Bool
  want : Bool
  col : ByteArray
  v : Pv
def cdz : Pcd := ⟨false, false, ⟨#[]⟩, pz⟩
end Go.Proofs.YtfhdodopjgfedaaGreat
