/-
  Chg1, Chg2, Chg3, Sum5, Ref7, Ref8, Rf5: our texts of these names, laid into one.
-/
import Derived.Test.YtcamhlnkcoicpaaGreatCChg0
import Derived.Test.YtcamhlnkcoicpaaGreatCB16
import Derived.Test.YtcamhlnkcoicpaaGreatCB15
import Derived.Test.YtcamhlnkcoicpaaGreatCB00
/-
  Package change: rightList, add, apply, Apply: for every row and all changes the calls return what the chapter says, and write nothing that was there.
-/
namespace Go.Proofs.YtcamhlnkcoicpaaGreat
open Go.RowKit

end Go.Proofs.YtcamhlnkcoicpaaGreat
/-
  Package change: add, apply, Apply.
-/
namespace Go.Proofs.YtcamhlnkcoicpaaGreat
open Go.RowKit

end Go.Proofs.YtcamhlnkcoicpaaGreat
/-
  Package change: Apply: for every row and every list of changes the call returns what the chapter says, and writes nothing that was there.
-/
namespace Go.Proofs.YtcamhlnkcoicpaaGreat
open Go.RowKit

end Go.Proofs.YtcamhlnkcoicpaaGreat
/-
  Sums in one column, as plain data: what was added is there, newest first.
-/
namespace Go.Proofs.YtcamhlnkcoicpaaGreat
open Go.RowKit

def pnum (x : Nat) : Pv := ⟨2, [], x⟩
theorem pvr_num (x : Nat) : pvr (pnum x) = true := by
  unfold pvr vright Pv.vm pnum
  simp
theorem VC.num (w : World) {x : Nat} (h : Pl.Fits x) : VC w [.int .i64 2, .slice none 0 0, .float .f64 x] (pnum x) := ⟨none, 0, 0, 0, rfl, isB_nil _ _, h, by simp [pnum], by simp [pnum], .inl rfl⟩
end Go.Proofs.YtcamhlnkcoicpaaGreat
/-
  The document's own At, Newest, DropCol of a row that may be.
-/
namespace Go.Proofs.YtcamhlnkcoicpaaGreat
open Go.RowKit

end Go.Proofs.YtcamhlnkcoicpaaGreat
/-
  The document's own Drop of a row that may be.
-/
namespace Go.Proofs.YtcamhlnkcoicpaaGreat
open Go.RowKit

end Go.Proofs.YtcamhlnkcoicpaaGreat
/-
  The document's own Apply of a row that may be: it says what the program's says.
-/
namespace Go.Proofs.YtcamhlnkcoicpaaGreat
open Go.RowKit

end Go.Proofs.YtcamhlnkcoicpaaGreat
