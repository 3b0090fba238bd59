/-
  Val0, Val1, Val2, Val3, Val4, Val5, Val6: our texts of these names, laid into one.
-/
import Derived.Test.YtbjbljkcodkebaaCBaseE
import Derived.Lib.BytesEntry
import Derived.Laws.Externs
import Derived.Laws.ResultCell
import Derived.Deep.RegionHeld3
/-
  Values as plain data: their order, by Kind, bytes and number; what it is an order by. Plain facts, no program in sight.
-/
namespace Go.Proofs.Ytbjbljkcodkebaa
open Go.RowKit

end Go.Proofs.Ytbjbljkcodkebaa
/-
  What bytes' comparison and package value's functions do: for every value the call returns, and writes nothing that was there.
-/
namespace Go.Proofs.Ytbjbljkcodkebaa
open Go.RowKit

end Go.Proofs.Ytbjbljkcodkebaa
/-
  What package value's Order and Same do: for every two values the call returns their order, and writes nothing that was there.
-/
namespace Go.Proofs.Ytbjbljkcodkebaa
open Go.RowKit

end Go.Proofs.Ytbjbljkcodkebaa
/-
  What package value's Canon, Plus and Right do: for every value the call returns what the chapter says, and writes nothing that was there.
-/
namespace Go.Proofs.Ytbjbljkcodkebaa
open Go.RowKit

@[go_sem] theorem run_store_flt {P : Program} (w : World) (a : Addr) (m : Mode) (k : FloatKind) (b : Nat) : (store a (.float k b) m).run P w = stored P w a (.float k b) m := run_store P w a _ m rfl

end Go.Proofs.Ytbjbljkcodkebaa
/-
  What package value's Plus and Right do: for every value the call returns what the chapter says, and writes nothing that was there.
-/
namespace Go.Proofs.Ytbjbljkcodkebaa
open Go.RowKit

end Go.Proofs.Ytbjbljkcodkebaa
/-
  What the drawn value and the law's own 'known' do: the call returns a value that may be, or true, and writes nothing that was there.
-/
namespace Go.Proofs.Ytbjbljkcodkebaa
open Go.RowKit

end Go.Proofs.Ytbjbljkcodkebaa
/-
  The contracts of values once more, told of by an elder world that the running one has grown out of.
-/
namespace Go.Proofs.Ytbjbljkcodkebaa
open Go.RowKit

end Go.Proofs.Ytbjbljkcodkebaa
