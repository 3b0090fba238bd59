/-
  law11's asked: some tablets, four at most.
-/
import Derived.Test.YtfhdodopjgfedaaGreatCMtb
import Derived.Test.YtfhdodopjgfedaaGreatCSsaG
namespace Go.Proofs.YtfhdodopjgfedaaGreat
open Go.RowKit

/-- Two new elements. -/
theorem tb_new2 (w : World) (x y : Ptb) : TbL (w.alloc (.cells #[.string x.lo, .string x.hi, .int .i64 x.g, .int .i64 x.n, .string y.lo, .string y.hi, .int .i64 y.g, .int .i64 y.n] 54)) w.heap.size (.slice (some ⟨w.heap.size, 0, none⟩) 2 2) [x, y] :=
  ⟨_, _, _, rfl, rfl, Nat.le_refl _, fun h => by simp at h, TbAt.block (xs := [x, y]) (heap_alloc_new w _)⟩

end Go.Proofs.YtfhdodopjgfedaaGreat
