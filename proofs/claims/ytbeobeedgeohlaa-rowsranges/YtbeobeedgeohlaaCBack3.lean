/-
  What ValueBack does: for any two drawn values it returns true, and writes nothing that was there.
-/
import Derived.Test.YtbeobeedgeohlaaCBack3a
import Derived.Test.YtbeobeedgeohlaaCBaseG
import Derived.ProofKit
import Derived.OpenShut
import Derived.ChangeOld
namespace Go.Proofs.Ytbeobeedgeohlaa
open Go.RowKit

theorem Vm.In.old {w : World} {a : Vm} (h : a.In w) : a.bs ≠ [] → a.g < w.heap.size := fun hn => h.isB.lt hn

theorem vord_cn {A A' : Vm} (hw : VWays A) (hk : A'.kind = A.kind) (hb : A'.bs = A.bs) (hn : A'.n = cn A) : vord A' A = 0 := by
  unfold vord
  rw [hk, hb, hn]
  rcases hw with ⟨h, _⟩ | ⟨h, _⟩
  · have e : kd A.kind = 1 := by rw [h]; decide
    rw [e]
    simp [icmp, bcmp_self]
  · have e : kd A.kind = 2 := by rw [h]; decide
    rw [e]
    simp [icmp, cn, h]
    unfold Pl.ord Pl.rank
    rw [Pl.canon_canon]
    simp [Pl.cmp]

/-- A box that Read filled, as a value. -/
theorem BoxHas.vis {w0 w : World} {q : Nat} {A : Vm} (h : BoxHas w0 w q A.kind A.bs (cn A)) (hw : VWays A) (hf : Pl.Fits (cn A)) (ho : ∀ z ∈ A.bs, z < 256) :
    ∃ ad len cap A', w.heap[q]? = some (.cells #[.int .i64 A.kind, .slice ad len cap, .float .f64 (cn A)] 49 (0, 0)) ∧ VIs w (.agg #[.int .i64 A.kind, .slice ad len cap, .float .f64 (cn A)]) A' ∧ vord A' A = 0 := by
  obtain ⟨ad, len, cap, h1, h2, _⟩ := h
  exact ⟨ad, len, cap, ⟨A.kind, .slice ad len cap, (Value.slice ad len cap).ownBlock.getD 0, A.bs, cn A⟩, h1, ⟨rfl, ⟨h2.isB, hf, ho⟩⟩, vord_cn hw rfl rfl rfl⟩

end Go.Proofs.Ytbeobeedgeohlaa
