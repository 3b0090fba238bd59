/-
  Val8, Val9, Back3a, Back3: our texts of these names, laid into one.
-/
import Derived.Test.YtcngllcifcpbkaaCBaseG
import Derived.ProofKit
import Derived.OpenShut
import Derived.ChangeOld
/-
  What package value's Put does: it writes a value's bytes as the chapter gives them, behind what was written, and nothing else.
-/
namespace Go.Proofs.Ytcngllcifcpbkaa
open Go.RowKit

end Go.Proofs.Ytcngllcifcpbkaa
/-
  What package value's Get does while Read runs: it takes a value where the document lets it, and else leaves by the Reader's own panic; no other memory is written.
-/
namespace Go.Proofs.Ytcngllcifcpbkaa
open Go.RowKit

end Go.Proofs.Ytcngllcifcpbkaa
/-
  What ValueBack hands to Read does: of two values that were written it takes both, all of them, and nothing is left.
-/
namespace Go.Proofs.Ytcngllcifcpbkaa
open Go.RowKit

/-- The number that is read of what was written. -/
def cn (A : Vm) : Nat := if A.kind = 2 then Pl.canon A.n else 0

/-- In that box lies such a value, its bytes in memory that is younger than w0. -/
def BoxHas (w0 w : World) (q : Nat) (k : Int) (tx : List Nat) (n : Nat) : Prop :=
  ∃ ad len cap, w.heap[q]? = some (.cells #[.int .i64 k, .slice ad len cap, .float .f64 n] 49 (0, 0)) ∧ Own w (.slice ad len cap) tx ∧ Fresh w0 (.slice ad len cap)
theorem BoxHas.moves {w0 w w' : World} {q : Nat} {k : Int} {tx : List Nat} {n : Nat} {S : List Nat} (h : BoxHas w0 w q k tx n) (m : Moves S w w') (hq : q ∉ S) (hS : ∀ x ∈ S, x < w0.heap.size) : BoxHas w0 w' q k tx n := by
  obtain ⟨ad, len, cap, h1, h2, h3⟩ := h
  refine ⟨ad, len, cap, m.at h1 hq, h2.moves m (fun j hj hx => ?_), h3⟩
  have := hS j hx
  have := h3 j hj
  omega

theorem BoxHas.elder {w0 w1 w : World} {q : Nat} {k : Int} {tx : List Nat} {n : Nat} (h : BoxHas w1 w q k tx n) (hle : w0.heap.size ≤ w1.heap.size) : BoxHas w0 w q k tx n := by
  obtain ⟨ad, len, cap, h1, h2, h3⟩ := h
  exact ⟨ad, len, cap, h1, h2, fun j hj => Nat.le_trans hle (h3 j hj)⟩

end Go.Proofs.Ytcngllcifcpbkaa
/-
  What ValueBack does: for any two drawn values it returns true, and writes nothing that was there.
-/
namespace Go.Proofs.Ytcngllcifcpbkaa
open Go.RowKit

theorem Vm.In.old {w : World} {a : Vm} (h : a.In w) : a.bs ≠ [] → a.g < w.heap.size := fun hn => h.isB.lt hn

theorem vord_cn {A A' : Vm} (hw : VWays A) (hk : A'.kind = A.kind) (hb : A'.bs = A.bs) (hn : A'.n = cn A) : vord A' A = 0 := by
  unfold vord
  rw [hk, hb, hn]
  rcases hw with ⟨h, _⟩ | ⟨h, _⟩
  · have e : kd A.kind = 1 := by rw [h]; decide
    rw [e]
    simp [icmp, bcmp_self]
  · have e : kd A.kind = 2 := by rw [h]; decide
    rw [e]
    simp [icmp, cn, h]
    unfold Pl.ord Pl.rank
    rw [Pl.canon_canon]
    simp [Pl.cmp]

/-- A box that Read filled, as a value. -/
theorem BoxHas.vis {w0 w : World} {q : Nat} {A : Vm} (h : BoxHas w0 w q A.kind A.bs (cn A)) (hw : VWays A) (hf : Pl.Fits (cn A)) (ho : ∀ z ∈ A.bs, z < 256) :
    ∃ ad len cap A', w.heap[q]? = some (.cells #[.int .i64 A.kind, .slice ad len cap, .float .f64 (cn A)] 49 (0, 0)) ∧ VIs w (.agg #[.int .i64 A.kind, .slice ad len cap, .float .f64 (cn A)]) A' ∧ vord A' A = 0 := by
  obtain ⟨ad, len, cap, h1, h2, _⟩ := h
  exact ⟨ad, len, cap, ⟨A.kind, .slice ad len cap, (Value.slice ad len cap).ownBlock.getD 0, A.bs, cn A⟩, h1, ⟨rfl, ⟨h2.isB, hf, ho⟩⟩, vord_cn hw rfl rfl rfl⟩

end Go.Proofs.Ytcngllcifcpbkaa
