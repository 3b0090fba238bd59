/-
  row.Take: of any bytes the call takes a row where the chapter lets it, and else leaves by the Reader's own panic; nothing else that was there is written.
-/
import Derived.Test.YtcngllcifcpbkaaCBaseY
import Derived.Test.YtcngllcifcpbkaaCPeel
import Derived.Test.YtcngllcifcpbkaaCRef4
namespace Go.Proofs.Ytcngllcifcpbkaa
open Go.RowKit

/-- A list that grows in a call that writes to a block that was there. -/
def cutTo (W w : World) : World := { w with heap := w.heap.extract 0 W.heap.size }
theorem cutTo_size {W w : World} (h : W.heap.size ≤ w.heap.size) : (cutTo W w).heap.size = W.heap.size := by
  simp [cutTo]
  omega
theorem cutTo_moves {W w : World} (h : W.heap.size ≤ w.heap.size) : Moves [] (cutTo W w) w := by
  refine ⟨rfl, rfl, rfl, by rw [cutTo_size h]; exact h, fun k hk _ => ?_⟩
  rw [cutTo_size h] at hk
  show _ = (w.heap.extract 0 W.heap.size)[k]?
  rw [Array.getElem?_extract]
  simp
  omega
theorem GrowV.cut {W w : World} (h : W.heap.size ≤ w.heap.size) {u : World} {v : Value} {xs : List Pver} : GrowV (cutTo W w) u v xs ↔ GrowV W u v xs := by
  unfold GrowV Grow Fresh
  rw [cutTo_size h]
theorem GrowC.cut {W w : World} (h : W.heap.size ≤ w.heap.size) {u : World} {v : Value} {xs : List Pcol} : GrowC (cutTo W w) u v xs ↔ GrowC W u v xs := by
  unfold GrowC Grow Fresh
  rw [cutTo_size h]
theorem VC.ofOwn {w : World} {v : Value} {tx : List Nat} {p : Pv} {ad : Option Addr} {len cap : Nat} (hv : v = .slice ad len cap) (ho : Own w v p.bs) (hf : Pl.Fits p.n) (hx : ∀ z ∈ p.bs, z < 256) (hl : p.bs.length ≤ 1048576) (_ : tx = p.bs) : VC w [.int .i64 p.kind, .slice ad len cap, .float .f64 p.n] p := by
  subst hv
  refine ⟨ad, len, cap, _, rfl, ho.isB, hf, hx, hl, ?_⟩
  rcases ho.2 with ⟨_, h0⟩ | ⟨g, c, cur, h1, _, h3, _⟩
  · exact .inl (List.eq_nil_of_length_eq_zero h0)
  · rw [h1]
    exact .inr ⟨_, _, h3⟩
end Go.Proofs.Ytcngllcifcpbkaa
