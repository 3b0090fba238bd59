/- ours -/
import Derived.Test.YtcngllcifcpbkaaGreatCBytes4
import Derived.Test.YtcngllcifcpbkaaGreatCBaseS
import Derived.Laws.BitsAllLaws
namespace Go.Proofs.YtcngllcifcpbkaaGreat
open Go.RowKit

theorem own_row {w : World} {v : Value} {bs : List Nat} (h : Own w v bs) (hpos : 0 < bs.length) : ∃ g cap, v = .slice (some ⟨g, 0, none⟩) bs.length cap ∧
  ∀ j, j < bs.length → ∃ b, bs[j]? = some b ∧ w.cell? ⟨g, j, none⟩ = some (.int .u8 (b : Int)) ∧ w.frozen? ⟨g, j, none⟩ = false ∧ ∀ u : Nat, Own (w.setCell ⟨g, j, none⟩ (.int .u8 (u : Int))) v (bs.set j u) := by
 rcases h.2 with ⟨_, h0⟩ | ⟨g, cap, cur, rfl, hr⟩
 ·omega
 ·have h1 : w.ownsRow 0 5 1 (.slice (some ⟨g, 0, none⟩) bs.length cap) bs.length (u8s bs) := h
  refine ⟨g, cap, rfl, fun j hj => ⟨bs[j], by simp, ?_, h1.frozenAt j, fun u => ?_⟩⟩
  ·rw [h1.cellAt j (by omega)]
   simp [u8s, hj]
  ·have := h1.stored j (.int .u8 (u : Int))
   unfold Own
   rw [List.length_set]
   have e : u8s (bs.set j u) = (u8s bs).set j (.int .u8 (u : Int)) := by simp [u8s, List.map_set]
   rw [e]
   exact this.1
theorem set_oct {bs : List Nat} {j u : Nat} (h : ∀ y ∈ bs, y < 256) (hu : u < 256) : ∀ y ∈ bs.set j u, y < 256 := by
 intro y hy
 rcases List.mem_or_eq_of_mem_set hy with h1 | h1
 ·exact h y h1
 ·rw [h1]; exact hu

end Go.Proofs.YtcngllcifcpbkaaGreat
