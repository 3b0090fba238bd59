/-
  Copy of a table: a table by itself, with the same rows.
-/
import Derived.Test.YtcngllcifcpbkaaCBaseM
namespace Go.Proofs.Ytcngllcifcpbkaa
open Go.RowKit

set_option maxRecDepth 100000 in
set_option maxHeartbeats 2000000 in
theorem tcopy_w (W w : World) (p : Nat) (a : Option Nat) (xs : List Pnam) (h : TabIs W w p a xs) (hl : xs.length ≤ 1000) :
    Calls Try.prog 11 #[.pointer (some ⟨p, 0, none⟩)] w fun e w' => ∃ q b, e = .returned (.pointer (some ⟨q, 0, none⟩)) ∧ TabIs w w' q b (pownX xs) ∧ w.heap.size ≤ q ∧ Moves [] w w' := by
  obtain ⟨v, hp, rfl, hG⟩ := h
  have HN : Hid (NamsAt w v xs) := hG.at
  have HL : Hid ([xs].flatten.length ≤ 1000) := by show _ ≤ _; simpa using hl
  obtain ⟨ad, n, cap, rfl, hn, hc⟩ := hG.open
  obtain ⟨x1, x2⟩ := one_cell hp
  clear hG hl hn
  have hq := heap_alloc_new w (.cells #[.slice ad n cap] 27)
  have ho := own_w w _ w.heap.size [.slice ad n cap] [xs] hq ⟨HN.out, trivial⟩ ((Moves.refl [] w).alloc _) HL.out 1 rfl (by omega)
  go_enter Try.func11, Try.ntmps11
  go_wp2_with (go_at_call 29; refine ho.mono ?_; rintro _ w5 ⟨ad5, n5, cap5, rfl, hG5, m5⟩)
  go_ret
  have m6 : Moves [] w w5 := ((Moves.refl [] w).alloc _).then m5
  have e : pownL [xs] = pownX xs := by unfold pownL pownX; simp
  rw [e] at hG5
  have b := boxesW (Moves.refl [] (w5.alloc (.cells #[.slice ad5 n5 cap5] 65)))
  exact ⟨w5.heap.size, _, rfl, ⟨_, b.1, rfl, (hG5.moves0 ((Moves.refl [] _).alloc _)).elder (by simp)⟩, m6.size, m6.alloc _⟩
end Go.Proofs.Ytcngllcifcpbkaa
