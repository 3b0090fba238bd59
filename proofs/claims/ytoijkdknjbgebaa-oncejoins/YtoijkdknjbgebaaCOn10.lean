/-
  A cache's Copy, Join, Same.
-/
import Derived.Test.YtoijkdknjbgebaaCOn6
import Derived.Laws.StructEq
namespace Go.Proofs.Ytoijkdknjbgebaa
open Go.RowKit

theorem growT_empty (W w : World) (hW : W.heap.size ≤ w.heap.size) : GrowT W (w.alloc (.cells #[] 63)) (.slice (some ⟨w.heap.size, 0, none⟩) 0 0) [] :=
  ⟨fun k hk => by simp [Value.ownBlock] at hk; omega, [], ⟨by simp, by simp, .inr ⟨w.heap.size, 0, #[], rfl, Nat.zero_le _, heap_alloc_new _ _, Nat.le_refl _, Nat.zero_le _, rfl, rfl⟩⟩, trivial⟩

set_option maxRecDepth 100000 in
set_option maxHeartbeats 4000000 in
theorem oclone_w (W w : World) (v : Value) (xs : List Pt) (h : GrowT W w v xs) (hl : xs.length ≤ 100000) :
    Calls Try.prog 47 #[v] w fun e w' => ∃ v', e = .returned v' ∧ GrowT w w' v' xs ∧ Moves [] w w' := by
  obtain ⟨ad, n, cap, rfl, hn, hc⟩ := h.open
  have H : Hid (GrowT W w (.slice ad n cap) xs) := h
  cases ad with
  | none =>
    have h0 : xs = [] := by
      obtain ⟨_, css, h1, h2⟩ := h
      rcases h1.2.2 with ⟨e, h0⟩ | ⟨g, _, _, e, _⟩
      · rw [h2.length] at h0
        exact List.eq_nil_of_length_eq_zero h0
      · simp at e
    subst h0
    have hnil : ∀ w' : World, (binOp .eql 58 (.slice none n cap) (.slice none 0 0)).run Try.prog w' = .ok (.bool true) w' := fun w' => by kernel_rfl
    clear h
    go_enter Try.func47, Try.ntmps47
    go_wp2_with fail
    go_ret
    exact ⟨_, rfl, GrowT.nil _ _, Moves.refl _ _⟩
  | some y =>
    have hnil : ∀ w' : World, (binOp .eql 58 (.slice (some y) n cap) (.slice none 0 0)).run Try.prog w' = .ok (.bool false) w' := fun w' => by kernel_rfl
    have ma : Moves [] w (w.alloc (.cells #[] 63)) := (Moves.refl [] w).alloc _
    have hy := h.at.moves ma
    have hbd : ([] : List Pt).length + xs.length ≤ 1048576 := by simp; omega
    have hsz : w.heap.size ≤ (w.alloc (.cells #[] 63)).heap.size := ma.size
    clear h
    go_enter Try.func47, Try.ntmps47
    go_wp2_with (at_builtin; refine growT_append (W := w) (.tmp 5) (.tmp 6) rfl _ _ [] xs rfl rfl (by rfl) (growT_empty w w (Nat.le_refl _)) hy hsz hbd ?_; intro v8 w8 hG8 m8 s8 l8)
    go_ret
    rw [List.nil_append] at hG8
    have m8' : Moves [w.heap.size] (w.alloc (.cells #[] 63)) w8 := m8
    exact ⟨_, rfl, hG8, ma.trans m8' (fun x hx => .inr (by simp at hx; omega))⟩

set_option maxRecDepth 100000 in
set_option maxHeartbeats 4000000 in
theorem ocopy_w (W w : World) (p : Nat) (a : Option Nat) (xs : List Pt) (h : CaIs W w p a xs) (hl : xs.length ≤ 100000) :
    Calls Try.prog 25 #[.pointer (some ⟨p, 0, none⟩)] w fun e w' => ∃ q a', e = .returned (.pointer (some ⟨q, 0, none⟩)) ∧ CaIs w w' q a' xs ∧ Moves [] w w' ∧ w.heap.size ≤ q := by
  obtain ⟨v, hp, rfl, hG⟩ := h
  have hc := oclone_w W w v xs hG hl
  obtain ⟨ad, n, cap, rfl, hn, _⟩ := hG.open
  obtain ⟨x1, x2⟩ := one_cell hp
  clear hG
  go_enter Try.func25, Try.ntmps25
  go_wp2_with (go_at_call 47; refine hc.mono ?_; rintro _ w2 ⟨v2, rfl, hG2, m2⟩; obtain ⟨ad2, n2, cap2, rfl, -, -⟩ := hG2.open; have HG2 : Hid (GrowT w w2 (.slice ad2 n2 cap2) xs) := hG2; clear hG2)
  go_ret
  have b := boxesW (Moves.refl [] (w2.alloc (.cells #[.slice ad2 n2 cap2] 60)))
  exact ⟨_, _, rfl, ⟨_, b.1, rfl, HG2.out.moves0 b.2⟩, m2.then b.2, m2.size⟩

end Go.Proofs.Ytoijkdknjbgebaa
