/-
  law14's known; the walk of DiskNumbers.
-/
import Derived.Test.YtedehhnhmkeglaaCDk3
import Derived.Test.YtedehhnhmkeglaaRows
import Derived.ProofKit
import Derived.OpenShut
import Derived.ChangeOld
namespace Go.Proofs.Ytedehhnhmkeglaa
open Go.RowKit

/-- []byte("..") of bytes that were just laid. -/
theorem conv_new (w : World) (c : List Nat) : ∃ w', (convert 30 30 (.slice (some ⟨w.heap.size, 0, none⟩) c.length c.length)).run Try.prog (w.alloc (.cells (c.map fun (b : Nat) => Value.int .u8 (b : Int)).toArray 5)) = .ok (.slice (some ⟨w.heap.size, 0, none⟩) c.length c.length) w' ∧ IsB w' w.heap.size (.slice (some ⟨w.heap.size, 0, none⟩) c.length c.length) c ∧ Moves [] w w' := by
  obtain ⟨w', h1, h2, h3, _⟩ := conv_exact (W := w) (w := w.alloc (.cells (c.map fun (b : Nat) => Value.int .u8 (b : Int)).toArray 5)) (c := c) (g := w.heap.size) (Nat.le_refl _) ((Moves.refl _ _).alloc _) (heap_alloc_new _ _)
  exact ⟨w', h1, h2, h3⟩

theorem conv_new1 (w : World) (b : Nat) : ∃ w', (convert 30 30 (.slice (some ⟨w.heap.size, 0, none⟩) 1 1)).run Try.prog (w.alloc (.cells #[.int .u8 (b : Int)] 5)) = .ok (.slice (some ⟨w.heap.size, 0, none⟩) 1 1) w' ∧ IsB w' w.heap.size (.slice (some ⟨w.heap.size, 0, none⟩) 1 1) [b] ∧ Moves [] w w' := conv_new w [b]

set_option maxRecDepth 100000 in
set_option maxHeartbeats 8000000 in
theorem known14_w (w : World) : Calls Try.prog 10 #[] w fun e w' => e = .returned (.bool true) ∧ Moves [] w w' := by
  go_enter Try.func10, Try.ntmps10
  go_wp2_with fail
  refine (dkNew_w _).mono ?_
  rintro _ w1 ⟨rfl, hD1, m1⟩
  obtain ⟨p, hp⟩ : ∃ p, w.heap.size = p := ⟨_, rfl⟩
  rw [hp] at hD1 ⊢
  obtain ⟨w2, hrun2, hB2, m2⟩ := conv_new1 w1 97
  have hrun2 : (convert 30 30 (.slice (some ⟨w1.heap.size, 0, none⟩) 1 1)).run Try.prog (w1.alloc (.cells #[.int .u8 97] 5)) = .ok (.slice (some ⟨w1.heap.size, 0, none⟩) 1 1) w2 := hrun2
  have hD2 := hD1.moves m2 (by simp)
  go_wp2_with fail
  refine (dkAppend_w w2 p none [] _ _ [97] hD2 hB2 (by simp) (by simp)).mono ?_
  rintro _ w3 ⟨rfl, a3, hTo3⟩
  have hf2 : ∀ k ∈ p :: (none : Option Nat).toList, w.heap.size ≤ k := fun k hk => by simp at hk; omega
  obtain ⟨M3, hf3⟩ := hTo3.fresh (m1.then m2) hf2
  obtain ⟨w4, hrun4, hB4, m4⟩ := conv_new1 w3 98
  have hrun4 : (convert 30 30 (.slice (some ⟨w3.heap.size, 0, none⟩) 1 1)).run Try.prog (w3.alloc (.cells #[.int .u8 98] 5)) = .ok (.slice (some ⟨w3.heap.size, 0, none⟩) 1 1) w4 := hrun4
  obtain ⟨w5, hrun5, hB5, m5⟩ := conv_new1 w4 99
  have hrun5 : (convert 30 30 (.slice (some ⟨w4.heap.size, 0, none⟩) 1 1)).run Try.prog (w4.alloc (.cells #[.int .u8 99] 5)) = .ok (.slice (some ⟨w4.heap.size, 0, none⟩) 1 1) w5 := hrun5
  have hlt3 := hTo3.1.lt
  have s4 := m4.size
  have s5 := m5.size
  obtain ⟨w6, hw6⟩ : ∃ w6, w5.alloc (.cells #[.slice (some ⟨w3.heap.size, 0, none⟩) 1 1, .slice (some ⟨w4.heap.size, 0, none⟩) 1 1] 30) = w6 := ⟨_, rfl⟩
  have m6 : Moves [] w5 w6 := by rw [← hw6]; exact (Moves.refl _ _).alloc _
  have hb6 := heap_alloc_new w5 (.cells #[.slice (some ⟨w3.heap.size, 0, none⟩) 1 1, .slice (some ⟨w4.heap.size, 0, none⟩) 1 1] 30)
  rw [hw6] at hb6
  have hL6 : LsB w6 (.slice (some ⟨w5.heap.size, 0, none⟩) 2 2) [[98], [99]] := by
    refine ⟨_, [.slice (some ⟨w3.heap.size, 0, none⟩) 1 1, .slice (some ⟨w4.heap.size, 0, none⟩) 1 1], _, rfl, Nat.le_refl _, fun h => by simp at h, ?_, ?_⟩
    · intro k x hx
      refine ⟨_, 0, rfl, ?_⟩
      simp only [World.cell?, hb6, Nat.zero_add]
      simpa using hx
    · exact ⟨⟨⟨_, hB4.moves (m5.then m6) (by simp)⟩, by simp⟩, ⟨⟨_, hB5.moves m6 (by simp)⟩, by simp⟩, trivial⟩
  have hD6 := hTo3.1.moves ((m4.then m5).then m6) (by simp)
  have hR := dkReplace_w w6 p a3 _ _ [[98], [99]] hD6 hL6 (fun ad n cap g off e1 e2 => by
    simp at e1
    rw [← e1.1] at e2
    simp at e2
    have := hlt3 p (by simp)
    omega) (by simp)
  clear hD6 hL6 hb6 hB5 hB4 hB2 hD2 hD1
  go_wp2_with fail
  refine hR.mono ?_
  rintro _ w7 ⟨rfl, a7, hD7, m7, -⟩
  have M7 : Moves [] w w7 := (M3.then (((m4.then m5).then m6))).trans m7 (fun x hx => .inr (by simp at hx; subst hx; exact hf3 _ (by simp)))
  have hLen := dkLen_w w7 p a7 _ hD7
  have hBy := dkBytes_w w7 p a7 _ hD7 (by simp) (by
    intro s hs
    simp only [List.mem_map] at hs
    obtain ⟨b, hb, rfl⟩ := hs
    rw [strOf_size]
    simp at hb
    rcases hb with rfl | rfl <;> simp)
  rw [zsum_strOf] at hBy
  have hLen : Calls Try.prog 14 #[.pointer (some ⟨p, 0, none⟩)] w7 fun e w' => e = .returned (.int .i64 2) ∧ w7 = w' := hLen
  have hBy : Calls Try.prog 15 #[.pointer (some ⟨p, 0, none⟩)] w7 fun e w' => e = .returned (.int .i64 2) ∧ w7 = w' := hBy
  clear hD7
  go_wp2_with fail
  refine hLen.mono ?_
  rintro _ _ ⟨rfl, rfl⟩
  go_wp2_with fail
  refine hBy.mono ?_
  rintro _ _ ⟨rfl, rfl⟩
  go_wp2_with fail
  go_ret
  exact ⟨rfl, M7⟩

set_option maxRecDepth 100000 in
set_option maxHeartbeats 8000000 in
theorem diskNumbers_w (w : World) : Calls Try.prog 3 #[] w fun e w' => e = .returned (.bool true) ∧ Moves [] w w' := by
  go_enter Try.func3, Try.ntmps3
  go_wp2_with fail
  refine (dkNew_w _).mono ?_
  rintro _ w1 ⟨rfl, hD1, m1⟩
  obtain ⟨p, hp⟩ : ∃ p, w.heap.size = p := ⟨_, rfl⟩
  rw [hp] at hD1 ⊢
  have hS1 := same14_w w1 p none _ [] hD1 (LsB.nil _) (by simp) (by simp)
  go_wp2_with fail
  refine hS1.mono ?_
  rintro _ w2 ⟨rfl, m2⟩
  have hD2 := hD1.moves m2 (by simp)
  have nilB : IsB w2 0 (.slice none 0 0) [] := ⟨_, _, _, rfl, rfl, Nat.le_refl _, fun _ => rfl, .inl rfl⟩
  go_wp2_with fail
  refine (dkAppend_w w2 p none [] _ _ [] hD2 nilB (by simp) (by simp)).mono ?_
  rintro _ w3 ⟨rfl, a3, hTo3⟩
  have hf2 : ∀ k ∈ p :: (none : Option Nat).toList, w.heap.size ≤ k := fun k hk => by simp at hk; omega
  obtain ⟨M3, hf3⟩ := hTo3.fresh (m1.then m2) hf2
  obtain ⟨w4, hw4⟩ : ∃ w4, w3.alloc (.cells #[.slice none 0 0] 30) = w4 := ⟨_, rfl⟩
  have m4 : Moves [] w3 w4 := by rw [← hw4]; exact (Moves.refl _ _).alloc _
  have hb4 := heap_alloc_new w3 (.cells #[.slice none 0 0] 30)
  rw [hw4] at hb4
  have hL4 : LsB w4 (.slice (some ⟨w3.heap.size, 0, none⟩) 1 1) [[]] := by
    refine ⟨_, [.slice none 0 0], _, rfl, Nat.le_refl _, fun h => by simp at h, ?_, ?_⟩
    · rw [← hw4]; exact vals_new _ _
    · exact ⟨⟨⟨0, _, _, _, rfl, rfl, Nat.le_refl _, fun _ => rfl, .inl rfl⟩, by simp⟩, trivial⟩
  have hD4 := hTo3.1.moves m4 (by simp)
  have hS4 := same14_w w4 p a3 _ [[]] hD4 hL4 (by simp) (by simp)
  clear hL4 hb4 nilB
  go_wp2_with fail
  refine hS4.mono ?_
  rintro _ w5 ⟨rfl, m5⟩
  have hD5 := hD4.moves m5 (by simp)
  go_wp2_with fail
  refine (dkReplace_w w5 p a3 _ _ [] hD5 (LsB.nil _) (fun ad n cap g off e1 e2 => by simp at e1; rw [← e1.1] at e2; simp at e2) (by simp)).mono ?_
  rintro _ w6 ⟨rfl, a6, hD6, m6, hf6⟩
  have M6 : Moves [] w w6 := ((M3.then m4).then m5).trans m6 (fun x hx => .inr (by simp at hx; subst hx; exact hf3 _ (by simp)))
  have hS6 := same14_w w6 p a6 _ [] hD6 (LsB.nil _) (by simp) (by simp)
  go_wp2_with fail
  refine hS6.mono ?_
  rintro _ w7 ⟨rfl, m7⟩
  go_wp2_with fail
  refine (known14_w w7).mono ?_
  rintro _ w8 ⟨rfl, m8⟩
  go_wp2_with fail
  go_ret
  exact ⟨rfl, (M6.then m7).then m8⟩
end Go.Proofs.Ytedehhnhmkeglaa
