/-
  law7's known, made, two, lists: they return, two and lists and known true.
-/
import Derived.Test.YtgeadpmnnjfkkaaCSp8
namespace Go.Proofs.Ytgeadpmnnjfkkaa
open Go.RowKit

def spCells : List Psp → List Value
  | [] => []
  | s :: t => .string s.lo :: .string s.hi :: spCells t
theorem spCells_at : ∀ (xs : List Psp) (k : Nat) (s : Psp), xs[k]? = some s → (spCells xs)[k * 2]? = some (.string s.lo) ∧ (spCells xs)[k * 2 + 1]? = some (.string s.hi)
  | [], k, s, h => by simp at h
  | x :: t, 0, s, h => by simp at h; subst h; simp [spCells]
  | x :: t, k + 1, s, h => by
    have := spCells_at t k s (by simpa using h)
    have e : (k + 1) * 2 = k * 2 + 1 + 1 := by omega
    rw [e]
    simpa [spCells] using this
theorem SpsAt.block {w : World} {g : Nat} {xs : List Psp} {t : TypeId} {fz : Nat × Nat} (hb : w.heap[g]? = some (.cells (spCells xs).toArray t fz)) : SpsAt w (some ⟨g, 0, none⟩) xs := by
  intro k s hs
  obtain ⟨h1, h2⟩ := spCells_at xs k s hs
  refine ⟨g, 0, rfl, ?_, ?_⟩
  · simp only [World.cell?, hb, Nat.zero_add]
    simpa using h1
  · simp only [World.cell?, hb, Nat.zero_add]
    simpa using h2

theorem kn7_1 : spC ⟨⟨#[97]⟩, ⟨#[99]⟩⟩ ⟨#[97]⟩ = false := by
  unfold spC
  rw [show zeq ⟨#[97]⟩ (Psp.mk ⟨#[97]⟩ ⟨#[99]⟩).lo = true from zeq_iff.2 rfl]
  simp
theorem kn7_2 : spCov [⟨⟨#[]⟩, ⟨#[109]⟩⟩, ⟨⟨#[109]⟩, ⟨#[]⟩⟩] = true := by
  unfold spCov spK spK spK spR spB spE bz zlt zeq
  simp only [ByteArray.toList_eq]
  decide
theorem kn7_3 : spH ⟨⟨#[97]⟩, ⟨#[]⟩⟩ ⟨#[122, 122]⟩ = true := by
  unfold spH spB bz zlt
  simp only [ByteArray.toList_eq]
  decide

set_option maxRecDepth 100000 in
set_option maxHeartbeats 1000000 in
theorem known7_w (w : World) : Calls Try.prog 11 #[] w fun e w' => e = .returned (.bool true) ∧ Moves [] w w' := by
  have h1 := kn7_1
  have h2 := kn7_2
  have h3 := kn7_3
  have hcov : ∀ (w1 : World) (g : Nat), g = w1.heap.size → Calls Try.prog 18 #[.slice (some ⟨g, 0, none⟩) 2 2] (w1.alloc (.cells #[.string ⟨#[]⟩, .string ⟨#[109]⟩, .string ⟨#[109]⟩, .string ⟨#[]⟩] 27)) fun e w' => e = .returned (.bool true) ∧ Moves [] w1 w' := by
    rintro w1 _ rfl
    have hb := heap_alloc_new w1 (.cells #[.string ⟨#[]⟩, .string ⟨#[109]⟩, .string ⟨#[109]⟩, .string ⟨#[]⟩] 27)
    refine (spCover_w _ (some ⟨w1.heap.size, 0, none⟩) 2 2 [⟨⟨#[]⟩, ⟨#[109]⟩⟩, ⟨⟨#[109]⟩, ⟨#[]⟩⟩] ?_ rfl (by omega) (by omega)).mono ?_
    · exact SpsAt.block hb
    · rintro _ w2 ⟨rfl, m⟩
      rw [h2]
      exact ⟨rfl, ((Moves.refl _ _).alloc _).then m⟩
  have hcov0 : ∀ w1 : World, Calls Try.prog 18 #[.slice none 0 0] w1 fun e w' => e = .returned (.bool false) ∧ Moves [] w1 w' := fun w1 => spCover_w w1 none 0 0 [] (fun k s hs => by simp at hs) rfl (by omega) (by omega)
  clear h2
  go_enter Try.func11, Try.ntmps11
  go_wp2_with (first | (go_at_call 16; refine (spSplit_no _ _ _ _ h1).mono ?_; rintro _ w2 ⟨rfl, m2⟩; clear h1) | (go_at_call 18; (revert m3; intro m3); refine (hcov0 _).mono ?_; rintro _ w4 ⟨rfl, m4⟩) | (go_at_call 18; refine (hcov _ _ (by simp)).mono ?_; rintro _ w3 ⟨rfl, m3⟩) | (go_at_call 15; refine (spHas_w _ _ _ _).mono ?_; rintro _ w5 ⟨rfl, m5⟩; rw [h3]))
  go_ret
  exact ⟨rfl, (((m2.alloc _).alloc _).then m3).then (m4.then m5)⟩

end Go.Proofs.Ytgeadpmnnjfkkaa
