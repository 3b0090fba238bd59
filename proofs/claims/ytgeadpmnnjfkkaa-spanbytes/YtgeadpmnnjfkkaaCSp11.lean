/-
  Lists of spans that the call itself makes: they grow by append.
-/
import Derived.Test.YtgeadpmnnjfkkaaCSp9
namespace Go.Proofs.Ytgeadpmnnjfkkaa
open Go.RowKit

/-- A list of spans of the call's own. -/
def OwnS (w : World) (v : Value) (xs : List Psp) : Prop := w.ownsRow 0 27 2 v xs.length (spCells xs)
theorem OwnS.nil (w : World) : OwnS w (.slice none 0 0) [] := by unfold OwnS; exact World.ownsRow_nil _ _ _ _
theorem OwnS.moves {w w' : World} {v : Value} {xs : List Psp} {S : List Nat} (h : OwnS w v xs) (m : Moves S w w') (hg : ∀ k, v.ownBlock = some k → k ∉ S) : OwnS w' v xs := by
  refine ⟨h.1, ?_⟩
  rcases h.2 with hn | ⟨g, cap, cur, rfl, hb, hgg, rest⟩
  · exact .inl hn
  · exact .inr ⟨g, cap, cur, rfl, hb, m.at hgg (hg g rfl), rest⟩
theorem OwnS.at {w : World} {v : Value} {xs : List Psp} (h : OwnS w v xs) : ∃ ad cap, v = .slice ad xs.length cap ∧ xs.length ≤ cap ∧ (ad = none → cap = 0) ∧ SpsAt w ad xs := by
  rcases h.2 with ⟨rfl, h0⟩ | ⟨g, cap, cur, rfl, hb, hgg, h1, h2, h3, h4⟩
  · have : xs = [] := List.eq_nil_of_length_eq_zero h0
    subst this
    exact ⟨none, 0, rfl, Nat.le_refl _, fun _ => rfl, fun k s hs => by simp at hs⟩
  · refine ⟨_, cap, rfl, h1, fun h => by simp at h, fun k s hs => ?_⟩
    have hlt := (List.getElem?_eq_some_iff.1 hs).1
    obtain ⟨e1, e2⟩ := spCells_at xs k s hs
    rw [← h4, List.getElem?_take, if_pos (by omega)] at e1 e2
    exact ⟨g, 0, rfl, by simp only [World.cell?, hgg, Nat.zero_add]; simpa using e1, by simp only [World.cell?, hgg, Nat.zero_add]; simpa using e2⟩
theorem OwnS.lt {w : World} {v : Value} {xs : List Psp} (h : OwnS w v xs) {k : Nat} (hk : v.ownBlock = some k) : k < w.heap.size := (World.ownsRow.lt h k hk).2

end Go.Proofs.Ytgeadpmnnjfkkaa
