/-
  Lists of spans that the call itself makes: they grow by append.
-/
import Derived.Test.YtgeadpmnnjfkkaaCSp9
namespace Go.Proofs.Ytgeadpmnnjfkkaa
open Go.RowKit

/-- A list of spans of the call's own. -/
def OwnS (w : World) (v : Value) (xs : List Psp) : Prop := w.ownsRow 0 27 2 v xs.length (spCells xs)
theorem spCells_append : ∀ (a b : List Psp), spCells (a ++ b) = spCells a ++ spCells b
  | [], b => rfl
  | x :: a, b => by simp [spCells, spCells_append a b]
theorem spCells_length : ∀ a : List Psp, (spCells a).length = a.length * 2
  | [] => rfl
  | x :: a => by simp [spCells, spCells_length a]; omega
theorem spCells_one : ∀ (a : List Psp), ∀ u ∈ spCells a, u.oneCell' = true
  | [], u, h => by simp [spCells] at h
  | x :: a, u, h => by
    simp only [spCells, List.mem_cons] at h
    rcases h with rfl | rfl | h
    · rfl
    · rfl
    · exact spCells_one a u h
theorem spCells_get : ∀ (xs : List Psp) (j : Nat) (u : Value), (spCells xs)[j]? = some u → ∃ (k : Nat) (s : Psp), xs[k]? = some s ∧ ((j = k * 2 ∧ u = .string s.lo) ∨ (j = k * 2 + 1 ∧ u = .string s.hi))
  | [], j, u, h => by simp [spCells] at h
  | x :: t, 0, u, h => by simp [spCells] at h; exact ⟨0, x, rfl, .inl ⟨rfl, h.symm⟩⟩
  | x :: t, 1, u, h => by simp [spCells] at h; exact ⟨0, x, rfl, .inr ⟨rfl, h.symm⟩⟩
  | x :: t, j + 2, u, h => by
    obtain ⟨k, s, h1, h2⟩ := spCells_get t j u (by simpa [spCells] using h)
    refine ⟨k + 1, s, by simpa using h1, ?_⟩
    rcases h2 with ⟨rfl, h2⟩ | ⟨rfl, h2⟩
    · exact .inl ⟨by omega, h2⟩
    · exact .inr ⟨by omega, h2⟩
theorem OwnS.nil (w : World) : OwnS w (.slice none 0 0) [] := by unfold OwnS; exact World.ownsRow_nil _ _ _ _
theorem OwnS.moves {w w' : World} {v : Value} {xs : List Psp} {S : List Nat} (h : OwnS w v xs) (m : Moves S w w') (hg : ∀ k, v.ownBlock = some k → k ∉ S) : OwnS w' v xs := by
  refine ⟨h.1, ?_⟩
  rcases h.2 with hn | ⟨g, cap, cur, rfl, hb, hgg, rest⟩
  · exact .inl hn
  · exact .inr ⟨g, cap, cur, rfl, hb, m.at hgg (hg g rfl), rest⟩
theorem OwnS.at {w : World} {v : Value} {xs : List Psp} (h : OwnS w v xs) : ∃ ad cap, v = .slice ad xs.length cap ∧ xs.length ≤ cap ∧ (ad = none → cap = 0) ∧ SpsAt w ad xs := by
  rcases h.2 with ⟨rfl, h0⟩ | ⟨g, cap, cur, rfl, hb, hgg, h1, h2, h3, h4⟩
  · have : xs = [] := List.eq_nil_of_length_eq_zero h0
    subst this
    exact ⟨none, 0, rfl, Nat.le_refl _, fun _ => rfl, fun k s hs => by simp at hs⟩
  · refine ⟨_, cap, rfl, h1, fun h => by simp at h, fun k s hs => ?_⟩
    have hlt := (List.getElem?_eq_some_iff.1 hs).1
    obtain ⟨e1, e2⟩ := spCells_at xs k s hs
    rw [← h4, List.getElem?_take, if_pos (by omega)] at e1 e2
    exact ⟨g, 0, rfl, by simp only [World.cell?, hgg, Nat.zero_add]; simpa using e1, by simp only [World.cell?, hgg, Nat.zero_add]; simpa using e2⟩
theorem OwnS.lt {w : World} {v : Value} {xs : List Psp} (h : OwnS w v xs) {k : Nat} (hk : v.ownBlock = some k) : k < w.heap.size := (World.ownsRow.lt h k hk).2

theorem Try.info27 : (Try.prog.info? 27).map (fun i => (i.zero, i.size, i.bytes)) = some (some (.agg #[.string ⟨#[]⟩, .string ⟨#[]⟩]), 2, 32) := by kernel_rfl

end Go.Proofs.Ytgeadpmnnjfkkaa
