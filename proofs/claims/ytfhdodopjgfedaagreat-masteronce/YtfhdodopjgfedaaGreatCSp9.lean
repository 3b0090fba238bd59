/-
  law7's known, made, two, lists: they return, two and lists and known true.
-/
import Derived.Test.YtfhdodopjgfedaaGreatCSp8
namespace Go.Proofs.YtfhdodopjgfedaaGreat
open Go.RowKit

def spJn (a b : Psp) : Psp := if spJ a b = true then ⟨a.lo, b.hi⟩ else Psp.zero
theorem spJoin_w (la ha lb hb : ByteArray) (w : World) : Calls Tryz.prog 114 #[.agg #[.string la, .string ha], .agg #[.string lb, .string hb]] w fun e w' => e = .returned (.tuple #[.agg #[.string (spJn ⟨la, ha⟩ ⟨lb, hb⟩).lo, .string (spJn ⟨la, ha⟩ ⟨lb, hb⟩).hi], .bool (spJ ⟨la, ha⟩ ⟨lb, hb⟩)]) ∧ Moves [] w w' := by
  unfold spJn
  cases h : spJ ⟨la, ha⟩ ⟨lb, hb⟩ with
  | true => exact spJoin_yes la ha lb hb w h
  | false => exact spJoin_no la ha lb hb w h
def spCells : List Psp → List Value
  | [] => []
  | s :: t => .string s.lo :: .string s.hi :: spCells t
theorem spCells_at : ∀ (xs : List Psp) (k : Nat) (s : Psp), xs[k]? = some s → (spCells xs)[k * 2]? = some (.string s.lo) ∧ (spCells xs)[k * 2 + 1]? = some (.string s.hi)
  | [], k, s, h => by simp at h
  | x :: t, 0, s, h => by simp at h; subst h; simp [spCells]
  | x :: t, k + 1, s, h => by
    have := spCells_at t k s (by simpa using h)
    have e : (k + 1) * 2 = k * 2 + 1 + 1 := by omega
    rw [e]
    simpa [spCells] using this
theorem SpsAt.block {w : World} {g : Nat} {xs : List Psp} {t : TypeId} {fz : Nat × Nat} (hb : w.heap[g]? = some (.cells (spCells xs).toArray t fz)) : SpsAt w (some ⟨g, 0, none⟩) xs := by
  intro k s hs
  obtain ⟨h1, h2⟩ := spCells_at xs k s hs
  refine ⟨g, 0, rfl, ?_, ?_⟩
  · simp only [World.cell?, hb, Nat.zero_add]
    simpa using h1
  · simp only [World.cell?, hb, Nat.zero_add]
    simpa using h2

end Go.Proofs.YtfhdodopjgfedaaGreat
