/-
  RefR, RefT, Rest: our texts of these names, laid into one.
-/
import Derived.Test.YtcngllcifcpbkaaGreatCBaseD
import Derived.BigQuiet
/-
  What the document's own reading does: each method takes the bytes that the document says and returns what they stand for, or marks itself as bad; no other memory is written.
-/
namespace Go.Proofs.YtcngllcifcpbkaaGreat
open Go.RowKit

/-- At block q lies the document's Reader, with bs still to be read, in block g. -/
def RfIs (w : World) (q g : Nat) (bs : List Nat) (bad : Bool) : Prop :=
  ∃ v, w.heap[q]? = some (.cells #[v, .bool bad] 93 (0, 0)) ∧ IsB w g v bs ∧ g ≠ q

theorem RfIs.moves {w w' : World} {p g : Nat} {bs : List Nat} {fl : Bool} {S : List Nat} (h : RfIs w p g bs fl) (m : Moves S w w') (hp : p ∉ S) (hg : g ∉ S) : RfIs w' p g bs fl := by
  obtain ⟨v, h1, h2, h3⟩ := h
  exact ⟨v, m.at h1 hp, h2.moves m hg, h3⟩

theorem isB_nil (w : World) (g : Nat) : IsB w g (.slice none 0 0) [] := ⟨_, _, _, rfl, rfl, Nat.le_refl _, fun _ => rfl, .inl rfl⟩

end Go.Proofs.YtcngllcifcpbkaaGreat
/-
  What the document's own reading of a Text does, and what 'rest' does where nothing can be read: it marks the document's Reader as bad.
-/
namespace Go.Proofs.YtcngllcifcpbkaaGreat
open Go.RowKit

end Go.Proofs.YtcngllcifcpbkaaGreat
/-
  What 'rest' does where the next thing cannot be read: it marks the document's Reader as bad.
-/
namespace Go.Proofs.YtcngllcifcpbkaaGreat
open Go.RowKit

end Go.Proofs.YtcngllcifcpbkaaGreat
