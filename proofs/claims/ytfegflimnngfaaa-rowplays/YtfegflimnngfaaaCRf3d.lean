/-
  What the document's own Get of a value does: it takes a value where the document lets it, and else marks its Reader as bad; no other memory is written.
-/
import Derived.Test.YtfegflimnngfaaaCRf3c
namespace Go.Proofs.Ytfegflimnngfaaa
open Go.RowKit

theorem RfIs.moves0 {w w' : World} {q g : Nat} {fl : Bool} {S : List Nat} (h : RfIs w q g [] fl) (m : Moves S w w') (hq : q ∉ S) : RfIs w' q g [] fl := by
  obtain ⟨v, h1, ⟨ad, n, cap, k1, k2, k3, k4, _⟩, h3⟩ := h
  exact ⟨v, m.at h1 hq, ⟨ad, n, cap, k1, k2, k3, k4, .inl rfl⟩, h3⟩

end Go.Proofs.Ytfegflimnngfaaa
