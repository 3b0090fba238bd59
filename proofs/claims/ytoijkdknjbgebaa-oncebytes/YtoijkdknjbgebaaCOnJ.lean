/-
  Joined caches as plain lists.
-/
import Derived.Test.YtoijkdknjbgebaaCOn8
import Derived.Test.YtoijkdknjbgebaaCOn11
import Derived.Test.YtoijkdknjbgebaaCOe2
namespace Go.Proofs.Ytoijkdknjbgebaa
open Go.RowKit

theorem CaIs.elder {W W' w : World} {p : Nat} {a : Option Nat} {xs : List Pt} (h : CaIs W' w p a xs) (hle : W.heap.size ≤ W'.heap.size) : CaIs W w p a xs := by
  obtain ⟨v, h1, h2, h3⟩ := h
  exact ⟨v, h1, h2, h3.elder hle⟩
end Go.Proofs.Ytoijkdknjbgebaa
