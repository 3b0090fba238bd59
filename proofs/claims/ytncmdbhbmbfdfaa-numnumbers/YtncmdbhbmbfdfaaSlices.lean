/-
  Rows of floats as values: what 'lists' does with any of them, nil and empty ones too. Conditions: the words fit 64 bits, the row lies in memory.
-/
import Derived.Test.YtncmdbhbmbfdfaaListsLaw
namespace Go.Proofs.Ytncmdbhbmbfdfaa
open Go.RowKit

/-- A slice of floats, whose words are zs: nil, or empty, or a row in memory. -/
def IsFl (w : World) (a : Option Addr) (len cap : Nat) (zs : List Nat) : Prop :=
  (a = none ∧ len = 0 ∧ cap = 0) ∨ (∃ x, a = some x ∧ len = 0) ∨
  ∃ b off, a = some ⟨b, off, none⟩ ∧ 1 ≤ len ∧ len ≤ cap ∧ len ≤ 9223372036854775807 ∧ Floats w b off len zs ∧ AllFit zs

theorem lists_any_w (a : Option Addr) (len cap : Nat) (zs : List Nat) (w : World) (h : IsFl w a len cap zs) :
    Calls Try.prog 11 #[.slice a len cap] w fun e w' => e = .returned (.bool true) ∧ Still w w' := by
  rcases h with ⟨_, rfl, _⟩ | ⟨_, _, rfl⟩ | ⟨b, off, rfl, h1, h2, h3, h4, h5⟩
  · exact lists_none_w _ _ _
  · exact lists_none_w _ _ _
  · exact lists_w _ _ _ _ _ _ h1 h2 h3 h4 h5

theorem Still.below {w w' : World} (h : Still w w') (B : Nat) : Below B w w' := by
  obtain ⟨n, rfl⟩ := h; exact ⟨rfl, rfl, rfl, Nat.le_refl _, fun _ _ => rfl⟩

theorem IsFl.still {w w' : World} {a : Option Addr} {len cap : Nat} {zs : List Nat} (h : IsFl w a len cap zs) (hs : Still w w') : IsFl w' a len cap zs := by
  rcases h with h | h | ⟨b, off, h0, h1, h2, h3, h4, h5⟩
  · exact .inl h
  · exact .inr (.inl h)
  · exact .inr (.inr ⟨b, off, h0, h1, h2, h3, h4.still hs, h5⟩)

theorem lt_of_cell {w : World} {a : Addr} {v : Value} (h : w.cell? a = some v) : a.block < w.heap.size := by
  refine Nat.lt_of_not_le fun hle => ?_
  have : w.heap[a.block]? = none := Array.getElem?_eq_none hle
  simp [World.cell?, this] at h

theorem Floats.below {w w' : World} {b off n : Nat} {zs : List Nat} (h : Floats w b off n zs) (hb : Below w.heap.size w w') : Floats w' b off n zs :=
  fun i hi => by rw [hb.cell (lt_of_cell (h i hi))]; exact h i hi

theorem IsFl.below {w w' : World} {a : Option Addr} {len cap : Nat} {zs : List Nat} (h : IsFl w a len cap zs) (hb : Below w.heap.size w w') : IsFl w' a len cap zs := by
  rcases h with h | h | ⟨b, off, h0, h1, h2, h3, h4, h5⟩
  · exact .inl h
  · exact .inr (.inl h)
  · exact .inr (.inr ⟨b, off, h0, h1, h2, h3, h4.below hb, h5⟩)

end Go.Proofs.Ytncmdbhbmbfdfaa
