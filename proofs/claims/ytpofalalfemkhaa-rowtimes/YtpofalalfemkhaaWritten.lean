/-
  What 'written' does: for every row of things it returns what the program wrote and what the document writes, both the same bytes, and true; nothing that was there is written.
-/
import Derived.Test.YtpofalalfemkhaaAsks
namespace Go.Proofs.Ytpofalalfemkhaa
open Go.RowKit

theorem kind_ways (k : Int) : k = 1 ∨ k = 2 ∨ k = 3 ∨ k = 4 ∨ k = 5 ∨ ((k == 1) = false ∧ (k == 2) = false ∧ (k == 3) = false ∧ (k == 4) = false ∧ (k == 5) = false) := by
  by_cases h1 : k = 1
  · exact .inl h1
  by_cases h2 : k = 2
  · exact .inr (.inl h2)
  by_cases h3 : k = 3
  · exact .inr (.inr (.inl h3))
  by_cases h4 : k = 4
  · exact .inr (.inr (.inr (.inl h4)))
  by_cases h5 : k = 5
  · exact .inr (.inr (.inr (.inr (.inl h5))))
  · simp [h1, h2, h3, h4, h5]

/-- Text, of bytes that lie anywhere but in the Writer. -/
theorem wtext_any (p : Nat) (a : Option Nat) (bs cs : List Nat) (g : Nat) (v : Value) (w : World) (h : Wr w p a bs) (hb : bs.length + 2000000 ≤ 1099511627776) (hc : IsB w g v cs) (hl : cs.length ≤ 1048576) (hg : g ∉ p :: a.toList) :
    Calls Try.prog 97 #[.pointer (some ⟨p, 0, none⟩), v] w fun e w' => e = .returned (.bool true) ∧ ∃ a', Wrote w p a w' a' (bs ++ be 4 cs.length ++ cs) :=
  wtext_w p a bs cs g v w h hb hc hl (fun e => hg (by simp [e])) (fun e => hg (by simp [e]))

theorem Inv.past {w wr : World} {vb : Value} {a : Option Nat} {bs cs : List Nat} (h : Inv w wr vb a bs cs) : ∀ x ∈ w.heap.size :: a.toList, w.heap.size ≤ x := by
  intro x hx
  rcases List.mem_cons.1 hx with rfl | hx
  · exact Nat.le_refl _
  · exact h.2.2.2.1 x (by cases a <;> simp_all)

theorem written_end {w wr w' : World} {vb v1 : Value} {a : Option Nat} {bs : List Nat} (hI : Inv w wr vb a bs bs) (h1 : Own w' v1 bs) (m : Moves [] wr w') (f : Fresh wr v1) :
    Own w' v1 bs ∧ Own w' vb bs ∧ Moves [] w w' ∧ Fresh w v1 ∧ Fresh w vb :=
  ⟨h1, hI.2.1.moves m (by simp), hI.2.2.1.then m, fun k hk => Nat.le_trans hI.2.2.1.size (f k hk), hI.2.2.2.2.1⟩

end Go.Proofs.Ytpofalalfemkhaa
