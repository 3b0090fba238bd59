/-
  Tables out of bytes: what is read.
-/
import Derived.Test.YtfhdodopjgfedaaGreatCBaseO
import Derived.Test.YtfhdodopjgfedaaGreatCTkR4
import Derived.Test.YtfhdodopjgfedaaGreatCSlF
namespace Go.Proofs.YtfhdodopjgfedaaGreat
open Go.RowKit

def dNam (bs : List Nat) : Option (Pnam × List Nat) := match dText 16 bs with
  | none => none
  | some (tx, b1) => match dGood tAny b1 with
    | none => none
    | some (R, b2) => some (⟨strOf tx, R⟩, b2)
theorem dNam_of {bs tx b1 b2 : List Nat} {R : List Pcol} (h1 : dText 16 bs = some (tx, b1)) (h2 : dGood tAny b1 = some (R, b2)) : dNam bs = some (⟨strOf tx, R⟩, b2) := by
  unfold dNam
  rw [h1]
  dsimp only
  rw [h2]
theorem dNam_no1 {bs : List Nat} (h1 : dText 16 bs = none) : dNam bs = none := by
  unfold dNam
  rw [h1]
theorem dNam_no2 {bs tx b1 : List Nat} (h1 : dText 16 bs = some (tx, b1)) (h2 : dGood tAny b1 = none) : dNam bs = none := by
  unfold dNam
  rw [h1]
  dsimp only
  rw [h2]
theorem TookR_ok {w w' : World} {p g : Nat} {bs rest : List Nat} {R : List Pcol} {e : Ending} (h : TookR w w' p g bs e) (hd : dGood tAny bs = some (R, rest)) : ∃ ad n cap, e = .returned (.agg #[.slice ad n cap]) ∧ GrowC w w' (.slice ad n cap) R ∧ RdIs w' p g rest false ∧ Moves [p] w w' := by
  rcases h with ⟨c', rest', ad, n, cap, h1, h2⟩ | ⟨h1, _⟩
  · rw [hd] at h1
    simp only [Option.some.injEq, Prod.mk.injEq] at h1
    obtain ⟨rfl, rfl⟩ := h1
    exact ⟨ad, n, cap, h2⟩
  · rw [hd] at h1; simp at h1
theorem TookR_no {w w' : World} {p g : Nat} {bs : List Nat} {e : Ending} (h : TookR w w' p g bs e) (hd : dGood tAny bs = none) : e = .panicked (stop p) ∧ ∃ bs', RdIs w' p g bs' true ∧ Moves [p] w w' := by
  rcases h with ⟨c', rest', ad, n, cap, h1, h2⟩ | ⟨_, h2⟩
  · rw [hd] at h1; simp at h1
  · exact h2

end Go.Proofs.YtfhdodopjgfedaaGreat
