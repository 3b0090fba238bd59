/-
  The function that 'reads' hands to Read: for every row of things and all bytes it comes to its end with both Readers at one place, or is left by the Reader's own panic at the first thing that cannot be read.
-/
import Derived.Test.YtmcgjfnilmadoaaReads1
import Derived.RegionDies
import Derived.Deep.RegionHeld3
namespace Go.Proofs.Ytmcgjfnilmadoaa
open Go.RowKit

theorem kind_ways6 (k : Int) : k = 1 ∨ k = 2 ∨ k = 3 ∨ k = 4 ∨ k = 5 ∨ k = 6 ∨ ((k == 1) = false ∧ (k == 2) = false ∧ (k == 3) = false ∧ (k == 4) = false ∧ (k == 5) = false ∧ (k == 6) = false) := by
  rcases kind_ways k with h | h | h | h | h | ⟨h1, h2, h3, h4, h5⟩
  · exact .inl h
  · exact .inr (.inl h)
  · exact .inr (.inr (.inl h))
  · exact .inr (.inr (.inr (.inl h)))
  · exact .inr (.inr (.inr (.inr (.inl h))))
  · by_cases h6 : k = 6
    · exact .inr (.inr (.inr (.inr (.inr (.inl h6)))))
    · exact .inr (.inr (.inr (.inr (.inr (.inr ⟨h1, h2, h3, h4, h5, by simp [h6]⟩)))))

/-- A row of the call's own is none of the document's Reader. -/
theorem text_far {w : World} {v : Value} {bs cs : List Nat} {q g : Nat} {b : Bool} (h : Own w v bs) (hf : RfIs w q g cs b) : ∀ k, v.ownBlock = some k → k ∉ [q] := by
  intro k hk
  obtain ⟨_, hq, _⟩ := hf
  have := h.ne hq (by decide)
  simp
  intro e
  subst e
  exact this hk

/-- What the function leaves. -/
def Done1 (w0 : World) (p g ql qs qr qa q : Nat) (lv : Value) (L : List AskM) (e : Ending) (w' : World) : Prop :=
  (e = .returned (.tuple #[]) ∧ ∃ bs', RInv w0 w' p g ql qs qr qa q lv bs' (min L.length 15) false) ∨
  (e = .panicked (stop p) ∧ ∃ bs' k A, k < 15 ∧ L[k]? = some A ∧ RInv w0 w' p g ql qs qr qa q lv bs' k true ∧ (A.kind = 6 ∨ fails A.kind A.most bs') ∧ bs'.length ≤ 1099511627776 ∧ ∀ z ∈ bs', z < 256)

theorem S_set4 {w : World} {qs qr q : Nat} {rv bv sv : Value} {t : Bool} (ht : t = true) (h1 : w.cell? ⟨qs, 0, none⟩ = some (.bool true)) (h2 : w.cell? ⟨qr, 0, none⟩ = some rv) (h3 : w.cell? ⟨q, 1, none⟩ = some bv) (h4 : w.cell? ⟨q, 0, none⟩ = some sv) (hr : qr ≠ qs) (hq : q ≠ qs) :
    (w.setCell ⟨qs, 0, none⟩ (.bool t)).cell? ⟨qs, 0, none⟩ = some (.bool true) ∧ (w.setCell ⟨qs, 0, none⟩ (.bool t)).cell? ⟨qr, 0, none⟩ = some rv ∧ (w.setCell ⟨qs, 0, none⟩ (.bool t)).cell? ⟨q, 1, none⟩ = some bv ∧ (w.setCell ⟨qs, 0, none⟩ (.bool t)).cell? ⟨q, 0, none⟩ = some sv :=
  let h := S_set ht h1 h2 h3 hr hq
  let h' := S_set ht h1 h2 h4 hr hq
  ⟨h.1, h.2.1, h.2.2, h'.2.2⟩

theorem S_set4d {w : World} {qs qr q : Nat} {rv bv sv : Value} (h1 : w.cell? ⟨qs, 0, none⟩ = some (.bool true)) (h2 : w.cell? ⟨qr, 0, none⟩ = some rv) (h3 : w.cell? ⟨q, 1, none⟩ = some bv) (h4 : w.cell? ⟨q, 0, none⟩ = some sv) (hr : qr ≠ qs) (hq : q ≠ qs) :
    (w.setCell ⟨qs, 0, none⟩ (.bool true)).drew.cell? ⟨qs, 0, none⟩ = some (.bool true) ∧ (w.setCell ⟨qs, 0, none⟩ (.bool true)).drew.cell? ⟨qr, 0, none⟩ = some rv ∧ (w.setCell ⟨qs, 0, none⟩ (.bool true)).drew.cell? ⟨q, 1, none⟩ = some bv ∧ (w.setCell ⟨qs, 0, none⟩ (.bool true)).drew.cell? ⟨q, 0, none⟩ = some sv :=
  S_set4 rfl h1 h2 h3 h4 hr hq

theorem S_set5 {w : World} {qs qr ql b o : Nat} {rv lv mv : Value} {t : Bool} (ht : t = true) (h1 : w.cell? ⟨qs, 0, none⟩ = some (.bool true)) (h2 : w.cell? ⟨qr, 0, none⟩ = some rv) (h3 : w.cell? ⟨ql, 0, none⟩ = some lv) (h4 : w.cell? ⟨b, o, none⟩ = some mv) (hr : qr ≠ qs) (hl : ql ≠ qs) (hb : b ≠ qs) :
    (w.setCell ⟨qs, 0, none⟩ (.bool t)).cell? ⟨qs, 0, none⟩ = some (.bool true) ∧ (w.setCell ⟨qs, 0, none⟩ (.bool t)).cell? ⟨qr, 0, none⟩ = some rv ∧ (w.setCell ⟨qs, 0, none⟩ (.bool t)).cell? ⟨ql, 0, none⟩ = some lv ∧ (w.setCell ⟨qs, 0, none⟩ (.bool t)).cell? ⟨b, o, none⟩ = some mv :=
  let h := S_set ht h1 h2 h3 hr hl
  let h' := S_set ht h1 h2 h4 hr hb
  ⟨h.1, h.2.1, h.2.2, h'.2.2⟩

/-- What is left where the program's Reader has failed. -/
def FailPost (w0 : World) (p g ql qs qr qa q : Nat) (lv : Value) (bs : List Nat) (k : Nat) : Exit → Act → World → Prop
  | .panic c, a, w => c = stop p ∧ a.defers = [] ∧ RInv w0 w p g ql qs qr qa q lv bs k true
  | _, _, _ => False

/-- The first loop of a function's text. -/
def firstLoop : Code → Option Code
  | .loop c => some c
  | .seq a b => match firstLoop a with
    | some c => some c
    | none => firstLoop b
  | .block _ c => firstLoop c
  | .scope c => firstLoop c
  | .cond _ a b => match firstLoop a with
    | some c => some c
    | none => firstLoop b
  | _ => none

/-- The round of the function that 'reads' hands to Read. -/
noncomputable def body31 : Code := ((Try.f31.body.bind firstLoop).getD .skip)

end Go.Proofs.Ytmcgjfnilmadoaa
