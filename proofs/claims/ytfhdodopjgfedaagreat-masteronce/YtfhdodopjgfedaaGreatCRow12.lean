/-
  Rows that may be, as plain data: names rise, so that a row is parted by a name; what the document's own words and the program's come to.
-/
import Derived.Test.YtfhdodopjgfedaaGreatCRef5
namespace Go.Proofs.YtfhdodopjgfedaaGreat
open Go.RowKit

theorem nlt_trans {a b c : ByteArray} (h1 : nlt a b = true) (h2 : nlt b c = true) : nlt a c = true := by
  unfold nlt at *
  rw [bytesLess_eq] at *
  simp only [decide_eq_true_eq] at *
  exact List.lt_trans h1 h2
/-- Names that rise. -/
def Rise (R : List Pcol) : Prop := R.Pairwise (fun a b => nlt a.name b.name = true)

theorem rise_of_steps {R : List Pcol} (h : ∀ k x y, R[k]? = some x → R[k + 1]? = some y → nlt x.name y.name = true) : Rise R := by
  induction R with
  | nil => exact List.Pairwise.nil
  | cons a t ih =>
    have ht : Rise t := ih fun k x y hx hy => h (k + 1) x y (by simpa using hx) (by simpa using hy)
    refine List.Pairwise.cons (fun b hb => ?_) ht
    cases t with
    | nil => simp at hb
    | cons c t =>
      have h1 := h 0 a c rfl rfl
      rcases List.mem_cons.1 hb with rfl | hb
      · exact h1
      · exact nlt_trans h1 ((List.pairwise_cons.1 ht).1 b hb)
theorem pright_iff {R : List Pcol} : pright R = true ↔ R.length ≤ 4 ∧ Rise R ∧ ∀ x ∈ R, pname x.name = true ∧ prightV x.l = true := by
  constructor
  · intro h
    refine ⟨pright_len4 h, rise_of_steps fun k x y hx hy => ?_, fun x hx => pright_at h hx⟩
    have hl := (List.getElem?_eq_some_iff.1 hy).1
    have := pright_col h hl
    unfold colGood at this
    rw [hy] at this
    simp only [Nat.add_sub_cancel, hx, Bool.and_eq_true] at this
    simpa using this.2
  · rintro ⟨h1, h2, h3⟩
    refine pright_yes h1 fun j hj => ?_
    unfold colGood
    rw [List.getElem?_eq_getElem hj]
    have h4 := h3 _ (List.getElem_mem hj)
    simp only [h4.1, h4.2, Bool.true_and]
    cases j with
    | zero => rfl
    | succ j =>
      have hj' : j < R.length := by omega
      simp only [Nat.add_sub_cancel, List.getElem?_eq_getElem hj']
      simp
      exact List.pairwise_iff_getElem.1 h2 j (j + 1) hj' hj (by omega)

/-- What Copy leaves may be. -/
theorem pright_canon {R : List Pcol} (h : pright R = true) : pright (R.map pcanonC) = true := by
  obtain ⟨h1, h2, h3⟩ := pright_iff.1 h
  refine pright_iff.2 ⟨by simpa using h1, ?_, fun x hx => ?_⟩
  · unfold Rise
    rw [List.pairwise_map]
    exact h2
  · obtain ⟨y, hy, rfl⟩ := List.mem_map.1 hx
    exact ⟨(h3 y hy).1, prightV_canon (h3 y hy).2⟩
theorem pasked_of {R : List Pcol} (h : pright R = true) : pasked R = R := by unfold pasked; rw [h]; rfl
end Go.Proofs.YtfhdodopjgfedaaGreat
