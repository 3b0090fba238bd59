/-
  What covers all: split, joined it covers all; each name is in just one; no two meet. Plain facts.
-/
import Derived.Test.YtfhdodopjgfedaaGreatCSp11
import Derived.Test.YtfhdodopjgfedaaGreatCSpS
namespace Go.Proofs.YtfhdodopjgfedaaGreat
open Go.RowKit

theorem spK_split {s : Psp} {t : ByteArray} (h : spC s t = true) (post : List Psp) : ∀ (pre : List Psp) (hi : ByteArray), spK hi (pre ++ (⟨s.lo, t⟩ : Psp) :: ⟨t, s.hi⟩ :: post) = spK hi (pre ++ s :: post)
  | [], hi => by
    obtain ⟨h1, h2⟩ := split_R h
    obtain ⟨g1, _, _, _, g5⟩ := spC_split h
    simp only [List.nil_append, spK]
    rw [h1, h2, g1, g5, zeq_iff.2 rfl]
    simp
  | p :: pre, hi => by
    simp only [List.cons_append, spK]
    rw [spK_split h post pre]
theorem spCov_split {s : Psp} {t : ByteArray} (h : spC s t = true) (pre post : List Psp) : spCov (pre ++ (⟨s.lo, t⟩ : Psp) :: ⟨t, s.hi⟩ :: post) = spCov (pre ++ s :: post) := by
  cases pre with
  | nil =>
    obtain ⟨h1, h2⟩ := split_R h
    obtain ⟨g1, _, _, _, g5⟩ := spC_split h
    simp only [List.nil_append, spCov, spK]
    rw [h1, h2, g1, g5, zeq_iff.2 rfl]
    simp
  | cons p pre =>
    simp only [List.cons_append, spCov]
    rw [spK_split h post pre]
theorem spK_join {s1 s2 : Psp} (post : List Psp) : ∀ (pre : List Psp) (hi : ByteArray), spK hi (pre ++ s1 :: s2 :: post) = true → spJ s1 s2 = true ∧ spK hi (pre ++ (⟨s1.lo, s2.hi⟩ : Psp) :: post) = true
  | [], hi, h => by
    simp only [List.nil_append, spK, Bool.and_eq_true, Bool.not_eq_true'] at h
    obtain ⟨⟨⟨h1, h2⟩, h3⟩, ⟨⟨h4, h5⟩, h6⟩, h7⟩ := h
    have hj : spJ s1 s2 = true := by unfold spJ; rw [h3, h6, h4, h5]; rfl
    refine ⟨hj, ?_⟩
    simp only [List.nil_append, spK]
    rw [h1, h2, join_R hj, h7]
    rfl
  | p :: pre, hi, h => by
    simp only [List.cons_append, spK, Bool.and_eq_true] at h ⊢
    obtain ⟨h1, h2⟩ := spK_join post pre _ h.2
    exact ⟨h1, h.1, h2⟩
theorem spCov_join {s1 s2 : Psp} (pre post : List Psp) (h : spCov (pre ++ s1 :: s2 :: post) = true) : spJ s1 s2 = true ∧ spCov (pre ++ (⟨s1.lo, s2.hi⟩ : Psp) :: post) = true := by
  cases pre with
  | nil =>
    simp only [List.nil_append, spCov, spK, Bool.and_eq_true, Bool.not_eq_true'] at h
    obtain ⟨⟨h3, h1⟩, ⟨⟨h4, h5⟩, h6⟩, h7⟩ := h
    have hj : spJ s1 s2 = true := by unfold spJ; rw [h3, h6, h4, h5]; rfl
    refine ⟨hj, ?_⟩
    simp only [List.nil_append, spCov]
    rw [h1, join_R hj, h7]
    rfl
  | cons p pre =>
    simp only [List.cons_append, spCov, Bool.and_eq_true] at h ⊢
    obtain ⟨h1, h2⟩ := spK_join post pre _ h.2
    exact ⟨h1, h.1, h2⟩
end Go.Proofs.YtfhdodopjgfedaaGreat
