/-
  Package master as plain data: what plans make of tablets, and that it covers all names.
-/
import Derived.Test.YtfhdodopjgfedaaGreatCMtd
import Derived.Test.YtfhdodopjgfedaaGreatCMtj
import Derived.Test.YtfhdodopjgfedaaGreatCMtm
import Derived.Test.YtfhdodopjgfedaaGreatCSpV
import Derived.Test.YtfhdodopjgfedaaGreatCAm6
namespace Go.Proofs.YtfhdodopjgfedaaGreat
open Go.RowKit

theorem spB_lt {s : Psp} {n : ByteArray} (h : spB s n = true) (hb : bz s.hi = false) : zlt n s.hi = true := by
  unfold spB at h
  rw [hb, Bool.false_or] at h
  exact h
/-- What stands ahead ends where the next begins, or ahead of it. -/
theorem cov_ahead {A D : List Ptb} {t a : Ptb} (h : spCov ((A ++ t :: D).map Ptb.sp) = true) (ha : a ∈ A) : bz a.hi = false ∧ zlt t.lo a.hi = false := by
  obtain ⟨k, hk, rfl⟩ := List.getElem_of_mem ha
  obtain ⟨hr, _⟩ := cov_rise h
  obtain ⟨hn, _⟩ := cov_next h
  have e0 : (A ++ t :: D)[k]? = some A[k] := by rw [List.getElem?_append_left hk, List.getElem?_eq_getElem hk]
  have et : (A ++ t :: D)[A.length]? = some t := by rw [List.getElem?_append_right (Nat.le_refl _)]; simp
  by_cases h1 : k + 1 < A.length
  · have e1 : (A ++ t :: D)[k + 1]? = some A[k + 1] := by rw [List.getElem?_append_left h1, List.getElem?_eq_getElem h1]
    obtain ⟨n1, n2⟩ := hn k _ _ e0 e1
    refine ⟨n1, ?_⟩
    rw [n2]
    have a1 : ((A ++ t :: D).map Ptb.lo)[k + 1]? = some A[k + 1].lo := by rw [List.getElem?_map, e1]; rfl
    have a2 : ((A ++ t :: D).map Ptb.lo)[A.length]? = some t.lo := by rw [List.getElem?_map, et]; rfl
    obtain ⟨q1, r1⟩ := List.getElem?_eq_some_iff.1 a1
    obtain ⟨q2, r2⟩ := List.getElem?_eq_some_iff.1 a2
    have := List.pairwise_iff_getElem.1 hr (k + 1) A.length q1 q2 (by omega)
    rw [r1, r2] at this
    exact zlt_asymm this
  · have e1 : (A ++ t :: D)[k + 1]? = some t := by rw [show k + 1 = A.length by omega]; exact et
    obtain ⟨n1, n2⟩ := hn k _ _ e0 e1
    refine ⟨n1, ?_⟩
    rw [n2]
    exact zlt_self _
/-- What stands behind begins where that ends, or behind it. -/
theorem cov_behind {A D : List Ptb} {t d : Ptb} (h : spCov ((A ++ t :: D).map Ptb.sp) = true) (hd : d ∈ D) : bz t.hi = false ∧ zlt d.lo t.hi = false := by
  obtain ⟨k, hk, rfl⟩ := List.getElem_of_mem hd
  obtain ⟨hr, _⟩ := cov_rise h
  obtain ⟨hn, _⟩ := cov_next h
  have et : (A ++ t :: D)[A.length]? = some t := by rw [List.getElem?_append_right (Nat.le_refl _)]; simp
  have e1 : (A ++ t :: D)[A.length + 1]? = some D[0] := by rw [List.getElem?_append_right (by omega)]; simp
  have ek : (A ++ t :: D)[A.length + 1 + k]? = some D[k] := by rw [List.getElem?_append_right (by omega), show A.length + 1 + k - A.length = k + 1 by omega]; simp
  obtain ⟨n1, n2⟩ := hn _ _ _ et e1
  refine ⟨n1, ?_⟩
  rw [n2]
  cases k with
  | zero => exact zlt_self _
  | succ k =>
    have a1 : ((A ++ t :: D).map Ptb.lo)[A.length + 1]? = some D[0].lo := by rw [List.getElem?_map, e1]; rfl
    have a2 : ((A ++ t :: D).map Ptb.lo)[A.length + 1 + (k + 1)]? = some D[k + 1].lo := by rw [List.getElem?_map, ek]; rfl
    obtain ⟨q1, r1⟩ := List.getElem?_eq_some_iff.1 a1
    obtain ⟨q2, r2⟩ := List.getElem?_eq_some_iff.1 a2
    have := List.pairwise_iff_getElem.1 hr _ _ q1 q2 (by omega)
    rw [r1, r2] at this
    exact zlt_asymm this

/-- Some that lie within t meet nothing that stands ahead of t, or behind it. -/
theorem within_ahead {A D : List Ptb} {t : Ptb} {ys : List Ptb} (h : spCov ((A ++ t :: D).map Ptb.sp) = true) (hy : ∀ y ∈ ys, zlt y.lo t.lo = false) : ∀ a ∈ A, tbMeet ys a = false := by
  intro a ha
  cases hm : tbMeet ys a with
  | false => rfl
  | true =>
    exfalso
    obtain ⟨y, hyy, h1, h2⟩ := meet_parts hm
    obtain ⟨c1, c2⟩ := cov_ahead h ha
    rw [c1, Bool.false_or] at h1
    have := zlt_le h1 c2
    rw [hy y hyy] at this
    simp at this
theorem within_behind {A D : List Ptb} {t : Ptb} {ys : List Ptb} (h : spCov ((A ++ t :: D).map Ptb.sp) = true) (hy : ∀ y ∈ ys, bz t.hi = true ∨ (bz y.hi = false ∧ zlt t.hi y.hi = false)) : D.filter (fun x => !tbMeet ys x) = D := by
  rw [List.filter_eq_self]
  intro d hd
  cases hm : tbMeet ys d with
  | false => rfl
  | true =>
    exfalso
    obtain ⟨y, hyy, h1, h2⟩ := meet_parts hm
    obtain ⟨c1, c2⟩ := cov_behind h hd
    rcases hy y hyy with e | ⟨e1, e2⟩
    · rw [c1] at e; simp at e
    · rw [e1, Bool.false_or] at h2
      rw [zle_trans e2 c2] at h2
      simp at h2
theorem meets_self {A D : List Ptb} {t : Ptb} {ys : List Ptb} (h : spCov ((A ++ t :: D).map Ptb.sp) = true) (hR : ∀ y ∈ ys, spR y.sp = true) (hy : ∃ y ∈ ys, spH y.sp t.lo = true) : tbMeet ys t = true := by
  refine has_meet hR ?_ hy
  exact cov_R h _ (by simp)
end Go.Proofs.YtfhdodopjgfedaaGreat
