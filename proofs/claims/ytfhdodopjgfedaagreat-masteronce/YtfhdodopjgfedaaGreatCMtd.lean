/-
  law11's known; what is held against what.
-/
import Derived.Test.YtfhdodopjgfedaaGreatCMtb
namespace Go.Proofs.YtfhdodopjgfedaaGreat
open Go.RowKit

theorem perm_sort {zs ys : List Ptb} (hp : zs.Perm ys) (hs : SortT zs) (hr : RiseZ (ys.map Ptb.lo)) : zs = ys := by
  have hr' : ys.Pairwise (fun a b => zlt a.lo b.lo = true) := by
    unfold RiseZ at hr
    rw [List.pairwise_map] at hr
    exact hr
  have hs2 : SortT ys := hr'.imp (fun h => zlt_asymm h)
  refine List.Perm.eq_of_pairwise (le := fun (a b : Ptb) => zlt b.lo a.lo = false) ?_ hs hs2 hp
  intro a b ha hb h1 h2
  have e := zlt_total h2 h1
  have ha' := hp.mem_iff.1 ha
  obtain ⟨i, hi, rfl⟩ := List.getElem_of_mem ha'
  obtain ⟨j, hj, rfl⟩ := List.getElem_of_mem hb
  rcases Nat.lt_trichotomy i j with h | h | h
  · have := List.pairwise_iff_getElem.1 hr' i j hi hj h
    rw [e, zlt_self] at this
    simp at this
  · subst h; rfl
  · have := List.pairwise_iff_getElem.1 hr' j i hj hi h
    rw [e, zlt_self] at this
    simp at this

def k11 : List Ptb := [⟨⟨#[]⟩, ⟨#[]⟩, 1, 1⟩]
theorem zbsl (a : Array UInt8) : (ByteArray.mk a).toList = a.toList := by rw [ByteArray.toList_eq]
theorem k11_may : mayT k11 = 0 := by
  simp only [mayT, k11, Ptb.sp, List.map_cons, List.map_nil, spCov, spK, spR, spB, spE, bz, zlt, zbsl]
  decide
theorem may_cov {xs : List Ptb} (h : mayT xs = 0) : spCov (xs.map Ptb.sp) = true ∧ xs.any tbBad = false ∧ xs.length ≤ 16 := by
  unfold mayT at h
  split at h
  · simp at h
  · rename_i h1
    split at h
    · simp at h
    · simp only [Bool.or_eq_true, Bool.not_eq_true', not_or, Bool.not_eq_false, Bool.not_eq_true] at h1
      exact ⟨h1.1, h1.2, by omega⟩
end Go.Proofs.YtfhdodopjgfedaaGreat
