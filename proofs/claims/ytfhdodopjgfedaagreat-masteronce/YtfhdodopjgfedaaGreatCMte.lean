/-
  MetaSplits' walk.
-/
import Derived.Test.YtfhdodopjgfedaaGreatCMtc
import Derived.Test.YtfhdodopjgfedaaGreatCMtd
import Derived.Test.YtfhdodopjgfedaaGreatCOpen7
import Derived.Test.YtfhdodopjgfedaaGreatCPeel
namespace Go.Proofs.YtfhdodopjgfedaaGreat
open Go.RowKit

/-- One behind the other: where the one ends the other begins; the last ends nowhere. -/
theorem spK_next : ∀ (t : List Ptb) (hi : ByteArray), spK hi (t.map Ptb.sp) = true → (∀ i x y, t[i]? = some x → t[i + 1]? = some y → bz x.hi = false ∧ x.hi = y.lo) ∧ (∀ i x, t[i]? = some x → i + 1 = t.length → bz x.hi = true) ∧ (∀ y, t[0]? = some y → bz hi = false ∧ hi = y.lo) ∧ (t = [] → bz hi = true)
  | [], hi, h => ⟨fun i x y hx => by simp at hx, fun i x hx => by simp at hx, fun y hy => by simp at hy, fun _ => h⟩
  | a :: t, hi, h => by
    simp only [List.map_cons, spK, Bool.and_eq_true, Bool.not_eq_true'] at h
    obtain ⟨⟨⟨h1, h2⟩, h3⟩, h4⟩ := h
    obtain ⟨p1, p2, p3, p4⟩ := spK_next t a.hi h4
    refine ⟨fun i x y hx hy => ?_, fun i x hx hi' => ?_, fun y hy => ?_, fun e => by simp at e⟩
    · match i, hx, hy with
      | 0, hx, hy => simp at hx; subst hx; exact p3 y (by simpa using hy)
      | i + 1, hx, hy => exact p1 i x y (by simpa using hx) (by simpa using hy)
    · match i, hx with
      | 0, hx => simp at hx hi'; subst hx; exact p4 hi'
      | i + 1, hx => exact p2 i x (by simpa using hx) (by simpa using hi')
    · simp at hy; subst hy; exact ⟨h1, zeq_iff.1 h2⟩
theorem cov_next {xs : List Ptb} (h : spCov (xs.map Ptb.sp) = true) : (∀ i x y, xs[i]? = some x → xs[i + 1]? = some y → bz x.hi = false ∧ x.hi = y.lo) ∧ (∀ i x, xs[i]? = some x → i + 1 = xs.length → bz x.hi = true) := by
  cases xs with
  | nil => simp [spCov] at h
  | cons a t =>
    simp only [List.map_cons, spCov, Bool.and_eq_true] at h
    obtain ⟨⟨h1, h2⟩, h4⟩ := h
    obtain ⟨p1, p2, p3, p4⟩ := spK_next t a.hi h4
    refine ⟨fun i x y hx hy => ?_, fun i x hx hi' => ?_⟩
    · match i, hx, hy with
      | 0, hx, hy => simp at hx; subst hx; exact p3 y (by simpa using hy)
      | i + 1, hx, hy => exact p1 i x y (by simpa using hx) (by simpa using hy)
    · match i, hx with
      | 0, hx => simp at hx hi'; subst hx; exact p4 hi'
      | i + 1, hx => exact p2 i x (by simpa using hx) (by simpa using hi')
/-- The tablet that has a name. -/
theorem last_has {xs : List Ptb} (h : spCov (xs.map Ptb.sp) = true) {s : ByteArray} {i : Nat} (hi : LastZ (xs.map Ptb.lo) s i) {x : Ptb} (hx : xs[i]? = some x) : spH x.sp s = true := by
  obtain ⟨c1, c2⟩ := cov_next h
  have hl : (xs.map Ptb.lo)[i]? = some x.lo := by rw [List.getElem?_map, hx]; rfl
  have a1 := hi.lo i x.lo hl (Nat.le_refl _)
  unfold spH spB
  rw [show x.sp.lo = x.lo from rfl, show x.sp.hi = x.hi from rfl, a1]
  by_cases hlast : i + 1 = xs.length
  · rw [c2 i x hx hlast]; rfl
  · have hlt := hi.lt
    simp only [List.length_map] at hlt
    obtain ⟨y, hy⟩ : ∃ y, xs[i + 1]? = some y := ⟨_, List.getElem?_eq_getElem (by omega)⟩
    obtain ⟨e1, e2⟩ := c1 i x y hx hy
    have a2 := hi.hi (i + 1) y.lo (by rw [List.getElem?_map, hy]; rfl) (by omega)
    rw [e2, a2]
    simp
theorem may_ne {xs : List Ptb} (h : mayT xs = 0) : xs ≠ [] := by
  rintro rfl
  simp [mayT, spCov] at h

end Go.Proofs.YtfhdodopjgfedaaGreat
