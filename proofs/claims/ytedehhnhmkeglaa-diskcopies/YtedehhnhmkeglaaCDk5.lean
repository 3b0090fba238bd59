/-
  Lists of rows of bytes, and of calls of disks, as they are handed in.
-/
import Derived.Test.YtedehhnhmkeglaaCB06
import Derived.Test.YtedehhnhmkeglaaCB01
namespace Go.Proofs.Ytedehhnhmkeglaa
open Go.RowKit
open Go.ChangeShapes Go.WideShapes

set_option maxRecDepth 100000 in
theorem lsb_of_raw {H : Type} {enc : TypeId × Value → H} {W : World} {base fuel : Nat} {spare : Nat → Bool} {held : Bool} {v : Value} {x : DataW H × List MemPlace}
    (h : DataW.trod enc Try.prog W base spare held fuel 26 [v] = some x) : ∃ bss, LsB W v bss := by
  rcases Go.Deep.open_slice1 Try.underlying26 (by kernel_rfl) h with ⟨hcs, _⟩ | ⟨ad, len, cap, m, n, V, D, Pls, hcs, _, hl, hm, hmm, _, hx⟩
  · simp at hcs
    subst hcs
    exact ⟨[], LsB.nil _⟩
  · simp at hcs
    subst hcs
    have hlm : len ≤ m := by rw [hmm]; split <;> omega
    have key : ∀ k, k < len → ∃ bs : List Nat, (∃ g, IsB W g (V k) bs) ∧ (∀ b ∈ bs, b < 256) ∧ ∃ b off, ad = ⟨b, off, none⟩ ∧ W.cell? ⟨b, off + k, none⟩ = some (V k) := by
      intro k hk
      obtain ⟨hc, hd⟩ := hx k (by omega)
      obtain ⟨g, bs, hB, ho⟩ := isB_of_trod hd
      have hsp := World.cell?_spot (hx 0 (by omega)).1
      obtain ⟨b, off, spot⟩ := ad
      obtain rfl : spot = none := by simpa [Addr.add] using hsp
      have e : (⟨b, off, none⟩ : Addr).add k = ⟨b, off + k, none⟩ := by unfold Addr.add; split <;> simp_all
      rw [e] at hc
      exact ⟨bs, ⟨g, hB⟩, ho, b, off, rfl, hc⟩
    obtain ⟨F, hF⟩ := Go.Deep.choose_lt key
    refine ⟨(List.range len).map F, some ad, (List.range len).map V, cap, by simp, by simpa using hl, fun h => by simp at h, fun k s hs => ?_, ?_⟩
    · have hk : k < len := by
        have := (List.getElem?_eq_some_iff.1 hs).1
        simpa using this
      simp [hk] at hs
      subst hs
      obtain ⟨_, _, b, off, e, hc⟩ := hF k hk
      exact ⟨b, off, by rw [e], hc⟩
    · have : ∀ l : List Nat, (∀ k ∈ l, k < len) → BsV W (l.map V) (l.map F) := by
        intro l hl
        induction l with
        | nil => trivial
        | cons a t ih =>
          obtain ⟨h1, h2, _⟩ := hF a (hl a (by simp))
          exact ⟨⟨h1, h2⟩, ih (fun k hk => hl k (by simp [hk]))⟩
      exact this _ (fun k hk => by simpa using hk)
set_option maxRecDepth 100000 in
theorem lsb_of_trod {H : Type} {enc : TypeId × Value → H} {W : World} {base b0 : Nat} {r : Reach} {spare : Nat → Bool} {held : Bool} {v : Value} {d : DataW H} {p : List MemPlace}
    (hv : Value.okWide Try.prog W r b0 26 v) (h : DataW.Trod enc Try.prog W base spare held 26 v d p) : ∃ bss, LsB W v bss := by
  obtain ⟨a, len, cap, rfl⟩ := okWide_slice Try.underlying26 hv
  obtain ⟨fuel, hf⟩ := h
  exact lsb_of_raw (by simpa [Value.cells] using hf)
end Go.Proofs.Ytedehhnhmkeglaa
