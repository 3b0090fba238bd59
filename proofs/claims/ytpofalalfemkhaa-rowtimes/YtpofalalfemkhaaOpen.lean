/-
  Arguments opened: a slice of bytes and a slice of things to be written or read, as the rows' reading finds them in memory.
-/
import Derived.Test.YtpofalalfemkhaaBack1
import Derived.Deep.Slices
import Derived.Deep.Fields
namespace Go.Proofs.Ytpofalalfemkhaa
open Go.RowKit
open Go.ChangeShapes Go.WideShapes

theorem isB_of_trod {H : Type} {enc : TypeId × Value → H} {W : World} {base : Nat} {spare : Nat → Bool} {held : Bool} {fuel : Nat} {v : Value} {x : DataW H × List MemPlace}
    (h : DataW.trod enc Try.prog W base spare held fuel 25 [v] = some x) : ∃ g bs, IsB W g v bs ∧ ∀ z ∈ bs, z < 256 := by
  rcases Go.Deep.open_slice1 Try.underlying25 (by kernel_rfl) h with ⟨hcs, _⟩ | ⟨ad, len, cap, m, n, V, D, Pls, hcs, _, hl, hm, hmm, _, hx⟩
  · simp at hcs
    subst hcs
    exact ⟨0, [], ⟨_, _, _, rfl, rfl, Nat.le_refl _, fun _ => rfl, .inl rfl⟩, by simp⟩
  · simp at hcs
    subst hcs
    have hlm : len ≤ m := by rw [hmm]; split <;> omega
    have each : ∀ i, i < len → ∃ b : Nat, b < 256 ∧ V i = .int .u8 (b : Int) := by
      intro i hi
      obtain ⟨_, hd⟩ := hx i (by omega)
      obtain ⟨z, hz, _, hw⟩ := DataW.trod_int Try.underlying5 hd
      simp at hz
      have hb : 0 ≤ z ∧ z ≤ 255 := by simpa [Lit.wf, IntKind.min, IntKind.max, IntKind.signed, IntKind.bits] using hw
      exact ⟨z.toNat, by omega, by rw [hz]; congr 1; omega⟩
    obtain ⟨f, hf⟩ := Go.Deep.choose_lt each
    refine ⟨ad.block, (List.range len).map f, ⟨_, _, _, rfl, by simp, hl, fun h => by simp at h, ?_⟩, ?_⟩
    · by_cases h0 : len = 0
      · subst h0; exact .inl rfl
      · have c0 := (hx 0 (by omega)).1
        obtain ⟨b, off, spot⟩ := ad
        have hspot : spot = none := by simpa [Addr.add] using World.cell?_spot c0
        subst hspot
        refine .inr ⟨off, rfl, fun j z hj => ?_⟩
        have hjl : j < len := by
          have := (List.getElem?_eq_some_iff.1 hj).1
          simpa using this
        have hz : z = f j := by
          simp [hjl] at hj
          exact hj.symm
        have cj := (hx j (by omega)).1
        have e : (⟨b, off, none⟩ : Addr).add j = ⟨b, off + j, none⟩ := by unfold Addr.add; split <;> simp_all
        rw [e, (hf j hjl).2, ← hz] at cj
        exact cj
    · intro z hz
      simp at hz
      obtain ⟨j, hj, rfl⟩ := hz
      exact (hf j hj).1

theorem float_of_trod {H : Type} {enc : TypeId × Value → H} {W : World} {base : Nat} {spare : Nat → Bool} {held : Bool} {fuel : Nat} {v : Value} {x : DataW H × List MemPlace}
    (h : DataW.trod enc Try.prog W base spare held fuel 37 [v] = some x) : ∃ b : Nat, Pl.Fits b ∧ v = .float .f64 b := by
  cases fuel with
  | zero => simp [DataW.trod] at h
  | succ n =>
    simp only [DataW.trod, Try.underlying37] at h
    cases v <;> simp at h
    rename_i k b
    obtain ⟨⟨rfl, hwf⟩, _⟩ := h
    exact ⟨b, Pl.fits_of_wf hwf, rfl⟩

end Go.Proofs.Ytpofalalfemkhaa
