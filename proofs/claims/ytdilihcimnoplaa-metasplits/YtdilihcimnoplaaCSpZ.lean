/-
  Lists of texts: as they are handed in, and of the call's own.
-/
import Derived.Test.YtdilihcimnoplaaCSpV
import Derived.Test.YtdilihcimnoplaaCBaseR
namespace Go.Proofs.Ytdilihcimnoplaa
open Go.RowKit
open Go.ChangeShapes Go.WideShapes

/-- These texts lie there, one behind the other. -/
def StrsAt (w : World) (ad : Option Addr) (ss : List ByteArray) : Prop := ∀ (k : Nat) s, ss[k]? = some s → ∃ g off, ad = some ⟨g, off, none⟩ ∧ w.cell? ⟨g, off + k, none⟩ = some (.string s)
/-- A list of texts that was handed in. -/
def ZArgs (W : World) (v : Value) : Prop := ∃ ad ss cap, v = .slice ad ss.length cap ∧ ss.length ≤ cap ∧ (ad = none → cap = 0) ∧ StrsAt W ad ss
set_option maxRecDepth 100000 in
theorem zargs_of_raw {H : Type} {enc : TypeId × Value → H} {W : World} {base fuel : Nat} {spare : Nat → Bool} {held : Bool} {v : Value} {x : DataW H × List MemPlace}
    (h : DataW.trod enc Try.prog W base spare held fuel 49 [v] = some x) : ZArgs W v := by
  rcases Go.Deep.open_slice1 Try.underlying49 (by kernel_rfl) h with ⟨hcs, _⟩ | ⟨ad, len, cap, m, n, V, D, Pls, hcs, _, hl, hm, hmm, _, hx⟩
  · simp at hcs
    subst hcs
    exact ⟨none, [], 0, rfl, Nat.le_refl _, fun _ => rfl, fun k s hs => by simp at hs⟩
  · simp at hcs
    subst hcs
    have hlm : len ≤ m := by rw [hmm]; split <;> omega
    have key : ∀ k, k < len → ∃ s : ByteArray, ∃ b off, ad = ⟨b, off, none⟩ ∧ W.cell? ⟨b, off + k, none⟩ = some (.string s) := by
      intro k hk
      obtain ⟨hc, hd⟩ := hx k (by omega)
      obtain ⟨z, hz⟩ := str_of_trod hd
      have hsp := World.cell?_spot (hx 0 (by omega)).1
      obtain ⟨b, off, spot⟩ := ad
      obtain rfl : spot = none := by simpa [Addr.add] using hsp
      have e : (⟨b, off, none⟩ : Addr).add k = ⟨b, off + k, none⟩ := by unfold Addr.add; split <;> simp_all
      rw [e, hz] at hc
      exact ⟨z, b, off, rfl, hc⟩
    refine ⟨some ad, List.ofFn (fun i : Fin len => Classical.choose (key i.1 i.2)), cap, by simp, by simpa using hl, fun h => by simp at h, fun k s hs => ?_⟩
    rw [List.getElem?_ofFn] at hs
    split at hs
    · rename_i hk
      simp at hs
      obtain ⟨b, off, e, hc⟩ := Classical.choose_spec (key k hk)
      rw [hs] at hc
      exact ⟨b, off, by rw [e], hc⟩
    · simp at hs
set_option maxRecDepth 100000 in
theorem zargs_of_trod {H : Type} {enc : TypeId × Value → H} {W : World} {base b0 : Nat} {r : Reach} {spare : Nat → Bool} {held : Bool} {v : Value} {d : DataW H} {p : List MemPlace}
    (hv : Value.okWide Try.prog W r b0 49 v) (h : DataW.Trod enc Try.prog W base spare held 49 v d p) : ZArgs W v := by
  obtain ⟨a, len, cap, rfl⟩ := okWide_slice Try.underlying49 hv
  obtain ⟨fuel, hf⟩ := h
  exact zargs_of_raw (by simpa [Value.cells] using hf)

end Go.Proofs.Ytdilihcimnoplaa
