/-
  Arguments opened: integers, lists of integers, strings, lists of strings.
-/
import Derived.Test.YtgeadpmnnjfkkaaCBaseC
import Derived.Deep.Slices
import Derived.Deep.Fields
import Derived.ChangeShapes
namespace Go.Proofs.Ytgeadpmnnjfkkaa
open Go.RowKit
open Go.ChangeShapes Go.WideShapes

theorem str_of_trod {H : Type} {enc : TypeId × Value → H} {W : World} {base : Nat} {spare : Nat → Bool} {held : Bool} {fuel : Nat} {v : Value} {x : DataW H × List MemPlace}
    (h : DataW.trod enc Try.prog W base spare held fuel 9 [v] = some x) : ∃ s : ByteArray, v = .string s := by
  cases fuel with
  | zero => simp [DataW.trod] at h
  | succ n =>
    simp only [DataW.trod, Try.underlying9] at h
    cases v <;> simp at h
    rename_i b
    exact ⟨b, rfl⟩

/-- A list of integers. -/
def IArgs (W : World) (v : Value) : Prop := ∃ ad len cap, v = .slice ad len cap ∧ len ≤ cap ∧ ∀ k, k < len → ∃ b off n, ad = some ⟨b, off, none⟩ ∧ W.cell? ⟨b, off + k, none⟩ = some (.int .i64 n)
set_option maxRecDepth 100000 in
theorem iargs_of_raw {H : Type} {enc : TypeId × Value → H} {W : World} {base fuel : Nat} {spare : Nat → Bool} {held : Bool} {v : Value} {x : DataW H × List MemPlace}
    (h : DataW.trod enc Try.prog W base spare held fuel 30 [v] = some x) : IArgs W v := by
  rcases Go.Deep.open_slice1 Try.underlying30 (by kernel_rfl) h with ⟨hcs, _⟩ | ⟨ad, len, cap, m, n, V, D, Pls, hcs, _, hl, hm, hmm, _, hx⟩
  · simp at hcs
    subst hcs
    exact ⟨none, 0, 0, rfl, Nat.le_refl _, fun k hk => absurd hk (by omega)⟩
  · simp at hcs
    subst hcs
    have hlm : len ≤ m := by rw [hmm]; split <;> omega
    refine ⟨_, _, _, rfl, hl, fun k hk => ?_⟩
    obtain ⟨hc, hd⟩ := hx k (by omega)
    obtain ⟨z, hz, _, _⟩ := DataW.trod_int Try.underlying3 hd
    simp at hz
    have hsp := World.cell?_spot (hx 0 (by omega)).1
    obtain ⟨b, off, spot⟩ := ad
    obtain rfl : spot = none := by simpa [Addr.add] using hsp
    have e : (⟨b, off, none⟩ : Addr).add k = ⟨b, off + k, none⟩ := by unfold Addr.add; split <;> simp_all
    rw [e, hz] at hc
    exact ⟨b, off, z, rfl, hc⟩

set_option maxRecDepth 100000 in
theorem iargs_of_trod {H : Type} {enc : TypeId × Value → H} {W : World} {base b0 : Nat} {r : Reach} {spare : Nat → Bool} {held : Bool} {v : Value} {d : DataW H} {p : List MemPlace}
    (hv : Value.okWide Try.prog W r b0 30 v) (h : DataW.Trod enc Try.prog W base spare held 30 v d p) : IArgs W v := by
  obtain ⟨a, len, cap, rfl⟩ := okWide_slice Try.underlying30 hv
  obtain ⟨fuel, hf⟩ := h
  exact iargs_of_raw (by simpa [Value.cells] using hf)
end Go.Proofs.Ytgeadpmnnjfkkaa
