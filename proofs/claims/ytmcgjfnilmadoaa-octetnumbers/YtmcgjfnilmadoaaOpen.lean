/-
  Arguments opened: a slice of bytes and a slice of things to be written or read, as the rows' reading finds them in memory.
-/
import Derived.Test.YtmcgjfnilmadoaaBack1
import Derived.Deep.Slices
import Derived.Deep.Fields
namespace Go.Proofs.Ytmcgjfnilmadoaa
open Go.RowKit
open Go.ChangeShapes Go.WideShapes

theorem isB_of_trod {H : Type} {enc : TypeId × Value → H} {W : World} {base : Nat} {spare : Nat → Bool} {held : Bool} {fuel : Nat} {v : Value} {x : DataW H × List MemPlace}
    (h : DataW.trod enc Try.prog W base spare held fuel 24 [v] = some x) : ∃ g bs, IsB W g v bs ∧ ∀ z ∈ bs, z < 256 := by
  rcases Go.Deep.open_slice1 Try.underlying24 (by kernel_rfl) h with ⟨hcs, _⟩ | ⟨ad, len, cap, m, n, V, D, Pls, hcs, _, hl, hm, hmm, _, hx⟩
  · simp at hcs
    subst hcs
    exact ⟨0, [], ⟨_, _, _, rfl, rfl, Nat.le_refl _, fun _ => rfl, .inl rfl⟩, by simp⟩
  · simp at hcs
    subst hcs
    have hlm : len ≤ m := by rw [hmm]; split <;> omega
    have each : ∀ i, i < len → ∃ b : Nat, b < 256 ∧ V i = .int .u8 (b : Int) := by
      intro i hi
      obtain ⟨_, hd⟩ := hx i (by omega)
      obtain ⟨z, hz, _, hw⟩ := DataW.trod_int Try.underlying5 hd
      simp at hz
      have hb : 0 ≤ z ∧ z ≤ 255 := by simpa [Lit.wf, IntKind.min, IntKind.max, IntKind.signed, IntKind.bits] using hw
      exact ⟨z.toNat, by omega, by rw [hz]; congr 1; omega⟩
    obtain ⟨f, hf⟩ := Go.Deep.choose_lt each
    refine ⟨ad.block, (List.range len).map f, ⟨_, _, _, rfl, by simp, hl, fun h => by simp at h, ?_⟩, ?_⟩
    · by_cases h0 : len = 0
      · subst h0; exact .inl rfl
      · have c0 := (hx 0 (by omega)).1
        obtain ⟨b, off, spot⟩ := ad
        have hspot : spot = none := by simpa [Addr.add] using World.cell?_spot c0
        subst hspot
        refine .inr ⟨off, rfl, fun j z hj => ?_⟩
        have hjl : j < len := by
          have := (List.getElem?_eq_some_iff.1 hj).1
          simpa using this
        have hz : z = f j := by
          simp [hjl] at hj
          exact hj.symm
        have cj := (hx j (by omega)).1
        have e : (⟨b, off, none⟩ : Addr).add j = ⟨b, off + j, none⟩ := by unfold Addr.add; split <;> simp_all
        rw [e, (hf j hjl).2, ← hz] at cj
        exact cj
    · intro z hz
      simp at hz
      obtain ⟨j, hj, rfl⟩ := hz
      exact (hf j hj).1

theorem float_of_trod {H : Type} {enc : TypeId × Value → H} {W : World} {base : Nat} {spare : Nat → Bool} {held : Bool} {fuel : Nat} {v : Value} {x : DataW H × List MemPlace}
    (h : DataW.trod enc Try.prog W base spare held fuel 23 [v] = some x) : ∃ b : Nat, Pl.Fits b ∧ v = .float .f64 b := by
  cases fuel with
  | zero => simp [DataW.trod] at h
  | succ n =>
    simp only [DataW.trod, Try.underlying23] at h
    cases v <;> simp at h
    rename_i k b
    obtain ⟨⟨rfl, hwf⟩, _⟩ := h
    exact ⟨b, Pl.fits_of_wf hwf, rfl⟩

theorem asks_of_trod {H : Type} {enc : TypeId × Value → H} {W : World} {base : Nat} {spare : Nat → Bool} {held : Bool} {fuel : Nat} {v : Value} {x : DataW H × List MemPlace}
    (h : DataW.trod enc Try.prog W base spare held fuel 27 [v] = some x) : ∃ L, Asks W v L := by
  have c26 : Try.prog.cellsOf 26 = 5 := by kernel_rfl
  rcases Go.Deep.open_slice Try.underlying27 h with ⟨hcs, _⟩ | ⟨ad, len, cap, m, n, D, Pls, hcs, _, hl, hm, hmm, _, hx⟩
  · simp at hcs
    subst hcs
    exact ⟨[], _, _, _, rfl, rfl, Nat.le_refl _, fun k a hk => by simp at hk⟩
  · simp at hcs
    subst hcs
    have hlm : len ≤ m := by rw [hmm]; split <;> omega
    have hspot : 0 < len → ad.spot = none := fun h0 => by
      obtain ⟨cs', h1, _⟩ := hx 0 (by omega)
      rw [c26] at h1
      obtain ⟨_, hlen, hcell⟩ := World.cells?_some h1
      have e0 := hcell 0 (by omega)
      cases cs' with
      | nil => simp at hlen
      | cons v t =>
        have := World.cell?_spot e0
        simpa [Addr.add] using this
    have each : ∀ i, i < len → ∃ A : AskM, ∃ b off, ad = ⟨b, off, none⟩ ∧ AskAt W b (off + i * 5) A := by
      intro i hi
      obtain ⟨cs', h1, h2⟩ := hx i (by omega)
      rw [c26] at h1
      obtain ⟨_, hlen, hcell⟩ := World.cells?_some h1
      obtain ⟨xs, k, hk, hxy, _, hxl, hf⟩ := DataW.trod_struct Try.underlying26 h2
      have c3 : Try.prog.cellsOf 3 = 1 := by kernel_rfl
      have c22 : Try.prog.cellsOf 22 = 1 := by kernel_rfl
      have c23 : Try.prog.cellsOf 23 = 1 := by kernel_rfl
      have c24 : Try.prog.cellsOf 24 = 1 := by kernel_rfl
      match xs, hxl, cs', hlen with
      | [y0, y1, y2, y3, y4], _, [v0, v1, v2, v3, v4], _ =>
        have g0 := hf 0 _ rfl
        have g1 := hf 1 _ rfl
        have g2 := hf 2 _ rfl
        have g3 := hf 3 _ rfl
        have g4 := hf 4 _ rfl
        simp [c3, c22, c23, c24] at g0 g1 g2 g3 g4
        have e0 := hcell 0 (by omega)
        have e1 := hcell 1 (by omega)
        have e2 := hcell 2 (by omega)
        have e3 := hcell 3 (by omega)
        have e4 := hcell 4 (by omega)
        rw [Go.Deep.add_add] at e0 e1 e2 e3 e4
        obtain ⟨b, off, spot⟩ := ad
        obtain rfl : spot = none := hspot (by omega)
        have ea : ∀ j, (⟨b, off, none⟩ : Addr).add (i * 5 + j) = ⟨b, off + i * 5 + j, none⟩ := fun j => by
          unfold Addr.add; split <;> simp_all [Nat.add_assoc]
        rw [ea] at e0 e1 e2 e3 e4
        obtain ⟨z0, hz0, _, _⟩ := DataW.trod_int Try.underlying3 g0
        obtain ⟨z1, hz1, _, _⟩ := DataW.trod_int Try.underlying3 g1
        obtain ⟨z2, hz2, _, hw2⟩ := DataW.trod_int Try.underlying22 g2
        have hb2 : 0 ≤ z2 ∧ z2 ≤ 18446744073709551615 := by simpa [Lit.wf, IntKind.min, IntKind.max, IntKind.signed, IntKind.bits] using hw2
        obtain ⟨z3, hf3, hz3⟩ := float_of_trod g3
        obtain ⟨gb, bb, hB, hO⟩ := isB_of_trod g4
        simp at hz0 hz1 hz2
        subst hz0 hz1 hz2 hz3
        refine ⟨⟨z0, z1, z2.toNat, z3, v4, gb, bb⟩, b, off, rfl, ⟨?_, ?_, ?_, ?_, ?_, hB, ?_, hf3, hO⟩⟩
        · simpa using e0
        · simpa using e1
        · have : ((z2.toNat : Nat) : Int) = z2 := by omega
          simp only [this]
          simpa using e2
        · simpa using e3
        · simpa using e4
        · unfold Pl.Fits
          simp only
          omega
    obtain ⟨A, hA⟩ := @Go.Deep.choose_lt AskM ⟨⟨0, 0, 0, 0, .nilFunc, 0, []⟩⟩ len _ each
    refine ⟨(List.range len).map A, _, _, _, rfl, by simp, hl, fun k a hk => ?_⟩
    have hkl : k < len := by
      have := (List.getElem?_eq_some_iff.1 hk).1
      simpa using this
    obtain ⟨b, off, e, hAt⟩ := hA k hkl
    have : a = A k := by
      simp [hkl] at hk
      exact hk.symm
    subst this
    exact ⟨b, off, by rw [e], hAt⟩
end Go.Proofs.Ytmcgjfnilmadoaa
