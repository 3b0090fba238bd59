/-
  Reader, Reader2, Read, ReadW, Known, Back1, Open: our texts of these names, laid into one.
-/
import Derived.Test.YtoijkdknjbgebaaCBaseC
import Derived.Recover
import Derived.LaidEqlPtr
import Derived.Deep.RegionWith
import Derived.Deep.RegionHeld3
import Derived.Deep.Slices
import Derived.Deep.Fields
/-
  What octet's Reader does while its Read runs: each method takes the bytes that the document says and returns what they stand for, or, where they lack or are wrong, leaves by the Reader's own panic; no other memory is written.
-/
namespace Go.Proofs.Ytoijkdknjbgebaa
open Go.RowKit

theorem three_cells {w : World} {p : Nat} {a b c : Value} {t : TypeId} (h : w.heap[p]? = some (.cells #[a, b, c] t (0, 0))) :
    w.cell? ⟨p, 0, none⟩ = some a ∧ w.cell? ⟨p, 1, none⟩ = some b ∧ w.cell? ⟨p, 2, none⟩ = some c ∧ w.frozen? ⟨p, 0, none⟩ = false ∧ w.frozen? ⟨p, 1, none⟩ = false ∧ w.frozen? ⟨p, 2, none⟩ = false := by
  simp [World.cell?, World.frozen?, h]

theorem heap_set {w : World} {p i : Nat} {c : Array Value} {t : TypeId} {fz : Nat × Nat} (h : w.heap[p]? = some (.cells c t fz)) (u : Value) :
    (w.setCell ⟨p, i, none⟩ u).heap[p]? = some (.cells (c.setIfInBounds i u) t fz) := by
  have hlt := lt_of_block h
  have h' : w.heap[p] = .cells c t fz := by simpa [Array.getElem?_eq_getElem hlt] using h
  show (w.heap.modify p _)[p]? = _
  rw [Array.getElem?_eq_getElem (by simpa using hlt), Array.getElem_modify_self, h']
  rfl

theorem moves_set (w : World) (p i : Nat) (u : Value) : Moves [p] w (w.setCell ⟨p, i, none⟩ u) := (Moves.refl _ _).setCell (.inl (by simp)) _

end Go.Proofs.Ytoijkdknjbgebaa
/-
  What octet's Reader does with a Float and a Text while its Read runs: it takes them where the document lets it, and else leaves by its own panic with all bytes still left; no other memory is written.
-/
namespace Go.Proofs.Ytoijkdknjbgebaa
open Go.RowKit

end Go.Proofs.Ytoijkdknjbgebaa
/-
  What Read does: it calls its function once with a Reader of the bytes, closes the Reader behind it, and returns whether all bytes were taken; where the Reader's own panic left the function it returns false.
-/
namespace Go.Proofs.Ytoijkdknjbgebaa
open Go.RowKit

end Go.Proofs.Ytoijkdknjbgebaa
/-
  What Read does, whatever its function: where the function comes to its end, Read returns whether all bytes were taken; where the Reader's own panic left it, false. Behind it nothing is written but the Reader.
-/
namespace Go.Proofs.Ytoijkdknjbgebaa
open Go.RowKit

end Go.Proofs.Ytoijkdknjbgebaa
/-
  What 'known' does: it returns true, and writes nothing that was there.
-/
namespace Go.Proofs.Ytoijkdknjbgebaa
open Go.RowKit

/-- The bytes as a string. -/
def strOf (bs : List Nat) : ByteArray := ⟨(bs.map UInt8.ofNat).toArray⟩

theorem run_str {w : World} {g : Nat} {v : Value} {bs : List Nat} (h : IsB w g v bs) (ho : ∀ b ∈ bs, b < 256) : (convert 26 9 v).run Try.prog w = .ok (.string (strOf bs)) w := by
  obtain ⟨ad, n, cap, rfl, hn, hc, ha, hh⟩ := h
  rcases hh with rfl | ⟨off, rfl, hcell⟩
  · simp at hn
    subst hn
    cases ad with
    | none =>
      rw [run_convert_bytes_string w 26 9 5 none 0 cap Try.underlying26 Try.underlying5 Try.underlying9]
      rfl
    | some a =>
      have := run_convert_bytes_back (P := Try.prog) w 26 9 5 a cap [] Try.underlying26 Try.underlying5 Try.underlying9 (fun j hj => by simp at hj)
      exact this
  · have := run_convert_bytes_back (P := Try.prog) w 26 9 5 ⟨g, off, none⟩ cap (bs.map UInt8.ofNat) Try.underlying26 Try.underlying5 Try.underlying9 (fun j hj => by
      have hj' : j < bs.length := by simpa using hj
      have h1 := hcell j bs[j] (by simp)
      have e : (⟨g, off, none⟩ : Addr).add j = ⟨g, off + j, none⟩ := by unfold Addr.add; split <;> simp_all
      have h2 := ho bs[j] (List.getElem_mem hj')
      have e2 : (bs.map UInt8.ofNat)[j].toNat = bs[j] := by
        rw [List.getElem_map]
        exact UInt8.toNat_ofNat_of_lt h2
      rw [e, h1, e2])
    rw [List.length_map, hn] at this
    exact this

end Go.Proofs.Ytoijkdknjbgebaa
/-
  What the function that OctetBack hands to Read does: it reads all that was written, finds it the same, and nothing is left.
-/
namespace Go.Proofs.Ytoijkdknjbgebaa
open Go.RowKit

theorem Moves.cellOf {S : List Nat} {w w' : World} (m : Moves S w w') {a : Addr} {v : Value} (h : w.cell? a = some v) (ha : a.block ∉ S) : w'.cell? a = some v :=
  (World.cell?_of_block (w := w) (m.block a.block (lt_of_cell h) ha)).trans h

end Go.Proofs.Ytoijkdknjbgebaa
/-
  Arguments opened: a slice of bytes and a slice of things to be written or read, as the rows' reading finds them in memory.
-/
namespace Go.Proofs.Ytoijkdknjbgebaa
open Go.RowKit
open Go.ChangeShapes Go.WideShapes

theorem isB_of_trod {H : Type} {enc : TypeId × Value → H} {W : World} {base : Nat} {spare : Nat → Bool} {held : Bool} {fuel : Nat} {v : Value} {x : DataW H × List MemPlace}
    (h : DataW.trod enc Try.prog W base spare held fuel 26 [v] = some x) : ∃ g bs, IsB W g v bs ∧ ∀ z ∈ bs, z < 256 := by
  rcases Go.Deep.open_slice1 Try.underlying26 (by kernel_rfl) h with ⟨hcs, _⟩ | ⟨ad, len, cap, m, n, V, D, Pls, hcs, _, hl, hm, hmm, _, hx⟩
  · simp at hcs
    subst hcs
    exact ⟨0, [], ⟨_, _, _, rfl, rfl, Nat.le_refl _, fun _ => rfl, .inl rfl⟩, by simp⟩
  · simp at hcs
    subst hcs
    have hlm : len ≤ m := by rw [hmm]; split <;> omega
    have each : ∀ i, i < len → ∃ b : Nat, b < 256 ∧ V i = .int .u8 (b : Int) := by
      intro i hi
      obtain ⟨_, hd⟩ := hx i (by omega)
      obtain ⟨z, hz, _, hw⟩ := DataW.trod_int Try.underlying5 hd
      simp at hz
      have hb : 0 ≤ z ∧ z ≤ 255 := by simpa [Lit.wf, IntKind.min, IntKind.max, IntKind.signed, IntKind.bits] using hw
      exact ⟨z.toNat, by omega, by rw [hz]; congr 1; omega⟩
    obtain ⟨f, hf⟩ := Go.Deep.choose_lt each
    refine ⟨ad.block, (List.range len).map f, ⟨_, _, _, rfl, by simp, hl, fun h => by simp at h, ?_⟩, ?_⟩
    · by_cases h0 : len = 0
      · subst h0; exact .inl rfl
      · have c0 := (hx 0 (by omega)).1
        obtain ⟨b, off, spot⟩ := ad
        have hspot : spot = none := by simpa [Addr.add] using World.cell?_spot c0
        subst hspot
        refine .inr ⟨off, rfl, fun j z hj => ?_⟩
        have hjl : j < len := by
          have := (List.getElem?_eq_some_iff.1 hj).1
          simpa using this
        have hz : z = f j := by
          simp [hjl] at hj
          exact hj.symm
        have cj := (hx j (by omega)).1
        have e : (⟨b, off, none⟩ : Addr).add j = ⟨b, off + j, none⟩ := by unfold Addr.add; split <;> simp_all
        rw [e, (hf j hjl).2, ← hz] at cj
        exact cj
    · intro z hz
      simp at hz
      obtain ⟨j, hj, rfl⟩ := hz
      exact (hf j hj).1

end Go.Proofs.Ytoijkdknjbgebaa
