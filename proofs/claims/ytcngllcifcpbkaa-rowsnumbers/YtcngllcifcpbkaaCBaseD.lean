/-
  Reader, Reader2, Read, ReadW, Known, Back1, Open: our texts of these names, laid into one.
-/
import Derived.Test.YtcngllcifcpbkaaCBaseC
import Derived.Recover
import Derived.LaidEqlPtr
import Derived.Deep.RegionWith
import Derived.Deep.RegionHeld3
import Derived.Deep.Slices
import Derived.Deep.Fields
/-
  What octet's Reader does while its Read runs: each method takes the bytes that the document says and returns what they stand for, or, where they lack or are wrong, leaves by the Reader's own panic; no other memory is written.
-/
namespace Go.Proofs.Ytcngllcifcpbkaa
open Go.RowKit

theorem three_cells {w : World} {p : Nat} {a b c : Value} {t : TypeId} (h : w.heap[p]? = some (.cells #[a, b, c] t (0, 0))) :
    w.cell? ⟨p, 0, none⟩ = some a ∧ w.cell? ⟨p, 1, none⟩ = some b ∧ w.cell? ⟨p, 2, none⟩ = some c ∧ w.frozen? ⟨p, 0, none⟩ = false ∧ w.frozen? ⟨p, 1, none⟩ = false ∧ w.frozen? ⟨p, 2, none⟩ = false := by
  simp [World.cell?, World.frozen?, h]

theorem heap_set {w : World} {p i : Nat} {c : Array Value} {t : TypeId} {fz : Nat × Nat} (h : w.heap[p]? = some (.cells c t fz)) (u : Value) :
    (w.setCell ⟨p, i, none⟩ u).heap[p]? = some (.cells (c.setIfInBounds i u) t fz) := by
  have hlt := lt_of_block h
  have h' : w.heap[p] = .cells c t fz := by simpa [Array.getElem?_eq_getElem hlt] using h
  show (w.heap.modify p _)[p]? = _
  rw [Array.getElem?_eq_getElem (by simpa using hlt), Array.getElem_modify_self, h']
  rfl

theorem moves_set (w : World) (p i : Nat) (u : Value) : Moves [p] w (w.setCell ⟨p, i, none⟩ u) := (Moves.refl _ _).setCell (.inl (by simp)) _

end Go.Proofs.Ytcngllcifcpbkaa
/-
  What octet's Reader does with a Float and a Text while its Read runs: it takes them where the document lets it, and else leaves by its own panic with all bytes still left; no other memory is written.
-/
namespace Go.Proofs.Ytcngllcifcpbkaa
open Go.RowKit

end Go.Proofs.Ytcngllcifcpbkaa
/-
  What Read does: it calls its function once with a Reader of the bytes, closes the Reader behind it, and returns whether all bytes were taken; where the Reader's own panic left the function it returns false.
-/
namespace Go.Proofs.Ytcngllcifcpbkaa
open Go.RowKit

end Go.Proofs.Ytcngllcifcpbkaa
/-
  What Read does, whatever its function: where the function comes to its end, Read returns whether all bytes were taken; where the Reader's own panic left it, false. Behind it nothing is written but the Reader.
-/
namespace Go.Proofs.Ytcngllcifcpbkaa
open Go.RowKit

end Go.Proofs.Ytcngllcifcpbkaa
/-
  What 'known' does: it returns true, and writes nothing that was there.
-/
namespace Go.Proofs.Ytcngllcifcpbkaa
open Go.RowKit

/-- The bytes as a string. -/
def strOf (bs : List Nat) : ByteArray := ⟨(bs.map UInt8.ofNat).toArray⟩

theorem run_str {w : World} {g : Nat} {v : Value} {bs : List Nat} (h : IsB w g v bs) (ho : ∀ b ∈ bs, b < 256) : (convert 46 9 v).run Try.prog w = .ok (.string (strOf bs)) w := by
  obtain ⟨ad, n, cap, rfl, hn, hc, ha, hh⟩ := h
  rcases hh with rfl | ⟨off, rfl, hcell⟩
  · simp at hn
    subst hn
    cases ad with
    | none =>
      rw [run_convert_bytes_string w 46 9 5 none 0 cap Try.underlying46 Try.underlying5 Try.underlying9]
      rfl
    | some a =>
      have := run_convert_bytes_back (P := Try.prog) w 46 9 5 a cap [] Try.underlying46 Try.underlying5 Try.underlying9 (fun j hj => by simp at hj)
      exact this
  · have := run_convert_bytes_back (P := Try.prog) w 46 9 5 ⟨g, off, none⟩ cap (bs.map UInt8.ofNat) Try.underlying46 Try.underlying5 Try.underlying9 (fun j hj => by
      have hj' : j < bs.length := by simpa using hj
      have h1 := hcell j bs[j] (by simp)
      have e : (⟨g, off, none⟩ : Addr).add j = ⟨g, off + j, none⟩ := by unfold Addr.add; split <;> simp_all
      have h2 := ho bs[j] (List.getElem_mem hj')
      have e2 : (bs.map UInt8.ofNat)[j].toNat = bs[j] := by
        rw [List.getElem_map]
        exact UInt8.toNat_ofNat_of_lt h2
      rw [e, h1, e2])
    rw [List.length_map, hn] at this
    exact this

end Go.Proofs.Ytcngllcifcpbkaa
/-
  What the function that OctetBack hands to Read does: it reads all that was written, finds it the same, and nothing is left.
-/
namespace Go.Proofs.Ytcngllcifcpbkaa
open Go.RowKit

theorem Moves.cellOf {S : List Nat} {w w' : World} (m : Moves S w w') {a : Addr} {v : Value} (h : w.cell? a = some v) (ha : a.block ∉ S) : w'.cell? a = some v :=
  (World.cell?_of_block (w := w) (m.block a.block (lt_of_cell h) ha)).trans h

theorem Moves.frozenOf {S : List Nat} {w w' : World} (m : Moves S w w') {a : Addr} {v : Value} (h : w.cell? a = some v) (ha : a.block ∉ S) (hf : w.frozen? a = false) : w'.frozen? a = false :=
  (World.frozen?_of_block (w := w) (m.block a.block (lt_of_cell h) ha)).trans hf

end Go.Proofs.Ytcngllcifcpbkaa
/-
  Arguments opened: a slice of bytes and a slice of things to be written or read, as the rows' reading finds them in memory.
-/
namespace Go.Proofs.Ytcngllcifcpbkaa
open Go.RowKit
open Go.ChangeShapes Go.WideShapes

end Go.Proofs.Ytcngllcifcpbkaa
