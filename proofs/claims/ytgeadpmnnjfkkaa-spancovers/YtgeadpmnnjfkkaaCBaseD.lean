/-
  Reader, Reader2, Read, ReadW, Known, Back1, Open: our texts of these names, laid into one.
-/
import Derived.Test.YtgeadpmnnjfkkaaCBaseC
import Derived.Recover
import Derived.LaidEqlPtr
import Derived.Deep.RegionWith
import Derived.Deep.RegionHeld3
import Derived.Deep.Slices
import Derived.Deep.Fields
/-
  What octet's Reader does while its Read runs: each method takes the bytes that the document says and returns what they stand for, or, where they lack or are wrong, leaves by the Reader's own panic; no other memory is written.
-/
namespace Go.Proofs.Ytgeadpmnnjfkkaa
open Go.RowKit

/-- At block p lies an open Reader that has bs still to be read, in block g. -/
def RdIs (w : World) (p g : Nat) (bs : List Nat) (fl : Bool) : Prop :=
  ∃ v, w.heap[p]? = some (.cells #[v, .bool true, .bool fl] 62 (0, 0)) ∧ IsB w g v bs ∧ g ≠ p

theorem heap_set {w : World} {p i : Nat} {c : Array Value} {t : TypeId} {fz : Nat × Nat} (h : w.heap[p]? = some (.cells c t fz)) (u : Value) :
    (w.setCell ⟨p, i, none⟩ u).heap[p]? = some (.cells (c.setIfInBounds i u) t fz) := by
  have hlt := lt_of_block h
  have h' : w.heap[p] = .cells c t fz := by simpa [Array.getElem?_eq_getElem hlt] using h
  show (w.heap.modify p _)[p]? = _
  rw [Array.getElem?_eq_getElem (by simpa using hlt), Array.getElem_modify_self, h']
  rfl

theorem Has.drop {w : World} {g : Nat} {ad : Option Addr} {bs : List Nat} (h : Has w g ad bs) (n cap : Nat) (hc : bs.length ≤ cap) : Has w g (if cap = n then ad else ad.map (·.add n)) (bs.drop n) := by
  by_cases hd : bs.drop n = []
  · exact .inl hd
  · have hlt : n < bs.length := by
      refine Nat.lt_of_not_le fun hle => hd (List.drop_of_length_le hle)
    rw [if_neg (by omega)]
    rcases h with rfl | ⟨off, rfl, h2⟩
    · simp at hlt
    · refine .inr ⟨off + n, ?_, fun j b hj => ?_⟩
      · simp only [Option.map_some, Option.some.injEq]
        unfold Addr.add; split <;> simp_all
      · rw [List.getElem?_drop] at hj
        have := h2 (n + j) b hj
        rw [← Nat.add_assoc] at this
        exact this

/-- The number that bytes stand for, the highest first. -/
def val (bs : List Nat) : Nat := bs.foldl (fun n b => n * 256 + b) 0
end Go.Proofs.Ytgeadpmnnjfkkaa
/-
  What octet's Reader does with a Float and a Text while its Read runs: it takes them where the document lets it, and else leaves by its own panic with all bytes still left; no other memory is written.
-/
namespace Go.Proofs.Ytgeadpmnnjfkkaa
open Go.RowKit

theorem RdIs.moves {w w' : World} {p g : Nat} {bs : List Nat} {fl : Bool} {S : List Nat} (h : RdIs w p g bs fl) (m : Moves S w w') (hp : p ∉ S) (hg : g ∉ S) : RdIs w' p g bs fl := by
  obtain ⟨v, h1, h2, h3⟩ := h
  exact ⟨v, m.at h1 hp, h2.moves m hg, h3⟩

end Go.Proofs.Ytgeadpmnnjfkkaa
/-
  What Read does: it calls its function once with a Reader of the bytes, closes the Reader behind it, and returns whether all bytes were taken; where the Reader's own panic left the function it returns false.
-/
namespace Go.Proofs.Ytgeadpmnnjfkkaa
open Go.RowKit

/-- At block p lies a Reader. -/
def RdAt (w : World) (p : Nat) : Prop := ∃ v o f, w.heap[p]? = some (.cells #[v, .bool o, .bool f] 62 (0, 0))

theorem RdAt.moves {w w' : World} {p : Nat} {S : List Nat} (h : RdAt w p) (m : Moves S w w') (hp : p ∉ S) : RdAt w' p := by
  obtain ⟨v, o, f, h⟩ := h
  exact ⟨v, o, f, m.at h hp⟩
end Go.Proofs.Ytgeadpmnnjfkkaa
/-
  What Read does, whatever its function: where the function comes to its end, Read returns whether all bytes were taken; where the Reader's own panic left it, false. Behind it nothing is written but the Reader.
-/
namespace Go.Proofs.Ytgeadpmnnjfkkaa
open Go.RowKit

/-- What lies in memory when Read calls its function: the Reader at block p, and behind it the variable that holds its address. -/
def Begun (w : World) (p g : Nat) (bs : List Nat) (fl : Bool) : Prop :=
  RdIs w p g bs fl ∧ w.heap[p + 1]? = some (.cells #[.pointer (some ⟨p, 0, none⟩)] 49 (0, 0))

end Go.Proofs.Ytgeadpmnnjfkkaa
/-
  What 'known' does: it returns true, and writes nothing that was there.
-/
namespace Go.Proofs.Ytgeadpmnnjfkkaa
open Go.RowKit

theorem Begun.moves {w w' : World} {p g : Nat} {bs bs' : List Nat} {fl fl' : Bool} (h : Begun w p g bs fl) (hr : RdIs w' p g bs' fl') (m : Moves [p] w w') : Begun w' p g bs' fl' :=
  ⟨hr, m.at h.2 (by simp)⟩

end Go.Proofs.Ytgeadpmnnjfkkaa
/-
  What the function that OctetBack hands to Read does: it reads all that was written, finds it the same, and nothing is left.
-/
namespace Go.Proofs.Ytgeadpmnnjfkkaa
open Go.RowKit

/-- What is left to be read at the k-th. -/
def left (L : List AskM) (k : Nat) : List Nat := ((L.take 15).drop k).flatMap enc

end Go.Proofs.Ytgeadpmnnjfkkaa
/-
  Arguments opened: a slice of bytes and a slice of things to be written or read, as the rows' reading finds them in memory.
-/
namespace Go.Proofs.Ytgeadpmnnjfkkaa
open Go.RowKit
open Go.ChangeShapes Go.WideShapes

end Go.Proofs.Ytgeadpmnnjfkkaa
