/-
  What octet's Reader does while its Read runs: each method takes the bytes that the document says and returns what they stand for, or, where they lack or are wrong, leaves by the Reader's own panic; no other memory is written.
-/
import Derived.Test.YtgeadpmnnjfkkaaCBaseC
namespace Go.Proofs.Ytgeadpmnnjfkkaa
open Go.RowKit

theorem heap_set {w : World} {p i : Nat} {c : Array Value} {t : TypeId} {fz : Nat × Nat} (h : w.heap[p]? = some (.cells c t fz)) (u : Value) :
    (w.setCell ⟨p, i, none⟩ u).heap[p]? = some (.cells (c.setIfInBounds i u) t fz) := by
  have hlt := lt_of_block h
  have h' : w.heap[p] = .cells c t fz := by simpa [Array.getElem?_eq_getElem hlt] using h
  show (w.heap.modify p _)[p]? = _
  rw [Array.getElem?_eq_getElem (by simpa using hlt), Array.getElem_modify_self, h']
  rfl

theorem Has.drop {w : World} {g : Nat} {ad : Option Addr} {bs : List Nat} (h : Has w g ad bs) (n cap : Nat) (hc : bs.length ≤ cap) : Has w g (if cap = n then ad else ad.map (·.add n)) (bs.drop n) := by
  by_cases hd : bs.drop n = []
  · exact .inl hd
  · have hlt : n < bs.length := by
      refine Nat.lt_of_not_le fun hle => hd (List.drop_of_length_le hle)
    rw [if_neg (by omega)]
    rcases h with rfl | ⟨off, rfl, h2⟩
    · simp at hlt
    · refine .inr ⟨off + n, ?_, fun j b hj => ?_⟩
      · simp only [Option.map_some, Option.some.injEq]
        unfold Addr.add; split <;> simp_all
      · rw [List.getElem?_drop] at hj
        have := h2 (n + j) b hj
        rw [← Nat.add_assoc] at this
        exact this

/-- The number that bytes stand for, the highest first. -/
def val (bs : List Nat) : Nat := bs.foldl (fun n b => n * 256 + b) 0
end Go.Proofs.Ytgeadpmnnjfkkaa
