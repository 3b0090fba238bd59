/-
  What package value's Put does: it writes a value's bytes as the chapter gives them, behind what was written, and nothing else.
-/
import Derived.Test.YtdngndkdkbggkaaCBaseG
namespace Go.Proofs.Ytdngndkdkbggkaa
open Go.RowKit

theorem Wrote.after {w w1 w2 : World} {p : Nat} {a a2 : Option Nat} {bs : List Nat} (m : Moves [] w w1) (h : Wrote w1 p a w2 a2 bs) : Wrote w p a w2 a2 bs := by
  obtain ⟨h1, h2, h3⟩ := h
  refine ⟨h1, (m.mono (by simp)).then h2, ?_⟩
  rcases h3 with h3 | ⟨k, h4, h5⟩
  · exact .inl h3
  · exact .inr ⟨k, h4, Nat.le_trans m.size h5⟩

theorem Wr.ltp {w : World} {p : Nat} {a : Option Nat} {bs : List Nat} (h : Wr w p a bs) : p < w.heap.size := by
  obtain ⟨v, hp, _⟩ := h
  exact lt_of_block hp

/-- A block that is not there yet is none of the Writer's. -/
theorem Wr.new {w : World} {p : Nat} {a : Option Nat} {bs : List Nat} (h : Wr w p a bs) : w.heap.size ∉ p :: a.toList := by
  intro hx
  rcases List.mem_cons.1 hx with hx | hx
  · have := h.ltp; omega
  · have := h.lt (k := w.heap.size) (by cases a <;> simp_all)
    omega

end Go.Proofs.Ytdngndkdkbggkaa
