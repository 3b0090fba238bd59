/-
  Worlds, Writer, RefW, Asks, Written: our texts of these names, laid into one.
-/
import Derived.Test.YtbjbljkcodkebaaCBaseB
import Derived.Maps.AppendAt
import Derived.Laws.AppendOwnNone
import Derived.Laws.CopyOwn
/-
  Memory that a call moves: which blocks it may have written, and rows of bytes that lie in memory: nil, empty, an argument's, or the call's own. Plain facts, no program in sight but for the numbers of its types.
-/
namespace Go.Proofs.Ytbjbljkcodkebaa
open Go.RowKit

/-- From w to w' no block but those of S was written; there may be new ones. -/
structure Moves (S : List Nat) (w w' : World) : Prop where
  os : w'.os = w.os
  tape : w'.tape = w.tape
  output : w'.output = w.output
  size : w.heap.size ≤ w'.heap.size
  block : ∀ k, k < w.heap.size → k ∉ S → w'.heap[k]? = w.heap[k]?

theorem Moves.refl (S : List Nat) (w : World) : Moves S w w := ⟨rfl, rfl, rfl, Nat.le_refl _, fun _ _ _ => rfl⟩
theorem Moves.trans {S T : List Nat} {a b c : World} (h : Moves S a b) (k : Moves T b c) (hT : ∀ x ∈ T, x ∈ S ∨ a.heap.size ≤ x) : Moves S a c :=
  ⟨k.os.trans h.os, k.tape.trans h.tape, k.output.trans h.output, Nat.le_trans h.size k.size, fun i hi hn =>
    (k.block i (Nat.lt_of_lt_of_le hi h.size) (fun hx => by rcases hT i hx with h1 | h1; exact hn h1; omega)).trans (h.block i hi hn)⟩
theorem Moves.then {S : List Nat} {a b c : World} (h : Moves S a b) (k : Moves S b c) : Moves S a c := h.trans k fun _ hx => .inl hx
theorem Moves.mono {S T : List Nat} {a b : World} (h : Moves S a b) (hT : ∀ x ∈ S, x ∈ T) : Moves T a b :=
  ⟨h.os, h.tape, h.output, h.size, fun i hi hn => h.block i hi fun hx => hn (hT i hx)⟩
theorem Moves.at {S : List Nat} {w w' : World} {k : Nat} {o : Obj} (h : Moves S w w') (hk : w.heap[k]? = some o) (hn : k ∉ S) : w'.heap[k]? = some o :=
  (h.block k (lt_of_block hk) hn).trans hk
theorem Moves.drew {S : List Nat} {a w : World} (h : Moves S a w) : Moves S a w.drew := ⟨h.os, h.tape, h.output, h.size, h.block⟩
theorem Moves.alloc {S : List Nat} {a w : World} (h : Moves S a w) (o : Obj) : Moves S a (w.alloc o) :=
  h.trans (T := []) ⟨rfl, rfl, rfl, by simp, fun k hk _ => Below.heap_alloc _ _ _ hk⟩ (fun _ hx => by simp at hx)
theorem Moves.setCell {S : List Nat} {a w : World} (h : Moves S a w) {p : Addr} (hp : p.block ∈ S ∨ a.heap.size ≤ p.block) (u : Value) : Moves S a (w.setCell p u) :=
  h.trans (T := [p.block]) ⟨rfl, rfl, rfl, by simp [World.setCell], fun k _ hn => Below.heap_setCell _ _ _ _ (by simpa using hn)⟩ (fun _ hx => by simp at hx; subst hx; exact hp)
theorem Moves.grown {S : List Nat} {a w w' : World} {row : Option Nat} (h : Moves S a w) (hg : w.grownBy w' row) (hr : ∀ k, row = some k → k ∈ S ∨ a.heap.size ≤ k) : Moves S a w' :=
  h.trans (T := row.toList) ⟨hg.os, hg.tape, hg.output, hg.size, fun k hk hn => hg.block k hk (by cases row <;> simp_all)⟩ (fun x hx => hr x (by cases row <;> simp_all))
theorem Moves.below {S : List Nat} {w w' : World} {B : Nat} (h : Moves S w w') (hS : ∀ k ∈ S, B ≤ k) (hB : B ≤ w.heap.size) : Below B w w' :=
  ⟨h.os, h.tape, h.output, h.size, fun k hk => h.block k (by omega) fun hx => by have := hS k hx; omega⟩

theorem lt_of_cell {w : World} {a : Addr} {v : Value} (h : w.cell? a = some v) : a.block < w.heap.size := by
  refine Nat.lt_of_not_le fun hle => ?_
  have : w.heap[a.block]? = none := Array.getElem?_eq_none hle
  simp [World.cell?, this] at h
/-- What a call made anew. -/
def Fresh (w : World) (v : Value) : Prop := ∀ k, v.ownBlock = some k → w.heap.size ≤ k
theorem Fresh.nil (w : World) : Fresh w (.slice none 0 0) := fun k h => by simp [Value.ownBlock] at h

/-- An operation whose guard says yes is the same operation without it. -/
theorem wpList_wanted {P : Program} {w : World} {ops : Array Oper} {rest : List Oper} {o : Oper} {a : Act} {Q : Exit → Act → World → Prop}
    (hw : Region.wanted o (yielded ops a.tmps) = true) (h : wpList P ops Q ({ o with guard := none } :: rest) a w) : wpList P ops Q (o :: rest) a w := by
  unfold wpList at h ⊢
  rw [if_pos hw]
  rw [if_pos (by simp [Region.wanted])] at h
  exact h

/-- The grown row lies where it lay, or in the next block. -/
def Lain (w : World) (v v' : Value) : Prop := v'.ownBlock = v.ownBlock ∨ v'.ownBlock = some w.heap.size

end Go.Proofs.Ytbjbljkcodkebaa
/-
  What octet's Writer does: each method returns, and what was written is the bytes that were there and those of what was handed in; no other memory is written. Conditions: the bytes together are at most 2 to the 40th.
-/
namespace Go.Proofs.Ytbjbljkcodkebaa
open Go.RowKit

end Go.Proofs.Ytbjbljkcodkebaa
/-
  What the document's own writing does: each function returns the bytes that it was handed and those of what is written, in a row of its own; nothing that was there is written. Conditions: the bytes together are at most 2 to the 40th.
-/
namespace Go.Proofs.Ytbjbljkcodkebaa
open Go.RowKit

end Go.Proofs.Ytbjbljkcodkebaa
/-
  Rows of things to be written or read, as they lie in memory, and the bytes that the document gives them. Plain facts, no walk.
-/
namespace Go.Proofs.Ytbjbljkcodkebaa
open Go.RowKit

theorem Moves.cell {w w' : World} (m : Moves [] w w') {a : Addr} {v : Value} (h : w.cell? a = some v) : w'.cell? a = some v :=
  (World.cell?_of_block (w := w) (m.block a.block (lt_of_cell h) (by simp))).trans h

end Go.Proofs.Ytbjbljkcodkebaa
/-
  What 'written' does: for every row of things it returns what the program wrote and what the document writes, both the same bytes, and true; nothing that was there is written.
-/
namespace Go.Proofs.Ytbjbljkcodkebaa
open Go.RowKit

end Go.Proofs.Ytbjbljkcodkebaa
