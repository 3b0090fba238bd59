/-
  Plain, Bits, Plain2, Plain3, Calls, Calls2, Float, Ref, Floats, WpT, Worlds, Writer, RefW, Asks, Open0, Kp0: our texts of these names, laid into one.
-/
import Derived.Laws.FloatArith
import Derived.Laws.BitsAllLaws
import Derived.RowKit
import Derived.Test.YtjeancijbogpbaaRows
import Derived.WalkKit
import Derived.WalkSpells
import Derived.WalkLawsBesides
import Derived.Deep.Draws
import Derived.OrdersHeld
import Derived.Deep.RegionHeld
import Derived.Maps.AppendAt
import Derived.Laws.AppendOwnNone
import Derived.Laws.CopyOwn
import Derived.Deep.Slices
import Derived.Deep.Fields
import Derived.ChangeShapes
/-
  Plain facts on the words of IEEE 754 doubles (no program in sight): which words are no numbers, what the one word of all of them is, in which order words stand, what a sum is. No condition but that a word fits 64 bits, where it is said.
-/
namespace Go.Proofs.Ytjeancijbogpbaa.Pl
open Ieee

end Go.Proofs.Ytjeancijbogpbaa.Pl
/-
  Plain facts on the bit operations that the num package and the document's own answer use: the sign bit, the exponent's bits, the fraction's bits of a 64-bit word, in plain arithmetic. Condition: the word fits 64 bits.
-/
namespace Go.Proofs.Ytjeancijbogpbaa.Pl

end Go.Proofs.Ytjeancijbogpbaa.Pl
/-
  More plain facts on words of doubles: how a word stands to zero and to the greatest number, what its negative is, which of the six kinds it is. Condition: the word fits 64 bits.
-/
namespace Go.Proofs.Ytjeancijbogpbaa.Pl
open Ieee

end Go.Proofs.Ytjeancijbogpbaa.Pl
/-
  The order of words is an order, without any program: of two words one is below or they are one; what is below what is below is below; it agrees with the order of floats where both are numbers. Condition: the words fit 64 bits.
-/
namespace Go.Proofs.Ytjeancijbogpbaa.Pl
open Ieee Go.RowKit

end Go.Proofs.Ytjeancijbogpbaa.Pl
/-
  What each function of package num that takes floats alone does, as plain arithmetic on words: for every word of 64 bits the call returns, and leaves memory as it was.
-/
namespace Go.Proofs.Ytjeancijbogpbaa
open Go.RowKit

@[go_sem] theorem run_negfloat (n : Nat) (w : World) : (Op.unary .neg (.float .f64 n)).run Try.prog w = .ok (.float .f64 (n ^^^ 9223372036854775808)) w := rfl

end Go.Proofs.Ytjeancijbogpbaa
/-
  What Class, math's constants, the law's own 'known' and the drawn float do: for every word of 64 bits the call returns, and leaves memory as it was.
-/
namespace Go.Proofs.Ytjeancijbogpbaa
open Go.RowKit

end Go.Proofs.Ytjeancijbogpbaa
/-
  The drawn float: for every number and every word of 64 bits the call returns a word of 64 bits, and leaves memory as it was.
-/
namespace Go.Proofs.Ytjeancijbogpbaa
open Go.RowKit

end Go.Proofs.Ytjeancijbogpbaa
/-
  What the document's own answer (the reference of layer 1) does: for every word of 64 bits it returns what package num's functions are proved to return, and leaves memory as it was.
-/
namespace Go.Proofs.Ytjeancijbogpbaa
open Go.RowKit

namespace Pl
end Pl

end Go.Proofs.Ytjeancijbogpbaa
/-
  What each function on floats that the layers above call does: one text to import.
-/
/-
  One operation of a drawn region that only reads, in few words.
-/
namespace Go.Proofs.Ytjeancijbogpbaa
open Go.RowKit

theorem sp1 {α : Type} {l : List α} {i : Nat} {a : α} : l.toArray.setIfInBounds i a = (l.set i a).toArray := List.setIfInBounds_toArray ..
theorem sp2 {α : Type} {x : α} {xs : List α} {a : α} : (x :: xs).set 0 a = a :: xs := List.set_cons_zero
theorem sp3 {α : Type} {x : α} {xs : List α} {i : Nat} {a : α} : (x :: xs).set (i + 1) a = x :: xs.set i a := List.set_cons_succ
theorem wpT {P : Program} {ops : Array Oper} {Q : Exit → Act → World → Prop} {md : Region.Mode} {S : World → Prop} (i : Nat) (oi : Oper) {v : Value} {fuel : Nat} {listed : Array Bool} {a a2 : Act} {w : World}
    (h : wpAnyH P md ops Q S fuel (listed.setIfInBounds i true) a2 w) (hi : ops[i]? = some oi := by rfl) (hs : Region.noSelect ops = true := by kernel_rfl) (hf : Region.free md ops listed i = true := by kernel_rfl) (hr : (Region.ready md ops listed).contains i = true := by kernel_rfl)
    (hQ : ∀ c a w, Q (.panic c) (a.put oi.dst v) w → Q (.panic c) a w := by exact fun _ _ _ h => h) (hw : Region.wanted oi (yielded ops a.tmps) = true := by rfl)
    (hy : ∀ w, S w → (execOp a.eval oi).run P w = .ok (.value v) w := by (intro w hSw; (try dsimp only at hSw); go_simp; try (with_reducible rfl))) (ha : a.put oi.dst v = a2 := by (first | (simp only [Act.put, sp1, sp2, sp3]; done) | (simp only [Act.put, sp1, sp2, sp3]; exact rfl) | exact rfl)) (hS : S w := by assumption) : wpAnyH P md ops Q S (fuel + 1) listed a w :=
  wpAnyH_take hi hs hf hr hQ (.inl ⟨hw, hy⟩) hS (ha ▸ h)
theorem wpU {P : Program} {ops : Array Oper} {Q : Exit → Act → World → Prop} {md : Region.Mode} {S : World → Prop} (i : Nat) (oi : Oper) {fuel : Nat} {listed : Array Bool} {a a2 : Act} {w : World}
    (h : wpAnyH P md ops Q S fuel (listed.setIfInBounds i true) a2 w) (hi : ops[i]? = some oi := by rfl) (hs : Region.noSelect ops = true := by kernel_rfl) (hf : Region.free md ops listed i = true := by kernel_rfl) (hr : (Region.ready md ops listed).contains i = true := by kernel_rfl)
    (hQ : ∀ c a w, Q (.panic c) (a.put oi.dst undef) w → Q (.panic c) a w := by exact fun _ _ _ h => h) (hw : Region.wanted oi (yielded ops a.tmps) = false := by rfl)
    (ha : a.put oi.dst undef = a2 := by (first | (simp only [Act.put, sp1, sp2, sp3]; done) | (simp only [Act.put, sp1, sp2, sp3]; exact rfl) | exact rfl)) (hS : S w := by assumption) : wpAnyH P md ops Q S (fuel + 1) listed a w :=
  wpAnyH_take hi hs hf hr hQ (.inr ⟨hw, rfl⟩) hS (ha ▸ h)
theorem wpR {P : Program} {ops : Array Oper} {Q : Exit → Act → World → Prop} {md : Region.Mode} {S : World → Prop} (i : Nat) (o : Oper) {fuel : Nat} {listed : Array Bool} {a : Act} {w : World}
    (h : ∀ K : Act → World → Prop, Shut (∀ a w, S w → (S w → wpAnyH P md ops Q S fuel (listed.setIfInBounds i true) a w) → K a w) → if Region.wanted o (yielded ops a.tmps) = true then Oper.wp P o a w K Q else K (a.put o.dst undef) w)
    (hr : Region.ready md ops listed = [i] := by kernel_rfl) (ho : ops[i]? = some o := by rfl) : wpAnyH P md ops Q S (fuel + 1) listed a w :=
  wpAnyH_ready hr (by simp) (AllReadyH.cons ho h AllReadyH.nil)
end Go.Proofs.Ytjeancijbogpbaa
/-
  Memory that a call moves: which blocks it may have written, and rows of bytes that lie in memory: nil, empty, an argument's, or the call's own. Plain facts, no program in sight but for the numbers of its types.
-/
namespace Go.Proofs.Ytjeancijbogpbaa
open Go.RowKit

/-- From w to w' no block but those of S was written; there may be new ones. -/
structure Moves (S : List Nat) (w w' : World) : Prop where
  os : w'.os = w.os
  tape : w'.tape = w.tape
  output : w'.output = w.output
  size : w.heap.size ≤ w'.heap.size
  block : ∀ k, k < w.heap.size → k ∉ S → w'.heap[k]? = w.heap[k]?

theorem Moves.refl (S : List Nat) (w : World) : Moves S w w := ⟨rfl, rfl, rfl, Nat.le_refl _, fun _ _ _ => rfl⟩
theorem Moves.below {S : List Nat} {w w' : World} {B : Nat} (h : Moves S w w') (hS : ∀ k ∈ S, B ≤ k) (hB : B ≤ w.heap.size) : Below B w w' :=
  ⟨h.os, h.tape, h.output, h.size, fun k hk => h.block k (by omega) fun hx => by have := hS k hx; omega⟩

end Go.Proofs.Ytjeancijbogpbaa
/-
  What octet's Writer does: each method returns, and what was written is the bytes that were there and those of what was handed in; no other memory is written. Conditions: the bytes together are at most 2 to the 40th.
-/
namespace Go.Proofs.Ytjeancijbogpbaa
open Go.RowKit

end Go.Proofs.Ytjeancijbogpbaa
/-
  What the document's own writing does: each function returns the bytes that it was handed and those of what is written, in a row of its own; nothing that was there is written. Conditions: the bytes together are at most 2 to the 40th.
-/
namespace Go.Proofs.Ytjeancijbogpbaa
open Go.RowKit

end Go.Proofs.Ytjeancijbogpbaa
/-
  Rows of things to be written or read, as they lie in memory, and the bytes that the document gives them. Plain facts, no walk.
-/
namespace Go.Proofs.Ytjeancijbogpbaa
open Go.RowKit

end Go.Proofs.Ytjeancijbogpbaa
/-
  Arguments opened: integers, lists of integers, strings, lists of strings.
-/
namespace Go.Proofs.Ytjeancijbogpbaa
open Go.RowKit
open Go.ChangeShapes Go.WideShapes

end Go.Proofs.Ytjeancijbogpbaa
/-
  keep's Head and Row, book's Within, as plain functions.
-/
namespace Go.Proofs.Ytjeancijbogpbaa
open Go.RowKit

end Go.Proofs.Ytjeancijbogpbaa
