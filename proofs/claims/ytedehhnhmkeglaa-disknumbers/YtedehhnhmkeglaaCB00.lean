/-
  Plain, Bits, Plain2, Plain3, Calls, Calls2, Float, Ref, Floats, WpT, Worlds, Writer, RefW, Asks, Written, Reader, Reader2, Read, ReadW, Known, Back1: our texts of these names, laid into one.
-/
import Derived.Laws.FloatArith
import Derived.Laws.BitsAllLaws
import Derived.RowKit
import Derived.Test.YtedehhnhmkeglaaRows
import Derived.WalkKit
import Derived.WalkSpells
import Derived.WalkLawsBesides
import Derived.Deep.Draws
import Derived.OrdersHeld
import Derived.Deep.RegionHeld
import Derived.Maps.AppendAt
import Derived.Laws.AppendOwnNone
import Derived.Laws.CopyOwn
import Derived.Recover
import Derived.LaidEqlPtr
import Derived.Deep.RegionWith
import Derived.Deep.RegionHeld3
/-
  Plain facts on the words of IEEE 754 doubles (no program in sight): which words are no numbers, what the one word of all of them is, in which order words stand, what a sum is. No condition but that a word fits 64 bits, where it is said.
-/
namespace Go.Proofs.Ytedehhnhmkeglaa.Pl
open Ieee

end Go.Proofs.Ytedehhnhmkeglaa.Pl
/-
  Plain facts on the bit operations that the num package and the document's own answer use: the sign bit, the exponent's bits, the fraction's bits of a 64-bit word, in plain arithmetic. Condition: the word fits 64 bits.
-/
namespace Go.Proofs.Ytedehhnhmkeglaa.Pl

end Go.Proofs.Ytedehhnhmkeglaa.Pl
/-
  More plain facts on words of doubles: how a word stands to zero and to the greatest number, what its negative is, which of the six kinds it is. Condition: the word fits 64 bits.
-/
namespace Go.Proofs.Ytedehhnhmkeglaa.Pl
open Ieee

end Go.Proofs.Ytedehhnhmkeglaa.Pl
/-
  The order of words is an order, without any program: of two words one is below or they are one; what is below what is below is below; it agrees with the order of floats where both are numbers. Condition: the words fit 64 bits.
-/
namespace Go.Proofs.Ytedehhnhmkeglaa.Pl
open Ieee Go.RowKit

end Go.Proofs.Ytedehhnhmkeglaa.Pl
/-
  What each function of package num that takes floats alone does, as plain arithmetic on words: for every word of 64 bits the call returns, and leaves memory as it was.
-/
namespace Go.Proofs.Ytedehhnhmkeglaa
open Go.RowKit

@[go_sem] theorem run_negfloat (n : Nat) (w : World) : (Op.unary .neg (.float .f64 n)).run Try.prog w = .ok (.float .f64 (n ^^^ 9223372036854775808)) w := rfl

end Go.Proofs.Ytedehhnhmkeglaa
/-
  What Class, math's constants, the law's own 'known' and the drawn float do: for every word of 64 bits the call returns, and leaves memory as it was.
-/
namespace Go.Proofs.Ytedehhnhmkeglaa
open Go.RowKit

end Go.Proofs.Ytedehhnhmkeglaa
/-
  The drawn float: for every number and every word of 64 bits the call returns a word of 64 bits, and leaves memory as it was.
-/
namespace Go.Proofs.Ytedehhnhmkeglaa
open Go.RowKit

end Go.Proofs.Ytedehhnhmkeglaa
/-
  What the document's own answer (the reference of layer 1) does: for every word of 64 bits it returns what package num's functions are proved to return, and leaves memory as it was.
-/
namespace Go.Proofs.Ytedehhnhmkeglaa
open Go.RowKit

namespace Pl
end Pl

end Go.Proofs.Ytedehhnhmkeglaa
/-
  What each function on floats that the layers above call does: one text to import.
-/
/-
  One operation of a drawn region that only reads, in few words.
-/
namespace Go.Proofs.Ytedehhnhmkeglaa
open Go.RowKit

theorem sp1 {α : Type} {l : List α} {i : Nat} {a : α} : l.toArray.setIfInBounds i a = (l.set i a).toArray := List.setIfInBounds_toArray ..
theorem sp2 {α : Type} {x : α} {xs : List α} {a : α} : (x :: xs).set 0 a = a :: xs := List.set_cons_zero
theorem sp3 {α : Type} {x : α} {xs : List α} {i : Nat} {a : α} : (x :: xs).set (i + 1) a = x :: xs.set i a := List.set_cons_succ
theorem wpT {P : Program} {ops : Array Oper} {Q : Exit → Act → World → Prop} {md : Region.Mode} {S : World → Prop} (i : Nat) (oi : Oper) {v : Value} {fuel : Nat} {listed : Array Bool} {a a2 : Act} {w : World}
    (h : wpAnyH P md ops Q S fuel (listed.setIfInBounds i true) a2 w) (hi : ops[i]? = some oi := by rfl) (hs : Region.noSelect ops = true := by kernel_rfl) (hf : Region.free md ops listed i = true := by kernel_rfl) (hr : (Region.ready md ops listed).contains i = true := by kernel_rfl)
    (hQ : ∀ c a w, Q (.panic c) (a.put oi.dst v) w → Q (.panic c) a w := by exact fun _ _ _ h => h) (hw : Region.wanted oi (yielded ops a.tmps) = true := by rfl)
    (hy : ∀ w, S w → (execOp a.eval oi).run P w = .ok (.value v) w := by (intro w hSw; (try dsimp only at hSw); go_simp; try (with_reducible rfl))) (ha : a.put oi.dst v = a2 := by (first | (simp only [Act.put, sp1, sp2, sp3]; done) | (simp only [Act.put, sp1, sp2, sp3]; exact rfl) | exact rfl)) (hS : S w := by assumption) : wpAnyH P md ops Q S (fuel + 1) listed a w :=
  wpAnyH_take hi hs hf hr hQ (.inl ⟨hw, hy⟩) hS (ha ▸ h)
theorem wpU {P : Program} {ops : Array Oper} {Q : Exit → Act → World → Prop} {md : Region.Mode} {S : World → Prop} (i : Nat) (oi : Oper) {fuel : Nat} {listed : Array Bool} {a a2 : Act} {w : World}
    (h : wpAnyH P md ops Q S fuel (listed.setIfInBounds i true) a2 w) (hi : ops[i]? = some oi := by rfl) (hs : Region.noSelect ops = true := by kernel_rfl) (hf : Region.free md ops listed i = true := by kernel_rfl) (hr : (Region.ready md ops listed).contains i = true := by kernel_rfl)
    (hQ : ∀ c a w, Q (.panic c) (a.put oi.dst undef) w → Q (.panic c) a w := by exact fun _ _ _ h => h) (hw : Region.wanted oi (yielded ops a.tmps) = false := by rfl)
    (ha : a.put oi.dst undef = a2 := by (first | (simp only [Act.put, sp1, sp2, sp3]; done) | (simp only [Act.put, sp1, sp2, sp3]; exact rfl) | exact rfl)) (hS : S w := by assumption) : wpAnyH P md ops Q S (fuel + 1) listed a w :=
  wpAnyH_take hi hs hf hr hQ (.inr ⟨hw, rfl⟩) hS (ha ▸ h)
theorem wpR {P : Program} {ops : Array Oper} {Q : Exit → Act → World → Prop} {md : Region.Mode} {S : World → Prop} (i : Nat) (o : Oper) {fuel : Nat} {listed : Array Bool} {a : Act} {w : World}
    (h : ∀ K : Act → World → Prop, Shut (∀ a w, S w → (S w → wpAnyH P md ops Q S fuel (listed.setIfInBounds i true) a w) → K a w) → if Region.wanted o (yielded ops a.tmps) = true then Oper.wp P o a w K Q else K (a.put o.dst undef) w)
    (hr : Region.ready md ops listed = [i] := by kernel_rfl) (ho : ops[i]? = some o := by rfl) : wpAnyH P md ops Q S (fuel + 1) listed a w :=
  wpAnyH_ready hr (by simp) (AllReadyH.cons ho h AllReadyH.nil)
end Go.Proofs.Ytedehhnhmkeglaa
/-
  Memory that a call moves: which blocks it may have written, and rows of bytes that lie in memory: nil, empty, an argument's, or the call's own. Plain facts, no program in sight but for the numbers of its types.
-/
namespace Go.Proofs.Ytedehhnhmkeglaa
open Go.RowKit

/-- From w to w' no block but those of S was written; there may be new ones. -/
structure Moves (S : List Nat) (w w' : World) : Prop where
  os : w'.os = w.os
  tape : w'.tape = w.tape
  output : w'.output = w.output
  size : w.heap.size ≤ w'.heap.size
  block : ∀ k, k < w.heap.size → k ∉ S → w'.heap[k]? = w.heap[k]?

theorem Moves.refl (S : List Nat) (w : World) : Moves S w w := ⟨rfl, rfl, rfl, Nat.le_refl _, fun _ _ _ => rfl⟩
theorem Moves.trans {S T : List Nat} {a b c : World} (h : Moves S a b) (k : Moves T b c) (hT : ∀ x ∈ T, x ∈ S ∨ a.heap.size ≤ x) : Moves S a c :=
  ⟨k.os.trans h.os, k.tape.trans h.tape, k.output.trans h.output, Nat.le_trans h.size k.size, fun i hi hn =>
    (k.block i (Nat.lt_of_lt_of_le hi h.size) (fun hx => by rcases hT i hx with h1 | h1; exact hn h1; omega)).trans (h.block i hi hn)⟩
theorem Moves.then {S : List Nat} {a b c : World} (h : Moves S a b) (k : Moves S b c) : Moves S a c := h.trans k fun _ hx => .inl hx
theorem Moves.mono {S T : List Nat} {a b : World} (h : Moves S a b) (hT : ∀ x ∈ S, x ∈ T) : Moves T a b :=
  ⟨h.os, h.tape, h.output, h.size, fun i hi hn => h.block i hi fun hx => hn (hT i hx)⟩
theorem Moves.at {S : List Nat} {w w' : World} {k : Nat} {o : Obj} (h : Moves S w w') (hk : w.heap[k]? = some o) (hn : k ∉ S) : w'.heap[k]? = some o :=
  (h.block k (lt_of_block hk) hn).trans hk
theorem Moves.drew {S : List Nat} {a w : World} (h : Moves S a w) : Moves S a w.drew := ⟨h.os, h.tape, h.output, h.size, h.block⟩
theorem Moves.alloc {S : List Nat} {a w : World} (h : Moves S a w) (o : Obj) : Moves S a (w.alloc o) :=
  h.trans (T := []) ⟨rfl, rfl, rfl, by simp, fun k hk _ => Below.heap_alloc _ _ _ hk⟩ (fun _ hx => by simp at hx)
theorem Moves.setCell {S : List Nat} {a w : World} (h : Moves S a w) {p : Addr} (hp : p.block ∈ S ∨ a.heap.size ≤ p.block) (u : Value) : Moves S a (w.setCell p u) :=
  h.trans (T := [p.block]) ⟨rfl, rfl, rfl, by simp [World.setCell], fun k _ hn => Below.heap_setCell _ _ _ _ (by simpa using hn)⟩ (fun _ hx => by simp at hx; subst hx; exact hp)
theorem Moves.grown {S : List Nat} {a w w' : World} {row : Option Nat} (h : Moves S a w) (hg : w.grownBy w' row) (hr : ∀ k, row = some k → k ∈ S ∨ a.heap.size ≤ k) : Moves S a w' :=
  h.trans (T := row.toList) ⟨hg.os, hg.tape, hg.output, hg.size, fun k hk hn => hg.block k hk (by cases row <;> simp_all)⟩ (fun x hx => hr x (by cases row <;> simp_all))
theorem Moves.below {S : List Nat} {w w' : World} {B : Nat} (h : Moves S w w') (hS : ∀ k ∈ S, B ≤ k) (hB : B ≤ w.heap.size) : Below B w w' :=
  ⟨h.os, h.tape, h.output, h.size, fun k hk => h.block k (by omega) fun hx => by have := hS k hx; omega⟩

/-- The bytes bs lie at that address, in block g; where there are none, anywhere. -/
def Has (w : World) (g : Nat) (ad : Option Addr) (bs : List Nat) : Prop :=
  bs = [] ∨ ∃ off, ad = some ⟨g, off, none⟩ ∧ ∀ (j b : Nat), bs[j]? = some b → w.cell? ⟨g, off + j, none⟩ = some (.int .u8 (b : Int))

theorem lt_of_cell {w : World} {a : Addr} {v : Value} (h : w.cell? a = some v) : a.block < w.heap.size := by
  refine Nat.lt_of_not_le fun hle => ?_
  have : w.heap[a.block]? = none := Array.getElem?_eq_none hle
  simp [World.cell?, this] at h
theorem Has.moves {w w' : World} {g : Nat} {ad : Option Addr} {bs : List Nat} {S : List Nat} (h : Has w g ad bs) (m : Moves S w w') (hg : g ∉ S) : Has w' g ad bs := by
  rcases h with h | ⟨off, h1, h2⟩
  · exact .inl h
  · refine .inr ⟨off, h1, fun j b hj => ?_⟩
    have hc := h2 j b hj
    have hlt := lt_of_cell hc
    exact (World.cell?_of_block (w := w) (m.block g hlt hg)).trans hc

/-- A slice of bytes. -/
def IsB (w : World) (g : Nat) (v : Value) (bs : List Nat) : Prop :=
  ∃ ad n cap, v = .slice ad n cap ∧ bs.length = n ∧ n ≤ cap ∧ (ad = none → cap = 0) ∧ Has w g ad bs
theorem IsB.moves {w w' : World} {g : Nat} {v : Value} {bs : List Nat} {S : List Nat} (h : IsB w g v bs) (m : Moves S w w') (hg : g ∉ S) : IsB w' g v bs := by
  obtain ⟨ad, n, cap, h1, h2, h3, h4, h5⟩ := h
  exact ⟨ad, n, cap, h1, h2, h3, h4, h5.moves m hg⟩

/-- What a call made anew. -/
def Fresh (w : World) (v : Value) : Prop := ∀ k, v.ownBlock = some k → w.heap.size ≤ k
theorem Fresh.nil (w : World) : Fresh w (.slice none 0 0) := fun k h => by simp [Value.ownBlock] at h

/-- An operation whose guard says yes is the same operation without it. -/
theorem wpList_wanted {P : Program} {w : World} {ops : Array Oper} {rest : List Oper} {o : Oper} {a : Act} {Q : Exit → Act → World → Prop}
    (hw : Region.wanted o (yielded ops a.tmps) = true) (h : wpList P ops Q ({ o with guard := none } :: rest) a w) : wpList P ops Q (o :: rest) a w := by
  unfold wpList at h ⊢
  rw [if_pos hw]
  rw [if_pos (by simp [Region.wanted])] at h
  exact h

/-- The grown row lies where it lay, or in the next block. -/
def Lain (w : World) (v v' : Value) : Prop := v'.ownBlock = v.ownBlock ∨ v'.ownBlock = some w.heap.size

end Go.Proofs.Ytedehhnhmkeglaa
/-
  What octet's Writer does: each method returns, and what was written is the bytes that were there and those of what was handed in; no other memory is written. Conditions: the bytes together are at most 2 to the 40th.
-/
namespace Go.Proofs.Ytedehhnhmkeglaa
open Go.RowKit

end Go.Proofs.Ytedehhnhmkeglaa
/-
  What the document's own writing does: each function returns the bytes that it was handed and those of what is written, in a row of its own; nothing that was there is written. Conditions: the bytes together are at most 2 to the 40th.
-/
namespace Go.Proofs.Ytedehhnhmkeglaa
open Go.RowKit

theorem Lain.fresh {w0 w : World} {v v' : Value} (h : Lain w v v') (hv : Fresh w0 v) (hw : w0.heap.size ≤ w.heap.size) : Fresh w0 v' := by
  intro k hk
  rcases h with e | e
  · exact hv k (by rw [← e]; exact hk)
  · rw [e] at hk; simp at hk; omega

/-- What an append to a new row leaves. -/
theorem appended {w0 w1 w2 : World} {v v' : Value} (hm : Moves [] w0 w1) (hv : Fresh w0 v) (m : Moves v.ownBlock.toList w1 w2) (hat : Lain w1 v v') : Moves [] w0 w2 ∧ Fresh w0 v' :=
  ⟨hm.trans m (fun x hx => .inr (hv x (by cases hq : v.ownBlock <;> simp_all))), hat.fresh hv hm.size⟩

end Go.Proofs.Ytedehhnhmkeglaa
/-
  Rows of things to be written or read, as they lie in memory, and the bytes that the document gives them. Plain facts, no walk.
-/
namespace Go.Proofs.Ytedehhnhmkeglaa
open Go.RowKit

theorem Moves.cell {w w' : World} (m : Moves [] w w') {a : Addr} {v : Value} (h : w.cell? a = some v) : w'.cell? a = some v :=
  (World.cell?_of_block (w := w) (m.block a.block (lt_of_cell h) (by simp))).trans h

end Go.Proofs.Ytedehhnhmkeglaa
/-
  What 'written' does: for every row of things it returns what the program wrote and what the document writes, both the same bytes, and true; nothing that was there is written.
-/
namespace Go.Proofs.Ytedehhnhmkeglaa
open Go.RowKit

end Go.Proofs.Ytedehhnhmkeglaa
/-
  What octet's Reader does while its Read runs: each method takes the bytes that the document says and returns what they stand for, or, where they lack or are wrong, leaves by the Reader's own panic; no other memory is written.
-/
namespace Go.Proofs.Ytedehhnhmkeglaa
open Go.RowKit

theorem heap_set {w : World} {p i : Nat} {c : Array Value} {t : TypeId} {fz : Nat × Nat} (h : w.heap[p]? = some (.cells c t fz)) (u : Value) :
    (w.setCell ⟨p, i, none⟩ u).heap[p]? = some (.cells (c.setIfInBounds i u) t fz) := by
  have hlt := lt_of_block h
  have h' : w.heap[p] = .cells c t fz := by simpa [Array.getElem?_eq_getElem hlt] using h
  show (w.heap.modify p _)[p]? = _
  rw [Array.getElem?_eq_getElem (by simpa using hlt), Array.getElem_modify_self, h']
  rfl

theorem moves_set (w : World) (p i : Nat) (u : Value) : Moves [p] w (w.setCell ⟨p, i, none⟩ u) := (Moves.refl _ _).setCell (.inl (by simp)) _

end Go.Proofs.Ytedehhnhmkeglaa
/-
  What octet's Reader does with a Float and a Text while its Read runs: it takes them where the document lets it, and else leaves by its own panic with all bytes still left; no other memory is written.
-/
namespace Go.Proofs.Ytedehhnhmkeglaa
open Go.RowKit

end Go.Proofs.Ytedehhnhmkeglaa
/-
  What Read does: it calls its function once with a Reader of the bytes, closes the Reader behind it, and returns whether all bytes were taken; where the Reader's own panic left the function it returns false.
-/
namespace Go.Proofs.Ytedehhnhmkeglaa
open Go.RowKit

end Go.Proofs.Ytedehhnhmkeglaa
/-
  What Read does, whatever its function: where the function comes to its end, Read returns whether all bytes were taken; where the Reader's own panic left it, false. Behind it nothing is written but the Reader.
-/
namespace Go.Proofs.Ytedehhnhmkeglaa
open Go.RowKit

end Go.Proofs.Ytedehhnhmkeglaa
/-
  What 'known' does: it returns true, and writes nothing that was there.
-/
namespace Go.Proofs.Ytedehhnhmkeglaa
open Go.RowKit

/-- The bytes as a string. -/
def strOf (bs : List Nat) : ByteArray := ⟨(bs.map UInt8.ofNat).toArray⟩

theorem run_str {w : World} {g : Nat} {v : Value} {bs : List Nat} (h : IsB w g v bs) (ho : ∀ b ∈ bs, b < 256) : (convert 30 9 v).run Try.prog w = .ok (.string (strOf bs)) w := by
  obtain ⟨ad, n, cap, rfl, hn, hc, ha, hh⟩ := h
  rcases hh with rfl | ⟨off, rfl, hcell⟩
  · simp at hn
    subst hn
    cases ad with
    | none =>
      rw [run_convert_bytes_string w 30 9 5 none 0 cap Try.underlying30 Try.underlying5 Try.underlying9]
      rfl
    | some a =>
      have := run_convert_bytes_back (P := Try.prog) w 30 9 5 a cap [] Try.underlying30 Try.underlying5 Try.underlying9 (fun j hj => by simp at hj)
      exact this
  · have := run_convert_bytes_back (P := Try.prog) w 30 9 5 ⟨g, off, none⟩ cap (bs.map UInt8.ofNat) Try.underlying30 Try.underlying5 Try.underlying9 (fun j hj => by
      have hj' : j < bs.length := by simpa using hj
      have h1 := hcell j bs[j] (by simp)
      have e : (⟨g, off, none⟩ : Addr).add j = ⟨g, off + j, none⟩ := by unfold Addr.add; split <;> simp_all
      have h2 := ho bs[j] (List.getElem_mem hj')
      have e2 : (bs.map UInt8.ofNat)[j].toNat = bs[j] := by
        rw [List.getElem_map]
        exact UInt8.toNat_ofNat_of_lt h2
      rw [e, h1, e2])
    rw [List.length_map, hn] at this
    exact this

end Go.Proofs.Ytedehhnhmkeglaa
/-
  What the function that OctetBack hands to Read does: it reads all that was written, finds it the same, and nothing is left.
-/
namespace Go.Proofs.Ytedehhnhmkeglaa
open Go.RowKit

theorem Moves.cellOf {S : List Nat} {w w' : World} (m : Moves S w w') {a : Addr} {v : Value} (h : w.cell? a = some v) (ha : a.block ∉ S) : w'.cell? a = some v :=
  (World.cell?_of_block (w := w) (m.block a.block (lt_of_cell h) ha)).trans h

end Go.Proofs.Ytedehhnhmkeglaa
