/-
  Plain, Bits, Plain2, Plain3, Calls, Calls2, Float, Ref, Floats, WpT, Worlds, Writer, RefW, Asks, Open0, Kp0, Bl0: our texts of these names, laid into one.
-/
import Derived.Laws.FloatArith
import Derived.Laws.BitsAllLaws
import Derived.RowKit
import Derived.Test.YtjeancijbogpbaaRows
import Derived.WalkKit
import Derived.WalkSpells
import Derived.WalkLawsBesides
import Derived.Deep.Draws
import Derived.OrdersHeld
import Derived.Deep.RegionHeld
import Derived.Maps.AppendAt
import Derived.Laws.AppendOwnNone
import Derived.Laws.CopyOwn
import Derived.Deep.Slices
import Derived.Deep.Fields
import Derived.ChangeShapes
/-
  Plain facts on the words of IEEE 754 doubles (no program in sight): which words are no numbers, what the one word of all of them is, in which order words stand, what a sum is. No condition but that a word fits 64 bits, where it is said.
-/
namespace Go.Proofs.Ytjeancijbogpbaa.Pl
open Ieee

end Go.Proofs.Ytjeancijbogpbaa.Pl
/-
  Plain facts on the bit operations that the num package and the document's own answer use: the sign bit, the exponent's bits, the fraction's bits of a 64-bit word, in plain arithmetic. Condition: the word fits 64 bits.
-/
namespace Go.Proofs.Ytjeancijbogpbaa.Pl

end Go.Proofs.Ytjeancijbogpbaa.Pl
/-
  More plain facts on words of doubles: how a word stands to zero and to the greatest number, what its negative is, which of the six kinds it is. Condition: the word fits 64 bits.
-/
namespace Go.Proofs.Ytjeancijbogpbaa.Pl
open Ieee

end Go.Proofs.Ytjeancijbogpbaa.Pl
/-
  The order of words is an order, without any program: of two words one is below or they are one; what is below what is below is below; it agrees with the order of floats where both are numbers. Condition: the words fit 64 bits.
-/
namespace Go.Proofs.Ytjeancijbogpbaa.Pl
open Ieee Go.RowKit

end Go.Proofs.Ytjeancijbogpbaa.Pl
/-
  What each function of package num that takes floats alone does, as plain arithmetic on words: for every word of 64 bits the call returns, and leaves memory as it was.
-/
namespace Go.Proofs.Ytjeancijbogpbaa
open Go.RowKit

@[go_sem] theorem run_negfloat (n : Nat) (w : World) : (Op.unary .neg (.float .f64 n)).run Try.prog w = .ok (.float .f64 (n ^^^ 9223372036854775808)) w := rfl

end Go.Proofs.Ytjeancijbogpbaa
/-
  What Class, math's constants, the law's own 'known' and the drawn float do: for every word of 64 bits the call returns, and leaves memory as it was.
-/
namespace Go.Proofs.Ytjeancijbogpbaa
open Go.RowKit

end Go.Proofs.Ytjeancijbogpbaa
/-
  The drawn float: for every number and every word of 64 bits the call returns a word of 64 bits, and leaves memory as it was.
-/
namespace Go.Proofs.Ytjeancijbogpbaa
open Go.RowKit

end Go.Proofs.Ytjeancijbogpbaa
/-
  What the document's own answer (the reference of layer 1) does: for every word of 64 bits it returns what package num's functions are proved to return, and leaves memory as it was.
-/
namespace Go.Proofs.Ytjeancijbogpbaa
open Go.RowKit

namespace Pl
end Pl

end Go.Proofs.Ytjeancijbogpbaa
/-
  What each function on floats that the layers above call does: one text to import.
-/
/-
  One operation of a drawn region that only reads, in few words.
-/
namespace Go.Proofs.Ytjeancijbogpbaa
open Go.RowKit

theorem sp1 {α : Type} {l : List α} {i : Nat} {a : α} : l.toArray.setIfInBounds i a = (l.set i a).toArray := List.setIfInBounds_toArray ..
theorem sp2 {α : Type} {x : α} {xs : List α} {a : α} : (x :: xs).set 0 a = a :: xs := List.set_cons_zero
theorem sp3 {α : Type} {x : α} {xs : List α} {i : Nat} {a : α} : (x :: xs).set (i + 1) a = x :: xs.set i a := List.set_cons_succ
theorem wpT {P : Program} {ops : Array Oper} {Q : Exit → Act → World → Prop} {md : Region.Mode} {S : World → Prop} (i : Nat) (oi : Oper) {v : Value} {fuel : Nat} {listed : Array Bool} {a a2 : Act} {w : World}
    (h : wpAnyH P md ops Q S fuel (listed.setIfInBounds i true) a2 w) (hi : ops[i]? = some oi := by rfl) (hs : Region.noSelect ops = true := by kernel_rfl) (hf : Region.free md ops listed i = true := by kernel_rfl) (hr : (Region.ready md ops listed).contains i = true := by kernel_rfl)
    (hQ : ∀ c a w, Q (.panic c) (a.put oi.dst v) w → Q (.panic c) a w := by exact fun _ _ _ h => h) (hw : Region.wanted oi (yielded ops a.tmps) = true := by rfl)
    (hy : ∀ w, S w → (execOp a.eval oi).run P w = .ok (.value v) w := by (intro w hSw; (try dsimp only at hSw); go_simp; try (with_reducible rfl))) (ha : a.put oi.dst v = a2 := by (first | (simp only [Act.put, sp1, sp2, sp3]; done) | (simp only [Act.put, sp1, sp2, sp3]; exact rfl) | exact rfl)) (hS : S w := by assumption) : wpAnyH P md ops Q S (fuel + 1) listed a w :=
  wpAnyH_take hi hs hf hr hQ (.inl ⟨hw, hy⟩) hS (ha ▸ h)
theorem wpU {P : Program} {ops : Array Oper} {Q : Exit → Act → World → Prop} {md : Region.Mode} {S : World → Prop} (i : Nat) (oi : Oper) {fuel : Nat} {listed : Array Bool} {a a2 : Act} {w : World}
    (h : wpAnyH P md ops Q S fuel (listed.setIfInBounds i true) a2 w) (hi : ops[i]? = some oi := by rfl) (hs : Region.noSelect ops = true := by kernel_rfl) (hf : Region.free md ops listed i = true := by kernel_rfl) (hr : (Region.ready md ops listed).contains i = true := by kernel_rfl)
    (hQ : ∀ c a w, Q (.panic c) (a.put oi.dst undef) w → Q (.panic c) a w := by exact fun _ _ _ h => h) (hw : Region.wanted oi (yielded ops a.tmps) = false := by rfl)
    (ha : a.put oi.dst undef = a2 := by (first | (simp only [Act.put, sp1, sp2, sp3]; done) | (simp only [Act.put, sp1, sp2, sp3]; exact rfl) | exact rfl)) (hS : S w := by assumption) : wpAnyH P md ops Q S (fuel + 1) listed a w :=
  wpAnyH_take hi hs hf hr hQ (.inr ⟨hw, rfl⟩) hS (ha ▸ h)
theorem wpR {P : Program} {ops : Array Oper} {Q : Exit → Act → World → Prop} {md : Region.Mode} {S : World → Prop} (i : Nat) (o : Oper) {fuel : Nat} {listed : Array Bool} {a : Act} {w : World}
    (h : ∀ K : Act → World → Prop, Shut (∀ a w, S w → (S w → wpAnyH P md ops Q S fuel (listed.setIfInBounds i true) a w) → K a w) → if Region.wanted o (yielded ops a.tmps) = true then Oper.wp P o a w K Q else K (a.put o.dst undef) w)
    (hr : Region.ready md ops listed = [i] := by kernel_rfl) (ho : ops[i]? = some o := by rfl) : wpAnyH P md ops Q S (fuel + 1) listed a w :=
  wpAnyH_ready hr (by simp) (AllReadyH.cons ho h AllReadyH.nil)
end Go.Proofs.Ytjeancijbogpbaa
/-
  Memory that a call moves: which blocks it may have written, and rows of bytes that lie in memory: nil, empty, an argument's, or the call's own. Plain facts, no program in sight but for the numbers of its types.
-/
namespace Go.Proofs.Ytjeancijbogpbaa
open Go.RowKit

/-- From w to w' no block but those of S was written; there may be new ones. -/
structure Moves (S : List Nat) (w w' : World) : Prop where
  os : w'.os = w.os
  tape : w'.tape = w.tape
  output : w'.output = w.output
  size : w.heap.size ≤ w'.heap.size
  block : ∀ k, k < w.heap.size → k ∉ S → w'.heap[k]? = w.heap[k]?

theorem Moves.refl (S : List Nat) (w : World) : Moves S w w := ⟨rfl, rfl, rfl, Nat.le_refl _, fun _ _ _ => rfl⟩
theorem Moves.trans {S T : List Nat} {a b c : World} (h : Moves S a b) (k : Moves T b c) (hT : ∀ x ∈ T, x ∈ S ∨ a.heap.size ≤ x) : Moves S a c :=
  ⟨k.os.trans h.os, k.tape.trans h.tape, k.output.trans h.output, Nat.le_trans h.size k.size, fun i hi hn =>
    (k.block i (Nat.lt_of_lt_of_le hi h.size) (fun hx => by rcases hT i hx with h1 | h1; exact hn h1; omega)).trans (h.block i hi hn)⟩
theorem Moves.alloc {S : List Nat} {a w : World} (h : Moves S a w) (o : Obj) : Moves S a (w.alloc o) :=
  h.trans (T := []) ⟨rfl, rfl, rfl, by simp, fun k hk _ => Below.heap_alloc _ _ _ hk⟩ (fun _ hx => by simp at hx)
theorem Moves.below {S : List Nat} {w w' : World} {B : Nat} (h : Moves S w w') (hS : ∀ k ∈ S, B ≤ k) (hB : B ≤ w.heap.size) : Below B w w' :=
  ⟨h.os, h.tape, h.output, h.size, fun k hk => h.block k (by omega) fun hx => by have := hS k hx; omega⟩

end Go.Proofs.Ytjeancijbogpbaa
/-
  What octet's Writer does: each method returns, and what was written is the bytes that were there and those of what was handed in; no other memory is written. Conditions: the bytes together are at most 2 to the 40th.
-/
namespace Go.Proofs.Ytjeancijbogpbaa
open Go.RowKit

end Go.Proofs.Ytjeancijbogpbaa
/-
  What the document's own writing does: each function returns the bytes that it was handed and those of what is written, in a row of its own; nothing that was there is written. Conditions: the bytes together are at most 2 to the 40th.
-/
namespace Go.Proofs.Ytjeancijbogpbaa
open Go.RowKit

end Go.Proofs.Ytjeancijbogpbaa
/-
  Rows of things to be written or read, as they lie in memory, and the bytes that the document gives them. Plain facts, no walk.
-/
namespace Go.Proofs.Ytjeancijbogpbaa
open Go.RowKit

end Go.Proofs.Ytjeancijbogpbaa
/-
  Arguments opened: integers, lists of integers, strings, lists of strings.
-/
namespace Go.Proofs.Ytjeancijbogpbaa
open Go.RowKit
open Go.ChangeShapes Go.WideShapes

/-- An integer that was handed in. -/
def IArg (v : Value) : Prop := ∃ n : Int, v = .int .i64 n
set_option maxRecDepth 100000 in
theorem iarg_of_trod {H : Type} {enc : TypeId × Value → H} {W : World} {base b0 : Nat} {r : Reach} {spare : Nat → Bool} {held : Bool} {t : TypeId} {v : Value} {d : DataW H} {p : List MemPlace}
    (ht : Try.prog.underlying t = some (.int .i64)) (hv : Value.okWide Try.prog W r b0 t v) (h : DataW.Trod enc Try.prog W base spare held t v d p) : IArg v := by
  obtain ⟨n, rfl, _⟩ := open_int ht hv h
  exact ⟨n, rfl⟩

end Go.Proofs.Ytjeancijbogpbaa
/-
  keep's Head and Row, book's Within, as plain functions.
-/
namespace Go.Proofs.Ytjeancijbogpbaa
open Go.RowKit

end Go.Proofs.Ytjeancijbogpbaa
/-
  Ballots as plain numbers: what package ballot and the document's own answer come to.
-/
namespace Go.Proofs.Ytjeancijbogpbaa
open Go.RowKit

def bR (n : Int) : Bool := n == 1 || n == 3 || n == 5
def bQ (n : Int) : Int := if bR n then n / 2 + 1 else -1
def bL (b n : Int) : Int := if bR n = true ∧ 0 ≤ b then b % n else -1
def bF (b : Int) : Int := if b < -1 then 0 else b + 1
def bN (b me n : Int) : Int := if bR n = true ∧ 0 ≤ me ∧ me < n then bF b + (me - bF b) % n else -1
def b0 (b : Int) : Int := if b < 0 then 0 else b
def bE (b n : Int) : Int := if bR n then b0 b / n else -1
def bW (e : Int) : Int := if e ≤ 0 then 2 else if e = 1 then 4 else if e = 2 then 8 else 16
def bP (b n : Int) : Int := if bR n then bW (b0 b / n) else -1
theorem bR_true {n : Int} (h : bR n = true) : n = 1 ∨ n = 3 ∨ n = 5 := by
  simp only [bR, Bool.or_eq_true, beq_iff_eq] at h
  omega
theorem bF_is {b : Int} (hb : -1000 ≤ b ∧ b ≤ 4294967296) : 0 ≤ bF b ∧ bF b ≤ 4294967297 ∧ b < bF b := by unfold bF; split <;> omega
theorem b0_is {b : Int} (hb : -1000 ≤ b ∧ b ≤ 4294967296) : 0 ≤ b0 b ∧ b0 b ≤ 4294967296 := by unfold b0; split <;> omega

theorem bRight_w (n : Int) (w : World) : Calls Try.prog 15 #[.int .i64 n] w fun e w' => e = .returned (.bool (bR n)) ∧ w = w' := by
  obtain ⟨q, hq⟩ : ∃ q, Hid (bR n = q) := ⟨_, rfl⟩
  rw [hq.out]
  go_enter Try.func15, Try.ntmps15
  go_wp2
  all_goals go_ret
  all_goals refine ⟨congrArg (fun z => Ending.returned (.bool z)) ?_, rfl⟩
  all_goals (rw [← hq.out]; simp_all [bR])
set_option maxRecDepth 100000 in
theorem bQuorum_w (n : Int) (w : World) : Calls Try.prog 13 #[.int .i64 n] w fun e w' => e = .returned (.int .i64 (bQ n)) ∧ w = w' := by
  have H := bRight_w n w
  cases hr : bR n with
  | true =>
    rw [hr] at H
    rcases bR_true hr with rfl | rfl | rfl
    all_goals
      clear hr
      go_enter Try.func13, Try.ntmps13
      go_wp2_with (go_at_call 15; refine H.mono ?_; rintro _ _ ⟨rfl, rfl⟩)
      go_ret
      exact ⟨rfl, rfl⟩
  | false =>
    rw [hr] at H
    rw [show bQ n = -1 by simp [bQ, hr]]
    clear hr
    go_enter Try.func13, Try.ntmps13
    go_wp2_with (go_at_call 15; refine H.mono ?_; rintro _ _ ⟨rfl, rfl⟩)
    go_ret
    exact ⟨rfl, rfl⟩
set_option maxRecDepth 100000 in
theorem bLeader_w (b n : Int) (hb : -1000 ≤ b ∧ b ≤ 4294967296) (w : World) : Calls Try.prog 11 #[.int .i64 b, .int .i64 n] w fun e w' => e = .returned (.int .i64 (bL b n)) ∧ w = w' := by
  have H := bRight_w n w
  cases hr : bR n with
  | true =>
    rw [hr] at H
    by_cases h0 : b < 0
    · rw [show bL b n = -1 by unfold bL; rw [if_neg (by omega)]]
      clear hr
      go_enter Try.func11, Try.ntmps11
      go_wp2_with (go_at_call 15; refine H.mono ?_; rintro _ _ ⟨rfl, rfl⟩)
      go_ret
      exact ⟨rfl, rfl⟩
    · have h1 : 0 ≤ b := by omega
      rw [show bL b n = b % n by unfold bL; rw [if_pos ⟨hr, h1⟩]]
      rcases bR_true hr with rfl | rfl | rfl
      all_goals
        clear hr
        go_enter Try.func11, Try.ntmps11
        go_wp2_with (go_at_call 15; refine H.mono ?_; rintro _ _ ⟨rfl, rfl⟩)
        go_ret
        refine ⟨congrArg (fun z => Ending.returned (.int .i64 z)) ?_, rfl⟩
        first | rfl | omega
  | false =>
    rw [hr] at H
    rw [show bL b n = -1 by simp [bL, hr]]
    clear hr
    go_enter Try.func11, Try.ntmps11
    go_wp2_with (go_at_call 15; refine H.mono ?_; rintro _ _ ⟨rfl, rfl⟩)
    go_ret
    exact ⟨rfl, rfl⟩
set_option maxRecDepth 100000 in
theorem bEpoch_w (b n : Int) (hb : -1000 ≤ b ∧ b ≤ 4294967296) (w : World) : Calls Try.prog 18 #[.int .i64 b, .int .i64 n] w fun e w' => e = .returned (.int .i64 (bE b n)) ∧ w = w' := by
  have H := bRight_w n w
  cases hr : bR n with
  | true =>
    rw [hr] at H
    obtain ⟨x, hx⟩ : ∃ x, Hid (b0 b = x) := ⟨_, rfl⟩
    have hx0 := b0_is hb
    rw [show bE b n = b0 b / n by simp [bE, hr], hx.out]
    rw [hx.out] at hx0
    rcases bR_true hr with rfl | rfl | rfl
    all_goals
      clear hr
      go_enter Try.func18, Try.ntmps18
      go_wp2_with (go_at_call 15; refine H.mono ?_; rintro _ _ ⟨rfl, rfl⟩)
      all_goals go_ret
      all_goals refine ⟨congrArg (fun z => Ending.returned (.int .i64 z)) ?_, rfl⟩
      all_goals have hy := hx.out
      all_goals unfold b0 at hy
      all_goals (split at hy <;> first | rfl | omega)
  | false =>
    rw [hr] at H
    rw [show bE b n = -1 by simp [bE, hr]]
    clear hr
    go_enter Try.func18, Try.ntmps18
    go_wp2_with (go_at_call 15; refine H.mono ?_; rintro _ _ ⟨rfl, rfl⟩)
    go_ret
    exact ⟨rfl, rfl⟩
set_option maxRecDepth 100000 in
theorem bNext_w (b me n : Int) (hb : -1000 ≤ b ∧ b ≤ 4294967296) (hm : -1000 ≤ me ∧ me ≤ 1000) (w : World) : Calls Try.prog 10 #[.int .i64 b, .int .i64 me, .int .i64 n] w fun e w' => e = .returned (.int .i64 (bN b me n)) ∧ w = w' := by
  have H := bRight_w n w
  cases hr : bR n with
  | true =>
    rw [hr] at H
    by_cases h0 : me < 0
    · rw [show bN b me n = -1 by unfold bN; rw [if_neg (by omega)]]
      clear hr
      go_enter Try.func10, Try.ntmps10
      go_wp2_with (go_at_call 15; refine H.mono ?_; rintro _ _ ⟨rfl, rfl⟩)
      go_ret
      exact ⟨rfl, rfl⟩
    · by_cases h9 : n ≤ me
      · rw [show bN b me n = -1 by unfold bN; rw [if_neg (by omega)]]
        clear hr
        go_enter Try.func10, Try.ntmps10
        go_wp2_with (go_at_call 15; refine H.mono ?_; rintro _ _ ⟨rfl, rfl⟩)
        go_ret
        exact ⟨rfl, rfl⟩
      · obtain ⟨f, hf⟩ : ∃ f, Hid (bF b = f) := ⟨_, rfl⟩
        have hf0 := bF_is hb
        rw [hf.out] at hf0
        obtain ⟨hf0, hf1, hf2⟩ := hf0
        rw [show bN b me n = bF b + (me - bF b) % n by unfold bN; rw [if_pos ⟨hr, by omega, by omega⟩], hf.out]
        rcases bR_true hr with rfl | rfl | rfl
        all_goals
          clear hr
          go_enter Try.func10, Try.ntmps10
          go_wp2_with (go_at_call 15; refine H.mono ?_; rintro _ _ ⟨rfl, rfl⟩)
        all_goals
          go_ret
          refine ⟨congrArg (fun z => Ending.returned (.int .i64 z)) ?_, rfl⟩
          have hy := hf.out
          unfold bF at hy
          first | (rw [if_pos (by assumption)] at hy; simp only [if_pos (show b < -1 by assumption)] at *; omega) | (rw [if_neg (by omega)] at hy; simp only [if_neg (show ¬ b < -1 by omega)] at *; omega)
  | false =>
    rw [hr] at H
    rw [show bN b me n = -1 by simp [bN, hr]]
    clear hr
    go_enter Try.func10, Try.ntmps10
    go_wp2_with (go_at_call 15; refine H.mono ?_; rintro _ _ ⟨rfl, rfl⟩)
    go_ret
    exact ⟨rfl, rfl⟩
set_option maxRecDepth 100000 in
theorem bPatience_w (b n : Int) (hb : -1000 ≤ b ∧ b ≤ 4294967296) (w : World) : Calls Try.prog 12 #[.int .i64 b, .int .i64 n] w fun e w' => e = .returned (.int .i64 (bP b n)) ∧ w = w' := by
  have H := bRight_w n w
  have E := bEpoch_w b n hb w
  cases hr : bR n with
  | true =>
    rw [hr] at H
    rw [show bE b n = b0 b / n by simp [bE, hr]] at E
    rw [show bP b n = bW (b0 b / n) by simp [bP, hr]]
    have he : 0 ≤ b0 b / n := Int.ediv_nonneg (b0_is hb).1 (by have := bR_true hr; omega)
    have he2 : b0 b / n ≤ 4294967296 := Int.le_trans (Int.ediv_le_self _ (b0_is hb).1) (b0_is hb).2
    generalize b0 b / n = q at *
    obtain ⟨z, hz⟩ : ∃ z, Hid (bW q = z) := ⟨_, rfl⟩
    rw [hz.out]
    clear hr
    go_enter Try.func12, Try.ntmps12
    go_wp2_with (first | (go_at_call 15; refine H.mono ?_; rintro _ _ ⟨rfl, rfl⟩) | (go_at_call 18; refine E.mono ?_; rintro _ _ ⟨rfl, rfl⟩))
    all_goals go_ret
    all_goals refine ⟨congrArg (fun z => Ending.returned (.int .i64 z)) ?_, rfl⟩
    all_goals have hy := hz.out
    all_goals unfold bW at hy
    · rw [if_neg (by omega), if_neg (by omega), if_neg (by omega)] at hy
      rw [← hy]; decide +kernel
    · rcases (by omega : q = 0 ∨ q = 1 ∨ q = 2 ∨ q = 3) with rfl | rfl | rfl | rfl
      all_goals (rw [← hy]; decide +kernel)
  | false =>
    rw [hr] at H
    rw [show bP b n = -1 by simp [bP, hr]]
    clear hr E
    go_enter Try.func12, Try.ntmps12
    go_wp2_with (go_at_call 15; refine H.mono ?_; rintro _ _ ⟨rfl, rfl⟩)
    go_ret
    exact ⟨rfl, rfl⟩
end Go.Proofs.Ytjeancijbogpbaa
