/-
  Worlds, Writer, RefW, Asks, Open0, Kp0, Bl0, Bl1: our texts of these names, laid into one.
-/
import Derived.Test.YtjeancijbogpbaaCB00
import Derived.Maps.AppendAt
import Derived.Laws.AppendOwnNone
import Derived.Laws.CopyOwn
import Derived.Deep.Slices
import Derived.Deep.Fields
import Derived.ChangeShapes
import Derived.WalkLawsBesides
import Derived.Test.YtjeancijbogpbaaRows
import Derived.ProofKit
/-
  Memory that a call moves: which blocks it may have written, and rows of bytes that lie in memory: nil, empty, an argument's, or the call's own. Plain facts, no program in sight but for the numbers of its types.
-/
namespace Go.Proofs.Ytjeancijbogpbaa
open Go.RowKit

/-- From w to w' no block but those of S was written; there may be new ones. -/
structure Moves (S : List Nat) (w w' : World) : Prop where
  os : w'.os = w.os
  tape : w'.tape = w.tape
  output : w'.output = w.output
  size : w.heap.size ≤ w'.heap.size
  block : ∀ k, k < w.heap.size → k ∉ S → w'.heap[k]? = w.heap[k]?

theorem Moves.refl (S : List Nat) (w : World) : Moves S w w := ⟨rfl, rfl, rfl, Nat.le_refl _, fun _ _ _ => rfl⟩
theorem Moves.trans {S T : List Nat} {a b c : World} (h : Moves S a b) (k : Moves T b c) (hT : ∀ x ∈ T, x ∈ S ∨ a.heap.size ≤ x) : Moves S a c :=
  ⟨k.os.trans h.os, k.tape.trans h.tape, k.output.trans h.output, Nat.le_trans h.size k.size, fun i hi hn =>
    (k.block i (Nat.lt_of_lt_of_le hi h.size) (fun hx => by rcases hT i hx with h1 | h1; exact hn h1; omega)).trans (h.block i hi hn)⟩
theorem Moves.then {S : List Nat} {a b c : World} (h : Moves S a b) (k : Moves S b c) : Moves S a c := h.trans k fun _ hx => .inl hx
theorem Moves.mono {S T : List Nat} {a b : World} (h : Moves S a b) (hT : ∀ x ∈ S, x ∈ T) : Moves T a b :=
  ⟨h.os, h.tape, h.output, h.size, fun i hi hn => h.block i hi fun hx => hn (hT i hx)⟩
theorem Moves.at {S : List Nat} {w w' : World} {k : Nat} {o : Obj} (h : Moves S w w') (hk : w.heap[k]? = some o) (hn : k ∉ S) : w'.heap[k]? = some o :=
  (h.block k (lt_of_block hk) hn).trans hk
theorem Moves.drew {S : List Nat} {a w : World} (h : Moves S a w) : Moves S a w.drew := ⟨h.os, h.tape, h.output, h.size, h.block⟩
theorem Moves.alloc {S : List Nat} {a w : World} (h : Moves S a w) (o : Obj) : Moves S a (w.alloc o) :=
  h.trans (T := []) ⟨rfl, rfl, rfl, by simp, fun k hk _ => Below.heap_alloc _ _ _ hk⟩ (fun _ hx => by simp at hx)
theorem Moves.below {S : List Nat} {w w' : World} {B : Nat} (h : Moves S w w') (hS : ∀ k ∈ S, B ≤ k) (hB : B ≤ w.heap.size) : Below B w w' :=
  ⟨h.os, h.tape, h.output, h.size, fun k hk => h.block k (by omega) fun hx => by have := hS k hx; omega⟩

/-- The bytes as values. -/
def u8s (bs : List Nat) : List Value := bs.map fun b : Nat => Value.int .u8 (b : Int)
/-- The bytes bs lie at that address, in block g; where there are none, anywhere. -/
def Has (w : World) (g : Nat) (ad : Option Addr) (bs : List Nat) : Prop :=
  bs = [] ∨ ∃ off, ad = some ⟨g, off, none⟩ ∧ ∀ (j b : Nat), bs[j]? = some b → w.cell? ⟨g, off + j, none⟩ = some (.int .u8 (b : Int))

theorem Has.nil (w : World) (g : Nat) (ad : Option Addr) : Has w g ad [] := .inl rfl
theorem lt_of_cell {w : World} {a : Addr} {v : Value} (h : w.cell? a = some v) : a.block < w.heap.size := by
  refine Nat.lt_of_not_le fun hle => ?_
  have : w.heap[a.block]? = none := Array.getElem?_eq_none hle
  simp [World.cell?, this] at h
/-- A slice of bytes. -/
def IsB (w : World) (g : Nat) (v : Value) (bs : List Nat) : Prop :=
  ∃ ad n cap, v = .slice ad n cap ∧ bs.length = n ∧ n ≤ cap ∧ (ad = none → cap = 0) ∧ Has w g ad bs
/-- A row of bytes of the call's own. -/
def Own (w : World) (v : Value) (bs : List Nat) : Prop := w.ownsRow 0 5 1 v bs.length (u8s bs)
theorem Own.nil (w : World) : Own w (.slice none 0 0) [] := by unfold Own; exact World.ownsRow_nil _ _ _ _
theorem Own.cap {w : World} {v : Value} {bs : List Nat} (h : Own w v bs) (hpos : 0 < bs.length) : ∃ g n cap, v = .slice (some ⟨g, 0, none⟩) n cap := by
  rcases h.2 with ⟨_, h0⟩ | ⟨g, cap, _, h1, _⟩
  · omega
  · exact ⟨g, _, cap, h1⟩
theorem Own.lt {w : World} {v : Value} {bs : List Nat} (h : Own w v bs) {k : Nat} (hk : v.ownBlock = some k) : k < w.heap.size := (World.ownsRow.lt h k hk).2
/-- What a call made anew. -/
def Fresh (w : World) (v : Value) : Prop := ∀ k, v.ownBlock = some k → w.heap.size ≤ k
theorem Fresh.nil (w : World) : Fresh w (.slice none 0 0) := fun k h => by simp [Value.ownBlock] at h

end Go.Proofs.Ytjeancijbogpbaa
/-
  What octet's Writer does: each method returns, and what was written is the bytes that were there and those of what was handed in; no other memory is written. Conditions: the bytes together are at most 2 to the 40th.
-/
namespace Go.Proofs.Ytjeancijbogpbaa
open Go.RowKit

/-- The first j of size bytes of n, the highest first. -/
def hi (size n j : Nat) : List Nat := (List.range j).map fun t => n / 256 ^ (size - 1 - t) % 256
/-- What a Num and a Long are as bytes. -/
def be (size n : Nat) : List Nat := hi size n size
end Go.Proofs.Ytjeancijbogpbaa
/-
  What the document's own writing does: each function returns the bytes that it was handed and those of what is written, in a row of its own; nothing that was there is written. Conditions: the bytes together are at most 2 to the 40th.
-/
namespace Go.Proofs.Ytjeancijbogpbaa
open Go.RowKit

theorem Has.take {w : World} {g : Nat} {ad : Option Addr} {bs : List Nat} (h : Has w g ad bs) (n : Nat) : Has w g ad (bs.take n) := by
  rcases h with rfl | ⟨off, h1, h2⟩
  · exact .inl (by simp)
  · refine .inr ⟨off, h1, fun j b hj => h2 j b ?_⟩
    rw [List.getElem?_take] at hj
    split at hj
    · exact hj
    · simp at hj

end Go.Proofs.Ytjeancijbogpbaa
/-
  Rows of things to be written or read, as they lie in memory, and the bytes that the document gives them. Plain facts, no walk.
-/
namespace Go.Proofs.Ytjeancijbogpbaa
open Go.RowKit

/-- One thing to be written or read. -/
structure AskM where
  kind : Int
  most : Int
  n : Nat
  x : Nat
  bv : Value
  g : Nat
  bb : List Nat

theorem Moves.cell {w w' : World} (m : Moves [] w w') {a : Addr} {v : Value} (h : w.cell? a = some v) : w'.cell? a = some v :=
  (World.cell?_of_block (w := w) (m.block a.block (lt_of_cell h) (by simp))).trans h

/-- The block of bytes that are there is old. -/
theorem Has.lt {w : World} {g : Nat} {ad : Option Addr} {bs : List Nat} (h : Has w g ad bs) (hn : bs ≠ []) : g < w.heap.size := by
  rcases h with h | ⟨off, _, h2⟩
  · exact absurd h hn
  · cases bs with
    | nil => exact absurd rfl hn
    | cons b t => exact lt_of_cell (h2 0 b rfl)
theorem IsB.lt {w : World} {g : Nat} {v : Value} {bs : List Nat} (h : IsB w g v bs) (hn : bs ≠ []) : g < w.heap.size := by
  obtain ⟨ad, n, cap, _, _, _, _, h5⟩ := h
  exact h5.lt hn

/-- What is written of one. -/
def enc (a : AskM) : List Nat :=
  if a.kind = 1 then [a.n % 256] else if a.kind = 2 then be 4 (a.n % 4294967296) else if a.kind = 3 then be 8 a.n
  else if a.kind = 4 then be 8 (Pl.canon a.x) else if a.kind = 5 then be 4 (a.bb.take 30).length ++ a.bb.take 30 else []

end Go.Proofs.Ytjeancijbogpbaa
/-
  Arguments opened: integers, lists of integers, strings, lists of strings.
-/
namespace Go.Proofs.Ytjeancijbogpbaa
open Go.RowKit
open Go.ChangeShapes Go.WideShapes

/-- An integer that was handed in. -/
def IArg (v : Value) : Prop := ∃ n : Int, v = .int .i64 n
set_option maxRecDepth 100000 in
theorem iarg_of_trod {H : Type} {enc : TypeId × Value → H} {W : World} {base b0 : Nat} {r : Reach} {spare : Nat → Bool} {held : Bool} {t : TypeId} {v : Value} {d : DataW H} {p : List MemPlace}
    (ht : Try.prog.underlying t = some (.int .i64)) (hv : Value.okWide Try.prog W r b0 t v) (h : DataW.Trod enc Try.prog W base spare held t v d p) : IArg v := by
  obtain ⟨n, rfl, _⟩ := open_int ht hv h
  exact ⟨n, rfl⟩

end Go.Proofs.Ytjeancijbogpbaa
/-
  keep's Head and Row, book's Within, as plain functions.
-/
namespace Go.Proofs.Ytjeancijbogpbaa
open Go.RowKit

end Go.Proofs.Ytjeancijbogpbaa
/-
  Ballots as plain numbers: what package ballot and the document's own answer come to.
-/
namespace Go.Proofs.Ytjeancijbogpbaa
open Go.RowKit

def bR (n : Int) : Bool := n == 1 || n == 3 || n == 5
def bQ (n : Int) : Int := if bR n then n / 2 + 1 else -1
def bF (b : Int) : Int := if b < -1 then 0 else b + 1
def bN (b me n : Int) : Int := if bR n = true ∧ 0 ≤ me ∧ me < n then bF b + (me - bF b) % n else -1
def b0 (b : Int) : Int := if b < 0 then 0 else b
def bE (b n : Int) : Int := if bR n then b0 b / n else -1
def bW (e : Int) : Int := if e ≤ 0 then 2 else if e = 1 then 4 else if e = 2 then 8 else 16
def bP (b n : Int) : Int := if bR n then bW (b0 b / n) else -1
theorem bR_true {n : Int} (h : bR n = true) : n = 1 ∨ n = 3 ∨ n = 5 := by
  simp only [bR, Bool.or_eq_true, beq_iff_eq] at h
  omega
theorem bF_is {b : Int} (hb : -1000 ≤ b ∧ b ≤ 4294967296) : 0 ≤ bF b ∧ bF b ≤ 4294967297 ∧ b < bF b := by unfold bF; split <;> omega
theorem b0_is {b : Int} (hb : -1000 ≤ b ∧ b ≤ 4294967296) : 0 ≤ b0 b ∧ b0 b ≤ 4294967296 := by unfold b0; split <;> omega

theorem bRight_w (n : Int) (w : World) : Calls Try.prog 15 #[.int .i64 n] w fun e w' => e = .returned (.bool (bR n)) ∧ w = w' := by
  obtain ⟨q, hq⟩ : ∃ q, Hid (bR n = q) := ⟨_, rfl⟩
  rw [hq.out]
  go_enter Try.func15, Try.ntmps15
  go_wp2
  all_goals go_ret
  all_goals refine ⟨congrArg (fun z => Ending.returned (.bool z)) ?_, rfl⟩
  all_goals (rw [← hq.out]; simp_all [bR])
set_option maxRecDepth 100000 in
theorem bQuorum_w (n : Int) (w : World) : Calls Try.prog 13 #[.int .i64 n] w fun e w' => e = .returned (.int .i64 (bQ n)) ∧ w = w' := by
  have H := bRight_w n w
  cases hr : bR n with
  | true =>
    rw [hr] at H
    rcases bR_true hr with rfl | rfl | rfl
    all_goals
      clear hr
      go_enter Try.func13, Try.ntmps13
      go_wp2_with (go_at_call 15; refine H.mono ?_; rintro _ _ ⟨rfl, rfl⟩)
      go_ret
      exact ⟨rfl, rfl⟩
  | false =>
    rw [hr] at H
    rw [show bQ n = -1 by simp [bQ, hr]]
    clear hr
    go_enter Try.func13, Try.ntmps13
    go_wp2_with (go_at_call 15; refine H.mono ?_; rintro _ _ ⟨rfl, rfl⟩)
    go_ret
    exact ⟨rfl, rfl⟩
set_option maxRecDepth 100000 in
theorem bEpoch_w (b n : Int) (hb : -1000 ≤ b ∧ b ≤ 4294967296) (w : World) : Calls Try.prog 18 #[.int .i64 b, .int .i64 n] w fun e w' => e = .returned (.int .i64 (bE b n)) ∧ w = w' := by
  have H := bRight_w n w
  cases hr : bR n with
  | true =>
    rw [hr] at H
    obtain ⟨x, hx⟩ : ∃ x, Hid (b0 b = x) := ⟨_, rfl⟩
    have hx0 := b0_is hb
    rw [show bE b n = b0 b / n by simp [bE, hr], hx.out]
    rw [hx.out] at hx0
    rcases bR_true hr with rfl | rfl | rfl
    all_goals
      clear hr
      go_enter Try.func18, Try.ntmps18
      go_wp2_with (go_at_call 15; refine H.mono ?_; rintro _ _ ⟨rfl, rfl⟩)
      all_goals go_ret
      all_goals refine ⟨congrArg (fun z => Ending.returned (.int .i64 z)) ?_, rfl⟩
      all_goals have hy := hx.out
      all_goals unfold b0 at hy
      all_goals (split at hy <;> first | rfl | omega)
  | false =>
    rw [hr] at H
    rw [show bE b n = -1 by simp [bE, hr]]
    clear hr
    go_enter Try.func18, Try.ntmps18
    go_wp2_with (go_at_call 15; refine H.mono ?_; rintro _ _ ⟨rfl, rfl⟩)
    go_ret
    exact ⟨rfl, rfl⟩
set_option maxRecDepth 100000 in
theorem bNext_w (b me n : Int) (hb : -1000 ≤ b ∧ b ≤ 4294967296) (hm : -1000 ≤ me ∧ me ≤ 1000) (w : World) : Calls Try.prog 10 #[.int .i64 b, .int .i64 me, .int .i64 n] w fun e w' => e = .returned (.int .i64 (bN b me n)) ∧ w = w' := by
  have H := bRight_w n w
  cases hr : bR n with
  | true =>
    rw [hr] at H
    by_cases h0 : me < 0
    · rw [show bN b me n = -1 by unfold bN; rw [if_neg (by omega)]]
      clear hr
      go_enter Try.func10, Try.ntmps10
      go_wp2_with (go_at_call 15; refine H.mono ?_; rintro _ _ ⟨rfl, rfl⟩)
      go_ret
      exact ⟨rfl, rfl⟩
    · by_cases h9 : n ≤ me
      · rw [show bN b me n = -1 by unfold bN; rw [if_neg (by omega)]]
        clear hr
        go_enter Try.func10, Try.ntmps10
        go_wp2_with (go_at_call 15; refine H.mono ?_; rintro _ _ ⟨rfl, rfl⟩)
        go_ret
        exact ⟨rfl, rfl⟩
      · obtain ⟨f, hf⟩ : ∃ f, Hid (bF b = f) := ⟨_, rfl⟩
        have hf0 := bF_is hb
        rw [hf.out] at hf0
        obtain ⟨hf0, hf1, hf2⟩ := hf0
        rw [show bN b me n = bF b + (me - bF b) % n by unfold bN; rw [if_pos ⟨hr, by omega, by omega⟩], hf.out]
        rcases bR_true hr with rfl | rfl | rfl
        all_goals
          clear hr
          go_enter Try.func10, Try.ntmps10
          go_wp2_with (go_at_call 15; refine H.mono ?_; rintro _ _ ⟨rfl, rfl⟩)
        all_goals
          go_ret
          refine ⟨congrArg (fun z => Ending.returned (.int .i64 z)) ?_, rfl⟩
          have hy := hf.out
          unfold bF at hy
          first | (rw [if_pos (by assumption)] at hy; simp only [if_pos (show b < -1 by assumption)] at *; omega) | (rw [if_neg (by omega)] at hy; simp only [if_neg (show ¬ b < -1 by omega)] at *; omega)
  | false =>
    rw [hr] at H
    rw [show bN b me n = -1 by simp [bN, hr]]
    clear hr
    go_enter Try.func10, Try.ntmps10
    go_wp2_with (go_at_call 15; refine H.mono ?_; rintro _ _ ⟨rfl, rfl⟩)
    go_ret
    exact ⟨rfl, rfl⟩
set_option maxRecDepth 100000 in
theorem bPatience_w (b n : Int) (hb : -1000 ≤ b ∧ b ≤ 4294967296) (w : World) : Calls Try.prog 12 #[.int .i64 b, .int .i64 n] w fun e w' => e = .returned (.int .i64 (bP b n)) ∧ w = w' := by
  have H := bRight_w n w
  have E := bEpoch_w b n hb w
  cases hr : bR n with
  | true =>
    rw [hr] at H
    rw [show bE b n = b0 b / n by simp [bE, hr]] at E
    rw [show bP b n = bW (b0 b / n) by simp [bP, hr]]
    have he : 0 ≤ b0 b / n := Int.ediv_nonneg (b0_is hb).1 (by have := bR_true hr; omega)
    have he2 : b0 b / n ≤ 4294967296 := Int.le_trans (Int.ediv_le_self _ (b0_is hb).1) (b0_is hb).2
    generalize b0 b / n = q at *
    obtain ⟨z, hz⟩ : ∃ z, Hid (bW q = z) := ⟨_, rfl⟩
    rw [hz.out]
    clear hr
    go_enter Try.func12, Try.ntmps12
    go_wp2_with (first | (go_at_call 15; refine H.mono ?_; rintro _ _ ⟨rfl, rfl⟩) | (go_at_call 18; refine E.mono ?_; rintro _ _ ⟨rfl, rfl⟩))
    all_goals go_ret
    all_goals refine ⟨congrArg (fun z => Ending.returned (.int .i64 z)) ?_, rfl⟩
    all_goals have hy := hz.out
    all_goals unfold bW at hy
    · rw [if_neg (by omega), if_neg (by omega), if_neg (by omega)] at hy
      rw [← hy]; decide +kernel
    · rcases (by omega : q = 0 ∨ q = 1 ∨ q = 2 ∨ q = 3) with rfl | rfl | rfl | rfl
      all_goals (rw [← hy]; decide +kernel)
  | false =>
    rw [hr] at H
    rw [show bP b n = -1 by simp [bP, hr]]
    clear hr E
    go_enter Try.func12, Try.ntmps12
    go_wp2_with (go_at_call 15; refine H.mono ?_; rintro _ _ ⟨rfl, rfl⟩)
    go_ret
    exact ⟨rfl, rfl⟩
end Go.Proofs.Ytjeancijbogpbaa
/-
  Chapter 15's runs; the program's ballots are the document's; the walks of stage 15's four.
-/
namespace Go.Proofs.Ytjeancijbogpbaa
open Go.RowKit

def pw (n lo hi : Int) : Int := if lo ≤ n ∧ n ≤ hi then n else if n.tmod (hi - lo + 1) < 0 then lo + (n.tmod (hi - lo + 1) + hi - lo + 1) else lo + n.tmod (hi - lo + 1)
theorem pw_is (n lo hi : Int) (h1 : lo ≤ hi) : lo ≤ pw n lo hi ∧ pw n lo hi ≤ hi := by
  have h1 := Int.tmod_lt_of_pos n (show 0 < hi - lo + 1 by omega)
  have h2 := Int.tmod_lt_of_pos (-n) (show 0 < hi - lo + 1 by omega)
  rw [Int.neg_tmod] at h2
  unfold pw
  generalize n.tmod (hi - lo + 1) = m at *
  split
  · assumption
  · split <;> omega
set_option maxRecDepth 100000 in
theorem withinD_w (n lo hi : Int) (h0 : -1000 ≤ lo) (h1 : lo ≤ hi) (h2 : hi ≤ 1099511627776) (w : World) :
    Calls Try.prog 9 #[.int .i64 n, .int .i64 lo, .int .i64 hi] w fun e w' => e = .returned (.int .i64 (pw n lo hi)) ∧ w = w' := by
  obtain ⟨q, hq⟩ : ∃ q, Hid (pw n lo hi = q) := ⟨_, rfl⟩
  rw [hq.out]
  have hz : ¬ hi - lo + 1 = 0 := by omega
  have t : -(hi - lo + 1) < n.tmod (hi - lo + 1) ∧ n.tmod (hi - lo + 1) < hi - lo + 1 := by
    have h1 := Int.tmod_lt_of_pos n (show 0 < hi - lo + 1 by omega)
    have h2 := Int.tmod_lt_of_pos (-n) (show 0 < hi - lo + 1 by omega)
    rw [Int.neg_tmod] at h2
    omega
  have t1 := Int.emod_nonneg n (show hi - lo + 1 ≠ 0 by omega)
  have t2 := Int.emod_lt_of_pos n (show 0 < hi - lo + 1 by omega)
  by_cases hA : lo ≤ n
  · by_cases hB : n ≤ hi
    · go_enter Try.func9, Try.ntmps9
      go_wp2
      go_ret
      refine ⟨congrArg (fun z => Ending.returned (.int .i64 z)) ?_, rfl⟩
      have hy := hq.out
      unfold pw at hy
      rw [if_pos ⟨hA, hB⟩] at hy
      exact hy
    · go_enter Try.func9, Try.ntmps9
      go_wp2
      all_goals go_ret
      all_goals refine ⟨congrArg (fun z => Ending.returned (.int .i64 z)) ?_, rfl⟩
      all_goals have hy := hq.out
      all_goals unfold pw at hy
      all_goals rw [if_neg (by omega)] at hy
      all_goals have hte : 0 ≤ n → n.tmod (hi - lo + 1) = n % (hi - lo + 1) := Int.tmod_eq_emod_of_nonneg
      all_goals generalize n % (hi - lo + 1) = m at *
      all_goals generalize n.tmod (hi - lo + 1) = m' at *
      all_goals try unfold wrap64
      all_goals (split at hy <;> omega)
  · go_enter Try.func9, Try.ntmps9
    go_wp2
    all_goals go_ret
    all_goals refine ⟨congrArg (fun z => Ending.returned (.int .i64 z)) ?_, rfl⟩
    all_goals have hy := hq.out
    all_goals unfold pw at hy
    all_goals rw [if_neg (by omega)] at hy
    all_goals have hte : 0 ≤ n → n.tmod (hi - lo + 1) = n % (hi - lo + 1) := Int.tmod_eq_emod_of_nonneg
    all_goals generalize n % (hi - lo + 1) = m at *
    all_goals generalize n.tmod (hi - lo + 1) = m' at *
    all_goals try unfold wrap64
    all_goals (split at hy <;> omega)
theorem bN_a : bN 4 0 3 = 6 := by decide +kernel
theorem bN_b : bN (-1) 2 3 = 2 := by decide +kernel
theorem bP_a : bP 7 3 = 8 := by decide +kernel
theorem bR_a : bR 4 = false := by decide +kernel
theorem known15_w (w : World) : Calls Try.prog 8 #[] w fun e w' => e = .returned (.bool true) ∧ w = w' := by
  go_enter Try.func8, Try.ntmps8
  go_wp2_with (first | (go_at_call 15; refine (bRight_w _ _).mono ?_; rintro _ _ ⟨rfl, rfl⟩; rw [bR_a]) | (go_at_call 12; refine (bPatience_w _ _ (by omega) _).mono ?_; rintro _ _ ⟨rfl, rfl⟩; rw [bP_a]) | (go_at_call 10; refine (bNext_w _ _ _ (by omega) (by omega) _).mono ?_; rintro _ _ ⟨rfl, rfl⟩; first | rw [bN_a] | rw [bN_b]))
  go_ret
  exact ⟨rfl, rfl⟩
/-- One of 1, 3, 5, as the laws draw it. -/
theorem draw135 (w : World) (n : Int) : ∃ (j : Nat) (x : Int), (x = 1 ∨ x = 3 ∨ x = 5) ∧ j < 3 ∧ (pw n 0 1048576).tmod 3 = (j : Int) ∧ pw n 0 1048576 % 3 = (j : Int) ∧ (w.alloc (.cells #[.int .i64 1, .int .i64 3, .int .i64 5] 3)).cell? ⟨w.heap.size, j, none⟩ = some (.int .i64 x) := by
  have hr := pw_is n 0 1048576 (by omega)
  rw [Int.tmod_eq_emod_of_nonneg hr.1]
  generalize pw n 0 1048576 = r at *
  have h3 : r % 3 = 0 ∨ r % 3 = 1 ∨ r % 3 = 2 := by omega
  simp only [World.cell?, heap_alloc_new]
  rcases h3 with h | h | h
  · exact ⟨0, 1, .inl rfl, by omega, by simpa using h, by simpa using h, rfl⟩
  · exact ⟨1, 3, .inr (.inl rfl), by omega, by simpa using h, by simpa using h, rfl⟩
  · exact ⟨2, 5, .inr (.inr rfl), by omega, by simpa using h, by simpa using h, rfl⟩
end Go.Proofs.Ytjeancijbogpbaa
