/-
  Par0, Open0, Kp0, Sp0, Sp1, Sp2: our texts of these names, laid into one.
-/
import Derived.Test.YtcamhlnkcoicpaaGreatCLi0
import Derived.Test.YtcamhlnkcoicpaaGreatCB04
import Derived.Deep.Slices
import Derived.Deep.Fields
import Derived.ChangeShapes
import Derived.Test.YtcamhlnkcoicpaaGreatCB01
import Derived.WalkLawsBesides
import Derived.Sort.Walk0
/-
  Readers of bytes as plain functions: a number, one behind another; what is read of a beginning is read of the whole.
-/
namespace Go.Proofs.YtcamhlnkcoicpaaGreat
open Go.RowKit

def dNum (n : Nat) (bs : List Nat) : Option (Nat × List Nat) := if n ≤ bs.length then some (val (bs.take n), bs.drop n) else none
theorem dNum_app {n : Nat} {bs r : List Nat} {v : Nat} (h : dNum n bs = some (v, r)) (t : List Nat) : dNum n (bs ++ t) = some (v, r ++ t) := by
  unfold dNum at h ⊢
  by_cases hn : n ≤ bs.length
  · rw [if_pos hn] at h
    simp at h
    obtain ⟨rfl, rfl⟩ := h
    rw [if_pos (by rw [List.length_append]; omega), List.take_append_of_le_length hn, List.drop_append_of_le_length hn]
  · rw [if_neg hn] at h
    simp at h
theorem dNum_one (c : Nat) (r : List Nat) : dNum 1 ([c] ++ r) = some (c, r) := by
  unfold dNum
  rw [if_pos (by simp)]
  simp [val]
theorem dNum_be {n : Nat} (h : n < 4294967296) (r : List Nat) : dNum 4 (be 4 n ++ r) = some (n, r) := by
  obtain ⟨u1, u2, u3⟩ := take_of (bs := be 4 n ++ r) (hd := be 4 n) (rest := r) (n := 4) rfl (be_length _ _)
  unfold dNum
  rw [if_pos u3, u1, u2, val_be (by omega)]
theorem dNum_some {n : Nat} {bs r : List Nat} {v : Nat} (h : dNum n bs = some (v, r)) : n ≤ bs.length ∧ val (bs.take n) = v ∧ bs.drop n = r := by
  unfold dNum at h
  by_cases hn : n ≤ bs.length
  · rw [if_pos hn] at h
    simp at h
    exact ⟨hn, h.1, h.2⟩
  · rw [if_neg hn] at h
    simp at h
theorem dNum_none {n : Nat} {bs : List Nat} (h : dNum n bs = none) : bs.length < n := by
  unfold dNum at h
  by_cases hn : n ≤ bs.length
  · rw [if_pos hn] at h
    simp at h
  · omega
/-- One behind another. -/
def pbn {α β : Type} (p : List Nat → Option (α × List Nat)) (q : α → List Nat → Option (β × List Nat)) (bs : List Nat) : Option (β × List Nat) := match p bs with
  | none => none
  | some (x, r) => q x r
/-- More behind it is left. -/
def Mono {α : Type} (p : List Nat → Option (α × List Nat)) : Prop := ∀ bs x r, p bs = some (x, r) → ∀ t, p (bs ++ t) = some (x, r ++ t)
theorem pbn_none {α β : Type} {p : List Nat → Option (α × List Nat)} {q : α → List Nat → Option (β × List Nat)} {bs : List Nat} (h : p bs = none) : pbn p q bs = none := by
  unfold pbn
  rw [h]
theorem pbn_some {α β : Type} {p : List Nat → Option (α × List Nat)} {q : α → List Nat → Option (β × List Nat)} {bs r : List Nat} {x : α} (h : p bs = some (x, r)) : pbn p q bs = q x r := by
  unfold pbn
  rw [h]
theorem pbn_mono {α β : Type} {p : List Nat → Option (α × List Nat)} {q : α → List Nat → Option (β × List Nat)} (hp : Mono p) (hq : ∀ x, Mono (q x)) : Mono (pbn p q) := by
  intro bs y r h t
  cases h1 : p bs with
  | none => rw [pbn_none h1] at h; simp at h
  | some pr =>
    obtain ⟨x, b⟩ := pr
    rw [pbn_some h1] at h
    rw [pbn_some (hp bs x b h1 t)]
    exact hq x b y r h t
theorem dNum_mono (n : Nat) : Mono (dNum n) := fun _ _ _ h t => dNum_app h t
end Go.Proofs.YtcamhlnkcoicpaaGreat
/-
  Arguments opened: integers, lists of integers, strings, lists of strings.
-/
namespace Go.Proofs.YtcamhlnkcoicpaaGreat
open Go.RowKit
open Go.ChangeShapes Go.WideShapes

/-- An integer that was handed in. -/
def IArg (v : Value) : Prop := ∃ n : Int, v = .int .i64 n
set_option maxRecDepth 100000 in
theorem iarg_of_trod {H : Type} {enc : TypeId × Value → H} {W : World} {base b0 : Nat} {r : Reach} {spare : Nat → Bool} {held : Bool} {t : TypeId} {v : Value} {d : DataW H} {p : List MemPlace}
    (ht : Tryz.prog.underlying t = some (.int .i64)) (hv : Value.okWide Tryz.prog W r b0 t v) (h : DataW.Trod enc Tryz.prog W base spare held t v d p) : IArg v := by
  obtain ⟨n, rfl, _⟩ := open_int ht hv h
  exact ⟨n, rfl⟩

/-- Element i of a list of structs. -/
theorem struct_cells {W : World} {base i sz : Nat} {ad : Addr} {cs0 cs' : List Value} (hsz : 0 < sz) (h0 : W.cells? base (ad.add (0 * sz)) sz = some cs0) (h1 : W.cells? base (ad.add (i * sz)) sz = some cs') : ∃ b off, ad = ⟨b, off, none⟩ ∧ cs'.length = sz ∧ ∀ j u, cs'[j]? = some u → W.cell? ⟨b, off + i * sz + j, none⟩ = some u := by
  obtain ⟨_, hlen, hcell⟩ := World.cells?_some h1
  have hsp : ad.spot = none := by
    obtain ⟨_, hlen, hcell⟩ := World.cells?_some h0
    have e0 := hcell 0 hsz
    cases cs0 with
    | nil => simp at hlen; omega
    | cons v t =>
      have := World.cell?_spot e0
      simpa [Addr.add] using this
  obtain ⟨b, off, spot⟩ := ad
  simp at hsp
  subst hsp
  refine ⟨b, off, rfl, hlen, fun j u hj => ?_⟩
  have hjl : j < sz := by
    have := (List.getElem?_eq_some_iff.1 hj).1
    omega
  have e := hcell j hjl
  rw [Go.Deep.add_add] at e
  have ea : (⟨b, off, none⟩ : Addr).add (i * sz + j) = ⟨b, off + i * sz + j, none⟩ := by
    unfold Addr.add; split <;> simp_all [Nat.add_assoc]
  rw [ea, hj] at e
  exact e

end Go.Proofs.YtcamhlnkcoicpaaGreat
/-
  keep's Head and Row, book's Within, as plain functions.
-/
namespace Go.Proofs.YtcamhlnkcoicpaaGreat
open Go.RowKit

def pwithin (n : Int) : Int := if 0 ≤ n ∧ n ≤ 1048576 then n else if n.tmod 1048577 < 0 then n.tmod 1048577 + 1048577 else n.tmod 1048577
theorem pwithin_b (n : Int) : 0 ≤ pwithin n ∧ pwithin n ≤ 1048576 := by
  have t := tmod_bounds n
  unfold pwithin
  generalize n.tmod 1048577 = m at *
  split
  · assumption
  · split <;> omega
theorem within_d (n : Int) (w : World) : Calls Tryz.prog 19 #[.int .i64 n, .int .i64 0, .int .i64 1048576] w fun e w' => e = .returned (.int .i64 (pwithin n)) ∧ w = w' := by
  have t := tmod_bounds n
  obtain ⟨q, hq⟩ : ∃ q, Hid (pwithin n = q) := ⟨_, rfl⟩
  rw [hq.out]
  have hq' := hq.out
  unfold pwithin at hq'
  have HQ : Hid ((if 0 ≤ n ∧ n ≤ 1048576 then n else if n.tmod 1048577 < 0 then n.tmod 1048577 + 1048577 else n.tmod 1048577) = q) := hq'
  clear hq'
  go_enter Tryz.func19, Tryz.ntmps19
  go_wp2
  all_goals go_ret
  all_goals refine ⟨congrArg (fun z => Ending.returned (.int .i64 z)) ?_, rfl⟩
  all_goals have hz := HQ.out
  all_goals have hte : 0 ≤ n → n.tmod 1048577 = n % 1048577 := Int.tmod_eq_emod_of_nonneg
  all_goals generalize n.tmod 1048577 = m at *
  all_goals try unfold wrap64
  all_goals (split at hz)
  all_goals try (split at hz)
  all_goals omega
def rowNames : List ByteArray := [⟨#[97]⟩, ⟨#[98]⟩, ⟨#[109]⟩, ⟨#[110]⟩, ⟨#[122]⟩, ⟨#[109, 97]⟩, ⟨#[122, 122]⟩, ⟨#[48]⟩]
set_option maxRecDepth 100000 in
set_option maxHeartbeats 1000000 in
theorem row_ds (n : Int) : ∃ s, (1 ≤ s.size ∧ s.size ≤ 2) ∧ ∀ w, Calls Tryz.prog 37 #[.int .i64 n] w fun e w' => e = .returned (.string s) ∧ Moves [] w w' := by
  have hb := pwithin_b n
  obtain ⟨j, hj, hje⟩ : ∃ j : Nat, j < 8 ∧ (pwithin n).tmod 8 = (j : Int) := by
    refine ⟨((pwithin n).tmod 8).toNat, ?_, ?_⟩ <;> rw [Int.tmod_eq_emod_of_nonneg hb.1] <;> omega
  have hsz : ∀ s ∈ rowNames, 1 ≤ s.size ∧ s.size ≤ 2 := by decide
  refine ⟨rowNames[j]'(by simpa [rowNames] using hj), hsz _ (List.getElem_mem _), fun w => ?_⟩
  clear hsz
  have hcell : (w.alloc (.cells #[.string ⟨#[97]⟩, .string ⟨#[98]⟩, .string ⟨#[109]⟩, .string ⟨#[110]⟩, .string ⟨#[122]⟩, .string ⟨#[109, 97]⟩, .string ⟨#[122, 122]⟩, .string ⟨#[48]⟩] 9)).cell? ⟨w.heap.size, j, none⟩ = some (.string (rowNames[j]'(by simpa [rowNames] using hj))) := by
    simp only [World.cell?, heap_alloc_new]
    match j, hj with
    | 0, _ => rfl
    | 1, _ => rfl
    | 2, _ => rfl
    | 3, _ => rfl
    | 4, _ => rfl
    | 5, _ => rfl
    | 6, _ => rfl
    | 7, _ => rfl
  generalize rowNames[j]'(by simpa [rowNames] using hj) = s at hcell ⊢
  have m1 : Moves [] w (w.alloc (.cells #[.string ⟨#[97]⟩, .string ⟨#[98]⟩, .string ⟨#[109]⟩, .string ⟨#[110]⟩, .string ⟨#[122]⟩, .string ⟨#[109, 97]⟩, .string ⟨#[122, 122]⟩, .string ⟨#[48]⟩] 9)) := (Moves.refl _ _).alloc _
  have hj3 : (j : Int) < 8 := by omega
  have hj0 : (0 : Int) ≤ j := by omega
  have hpick : ∀ cap, Calls Tryz.prog 83 #[.slice (some ⟨w.heap.size, 0, none⟩) 8 cap, .int .i64 n] (w.alloc (.cells #[.string ⟨#[97]⟩, .string ⟨#[98]⟩, .string ⟨#[109]⟩, .string ⟨#[110]⟩, .string ⟨#[122]⟩, .string ⟨#[109, 97]⟩, .string ⟨#[122, 122]⟩, .string ⟨#[48]⟩] 9)) fun e w' => e = .returned (.string s) ∧ Moves [] w w' := by
    intro cap
    generalize w.alloc _ = w1 at hcell m1 ⊢
    go_enter Tryz.func83, Tryz.ntmps83
    go_wp2_with (go_at_call 19; refine (within_d _ _).mono ?_; rintro _ _ ⟨rfl, rfl⟩)
    go_ret
    exact ⟨rfl, m1⟩
  clear hcell m1
  go_enter Tryz.func37, Tryz.ntmps37
  go_wp2_with (go_at_call 83; refine (hpick _).mono ?_; rintro _ w2 ⟨rfl, m2⟩)
  go_ret
  exact ⟨rfl, m2⟩

end Go.Proofs.YtcamhlnkcoicpaaGreat
/-
  Spans as plain data: Right, Has, Meet, Split, Join of two texts, and what follows of them.
-/
namespace Go.Proofs.YtcamhlnkcoicpaaGreat
open Go.RowKit Go

/-- A span, as plain data. -/
structure Psp where
  lo : ByteArray
  hi : ByteArray
def zlt (a b : ByteArray) : Bool := Op.bytesLess a.toList b.toList
def zeq (a b : ByteArray) : Bool := a.toList == b.toList
def bz (a : ByteArray) : Bool := a.toList.isEmpty
/-- It ends behind that name. -/
def spB (s : Psp) (n : ByteArray) : Bool := bz s.hi || zlt n s.hi
def spE (a : ByteArray) : Bool := decide (a.size ≤ 16)
def spR (s : Psp) : Bool := spE s.lo && spE s.hi && spB s s.lo
def spH (s : Psp) (n : ByteArray) : Bool := !zlt n s.lo && spB s n
def spC (s : Psp) (t : ByteArray) : Bool := spR s && spE t && !zeq t s.lo && spH s t
theorem zlt_iff (a b : ByteArray) : zlt a b = decide (a.data.toList < b.data.toList) := by
  unfold zlt
  rw [bytesLess_eq, ByteArray.toList_eq, ByteArray.toList_eq]
theorem zeq_iff {a b : ByteArray} : zeq a b = true ↔ a = b := by
  unfold zeq
  rw [ByteArray.toList_eq, ByteArray.toList_eq, beq_iff_eq]
  exact ⟨fun h => by cases a; cases b; simpa using h, fun h => by rw [h]⟩
theorem zlt_self (a : ByteArray) : zlt a a = false := by rw [zlt_iff]; exact decide_eq_false (List.lt_irrefl _)
theorem zlt_trans {a b c : ByteArray} (h1 : zlt a b = true) (h2 : zlt b c = true) : zlt a c = true := by
  rw [zlt_iff, decide_eq_true_eq] at *
  exact List.lt_trans h1 h2
theorem zlt_asymm {a b : ByteArray} (h : zlt a b = true) : zlt b a = false := by
  cases hq : zlt b a with
  | false => rfl
  | true => have := zlt_trans h hq; rw [zlt_self] at this; simp at this
theorem zlt_total {a b : ByteArray} (h1 : zlt a b = false) (h2 : zlt b a = false) : a = b := by
  rw [zlt_iff, decide_eq_false_iff_not] at *
  have := List.le_antisymm (List.not_lt.1 h2) (List.not_lt.1 h1)
  cases a; cases b; simpa using this
end Go.Proofs.YtcamhlnkcoicpaaGreat
/-
  Package span, and the document's own: Right, Has, Meet: for every two texts the call returns, and writes nothing that was there.
-/
namespace Go.Proofs.YtcamhlnkcoicpaaGreat
open Go.RowKit

theorem sp_cells {w : World} {p : Nat} {a b : Value} {t : TypeId} (h : w.heap[p]? = some (.cells #[a, b] t (0, 0))) : w.cell? ⟨p, 0, none⟩ = some a ∧ w.cell? ⟨p, 1, none⟩ = some b ∧ w.frozen? ⟨p, 0, none⟩ = false ∧ w.frozen? ⟨p, 1, none⟩ = false := by
  simp [World.cell?, World.frozen?, h]

theorem spMay_w (a : ByteArray) (w : World) : Calls Tryz.prog 120 #[.string a] w fun e w' => e = .returned (.bool (spE a)) ∧ w = w' := by
  unfold spE
  go_enter Tryz.func120, Tryz.ntmps120
  go_wp2
  go_ret
  refine ⟨?_, rfl⟩
  congr 2
  simp
  omega

set_option maxRecDepth 100000 in
theorem spEnds_w (lo hi n : ByteArray) (w : World) : Calls Tryz.prog 121 #[.agg #[.string lo, .string hi], .string n] w fun e w' => e = .returned (.bool (spB ⟨lo, hi⟩ n)) ∧ Moves [] w w' := by
  have m1 : Moves [] w (w.alloc (.cells #[.string lo, .string hi] 34)) := (Moves.refl _ _).alloc _
  unfold spB bz zlt
  cases h1 : hi.toList.isEmpty
  all_goals go_enter Tryz.func121, Tryz.ntmps121
  all_goals go_wp2_with fail
  all_goals go_ret
  all_goals exact ⟨rfl, m1⟩

set_option maxRecDepth 100000 in
theorem spRight_w (lo hi : ByteArray) (w : World) : Calls Tryz.prog 70 #[.agg #[.string lo, .string hi]] w fun e w' => e = .returned (.bool (spR ⟨lo, hi⟩)) ∧ Moves [] w w' := by
  have m1 : Moves [] w (w.alloc (.cells #[.string lo, .string hi] 34)) := (Moves.refl _ _).alloc _
  unfold spR
  cases h1 : spE lo <;> cases h2 : spE hi
  all_goals go_enter Tryz.func70, Tryz.ntmps70
  all_goals go_wp2_with (first | (go_at_call 120; refine (spMay_w _ _).mono ?_; rintro _ _ ⟨rfl, rfl⟩; simp only [h1, h2]) | (go_at_call 121; refine (spEnds_w _ _ _ _).mono ?_; rintro _ w2 ⟨rfl, m2⟩))
  all_goals go_ret
  all_goals exact ⟨rfl, by first | exact m1.then m2 | exact m1⟩

set_option maxRecDepth 100000 in
theorem spHas_w (lo hi n : ByteArray) (w : World) : Calls Tryz.prog 142 #[.agg #[.string lo, .string hi], .string n] w fun e w' => e = .returned (.bool (spH ⟨lo, hi⟩ n)) ∧ Moves [] w w' := by
  have m1 : Moves [] w (w.alloc (.cells #[.string lo, .string hi] 34)) := (Moves.refl _ _).alloc _
  have e0 : (Op.bytesLess lo.toList n.toList || lo.toList == n.toList) = !zlt n lo := by
    show (zlt lo n || zeq lo n) = !zlt n lo
    cases h1 : zlt lo n with
    | true => rw [zlt_asymm h1]; rfl
    | false =>
      cases h2 : zlt n lo with
      | true =>
        cases h3 : zeq lo n with
        | false => rfl
        | true => rw [zeq_iff.1 h3, zlt_self] at h2; simp at h2
      | false => rw [zeq_iff.2 (zlt_total h1 h2)]; rfl
  unfold spH
  cases h1 : zlt n lo
  all_goals (rw [h1] at e0; simp only [Bool.not_false, Bool.not_true] at e0)
  all_goals go_enter Tryz.func142, Tryz.ntmps142
  all_goals go_wp2_with (go_at_call 121; refine (spEnds_w _ _ _ _).mono ?_; rintro _ w2 ⟨rfl, m2⟩)
  all_goals go_ret
  all_goals exact ⟨rfl, by first | exact m1.then m2 | exact m1⟩

theorem spBoxes2 (w : World) (a b : Array Value) (t : TypeId) : Moves [] w ((w.alloc (.cells a t)).alloc (.cells b t)) ∧ ((w.alloc (.cells a t)).alloc (.cells b t)).heap[w.heap.size]? = some (.cells a t (0, 0)) ∧ ((w.alloc (.cells a t)).alloc (.cells b t)).heap[w.heap.size + 1]? = some (.cells b t (0, 0)) := by
  refine ⟨((Moves.refl _ _).alloc _).alloc _, ((Moves.refl [] _).alloc _).at (heap_alloc_new w _) (by simp), ?_⟩
  have h := heap_alloc_new (w.alloc (.cells a t)) (.cells b t)
  rwa [show (w.alloc (.cells a t)).heap.size = w.heap.size + 1 from by simp] at h

end Go.Proofs.YtcamhlnkcoicpaaGreat
/-
  The document's own Right, Has, Meet of spans.
-/
namespace Go.Proofs.YtcamhlnkcoicpaaGreat
open Go.RowKit

end Go.Proofs.YtcamhlnkcoicpaaGreat
