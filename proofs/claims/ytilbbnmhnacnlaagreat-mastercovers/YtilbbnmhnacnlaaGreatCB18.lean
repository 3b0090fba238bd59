/- ours -/
import Derived.Test.YtilbbnmhnacnlaaGreatCRow4
import Derived.Test.YtilbbnmhnacnlaaGreatCB04
import Derived.Lib.ConvBytes
import Derived.Test.YtilbbnmhnacnlaaGreatCB14
import Derived.Test.YtilbbnmhnacnlaaGreatCB13
/-
  row.Copy: for every row the call returns a row of its own, what the chapter says, and writes nothing that was there.
-/
namespace Go.Proofs.YtilbbnmhnacnlaaGreat
open Go.RowKit

theorem pright_len4 {R : List Pcol} (h : pright R = true) : R.length ≤ 4 := by
  unfold pright at h
  simp only [Bool.and_eq_true, decide_eq_true_eq] at h
  exact h.1
theorem pright_col {R : List Pcol} (h : pright R = true) {k : Nat} (hk : k < R.length) : colGood R k = true := by
  unfold pright at h
  simp only [Bool.and_eq_true, List.all_eq_true] at h
  exact h.2 k (List.mem_range.2 hk)
theorem pright_at {R : List Pcol} (h : pright R = true) {x : Pcol} (hx : x ∈ R) : pname x.name = true ∧ prightV x.l = true := by
  obtain ⟨k, hk, rfl⟩ := List.mem_iff_getElem.1 hx
  have := pright_col h hk
  unfold colGood at this
  rw [List.getElem?_eq_getElem hk] at this
  simp only [Bool.and_eq_true] at this
  exact this.1
theorem prightV_two {l : List Pver} (h : prightV l = true) : 1 ≤ l.length ∧ l.length ≤ 2 := by
  unfold prightV at h
  simp only [Bool.and_eq_true, decide_eq_true_eq] at h
  exact h.1
theorem pasked_right (R : List Pcol) : pright (pasked R) = true := by
  unfold pasked
  split
  · assumption
  · rfl
theorem pasked_len (R : List Pcol) : (pasked R).length ≤ 4 := pright_len4 (pasked_right R)
end Go.Proofs.YtilbbnmhnacnlaaGreat
/-
  row's versions, with, put, drop: for every list the call returns what the chapter's words come to, and writes nothing that was there.
-/
namespace Go.Proofs.YtilbbnmhnacnlaaGreat
open Go.RowKit

end Go.Proofs.YtilbbnmhnacnlaaGreat
/-
  row.put: for every list of versions and every version the call returns the list with it at its place, and writes nothing that was there.
-/
namespace Go.Proofs.YtilbbnmhnacnlaaGreat
open Go.RowKit

end Go.Proofs.YtilbbnmhnacnlaaGreat
/-
  row's Put, Drop, DropCol, At, Newest: for every row the call returns what the chapter says, and writes nothing that was there.
-/
namespace Go.Proofs.YtilbbnmhnacnlaaGreat
open Go.RowKit

end Go.Proofs.YtilbbnmhnacnlaaGreat
/-
  row.Put: for every row, name, time and value the call returns what the chapter says, and writes nothing that was there.
-/
namespace Go.Proofs.YtilbbnmhnacnlaaGreat
open Go.RowKit

end Go.Proofs.YtilbbnmhnacnlaaGreat
/-
  Rows as plain data: what follows of what their functions answer.
-/
namespace Go.Proofs.YtilbbnmhnacnlaaGreat
open Go.RowKit

theorem pvr_canon (p : Pv) : pvr (pcanon p) = pvr p := by
  unfold pvr vright Pv.vm pcanon
  rcases kd_cases p.kind with ⟨h, e⟩ | ⟨h, e⟩ | ⟨h1, h2, e⟩ <;> simp [e] <;> simp_all
theorem prightV_one (x : Pver) : prightV [x] = (ptime x.t && pvr x.v) := by
  simp [prightV, verGood, List.range_succ]
theorem prightV_pair (x y : Pver) : prightV [x, y] = (ptime x.t && pvr x.v && (ptime y.t && pvr y.v && decide (y.t < x.t))) := by
  simp [prightV, verGood, List.range_succ]
theorem prightV_cases {l : List Pver} (h : prightV l = true) : (∃ x, l = [x] ∧ ptime x.t = true ∧ pvr x.v = true) ∨ (∃ x y, l = [x, y] ∧ ptime x.t = true ∧ pvr x.v = true ∧ ptime y.t = true ∧ pvr y.v = true ∧ y.t < x.t) := by
  have h2 := prightV_two h
  match l, h2 with
  | [x], _ =>
    rw [prightV_one] at h
    simp only [Bool.and_eq_true] at h
    exact .inl ⟨x, rfl, h⟩
  | [x, y], _ =>
    rw [prightV_pair] at h
    simp only [Bool.and_eq_true, decide_eq_true_eq] at h
    exact .inr ⟨x, y, rfl, h.1.1, h.1.2, h.2.1.1, h.2.1.2, h.2.2⟩
theorem prightV_canon {l : List Pver} (h : prightV l = true) : prightV (l.map pcanonV) = true := by
  rcases prightV_cases h with ⟨x, rfl, h1, h2⟩ | ⟨x, y, rfl, h1, h2, h3, h4, h5⟩
  · simp [prightV_one, pcanonV, pvr_canon, h1, h2]
  · simp [prightV_pair, pcanonV, pvr_canon, h1, h2, h3, h4, h5]

def sbs (s : ByteArray) : List Nat := s.data.toList.map (·.toNat)
end Go.Proofs.YtilbbnmhnacnlaaGreat
/-
  The law's own text and known: chapter 4's run.
-/
namespace Go.Proofs.YtilbbnmhnacnlaaGreat
open Go.RowKit

theorem sbs_length (s : ByteArray) : (sbs s).length = s.size := by simp [sbs]
theorem wp_some {P : Program} {c : Code} {Q : Exit → Act → World → Prop} {a0 : Act} {w0 : World} (sl : List Nat) (H : (Nat → Value) → World → Prop)
    (h1 : c.wp P (fun e a w => e = .normal ∧ a = { tmps := sl.foldl (fun t s => t.setIfInBounds s (a.tmps.getD s undef)) a0.tmps, defers := a0.defers } ∧ H (fun s => a.tmps.getD s undef) w) a0 w0)
    (h2 : ∀ (u : Nat → Value) w, H u w → Q .normal { tmps := sl.foldl (fun t s => t.setIfInBounds s (u s)) a0.tmps, defers := a0.defers } w) : c.wp P Q a0 w0 :=
  Code.wp_mono (fun e a w ⟨he, ha, hH⟩ => by subst he; rw [ha]; exact h2 _ w hH) h1
end Go.Proofs.YtilbbnmhnacnlaaGreat
/-
  Values held against one another, as plain data; a value that is drawn.
-/
namespace Go.Proofs.YtilbbnmhnacnlaaGreat
open Go.RowKit

end Go.Proofs.YtilbbnmhnacnlaaGreat
/-
  Rows as bytes, as plain data: what is written of a row, and what is read of bytes, with what must be so of a time or without. Plain facts, no program in sight.
-/
namespace Go.Proofs.YtilbbnmhnacnlaaGreat
open Go.RowKit

def iter {α : Type} (f : List Nat → Option (α × List Nat)) : Nat → List Nat → Option (List α × List Nat)
  | 0, bs => some ([], bs)
  | j + 1, bs => match iter f j bs with
    | none => none
    | some (xs, b1) => match f b1 with
      | none => none
      | some (x, b2) => some (xs ++ [x], b2)

theorem iter_step {α : Type} {f : List Nat → Option (α × List Nat)} {j : Nat} {bs b1 b2 : List Nat} {xs : List α} {x : α} (h : iter f j bs = some (xs, b1)) (hf : f b1 = some (x, b2)) : iter f (j + 1) bs = some (xs ++ [x], b2) := by
  simp only [iter, h, hf]
theorem iter_stop {α : Type} {f : List Nat → Option (α × List Nat)} {j : Nat} {bs b1 : List Nat} {xs : List α} (h : iter f j bs = some (xs, b1)) (hf : f b1 = none) : iter f (j + 1) bs = none := by
  simp only [iter, h, hf]
theorem iter_none {α : Type} {f : List Nat → Option (α × List Nat)} {j : Nat} {bs : List Nat} (h : iter f j bs = none) : ∀ {n : Nat}, j ≤ n → iter f n bs = none := by
  intro n hn
  induction n with
  | zero =>
    have : j = 0 := by omega
    subst this; exact h
  | succ k ih =>
    by_cases e : j = k + 1
    · subst e; exact h
    · have := ih (by omega)
      simp only [iter, this]
theorem iter_parts {α : Type} {f : List Nat → Option (α × List Nat)} {j : Nat} {bs b2 : List Nat} {ys : List α} (h : iter f (j + 1) bs = some (ys, b2)) : ∃ xs b1 x, iter f j bs = some (xs, b1) ∧ f b1 = some (x, b2) ∧ ys = xs ++ [x] := by
  simp only [iter] at h
  cases h1 : iter f j bs with
  | none => rw [h1] at h; simp at h
  | some q =>
    obtain ⟨xs, b1⟩ := q
    rw [h1] at h
    simp only at h
    cases h2 : f b1 with
    | none => rw [h2] at h; simp at h
    | some q2 =>
      obtain ⟨x, b3⟩ := q2
      rw [h2] at h
      simp only [Option.some.injEq, Prod.mk.injEq] at h
      exact ⟨xs, b1, x, rfl, by rw [h2, h.2], h.1.symm⟩
theorem iter_len {α : Type} {f : List Nat → Option (α × List Nat)} : ∀ {j : Nat} {bs b1 : List Nat} {xs : List α}, iter f j bs = some (xs, b1) → xs.length = j
  | 0, _, _, _, h => by simp only [iter, Option.some.injEq, Prod.mk.injEq] at h; rw [← h.1]; rfl
  | j + 1, _, _, _, h => by
    obtain ⟨xs, b1, x, h1, _, rfl⟩ := iter_parts h
    rw [List.length_append, iter_len h1]; rfl
theorem iter_rest {α : Type} {f : List Nat → Option (α × List Nat)} {P : List Nat → Prop} (hf : ∀ b x c, f b = some (x, c) → P b → P c) : ∀ {j : Nat} {bs b1 : List Nat} {xs : List α}, iter f j bs = some (xs, b1) → P bs → P b1
  | 0, _, _, _, h, hP => by simp only [iter, Option.some.injEq, Prod.mk.injEq] at h; rw [← h.2]; exact hP
  | j + 1, _, _, _, h, hP => by
    obtain ⟨xs, b1, x, h1, h2, rfl⟩ := iter_parts h
    exact hf _ _ _ h2 (iter_rest hf h1 hP)
def OctN (N : Nat) (bs : List Nat) : Prop := bs.length ≤ N ∧ ∀ z ∈ bs, z < 256
theorem OctN.drop {N : Nat} {bs : List Nat} (h : OctN N bs) (n : Nat) : OctN N (bs.drop n) :=
  ⟨by have := h.1; rw [List.length_drop]; omega, fun z hz => h.2 z (List.mem_of_mem_drop hz)⟩

def textB (bs : List Nat) (most : Nat) : Bool := decide (4 ≤ bs.length) && decide (val (bs.take 4) ≤ 1048576) && decide (val (bs.take 4) ≤ most) && decide (val (bs.take 4) ≤ (bs.drop 4).length)
theorem textB_iff {bs : List Nat} {most : Nat} : textB bs most = true ↔ textOk bs (most : Int) := by
  unfold textB textOk
  simp only [Bool.and_eq_true, decide_eq_true_eq]
  constructor
  · rintro ⟨⟨⟨a, b⟩, c⟩, d⟩
    exact ⟨a, b, fun _ => by omega, d⟩
  · rintro ⟨a, b, c, d⟩
    exact ⟨⟨⟨a, b⟩, by have := c (by omega); omega⟩, d⟩
def dText (most : Nat) (bs : List Nat) : Option (List Nat × List Nat) := if textB bs most then some ((bs.drop 4).take (val (bs.take 4)), (bs.drop 4).drop (val (bs.take 4))) else none
theorem dText_yes {most : Nat} {bs tx r : List Nat} (h : dText most bs = some (tx, r)) : textOk bs (most : Int) ∧ (bs.drop 4).take (val (bs.take 4)) = tx ∧ (bs.drop 4).drop (val (bs.take 4)) = r := by
  unfold dText at h
  split at h
  · rename_i e
    simp only [Option.some.injEq, Prod.mk.injEq] at h
    exact ⟨textB_iff.1 e, h.1, h.2⟩
  · simp at h
theorem dText_no {most : Nat} {bs : List Nat} (h : dText most bs = none) : ¬ textOk bs (most : Int) := by
  unfold dText at h
  split at h
  · simp at h
  · rename_i e
    exact fun k => e (textB_iff.2 k)
theorem dText_rest {most N : Nat} {bs tx r : List Nat} (h : dText most bs = some (tx, r)) (ho : OctN N bs) : OctN N r := by
  obtain ⟨_, _, rfl⟩ := dText_yes h
  exact (ho.drop _).drop _
theorem dText_text {most N : Nat} {bs tx r : List Nat} (h : dText most bs = some (tx, r)) (ho : OctN N bs) : (∀ z ∈ tx, z < 256) ∧ tx.length ≤ most := by
  obtain ⟨h1, rfl, _⟩ := dText_yes h
  refine ⟨fun z hz => ho.2 z (List.mem_of_mem_drop (List.mem_of_mem_take hz)), ?_⟩
  have := h1.2.2.1 (by omega)
  rw [List.length_take]
  omega

def dVal (bs : List Nat) : Option (Pv × List Nat) :=
  if decide (1 ≤ bs.length) && decide (val (bs.take 1) = 1) && textB (bs.drop 1) 16 then some (⟨1, ((bs.drop 1).drop 4).take (val ((bs.drop 1).take 4)), 0⟩, ((bs.drop 1).drop 4).drop (val ((bs.drop 1).take 4)))
  else if decide (1 ≤ bs.length) && decide (val (bs.take 1) = 2) && (decide (8 ≤ (bs.drop 1).length) && decide (Pl.canon (val ((bs.drop 1).take 8)) = val ((bs.drop 1).take 8))) then some (⟨2, [], val ((bs.drop 1).take 8)⟩, (bs.drop 1).drop 8)
  else none
theorem dVal_yes {bs r : List Nat} {p : Pv} (h : dVal bs = some (p, r)) : VDec bs p.kind p.bs p.n r := by
  unfold dVal at h
  split at h
  · rename_i e
    simp only [Bool.and_eq_true, decide_eq_true_eq] at e
    simp only [Option.some.injEq, Prod.mk.injEq] at h
    obtain ⟨rfl, rfl⟩ := h
    exact ⟨e.1.1, .inl ⟨e.1.2, textB_iff.1 e.2, rfl, rfl, rfl, rfl⟩⟩
  · split at h
    · rename_i e
      simp only [Bool.and_eq_true, decide_eq_true_eq] at e
      simp only [Option.some.injEq, Prod.mk.injEq] at h
      obtain ⟨rfl, rfl⟩ := h
      exact ⟨e.1.1, .inr ⟨e.1.2, e.2, rfl, rfl, rfl, rfl⟩⟩
    · simp at h
theorem dVal_no {bs : List Nat} (h : dVal bs = none) : ¬ ∃ k tx n rest, VDec bs k tx n rest := by
  rintro ⟨k, tx, n, rest, h1, h2⟩
  unfold dVal at h
  split at h
  · simp at h
  · rename_i e1
    split at h
    · simp at h
    · rename_i e2
      simp only [Bool.and_eq_true, decide_eq_true_eq] at e1 e2
      rcases h2 with ⟨a, b, _⟩ | ⟨a, b, _⟩
      · exact e1 ⟨⟨h1, a⟩, textB_iff.2 b⟩
      · exact e2 ⟨⟨h1, a⟩, b⟩
theorem dVal_rest {N : Nat} {bs r : List Nat} {p : Pv} (h : dVal bs = some (p, r)) (ho : OctN N bs) : OctN N r := by
  obtain ⟨_, ⟨_, _, _, _, _, rfl⟩ | ⟨_, _, _, _, _, rfl⟩⟩ := dVal_yes h
  · exact ((ho.drop _).drop _).drop _
  · exact (ho.drop _).drop _

def dVer (T : Nat → Bool) (bs : List Nat) : Option (Pver × List Nat) :=
  if decide (8 ≤ bs.length) && T (val (bs.take 8)) then match dVal (bs.drop 8) with
    | none => none
    | some (p, r) => some (⟨wrap64 (val (bs.take 8) : Int), p⟩, r)
  else none
theorem dVer_yes {T : Nat → Bool} {bs r : List Nat} {x : Pver} (h : dVer T bs = some (x, r)) : 8 ≤ bs.length ∧ T (val (bs.take 8)) = true ∧ dVal (bs.drop 8) = some (x.v, r) ∧ x.t = wrap64 (val (bs.take 8) : Int) := by
  unfold dVer at h
  split at h
  · rename_i e
    simp only [Bool.and_eq_true, decide_eq_true_eq] at e
    cases hq : dVal (bs.drop 8) with
    | none => rw [hq] at h; simp at h
    | some q =>
      obtain ⟨p, r'⟩ := q
      rw [hq] at h
      simp only [Option.some.injEq, Prod.mk.injEq] at h
      obtain ⟨rfl, rfl⟩ := h
      exact ⟨e.1, e.2, rfl, rfl⟩
  · simp at h
theorem dVer_of {T : Nat → Bool} {bs r : List Nat} {p : Pv} (h1 : 8 ≤ bs.length) (h2 : T (val (bs.take 8)) = true) (h3 : dVal (bs.drop 8) = some (p, r)) : dVer T bs = some (⟨wrap64 (val (bs.take 8) : Int), p⟩, r) := by
  unfold dVer
  rw [if_pos (by simp [h1, h2]), h3]
theorem dVer_no1 {T : Nat → Bool} {bs : List Nat} (h : ¬ 8 ≤ bs.length) : dVer T bs = none := by
  unfold dVer
  rw [if_neg (by simp; intro e; omega)]
theorem dVer_no3 {T : Nat → Bool} {bs : List Nat} (h : dVal (bs.drop 8) = none) : dVer T bs = none := by
  unfold dVer
  split
  · rw [h]
  · rfl
theorem dVer_rest {T : Nat → Bool} {N : Nat} {bs r : List Nat} {x : Pver} (h : dVer T bs = some (x, r)) (ho : OctN N bs) : OctN N r :=
  dVal_rest (dVer_yes h).2.2.1 (ho.drop _)

def dCol (T : Nat → Bool) (bs : List Nat) : Option (Pcol × List Nat) := match dText 16 bs with
  | none => none
  | some (tx, b1) => if 1 ≤ b1.length then match iter (dVer T) (val (b1.take 1)) (b1.drop 1) with
      | none => none
      | some (l, b2) => some (⟨strOf tx, l⟩, b2)
    else none
theorem dCol_yes {T : Nat → Bool} {bs r : List Nat} {c : Pcol} (h : dCol T bs = some (c, r)) : ∃ tx b1, dText 16 bs = some (tx, b1) ∧ 1 ≤ b1.length ∧ iter (dVer T) (val (b1.take 1)) (b1.drop 1) = some (c.l, r) ∧ c.name = strOf tx := by
  unfold dCol at h
  cases h1 : dText 16 bs with
  | none => rw [h1] at h; simp at h
  | some q =>
    obtain ⟨tx, b1⟩ := q
    rw [h1] at h
    simp only at h
    split at h
    · rename_i e
      cases h2 : iter (dVer T) (val (b1.take 1)) (b1.drop 1) with
      | none => rw [h2] at h; simp at h
      | some q2 =>
        obtain ⟨l, b2⟩ := q2
        rw [h2] at h
        simp only [Option.some.injEq, Prod.mk.injEq] at h
        obtain ⟨rfl, rfl⟩ := h
        exact ⟨tx, b1, rfl, e, h2, rfl⟩
    · simp at h
theorem dCol_of {T : Nat → Bool} {bs tx b1 r : List Nat} {l : List Pver} (h1 : dText 16 bs = some (tx, b1)) (h2 : 1 ≤ b1.length) (h3 : iter (dVer T) (val (b1.take 1)) (b1.drop 1) = some (l, r)) : dCol T bs = some (⟨strOf tx, l⟩, r) := by
  unfold dCol
  rw [h1]
  simp only
  rw [if_pos h2, h3]
theorem dCol_no1 {T : Nat → Bool} {bs : List Nat} (h : dText 16 bs = none) : dCol T bs = none := by
  unfold dCol
  rw [h]
theorem dCol_no2 {T : Nat → Bool} {bs tx b1 : List Nat} (h : dText 16 bs = some (tx, b1)) (h2 : ¬ 1 ≤ b1.length) : dCol T bs = none := by
  unfold dCol
  rw [h]
  simp only
  rw [if_neg h2]
theorem dCol_no3 {T : Nat → Bool} {bs tx b1 : List Nat} (h : dText 16 bs = some (tx, b1)) (h2 : iter (dVer T) (val (b1.take 1)) (b1.drop 1) = none) : dCol T bs = none := by
  unfold dCol
  rw [h]
  simp only
  split
  · rw [h2]
  · rfl
theorem dCol_rest {T : Nat → Bool} {N : Nat} {bs r : List Nat} {c : Pcol} (h : dCol T bs = some (c, r)) (ho : OctN N bs) : OctN N r := by
  obtain ⟨tx, b1, h1, _, h2, _⟩ := dCol_yes h
  exact iter_rest (P := OctN N) (fun b x c => dVer_rest) h2 ((dText_rest h1 ho).drop _)

def dRow (T : Nat → Bool) (bs : List Nat) : Option (List Pcol × List Nat) := if 1 ≤ bs.length then iter (dCol T) (val (bs.take 1)) (bs.drop 1) else none
def dGood (T : Nat → Bool) (bs : List Nat) : Option (List Pcol × List Nat) := match dRow T bs with
  | none => none
  | some (R, r) => if pright R then some (R, r) else none
theorem dGood_yes {T : Nat → Bool} {bs r : List Nat} {R : List Pcol} (h : dGood T bs = some (R, r)) : dRow T bs = some (R, r) ∧ pright R = true := by
  unfold dGood at h
  cases h1 : dRow T bs with
  | none => rw [h1] at h; simp at h
  | some q =>
    obtain ⟨R', r'⟩ := q
    rw [h1] at h
    simp only at h
    split at h
    · rename_i e
      simp only [Option.some.injEq, Prod.mk.injEq] at h
      obtain ⟨rfl, rfl⟩ := h
      exact ⟨rfl, e⟩
    · simp at h
theorem dGood_of {T : Nat → Bool} {bs r : List Nat} {R : List Pcol} (h : dRow T bs = some (R, r)) (hR : pright R = true) : dGood T bs = some (R, r) := by
  unfold dGood
  rw [h]
  simp [hR]
theorem dGood_bad {T : Nat → Bool} {bs r : List Nat} {R : List Pcol} (h : dRow T bs = some (R, r)) (hR : pright R = false) : dGood T bs = none := by
  unfold dGood
  rw [h]
  simp [hR]
theorem dGood_none {T : Nat → Bool} {bs : List Nat} (h : dRow T bs = none) : dGood T bs = none := by
  unfold dGood
  rw [h]
theorem dRow_rest {T : Nat → Bool} {N : Nat} {bs r : List Nat} {R : List Pcol} (h : dRow T bs = some (R, r)) (ho : OctN N bs) : OctN N r := by
  unfold dRow at h
  split at h
  · exact iter_rest (P := OctN N) (fun b x c => dCol_rest) h (ho.drop _)
  · simp at h

def tAny (_ : Nat) : Bool := true
theorem prightV_time {l : List Pver} (h : prightV l = true) : ∀ x ∈ l, ptime x.t = true ∧ pvr x.v = true := by
  intro x hx
  obtain ⟨k, hk, rfl⟩ := List.mem_iff_getElem.1 hx
  unfold prightV at h
  simp only [Bool.and_eq_true, List.all_eq_true] at h
  have := h.2 k (List.mem_range.2 hk)
  unfold verGood at this
  rw [List.getElem?_eq_getElem hk] at this
  simp only [Bool.and_eq_true] at this
  exact this.1
def penc (p : Pv) : List Nat := venc (p.vm (.slice none 0 0) 0)
theorem venc_p (p : Pv) (bv : Value) (g : Nat) : venc (p.vm bv g) = penc p := rfl
def pencV (x : Pver) : List Nat := be 8 x.t.toNat ++ penc x.v
def pencVs (l : List Pver) : List Nat := (l.map pencV).flatten
def pencC (c : Pcol) : List Nat := be 4 c.name.size ++ sbs c.name ++ [c.l.length] ++ pencVs c.l
def pencCs (R : List Pcol) : List Nat := (R.map pencC).flatten
def pencR (R : List Pcol) : List Nat := [R.length] ++ pencCs R
theorem pencVs_snoc (l : List Pver) (x : Pver) : pencVs (l ++ [x]) = pencVs l ++ pencV x := by simp [pencVs]
theorem pencCs_snoc (l : List Pcol) (x : Pcol) : pencCs (l ++ [x]) = pencCs l ++ pencC x := by simp [pencCs]
theorem pencVs_step {l : List Pver} {j : Nat} {x : Pver} (h : l[j]? = some x) : pencVs (l.take (j + 1)) = pencVs (l.take j) ++ pencV x := by
  rw [List.take_add_one, h]
  exact pencVs_snoc _ _
theorem pencCs_step {l : List Pcol} {j : Nat} {x : Pcol} (h : l[j]? = some x) : pencCs (l.take (j + 1)) = pencCs (l.take j) ++ pencC x := by
  rw [List.take_add_one, h]
  exact pencCs_snoc _ _
theorem pvr_len {p : Pv} (h : pvr p = true) (hk : kd p.kind = 1) : p.bs.length ≤ 16 := by
  have hk1 : p.kind = 1 := by
    rcases kd_cases p.kind with ⟨e, _⟩ | ⟨_, e⟩ | ⟨_, _, e⟩
    · exact e
    · rw [e] at hk; simp at hk
    · rw [e] at hk; simp at hk
  unfold pvr vright at h
  simp [Pv.vm, hk1] at h
  exact h
theorem penc_len {p : Pv} (h : pvr p = true) : (penc p).length ≤ 21 := by
  unfold penc
  rcases kd_cases p.kind with ⟨_, e⟩ | ⟨_, e⟩ | ⟨_, _, e⟩
  · rw [venc_text (by exact e)]
    have := pvr_len h e
    simp [be_length, Pv.vm]
    omega
  · rw [venc_num (by exact e)]; simp [be_length]
  · rw [venc_other (by exact e)]; simp
theorem pencVs_len {l : List Pver} (h : ∀ x ∈ l, pvr x.v = true) : (pencVs l).length ≤ l.length * 29 := by
  induction l with
  | nil => simp [pencVs]
  | cons x l ih =>
    have h1 := ih (fun y hy => h y (by simp [hy]))
    have h2 := penc_len (h x (by simp))
    have e : pencVs (x :: l) = pencV x ++ pencVs l := by simp [pencVs]
    rw [e, List.length_append, List.length_cons]
    have h3 : (pencV x).length = 8 + (penc x.v).length := by unfold pencV; rw [List.length_append, be_length]
    omega
theorem pencC_len {c : Pcol} (h1 : pname c.name = true) (h2 : prightV c.l = true) : (pencC c).length ≤ 79 := by
  have h3 := prightV_two h2
  have h4 := pencVs_len (l := c.l) (fun x hx => (prightV_time h2 x hx).2)
  unfold pname at h1
  simp only [Bool.and_eq_true, decide_eq_true_eq] at h1
  unfold pencC
  simp only [List.length_append, be_length, sbs_length, List.length_singleton]
  omega
theorem pencCs_len {R : List Pcol} (h : ∀ c ∈ R, pname c.name = true ∧ prightV c.l = true) : (pencCs R).length ≤ R.length * 79 := by
  induction R with
  | nil => simp [pencCs]
  | cons x l ih =>
    have h1 := ih (fun y hy => h y (by simp [hy]))
    have h2 := pencC_len (h x (by simp)).1 (h x (by simp)).2
    have e : pencCs (x :: l) = pencC x ++ pencCs l := by simp [pencCs]
    rw [e, List.length_append, List.length_cons]
    omega
theorem pencR_len {R : List Pcol} (h : pright R = true) : 1 ≤ (pencR R).length ∧ (pencR R).length ≤ 317 := by
  have h1 := pencCs_len (R := R) (fun c hc => pright_at h hc)
  have h2 := pright_len4 h
  unfold pencR
  rw [List.length_append, List.length_singleton]
  omega
end Go.Proofs.YtilbbnmhnacnlaaGreat
/-
  row.Write: for every row what is written behind what was written is the row's bytes, as the chapter gives them, of a row that may not be those of an empty one; nothing else is written.
-/
namespace Go.Proofs.YtilbbnmhnacnlaaGreat
open Go.RowKit

structure WrS (W w : World) (p : Nat) (a : Option Nat) (bs : List Nat) : Prop where
  wr : Wr w p a bs
  moves : Moves [] W w
  newp : W.heap.size ≤ p
  newa : ∀ k, a = some k → W.heap.size ≤ k
theorem WrS.wrote {W w w' : World} {p : Nat} {a a' : Option Nat} {bs cs : List Nat} (h : WrS W w p a bs) (k : Wrote w p a w' a' cs) : WrS W w' p a' cs := by
  obtain ⟨k1, k2, k3⟩ := k
  refine ⟨k1, h.moves.trans k2 ?_, h.newp, ?_⟩
  · intro x hx
    rcases List.mem_cons.1 hx with rfl | hx
    · exact .inr h.newp
    · exact .inr (h.newa x (by cases a <;> simp_all))
  · rcases k3 with rfl | ⟨k, rfl, hk⟩
    · exact h.newa
    · intro j hj
      simp at hj
      subst hj
      exact Nat.le_trans h.moves.size hk
theorem WrS.after {W w w' : World} {p : Nat} {a : Option Nat} {bs : List Nat} (h : WrS W w p a bs) (m : Moves [] w w') : WrS W w' p a bs := ⟨h.wr.moves m (by simp) (by simp), h.moves.then m, h.newp, h.newa⟩
theorem WrS.past {W w : World} {p : Nat} {a : Option Nat} {bs : List Nat} (h : WrS W w p a bs) {k : Nat} (hk : k < W.heap.size) : k ∉ p :: a.toList := by
  intro hx
  rcases List.mem_cons.1 hx with rfl | hx
  · have := h.newp; omega
  · have := h.newa k (by cases a <;> simp_all); omega

theorem strBytes_new (w : World) (s : ByteArray) : ∃ cap w', (convert 9 27 (.string s)).run Tryz.prog w = .ok (.slice (some ⟨w.heap.size, 0, none⟩) s.size cap) w' ∧ IsB w' w.heap.size (.slice (some ⟨w.heap.size, 0, none⟩) s.size cap) (sbs s) ∧ U8 w' w.heap.size (sbs s) ∧ Moves [] w w' := by
  refine ⟨_, _, Lib.run_convert_string_bytes w 9 27 5 s Tryz.underlying9 Tryz.underlying27 Tryz.underlying5, ?_, ?_, ?_⟩
  · refine ⟨_, _, _, rfl, sbs_length s, grownCap_ge _ _ _ _, fun h => by simp at h, .inr ⟨0, rfl, fun j b hj => ?_⟩⟩
    have hlt : j < s.size := by
      have := (List.getElem?_eq_some_iff.1 hj).1
      rw [sbs_length] at this
      exact this
    rw [Nat.zero_add, Lib.bytesWorld_cell _ _ _ _ hlt]
    simp only [sbs, List.getElem?_map, Option.map_eq_some_iff] at hj
    obtain ⟨u, hu, rfl⟩ := hj
    rw [List.getD_eq_getElem?_getD, hu]
    rfl
  · exact .inr ⟨_, _, Lib.bytesWorld_at_new _ _ _⟩
  · refine ⟨rfl, rfl, rfl, ?_, fun k hk _ => Lib.bytesWorld_at_old _ _ _ _ hk⟩
    rw [Lib.bytesWorld_size]
    omega

theorem putS_w (W w : World) (p : Nat) (a : Option Nat) (bs : List Nat) (k : Int) (ad : Option Addr) (len cap n : Nat) (x : Pv) (h : VA W [.int .i64 k, .slice ad len cap, .float .f64 n] x) (hS : WrS W w p a bs) (hb : bs.length ≤ 1000000000) :
    Calls Tryz.prog 213 #[.pointer (some ⟨p, 0, none⟩), .agg #[.int .i64 k, .slice ad len cap, .float .f64 n]] w fun e w' => e = .returned (.tuple #[]) ∧ ∃ a', Wrote w p a w' a' (bs ++ penc x) := by
  obtain ⟨g, hV, hl⟩ := h.vis
  obtain ⟨e0, hI⟩ := hV
  exact put_v p a bs _ _ _ w e0 hS.wr (by omega) (hI.moves hS.moves (by simp)) hl (fun hn => hS.past (hI.isB.lt hn)) (by rw [venc_p])

end Go.Proofs.YtilbbnmhnacnlaaGreat
