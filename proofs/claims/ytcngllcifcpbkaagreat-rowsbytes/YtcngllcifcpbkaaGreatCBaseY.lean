/- ours -/
import Derived.Test.YtcngllcifcpbkaaGreatCBaseJ
import Derived.Test.YtcngllcifcpbkaaGreatCBaseG
import Derived.Test.YtcngllcifcpbkaaGreatCBaseR
import Derived.ChangeShapes
/-
 Rows as bytes, as plain data: what is written of a row, and what is read of bytes, with what must be so of a time or without. Plain facts, no program in sight.
-/
namespace Go.Proofs.YtcngllcifcpbkaaGreat
open Go.RowKit

def iter {α : Type} (f : List Nat → Option (α × List Nat)) : Nat → List Nat → Option (List α × List Nat)
 | 0, bs => some ([], bs)
 | j + 1, bs => match iter f j bs with
  | none => none
  | some (xs, b1) => match f b1 with
   | none => none
   | some (x, b2) => some (xs ++ [x], b2)

theorem iter_step {α : Type} {f : List Nat → Option (α × List Nat)} {j : Nat} {bs b1 b2 : List Nat} {xs : List α} {x : α} (h : iter f j bs = some (xs, b1)) (hf : f b1 = some (x, b2)) : iter f (j + 1) bs = some (xs ++ [x], b2) := by
 simp only [iter, h, hf]
theorem iter_stop {α : Type} {f : List Nat → Option (α × List Nat)} {j : Nat} {bs b1 : List Nat} {xs : List α} (h : iter f j bs = some (xs, b1)) (hf : f b1 = none) : iter f (j + 1) bs = none := by
 simp only [iter, h, hf]
theorem iter_none {α : Type} {f : List Nat → Option (α × List Nat)} {j : Nat} {bs : List Nat} (h : iter f j bs = none) : ∀ {n : Nat}, j ≤ n → iter f n bs = none := by
 intro n hn
 induction n with
 | zero =>
  have : j = 0 := by omega
  subst this; exact h
 | succ k ih =>
  by_cases e : j = k + 1
  ·subst e; exact h
  ·have := ih (by omega)
   simp only [iter, this]
theorem iter_parts {α : Type} {f : List Nat → Option (α × List Nat)} {j : Nat} {bs b2 : List Nat} {ys : List α} (h : iter f (j + 1) bs = some (ys, b2)) : ∃ xs b1 x, iter f j bs = some (xs, b1) ∧ f b1 = some (x, b2) ∧ ys = xs ++ [x] := by
 simp only [iter] at h
 cases h1 : iter f j bs with
 | none => rw [h1] at h; simp at h
 | some q =>
  obtain ⟨xs, b1⟩ := q
  rw [h1] at h
  simp only at h
  cases h2 : f b1 with
  | none => rw [h2] at h; simp at h
  | some q2 =>
   obtain ⟨x, b3⟩ := q2
   rw [h2] at h
   simp only [Option.some.injEq, Prod.mk.injEq] at h
   exact ⟨xs, b1, x, rfl, by rw [h2, h.2], h.1.symm⟩
theorem iter_len {α : Type} {f : List Nat → Option (α × List Nat)} : ∀ {j : Nat} {bs b1 : List Nat} {xs : List α}, iter f j bs = some (xs, b1) → xs.length = j
 | 0, _, _, _, h => by simp only [iter, Option.some.injEq, Prod.mk.injEq] at h; rw [← h.1]; rfl
 | j + 1, _, _, _, h => by
  obtain ⟨xs, b1, x, h1, _, rfl⟩ := iter_parts h
  rw [List.length_append, iter_len h1]; rfl
theorem iter_rest {α : Type} {f : List Nat → Option (α × List Nat)} {P : List Nat → Prop} (hf : ∀ b x c, f b = some (x, c) → P b → P c) : ∀ {j : Nat} {bs b1 : List Nat} {xs : List α}, iter f j bs = some (xs, b1) → P bs → P b1
 | 0, _, _, _, h, hP => by simp only [iter, Option.some.injEq, Prod.mk.injEq] at h; rw [← h.2]; exact hP
 | j + 1, _, _, _, h, hP => by
  obtain ⟨xs, b1, x, h1, h2, rfl⟩ := iter_parts h
  exact hf _ _ _ h2 (iter_rest hf h1 hP)
theorem iter_mono {α : Type} {f g : List Nat → Option (α × List Nat)} (hfg : ∀ b x, f b = some x → g b = some x) : ∀ {j : Nat} {bs b1 : List Nat} {xs : List α}, iter f j bs = some (xs, b1) → iter g j bs = some (xs, b1)
 | 0, _, _, _, h => h
 | j + 1, _, _, _, h => by
  obtain ⟨xs, b1, x, h1, h2, rfl⟩ := iter_parts h
  exact iter_step (iter_mono hfg h1) (hfg _ _ h2)
theorem iter_back {α : Type} {f g : List Nat → Option (α × List Nat)} {P : List Nat → Prop} (hP : ∀ b x c, g b = some (x, c) → P b → P c) : ∀ {j : Nat} {bs b1 : List Nat} {xs : List α}, iter g j bs = some (xs, b1) → P bs → (∀ b x c, P b → x ∈ xs → g b = some (x, c) → f b = some (x, c)) → iter f j bs = some (xs, b1)
 | 0, _, _, _, h, _, _ => h
 | j + 1, _, _, _, h, hb, hgf => by
  obtain ⟨xs, b1, x, h1, h2, rfl⟩ := iter_parts h
  exact iter_step (iter_back hP h1 hb (fun b y c hb hy => hgf b y c hb (by simp [hy]))) (hgf _ _ _ (iter_rest hP h1 hb) (by simp) h2)

def OctN (N : Nat) (bs : List Nat) : Prop := bs.length ≤ N ∧ ∀ z ∈ bs, z < 256
theorem OctN.drop {N : Nat} {bs : List Nat} (h : OctN N bs) (n : Nat) : OctN N (bs.drop n) :=
 ⟨by have := h.1; rw [List.length_drop]; omega, fun z hz => h.2 z (List.mem_of_mem_drop hz)⟩

def textB (bs : List Nat) (most : Nat) : Bool := decide (4 ≤ bs.length) && decide (val (bs.take 4) ≤ 1048576) && decide (val (bs.take 4) ≤ most) && decide (val (bs.take 4) ≤ (bs.drop 4).length)
theorem textB_iff {bs : List Nat} {most : Nat} : textB bs most = true ↔ textOk bs (most : Int) := by
 unfold textB textOk
 simp only [Bool.and_eq_true, decide_eq_true_eq]
 constructor
 ·rintro ⟨⟨⟨a, b⟩, c⟩, d⟩
  exact ⟨a, b, fun _ => by omega, d⟩
 ·rintro ⟨a, b, c, d⟩
  exact ⟨⟨⟨a, b⟩, by have := c (by omega); omega⟩, d⟩
def dText (most : Nat) (bs : List Nat) : Option (List Nat × List Nat) := if textB bs most then some ((bs.drop 4).take (val (bs.take 4)), (bs.drop 4).drop (val (bs.take 4))) else none
theorem dText_yes {most : Nat} {bs tx r : List Nat} (h : dText most bs = some (tx, r)) : textOk bs (most : Int) ∧ (bs.drop 4).take (val (bs.take 4)) = tx ∧ (bs.drop 4).drop (val (bs.take 4)) = r := by
 unfold dText at h
 split at h
 ·rename_i e
  simp only [Option.some.injEq, Prod.mk.injEq] at h
  exact ⟨textB_iff.1 e, h.1, h.2⟩
 ·simp at h
theorem dText_no {most : Nat} {bs : List Nat} (h : dText most bs = none) : ¬ textOk bs (most : Int) := by
 unfold dText at h
 split at h
 ·simp at h
 ·rename_i e
  exact fun k => e (textB_iff.2 k)
theorem dText_rest {most N : Nat} {bs tx r : List Nat} (h : dText most bs = some (tx, r)) (ho : OctN N bs) : OctN N r := by
 obtain ⟨_, _, rfl⟩ := dText_yes h
 exact (ho.drop _).drop _
theorem dText_text {most N : Nat} {bs tx r : List Nat} (h : dText most bs = some (tx, r)) (ho : OctN N bs) : (∀ z ∈ tx, z < 256) ∧ tx.length ≤ most := by
 obtain ⟨h1, rfl, _⟩ := dText_yes h
 refine ⟨fun z hz => ho.2 z (List.mem_of_mem_drop (List.mem_of_mem_take hz)), ?_⟩
 have := h1.2.2.1 (by omega)
 rw [List.length_take]
 omega

def dVal (bs : List Nat) : Option (Pv × List Nat) :=
 if decide (1 ≤ bs.length) && decide (val (bs.take 1) = 1) && textB (bs.drop 1) 16 then some (⟨1, ((bs.drop 1).drop 4).take (val ((bs.drop 1).take 4)), 0⟩, ((bs.drop 1).drop 4).drop (val ((bs.drop 1).take 4)))
 else if decide (1 ≤ bs.length) && decide (val (bs.take 1) = 2) && (decide (8 ≤ (bs.drop 1).length) && decide (Pl.canon (val ((bs.drop 1).take 8)) = val ((bs.drop 1).take 8))) then some (⟨2, [], val ((bs.drop 1).take 8)⟩, (bs.drop 1).drop 8)
 else none
theorem dVal_yes {bs r : List Nat} {p : Pv} (h : dVal bs = some (p, r)) : VDec bs p.kind p.bs p.n r := by
 unfold dVal at h
 split at h
 ·rename_i e
  simp only [Bool.and_eq_true, decide_eq_true_eq] at e
  simp only [Option.some.injEq, Prod.mk.injEq] at h
  obtain ⟨rfl, rfl⟩ := h
  exact ⟨e.1.1, .inl ⟨e.1.2, textB_iff.1 e.2, rfl, rfl, rfl, rfl⟩⟩
 ·split at h
  ·rename_i e
   simp only [Bool.and_eq_true, decide_eq_true_eq] at e
   simp only [Option.some.injEq, Prod.mk.injEq] at h
   obtain ⟨rfl, rfl⟩ := h
   exact ⟨e.1.1, .inr ⟨e.1.2, e.2, rfl, rfl, rfl, rfl⟩⟩
  ·simp at h
theorem dVal_no {bs : List Nat} (h : dVal bs = none) : ¬ ∃ k tx n rest, VDec bs k tx n rest := by
 rintro ⟨k, tx, n, rest, h1, h2⟩
 unfold dVal at h
 split at h
 ·simp at h
 ·rename_i e1
  split at h
  ·simp at h
  ·rename_i e2
   simp only [Bool.and_eq_true, decide_eq_true_eq] at e1 e2
   rcases h2 with ⟨a, b, _⟩ | ⟨a, b, _⟩
   ·exact e1 ⟨⟨h1, a⟩, textB_iff.2 b⟩
   ·exact e2 ⟨⟨h1, a⟩, b⟩
theorem dVal_rest {N : Nat} {bs r : List Nat} {p : Pv} (h : dVal bs = some (p, r)) (ho : OctN N bs) : OctN N r := by
 obtain ⟨_, ⟨_, _, _, _, _, rfl⟩ | ⟨_, _, _, _, _, rfl⟩⟩ := dVal_yes h
 ·exact ((ho.drop _).drop _).drop _
 ·exact (ho.drop _).drop _

def dVer (T : Nat → Bool) (bs : List Nat) : Option (Pver × List Nat) :=
 if decide (8 ≤ bs.length) && T (val (bs.take 8)) then match dVal (bs.drop 8) with
  | none => none
  | some (p, r) => some (⟨wrap64 (val (bs.take 8) : Int), p⟩, r)
 else none
theorem dVer_yes {T : Nat → Bool} {bs r : List Nat} {x : Pver} (h : dVer T bs = some (x, r)) : 8 ≤ bs.length ∧ T (val (bs.take 8)) = true ∧ dVal (bs.drop 8) = some (x.v, r) ∧ x.t = wrap64 (val (bs.take 8) : Int) := by
 unfold dVer at h
 split at h
 ·rename_i e
  simp only [Bool.and_eq_true, decide_eq_true_eq] at e
  cases hq : dVal (bs.drop 8) with
  | none => rw [hq] at h; simp at h
  | some q =>
   obtain ⟨p, r'⟩ := q
   rw [hq] at h
   simp only [Option.some.injEq, Prod.mk.injEq] at h
   obtain ⟨rfl, rfl⟩ := h
   exact ⟨e.1, e.2, rfl, rfl⟩
 ·simp at h
theorem dVer_of {T : Nat → Bool} {bs r : List Nat} {p : Pv} (h1 : 8 ≤ bs.length) (h2 : T (val (bs.take 8)) = true) (h3 : dVal (bs.drop 8) = some (p, r)) : dVer T bs = some (⟨wrap64 (val (bs.take 8) : Int), p⟩, r) := by
 unfold dVer
 rw [if_pos (by simp [h1, h2]), h3]
theorem dVer_no1 {T : Nat → Bool} {bs : List Nat} (h : ¬ 8 ≤ bs.length) : dVer T bs = none := by
 unfold dVer
 rw [if_neg (by simp; intro e; omega)]
theorem dVer_no2 {T : Nat → Bool} {bs : List Nat} (h : T (val (bs.take 8)) = false) : dVer T bs = none := by
 unfold dVer
 rw [if_neg (by simp [h])]
theorem dVer_no3 {T : Nat → Bool} {bs : List Nat} (h : dVal (bs.drop 8) = none) : dVer T bs = none := by
 unfold dVer
 split
 ·rw [h]
 ·rfl
theorem dVer_rest {T : Nat → Bool} {N : Nat} {bs r : List Nat} {x : Pver} (h : dVer T bs = some (x, r)) (ho : OctN N bs) : OctN N r :=
 dVal_rest (dVer_yes h).2.2.1 (ho.drop _)

def dCol (T : Nat → Bool) (bs : List Nat) : Option (Pcol × List Nat) := match dText 16 bs with
 | none => none
 | some (tx, b1) => if 1 ≤ b1.length then match iter (dVer T) (val (b1.take 1)) (b1.drop 1) with
   | none => none
   | some (l, b2) => some (⟨strOf tx, l⟩, b2)
  else none
theorem dCol_yes {T : Nat → Bool} {bs r : List Nat} {c : Pcol} (h : dCol T bs = some (c, r)) : ∃ tx b1, dText 16 bs = some (tx, b1) ∧ 1 ≤ b1.length ∧ iter (dVer T) (val (b1.take 1)) (b1.drop 1) = some (c.l, r) ∧ c.name = strOf tx := by
 unfold dCol at h
 cases h1 : dText 16 bs with
 | none => rw [h1] at h; simp at h
 | some q =>
  obtain ⟨tx, b1⟩ := q
  rw [h1] at h
  simp only at h
  split at h
  ·rename_i e
   cases h2 : iter (dVer T) (val (b1.take 1)) (b1.drop 1) with
   | none => rw [h2] at h; simp at h
   | some q2 =>
    obtain ⟨l, b2⟩ := q2
    rw [h2] at h
    simp only [Option.some.injEq, Prod.mk.injEq] at h
    obtain ⟨rfl, rfl⟩ := h
    exact ⟨tx, b1, rfl, e, h2, rfl⟩
  ·simp at h
theorem dCol_of {T : Nat → Bool} {bs tx b1 r : List Nat} {l : List Pver} (h1 : dText 16 bs = some (tx, b1)) (h2 : 1 ≤ b1.length) (h3 : iter (dVer T) (val (b1.take 1)) (b1.drop 1) = some (l, r)) : dCol T bs = some (⟨strOf tx, l⟩, r) := by
 unfold dCol
 rw [h1]
 simp only
 rw [if_pos h2, h3]
theorem dCol_no1 {T : Nat → Bool} {bs : List Nat} (h : dText 16 bs = none) : dCol T bs = none := by
 unfold dCol
 rw [h]
theorem dCol_no2 {T : Nat → Bool} {bs tx b1 : List Nat} (h : dText 16 bs = some (tx, b1)) (h2 : ¬ 1 ≤ b1.length) : dCol T bs = none := by
 unfold dCol
 rw [h]
 simp only
 rw [if_neg h2]
theorem dCol_no3 {T : Nat → Bool} {bs tx b1 : List Nat} (h : dText 16 bs = some (tx, b1)) (h2 : iter (dVer T) (val (b1.take 1)) (b1.drop 1) = none) : dCol T bs = none := by
 unfold dCol
 rw [h]
 simp only
 split
 ·rw [h2]
 ·rfl
theorem dCol_rest {T : Nat → Bool} {N : Nat} {bs r : List Nat} {c : Pcol} (h : dCol T bs = some (c, r)) (ho : OctN N bs) : OctN N r := by
 obtain ⟨tx, b1, h1, _, h2, _⟩ := dCol_yes h
 exact iter_rest (P := OctN N) (fun b x c => dVer_rest) h2 ((dText_rest h1 ho).drop _)

def dRow (T : Nat → Bool) (bs : List Nat) : Option (List Pcol × List Nat) := if 1 ≤ bs.length then iter (dCol T) (val (bs.take 1)) (bs.drop 1) else none
def dGood (T : Nat → Bool) (bs : List Nat) : Option (List Pcol × List Nat) := match dRow T bs with
 | none => none
 | some (R, r) => if pright R then some (R, r) else none
theorem dGood_yes {T : Nat → Bool} {bs r : List Nat} {R : List Pcol} (h : dGood T bs = some (R, r)) : dRow T bs = some (R, r) ∧ pright R = true := by
 unfold dGood at h
 cases h1 : dRow T bs with
 | none => rw [h1] at h; simp at h
 | some q =>
  obtain ⟨R', r'⟩ := q
  rw [h1] at h
  simp only at h
  split at h
  ·rename_i e
   simp only [Option.some.injEq, Prod.mk.injEq] at h
   obtain ⟨rfl, rfl⟩ := h
   exact ⟨rfl, e⟩
  ·simp at h
theorem dGood_of {T : Nat → Bool} {bs r : List Nat} {R : List Pcol} (h : dRow T bs = some (R, r)) (hR : pright R = true) : dGood T bs = some (R, r) := by
 unfold dGood
 rw [h]
 simp [hR]
theorem dGood_bad {T : Nat → Bool} {bs r : List Nat} {R : List Pcol} (h : dRow T bs = some (R, r)) (hR : pright R = false) : dGood T bs = none := by
 unfold dGood
 rw [h]
 simp [hR]
theorem dGood_none {T : Nat → Bool} {bs : List Nat} (h : dRow T bs = none) : dGood T bs = none := by
 unfold dGood
 rw [h]
theorem dRow_rest {T : Nat → Bool} {N : Nat} {bs r : List Nat} {R : List Pcol} (h : dRow T bs = some (R, r)) (ho : OctN N bs) : OctN N r := by
 unfold dRow at h
 split at h
 ·exact iter_rest (P := OctN N) (fun b x c => dCol_rest) h (ho.drop _)
 ·simp at h

def tAny (_ : Nat) : Bool := true
def tMax (n : Nat) : Bool := decide (n ≤ 1099511627776)

theorem dVer_mono {bs : List Nat} {x : Pver × List Nat} (h : dVer tMax bs = some x) : dVer tAny bs = some x := by
 obtain ⟨y, r⟩ := x
 obtain ⟨h1, h2, h3, h4⟩ := dVer_yes h
 rw [dVer_of h1 rfl h3, ← h4]
theorem dCol_mono {bs : List Nat} {x : Pcol × List Nat} (h : dCol tMax bs = some x) : dCol tAny bs = some x := by
 obtain ⟨y, r⟩ := x
 obtain ⟨tx, b1, h1, h2, h3, h4⟩ := dCol_yes h
 rw [dCol_of h1 h2 (iter_mono (fun b x => dVer_mono) h3), ← h4]
theorem dRow_mono {bs : List Nat} {x : List Pcol × List Nat} (h : dRow tMax bs = some x) : dRow tAny bs = some x := by
 unfold dRow at h ⊢
 split at h
 ·rename_i e
  rw [if_pos e]
  obtain ⟨y, r⟩ := x
  exact iter_mono (fun b x => dCol_mono) h
 ·simp at h
theorem dVer_back {bs r : List Nat} {x : Pver} (h : dVer tAny bs = some (x, r)) (ho : ∀ z ∈ bs, z < 256) (hx : ptime x.t = true) : dVer tMax bs = some (x, r) := by
 obtain ⟨h1, _, h3, h4⟩ := dVer_yes h
 have hlt := val_lt ho 8
 have ht : tMax (val (bs.take 8)) = true := by
  unfold ptime at hx
  rw [h4] at hx
  simp only [Bool.and_eq_true, decide_eq_true_eq] at hx
  unfold tMax
  rw [decide_eq_true_eq]
  unfold wrap64 at hx
  omega
 rw [dVer_of h1 ht h3, ← h4]
theorem prightV_time {l : List Pver} (h : prightV l = true) : ∀ x ∈ l, ptime x.t = true ∧ pvr x.v = true := by
 intro x hx
 obtain ⟨k, hk, rfl⟩ := List.mem_iff_getElem.1 hx
 unfold prightV at h
 simp only [Bool.and_eq_true, List.all_eq_true] at h
 have := h.2 k (List.mem_range.2 hk)
 unfold verGood at this
 rw [List.getElem?_eq_getElem hk] at this
 simp only [Bool.and_eq_true] at this
 exact this.1
theorem dCol_back {N : Nat} {bs r : List Nat} {c : Pcol} (h : dCol tAny bs = some (c, r)) (ho : OctN N bs) (hx : prightV c.l = true) : dCol tMax bs = some (c, r) := by
 obtain ⟨tx, b1, h1, h2, h3, h4⟩ := dCol_yes h
 have := iter_back (f := dVer tMax) (P := OctN N) (fun b x c => dVer_rest) h3 ((dText_rest h1 ho).drop _) (fun b x c hb hx' hg => dVer_back hg hb.2 (prightV_time hx x hx').1)
 rw [dCol_of h1 h2 this, ← h4]
theorem dRow_back {N : Nat} {bs r : List Nat} {R : List Pcol} (h : dRow tAny bs = some (R, r)) (ho : OctN N bs) (hx : pright R = true) : dRow tMax bs = some (R, r) := by
 unfold dRow at h ⊢
 split at h
 ·rename_i e
  rw [if_pos e]
  exact iter_back (f := dCol tMax) (P := OctN N) (fun b x c => dCol_rest) h (ho.drop _) (fun b x c hb hx' hg => dCol_back hg hb (pright_at hx hx').2)
 ·simp at h
theorem dGood_eq {N : Nat} {bs : List Nat} (ho : OctN N bs) : dGood tAny bs = dGood tMax bs := by
 cases h1 : dGood tAny bs with
 | some q =>
  obtain ⟨R, r⟩ := q
  obtain ⟨a, b⟩ := dGood_yes h1
  exact (dGood_of (dRow_back a ho b) b).symm
 | none =>
  cases h2 : dGood tMax bs with
  | none => rfl
  | some q =>
   obtain ⟨R, r⟩ := q
   obtain ⟨a, b⟩ := dGood_yes h2
   rw [dGood_of (dRow_mono a) b] at h1
   simp at h1

def penc (p : Pv) : List Nat := venc (p.vm (.slice none 0 0) 0)
theorem venc_p (p : Pv) (bv : Value) (g : Nat) : venc (p.vm bv g) = penc p := rfl
def pencV (x : Pver) : List Nat := be 8 x.t.toNat ++ penc x.v
def pencVs (l : List Pver) : List Nat := (l.map pencV).flatten
def pencC (c : Pcol) : List Nat := be 4 c.name.size ++ sbs c.name ++ [c.l.length] ++ pencVs c.l
def pencCs (R : List Pcol) : List Nat := (R.map pencC).flatten
def pencR (R : List Pcol) : List Nat := [R.length] ++ pencCs R
theorem penc_canon (p : Pv) : penc (pcanon p) = penc p := by
 unfold penc
 rcases kd_cases p.kind with ⟨_, e⟩ | ⟨_, e⟩ | ⟨_, _, e⟩
 ·have e2 : kd (pcanon p).kind = 1 := by show kd (kd p.kind) = _; rw [e]; decide
  rw [venc_text (by exact e2), venc_text (by exact e)]
  simp [Pv.vm, pcanon, e]
 ·have e2 : kd (pcanon p).kind = 2 := by show kd (kd p.kind) = _; rw [e]; decide
  rw [venc_num (by exact e2), venc_num (by exact e)]
  simp [Pv.vm, pcanon, e, Pl.canon_canon]
 ·have e2 : kd (pcanon p).kind = 0 := by show kd (kd p.kind) = _; rw [e]; decide
  rw [venc_other (by exact e2), venc_other (by exact e)]
theorem pencC_canon (c : Pcol) : pencC (pcanonC c) = pencC c := by
 unfold pencC pencVs pcanonC
 simp only [List.length_map, List.map_map]
 congr 2
 refine List.map_congr_left fun x _ => ?_
 show be 8 x.t.toNat ++ penc (pcanon x.v) = _
 rw [penc_canon]
 rfl
theorem pencVs_snoc (l : List Pver) (x : Pver) : pencVs (l ++ [x]) = pencVs l ++ pencV x := by simp [pencVs]
theorem pencCs_snoc (l : List Pcol) (x : Pcol) : pencCs (l ++ [x]) = pencCs l ++ pencC x := by simp [pencCs]
theorem pencVs_step {l : List Pver} {j : Nat} {x : Pver} (h : l[j]? = some x) : pencVs (l.take (j + 1)) = pencVs (l.take j) ++ pencV x := by
 rw [List.take_add_one, h]
 exact pencVs_snoc _ _
theorem pencCs_step {l : List Pcol} {j : Nat} {x : Pcol} (h : l[j]? = some x) : pencCs (l.take (j + 1)) = pencCs (l.take j) ++ pencC x := by
 rw [List.take_add_one, h]
 exact pencCs_snoc _ _
theorem pvr_len {p : Pv} (h : pvr p = true) (hk : kd p.kind = 1) : p.bs.length ≤ 16 := by
 have hk1 : p.kind = 1 := by
  rcases kd_cases p.kind with ⟨e, _⟩ | ⟨_, e⟩ | ⟨_, _, e⟩
  ·exact e
  ·rw [e] at hk; simp at hk
  ·rw [e] at hk; simp at hk
 unfold pvr vright at h
 simp [Pv.vm, hk1] at h
 exact h
theorem penc_len {p : Pv} (h : pvr p = true) : (penc p).length ≤ 21 := by
 unfold penc
 rcases kd_cases p.kind with ⟨_, e⟩ | ⟨_, e⟩ | ⟨_, _, e⟩
 ·rw [venc_text (by exact e)]
  have := pvr_len h e
  simp [be_length, Pv.vm]
  omega
 ·rw [venc_num (by exact e)]; simp [be_length]
 ·rw [venc_other (by exact e)]; simp
theorem penc_oct {p : Pv} (h : ∀ z ∈ p.bs, z < 256) : ∀ z ∈ penc p, z < 256 := venc_oct (A := p.vm (.slice none 0 0) 0) h
theorem pencVs_len {l : List Pver} (h : ∀ x ∈ l, pvr x.v = true) : (pencVs l).length ≤ l.length * 29 := by
 induction l with
 | nil => simp [pencVs]
 | cons x l ih =>
  have h1 := ih (fun y hy => h y (by simp [hy]))
  have h2 := penc_len (h x (by simp))
  have e : pencVs (x :: l) = pencV x ++ pencVs l := by simp [pencVs]
  rw [e, List.length_append, List.length_cons]
  have h3 : (pencV x).length = 8 + (penc x.v).length := by unfold pencV; rw [List.length_append, be_length]
  omega
theorem pencC_len {c : Pcol} (h1 : pname c.name = true) (h2 : prightV c.l = true) : (pencC c).length ≤ 79 := by
 have h3 := prightV_two h2
 have h4 := pencVs_len (l := c.l) (fun x hx => (prightV_time h2 x hx).2)
 unfold pname at h1
 simp only [Bool.and_eq_true, decide_eq_true_eq] at h1
 unfold pencC
 simp only [List.length_append, be_length, sbs_length, List.length_singleton]
 omega
theorem pencCs_len {R : List Pcol} (h : ∀ c ∈ R, pname c.name = true ∧ prightV c.l = true) : (pencCs R).length ≤ R.length * 79 := by
 induction R with
 | nil => simp [pencCs]
 | cons x l ih =>
  have h1 := ih (fun y hy => h y (by simp [hy]))
  have h2 := pencC_len (h x (by simp)).1 (h x (by simp)).2
  have e : pencCs (x :: l) = pencC x ++ pencCs l := by simp [pencCs]
  rw [e, List.length_append, List.length_cons]
  omega
theorem pencR_len {R : List Pcol} (h : pright R = true) : 1 ≤ (pencR R).length ∧ (pencR R).length ≤ 317 := by
 have h1 := pencCs_len (R := R) (fun c hc => pright_at h hc)
 have h2 := pright_len4 h
 unfold pencR
 rw [List.length_append, List.length_singleton]
 omega
end Go.Proofs.YtcngllcifcpbkaaGreat
/-
 row.Write: for every row what is written behind what was written is the row's bytes, as the chapter gives them, of a row that may not be those of an empty one; nothing else is written.
-/
namespace Go.Proofs.YtcngllcifcpbkaaGreat
open Go.RowKit

structure WrS (W w : World) (p : Nat) (a : Option Nat) (bs : List Nat) : Prop where
 wr : Wr w p a bs
 moves : Moves [] W w
 newp : W.heap.size ≤ p
 newa : ∀ k, a = some k → W.heap.size ≤ k
theorem WrS.wrote {W w w' : World} {p : Nat} {a a' : Option Nat} {bs cs : List Nat} (h : WrS W w p a bs) (k : Wrote w p a w' a' cs) : WrS W w' p a' cs := by
 obtain ⟨k1, k2, k3⟩ := k
 refine ⟨k1, h.moves.trans k2 ?_, h.newp, ?_⟩
 ·intro x hx
  rcases List.mem_cons.1 hx with rfl | hx
  ·exact .inr h.newp
  ·exact .inr (h.newa x (by cases a <;> simp_all))
 ·rcases k3 with rfl | ⟨k, rfl, hk⟩
  ·exact h.newa
  ·intro j hj
   simp at hj
   subst hj
   exact Nat.le_trans h.moves.size hk
theorem WrS.after {W w w' : World} {p : Nat} {a : Option Nat} {bs : List Nat} (h : WrS W w p a bs) (m : Moves [] w w') : WrS W w' p a bs := ⟨h.wr.moves m (by simp) (by simp), h.moves.then m, h.newp, h.newa⟩
theorem WrS.past {W w : World} {p : Nat} {a : Option Nat} {bs : List Nat} (h : WrS W w p a bs) {k : Nat} (hk : k < W.heap.size) : k ∉ p :: a.toList := by
 intro hx
 rcases List.mem_cons.1 hx with rfl | hx
 ·have := h.newp; omega
 ·have := h.newa k (by cases a <;> simp_all); omega

theorem strBytes_new (w : World) (s : ByteArray) : ∃ cap w', (convert 9 40 (.string s)).run Tryz.prog w = .ok (.slice (some ⟨w.heap.size, 0, none⟩) s.size cap) w' ∧ IsB w' w.heap.size (.slice (some ⟨w.heap.size, 0, none⟩) s.size cap) (sbs s) ∧ U8 w' w.heap.size (sbs s) ∧ Moves [] w w' := by
 refine ⟨_, _, Lib.run_convert_string_bytes w 9 40 5 s Tryz.underlying9 Tryz.underlying40 Tryz.underlying5, ?_, ?_, ?_⟩
 ·refine ⟨_, _, _, rfl, sbs_length s, grownCap_ge _ _ _ _, fun h => by simp at h, .inr ⟨0, rfl, fun j b hj => ?_⟩⟩
  have hlt : j < s.size := by
   have := (List.getElem?_eq_some_iff.1 hj).1
   rw [sbs_length] at this
   exact this
  rw [Nat.zero_add, Lib.bytesWorld_cell _ _ _ _ hlt]
  simp only [sbs, List.getElem?_map, Option.map_eq_some_iff] at hj
  obtain ⟨u, hu, rfl⟩ := hj
  rw [List.getD_eq_getElem?_getD, hu]
  rfl
 ·exact .inr ⟨_, _, Lib.bytesWorld_at_new _ _ _⟩
 ·refine ⟨rfl, rfl, rfl, ?_, fun k hk _ => Lib.bytesWorld_at_old _ _ _ _ hk⟩
  rw [Lib.bytesWorld_size]
  omega

theorem putS_w (W w : World) (p : Nat) (a : Option Nat) (bs : List Nat) (k : Int) (ad : Option Addr) (len cap n : Nat) (x : Pv) (h : VA W [.int .i64 k, .slice ad len cap, .float .f64 n] x) (hS : WrS W w p a bs) (hb : bs.length ≤ 1000000000) :
  Calls Tryz.prog 109 #[.pointer (some ⟨p, 0, none⟩), .agg #[.int .i64 k, .slice ad len cap, .float .f64 n]] w fun e w' => e = .returned (.tuple #[]) ∧ ∃ a', Wrote w p a w' a' (bs ++ penc x) := by
 obtain ⟨g, hV, hl⟩ := h.vis
 obtain ⟨e0, hI⟩ := hV
 exact put_v p a bs _ _ _ w e0 hS.wr (by omega) (hI.moves hS.moves (by simp)) hl (fun hn => hS.past (hI.isB.lt hn)) (by rw [venc_p])

set_option maxRecDepth 100000 in
set_option maxHeartbeats 4000000 in
theorem writeColumn_w (W w : World) (p : Nat) (a : Option Nat) (bs : List Nat) (x : Pcol) (a2 : Option Addr) (n2 c2 : Nat) (hV : VersAt W (.slice a2 n2 c2) x.l) (hn : n2 = x.l.length) (hS : WrS W w p a bs) (hb : bs.length ≤ 1000000) (hnm : pname x.name = true) (hr : prightV x.l = true) :
  Calls Tryz.prog 70 #[.pointer (some ⟨p, 0, none⟩), .agg #[.string x.name, .slice a2 n2 c2]] w fun e w' => e = .returned (.tuple #[]) ∧ ∃ a', WrS W w' p a' (bs ++ pencC x) := by
 have hl2 := prightV_two hr
 have HRV : Hid (∀ y ∈ x.l, ptime y.t = true ∧ pvr y.v = true) := prightV_time hr
 have HN : Hid (n2 = x.l.length) := hn
 have HV : Hid (VersAt W (.slice a2 n2 c2) x.l) := hV
 have hn2 : n2 ≤ 2 := by omega
 have hn2' : (n2 : Int) < 256 := by omega
 have hsz : x.name.size ≤ 16 := by unfold pname at hnm; simp only [Bool.and_eq_true, decide_eq_true_eq] at hnm; exact hnm.2
 have hsl : (sbs x.name).length = x.name.size := sbs_length _
 have m1 : Moves [] w (w.alloc (.cells #[.string x.name, .slice a2 n2 c2] 124)) := (Moves.refl _ _).alloc _
 have b1 := heap_alloc_new w (.cells #[.string x.name, .slice a2 n2 c2] 124)
 have hS1 := hS.after m1
 have hnew : w.heap.size ∉ p :: a.toList := hS.wr.new
 obtain ⟨cap, w2, hrun, hB, _, m2⟩ := strBytes_new (w.alloc (.cells #[.string x.name, .slice a2 n2 c2] 124)) x.name
 have hnew1 : (w.alloc (.cells #[.string x.name, .slice a2 n2 c2] 124)).heap.size ∉ p :: a.toList := hS1.wr.new
 have b2 := m2.at b1 (by simp)
 have hS2 := hS1.after m2
 have hb1 : bs.length + 2000000 ≤ 1099511627776 := by omega
 have hl1 : (sbs x.name).length ≤ 1048576 := by omega
 have hb2 : (bs ++ be 4 (sbs x.name).length ++ sbs x.name).length + 1 ≤ 1099511627776 := by simp only [List.length_append, be_length]; omega
 obtain ⟨E, hE⟩ : ∃ E, Hid (bs ++ be 4 (sbs x.name).length ++ sbs x.name = E) := ⟨_, rfl⟩
 obtain ⟨E2, hE2⟩ : ∃ E2, Hid (E ++ [n2] = E2) := ⟨_, rfl⟩
 have hEl : E2.length ≤ 1000025 := by rw [← hE2.out, ← hE.out]; simp only [List.length_append, be_length, List.length_singleton]; omega
 rw [hE.out] at hb2
 have hfin : Hid (bs ++ pencC x = E2 ++ pencVs x.l) := by
  show bs ++ pencC x = E2 ++ pencVs x.l
  rw [← hE2.out, ← hE.out, HN.out, hsl]
  unfold pencC
  simp
 clear hS1 m1 hS hn hV hsl hr hnm
 generalize (w.alloc (.cells #[.string x.name, .slice a2 n2 c2] 124)).heap.size = g1 at *
 go_enter Tryz.func70, Tryz.ntmps70
 go_wp2_with (first | (go_at_call 37; refine (wtext_any _ a bs (sbs x.name) g1 _ _ hS2.wr hb1 hB hl1 hnew1).mono ?_; rintro _ w3 ⟨rfl, a3, hw3⟩; rw [hE.out] at hw3; have hS3 := hS2.wrote hw3; have b3 := hw3.2.1.at b2 hnew; obtain ⟨c0, c1⟩ := pair_cells b3; have hnew3 : w.heap.size ∉ p :: a3.toList := (by rcases hw3.2.2 with e | ⟨k, e, hk⟩; (rw [e]; exact hnew); (rw [e]; simp; refine ⟨fun h => hnew (by simp [h]), ?_⟩; have := lt_of_block b2; omega))) | (go_at_call 69; refine (wbyte_w _ a3 E n2 _ (by omega) _ hS3.wr hb2).mono ?_; rintro _ w4 ⟨rfl, a4, hw4⟩; rw [hE2.out] at hw4; have hS4 := hS3.wrote hw4; have b4 := hw4.2.1.at b3 hnew3; obtain ⟨d0, d1⟩ := pair_cells b4))
 clear hS2 hB hw3 hS3 hw4 b1 b2 b3 b4 c0 c1 d0 d1 hrun m2
 go_loopw [20] (fun i wr => ∃ (j : Nat) (a' : Option Nat), j ≤ n2 ∧ i = .int .i64 (j : Nat) ∧ WrS W wr p a' (E2 ++ pencVs (x.l.take j))) (fun i _ => n2 - (intOf i).toNat)
 case atStart => exact ⟨0, a4, Nat.zero_le _, rfl, by simpa [pencVs] using hS4⟩
 case round =>
  obtain ⟨j, a5, hj, rfl, hS5⟩ := hrel
  clear hS4
  by_cases hlt : j < n2
  ·have hj3 : (j : Int) < n2 := by omega
   obtain ⟨y, hy⟩ : ∃ y, x.l[j]? = some y := ⟨_, List.getElem?_eq_getElem (by have := HN.out; omega)⟩
   obtain ⟨g5, off5, a6, n6, c6, rfl, y0, y1, y2, y3, hVC⟩ := HV.out.at hy
   have z0 := hS5.moves.cell y0
   have z1 := hS5.moves.cell y1
   have z2 := hS5.moves.cell y2
   have z3 := hS5.moves.cell y3
   have HVA : Hid (VA W [.int .i64 y.v.kind, .slice a6 n6 c6, .float .f64 y.v.n] y.v) := hVC.va
   have hrt := HRV.out y (List.mem_of_getElem? hy)
   have htm : 0 ≤ y.t ∧ y.t ≤ 1099511627776 := by have := hrt.1; unfold ptime at this; simpa using this
   have HT : Hid (y.t = (y.t.toNat : Int)) := by show y.t = (y.t.toNat : Int); omega
   have hlen : (pencVs (x.l.take j)).length ≤ 58 := by
    have h1 := pencVs_len (l := x.l.take j) (fun z hz => (HRV.out z (List.mem_of_mem_take hz)).2)
    rw [List.length_take] at h1
    omega
   obtain ⟨D, hD⟩ : ∃ D, E2 ++ pencVs (x.l.take j) = D := ⟨_, rfl⟩
   have hDl : D.length + 8 ≤ 1099511627776 := by rw [← hD, List.length_append]; omega
   have hDl2 : (D ++ be 8 y.t.toNat).length ≤ 1000000000 := by rw [← hD]; simp only [List.length_append, be_length]; omega
   have HD : Hid (E2 ++ pencVs (x.l.take (j + 1)) = D ++ be 8 y.t.toNat ++ penc y.v) := by
    show E2 ++ pencVs (x.l.take (j + 1)) = _
    rw [pencVs_step hy, ← hD]
    unfold pencV
    simp
   rw [hD] at hS5
   have mb : Moves [] wr (wr.alloc (.cells #[.int .i64 y.t, .int .i64 y.v.kind, .slice a6 n6 c6, .float .f64 y.v.n] 126)) := (Moves.refl _ _).alloc _
   have hS6 := hS5.after mb
   have q6 := heap_alloc_new wr (.cells #[.int .i64 y.t, .int .i64 y.v.kind, .slice a6 n6 c6, .float .f64 y.v.n] 126)
   have hnq := hS5.wr.new
   clear hVC y0 y1 y2 y3 hrt hlen hD hS5 hy
   go_wp2_with (first | (go_at_call 108; refine (wlong_w _ a5 D y.t.toNat _ (by first | omega | (rw [IntKind.wrap_u64]; omega)) _ hS6.wr hDl).mono ?_; rintro _ w7 ⟨rfl, a7, hw7⟩; have hS7 := hS6.wrote hw7; have q7 := hw7.2.1.at q6 hnq; obtain ⟨k0, k1, k2, k3⟩ := quad_cells q7) | (go_at_call 109; refine (putS_w W _ _ a7 _ _ _ _ _ _ y.v HVA.out hS7 hDl2).mono ?_; rintro _ w8 ⟨rfl, a8, hw8⟩; have hS8 := hS7.wrote hw8))
   go_roundw
   case rel => exact ⟨j + 1, a8, by omega, by go_num, by rw [HD.out]; exact hS8⟩
   case measure => simp [intOf]; omega
  ·have hj3 : ¬ (j : Int) < n2 := by omega
   obtain rfl : j = n2 := by omega
   have hfull : x.l.take j = x.l := by rw [HN.out, List.take_length]
   rw [hfull] at hS5
   go_wp2_with fail
   go_end0
   exact ⟨rfl, a5, by rw [hfin.out]; exact hS5⟩

set_option maxRecDepth 100000 in
set_option maxHeartbeats 4000000 in
theorem rowWrite_w (W w : World) (p : Nat) (a : Option Nat) (bs : List Nat) (v : Value) (R : List Pcol) (h : RowAt W v R) (hS : WrS W w p a bs) (hb : bs.length ≤ 900000) :
  Calls Tryz.prog 38 #[.pointer (some ⟨p, 0, none⟩), v] w fun e w' => e = .returned (.tuple #[]) ∧ ∃ a', WrS W w' p a' (bs ++ pencR (pasked R)) := by
 have h0 := h
 obtain ⟨lv, rfl, hl⟩ := h
 obtain ⟨ad, cap, rfl, hc⟩ := hl.slice
 obtain ⟨Z, hZ⟩ : ∃ Z, Hid (pasked R = Z) := ⟨_, rfl⟩
 have HG : Hid (∀ c ∈ Z, pname c.name = true ∧ prightV c.l = true) := by
  unfold Hid
  rw [← hZ.out]
  exact fun c hc => pright_at (pasked_right R) hc
 have hask := fun w1 (m1 : Moves [] W w1) => asked_w W w1 _ R h0 m1
 rw [hZ.out] at hask ⊢
 have hZ4 : Z.length ≤ 4 := by rw [← hZ.out]; exact pasked_len R
 have hS1 := hS.after ((Moves.refl [] w).alloc (.cells #[.slice ad R.length cap] 52))
 have hpe : ∀ w1 : World, (binOp .eql 41 (.pointer (some ⟨p, 0, none⟩)) (.pointer none)).run Tryz.prog w1 = .ok (.bool false) w1 := by intro w1; kernel_rfl
 have hb1 : bs.length + 1 ≤ 1099511627776 := by omega
 have hz256 : (Z.length : Int) < 256 := by omega
 obtain ⟨nz, hnz⟩ : ∃ nz, Hid (Z.length = nz) := ⟨_, rfl⟩
 rw [hnz.out] at hask hZ4 hz256
 obtain ⟨E, hE⟩ : ∃ E, Hid (bs ++ [nz] = E) := ⟨_, rfl⟩
 have hEl : E.length ≤ 900001 := by rw [← hE.out, List.length_append, List.length_singleton]; omega
 have hfin : Hid (bs ++ pencR Z = E ++ pencCs Z) := by
  show bs ++ pencR Z = _
  rw [← hE.out]
  unfold pencR
  rw [hnz.out]
  simp
 clear h0 hl hS
 go_enter Tryz.func38, Tryz.ntmps38
 go_wp2_with (first | (go_at_call 68; refine (hask _ hS1.moves).mono ?_; rintro _ w2 ⟨ad2, cap2, rfl, hA, m2⟩; have hS2 := hS1.after m2; have HA : Hid (ColsAt W (.slice ad2 nz cap2) Z) := hA; have hcap := hA.slice; clear hA) | (go_at_call 69; refine (wbyte_w _ a bs nz _ (by omega) _ hS2.wr hb1).mono ?_; rintro _ w3 ⟨rfl, a3, hw3⟩; rw [hE.out] at hw3; have hS3 := hS2.wrote hw3))
 clear hask hS2 hw3 hS1 m2 hcap
 go_loopw [19] (fun i wr => ∃ (j : Nat) (a' : Option Nat), j ≤ nz ∧ i = .int .i64 (j : Nat) ∧ WrS W wr p a' (E ++ pencCs (Z.take j))) (fun i _ => nz - (intOf i).toNat)
 case atStart => exact ⟨0, a3, Nat.zero_le _, rfl, by simpa [pencCs] using hS3⟩
 case round =>
  obtain ⟨j, a5, hj, rfl, hS5⟩ := hrel
  clear hS3
  by_cases hlt : j < nz
  ·have hj3 : (j : Int) < nz := by omega
   obtain ⟨y, hy⟩ : ∃ y, Z[j]? = some y := ⟨_, List.getElem?_eq_getElem (by have := hnz.out; omega)⟩
   obtain ⟨g5, off5, a6, n6, c6, rfl, y0, y1, hn6, _, hV6⟩ := HA.out.at hy
   have z0 := hS5.moves.cell y0
   have z1 := hS5.moves.cell y1
   have hgy := HG.out y (List.mem_of_getElem? hy)
   have HV6 : Hid (VersAt W (.slice a6 n6 c6) y.l) := hV6
   have Hn6 : Hid (n6 = y.l.length) := hn6
   have hlen : (pencCs (Z.take j)).length ≤ 316 := by
    have h1 := pencCs_len (R := Z.take j) (fun z hz => HG.out z (List.mem_of_mem_take hz))
    rw [List.length_take] at h1
    omega
   obtain ⟨D, hD⟩ : ∃ D, E ++ pencCs (Z.take j) = D := ⟨_, rfl⟩
   have hDl : D.length ≤ 1000000 := by rw [← hD, List.length_append]; omega
   have HD : Hid (E ++ pencCs (Z.take (j + 1)) = D ++ pencC y) := by
    show E ++ pencCs (Z.take (j + 1)) = _
    rw [pencCs_step hy, ← hD]
    simp
   rw [hD] at hS5
   have hS6 := hS5.after ((Moves.refl [] wr).alloc (.cells #[.string y.name, .slice a6 n6 c6] 124))
   clear hV6 y0 y1 hlen hD hS5 hy hn6
   go_wp2_with (go_at_call 70; refine (writeColumn_w W _ _ a5 D y _ _ _ HV6.out Hn6.out hS6 hDl hgy.1 hgy.2).mono ?_; rintro _ w7 ⟨rfl, a7, hS7⟩)
   go_roundw
   case rel => exact ⟨j + 1, a7, by omega, by go_num, by rw [HD.out]; exact hS7⟩
   case measure => simp [intOf]; omega
  ·have hj3 : ¬ (j : Int) < nz := by omega
   obtain rfl : j = nz := by omega
   have hfull : Z.take j = Z := by rw [← hnz.out, List.take_length]
   rw [hfull] at hS5
   go_wp2_with fail
   go_end0
   exact ⟨rfl, a5, by rw [hfin.out]; exact hS5⟩
end Go.Proofs.YtcngllcifcpbkaaGreat
/-
 Arguments opened: integers, lists of integers, lists of values as they are drawn, of calls.
-/
namespace Go.Proofs.YtcngllcifcpbkaaGreat
open Go.RowKit
open Go.ChangeShapes Go.WideShapes

set_option maxRecDepth 100000 in
theorem karg_of_raw {H : Type} {enc : TypeId × Value → H} {W : World} {base fuel : Nat} {spare : Nat → Bool} {held : Bool} {v0 v1 v2 v3 : Value} {x : DataW H × List MemPlace}
  (h : DataW.trod enc Tryz.prog W base spare held fuel 104 [v0, v1, v2, v3] = some x) : ∃ t n x ad len cap, v0 = .bool t ∧ v1 = .int .i64 n ∧ v2 = .float .f64 x ∧ v3 = .slice ad len cap ∧ KArg W (.agg #[.bool t, .int .i64 n, .float .f64 x, .slice ad len cap]) := by
 obtain ⟨xs, k, hk, hxy, _, hxl, hf⟩ := DataW.trod_struct Tryz.underlying104 h
 have c3 : Tryz.prog.cellsOf 3 = 1 := by kernel_rfl
 have c4 : Tryz.prog.cellsOf 4 = 1 := by kernel_rfl
 have cf : Tryz.prog.cellsOf 97 = 1 := by kernel_rfl
 have cb : Tryz.prog.cellsOf 40 = 1 := by kernel_rfl
 match xs, hxl with
 | [y0, y1, y2, y3], _ =>
  have g0 := hf 0 _ rfl
  have g1 := hf 1 _ rfl
  have g2 := hf 2 _ rfl
  have g3 := hf 3 _ rfl
  simp [c3, c4, cf, cb] at g0 g1 g2 g3
  obtain ⟨t, rfl⟩ := bool_of_trod g0
  obtain ⟨n, hn, _, _⟩ := DataW.trod_int Tryz.underlying3 g1
  obtain ⟨x, hx, rfl⟩ := float_of_trod g2
  obtain ⟨g, bs, hB, hO⟩ := isB_of_trod g3
  simp at hn
  subst hn
  obtain ⟨ad, len, cap, rfl, _⟩ := id hB
  exact ⟨t, n, x, ad, len, cap, rfl, rfl, rfl, rfl, ⟨t, n, x, ad, len, cap, g, bs, rfl, hx, hB, hO⟩⟩

end Go.Proofs.YtcngllcifcpbkaaGreat
/-
 RowTimes' walk.
-/
namespace Go.Proofs.YtcngllcifcpbkaaGreat
open Go.RowKit

end Go.Proofs.YtcngllcifcpbkaaGreat
/-
 RowNewest's walk.
-/
namespace Go.Proofs.YtcngllcifcpbkaaGreat
open Go.RowKit

end Go.Proofs.YtcngllcifcpbkaaGreat
