/-
  Rows that may be, as plain data: names rise, so that a row is parted by a name; what the document's own words and the program's come to.
-/
import Derived.Test.YtcngllcifcpbkaaCRef5
namespace Go.Proofs.Ytcngllcifcpbkaa
open Go.RowKit

/-- Names, in their order. -/
theorem neq_iff {a b : ByteArray} : neq a b = true ↔ a = b := by
  constructor
  · intro h
    unfold neq at h
    have h1 : a.toList = b.toList := by simpa using h
    rw [ByteArray.toList_eq, ByteArray.toList_eq] at h1
    cases a; cases b
    simpa using h1
  · rintro rfl
    exact neq_self _
theorem nlt_trans {a b c : ByteArray} (h1 : nlt a b = true) (h2 : nlt b c = true) : nlt a c = true := by
  unfold nlt at *
  rw [bytesLess_eq] at *
  simp only [decide_eq_true_eq] at *
  exact List.lt_trans h1 h2
theorem nlt_asymm {a b : ByteArray} (h : nlt a b = true) : nlt b a = false := by
  cases hq : nlt b a with
  | false => rfl
  | true =>
    have := nlt_trans h hq
    rw [nlt_self] at this
    simp at this
theorem nlt_ne {a b : ByteArray} (h : nlt a b = true) : neq a b = false := by
  cases hq : neq a b with
  | false => rfl
  | true =>
    rw [neq_iff.1 hq, nlt_self] at h
    simp at h
theorem ngt_iff {a b : ByteArray} : ngt a b = nlt b a := by
  unfold ngt
  cases h1 : nlt a b with
  | true => rw [nlt_asymm h1]; rfl
  | false =>
    cases h2 : neq a b with
    | true => rw [neq_iff.1 h2, nlt_self]; rfl
    | false =>
      have h3 : nlt b a = true := by
        unfold nlt at *
        rw [bytesLess_eq] at *
        simp only [decide_eq_true_eq, decide_eq_false_iff_not] at *
        have h4 : ¬ a.toList = b.toList := by
          intro e
          unfold neq at h2
          rw [e] at h2
          simp at h2
        rcases List.le_total a.toList b.toList with h5 | h5
        · exact absurd (List.le_antisymm (List.not_lt.1 h1) h5).symm h4
        · exact List.not_le.1 fun h6 => h4 (List.le_antisymm h6 h5)
      rw [h3]; rfl
theorem nlt_neq {a b : ByteArray} (h : nlt b a = true) : neq a b = false := by
  cases hq : neq a b with
  | false => rfl
  | true => rw [neq_iff.1 hq, nlt_self] at h; simp at h

/-- Names that rise. -/
def Rise (R : List Pcol) : Prop := R.Pairwise (fun a b => nlt a.name b.name = true)

theorem rise_of_steps {R : List Pcol} (h : ∀ k x y, R[k]? = some x → R[k + 1]? = some y → nlt x.name y.name = true) : Rise R := by
  induction R with
  | nil => exact List.Pairwise.nil
  | cons a t ih =>
    have ht : Rise t := ih fun k x y hx hy => h (k + 1) x y (by simpa using hx) (by simpa using hy)
    refine List.Pairwise.cons (fun b hb => ?_) ht
    cases t with
    | nil => simp at hb
    | cons c t =>
      have h1 := h 0 a c rfl rfl
      rcases List.mem_cons.1 hb with rfl | hb
      · exact h1
      · exact nlt_trans h1 ((List.pairwise_cons.1 ht).1 b hb)
theorem pright_iff {R : List Pcol} : pright R = true ↔ R.length ≤ 4 ∧ Rise R ∧ ∀ x ∈ R, pname x.name = true ∧ prightV x.l = true := by
  constructor
  · intro h
    refine ⟨pright_len4 h, rise_of_steps fun k x y hx hy => ?_, fun x hx => pright_at h hx⟩
    have hl := (List.getElem?_eq_some_iff.1 hy).1
    have := pright_col h hl
    unfold colGood at this
    rw [hy] at this
    simp only [Nat.add_sub_cancel, hx, Bool.and_eq_true] at this
    simpa using this.2
  · rintro ⟨h1, h2, h3⟩
    refine pright_yes h1 fun j hj => ?_
    unfold colGood
    rw [List.getElem?_eq_getElem hj]
    have h4 := h3 _ (List.getElem_mem hj)
    simp only [h4.1, h4.2, Bool.true_and]
    cases j with
    | zero => rfl
    | succ j =>
      have hj' : j < R.length := by omega
      simp only [Nat.add_sub_cancel, List.getElem?_eq_getElem hj']
      simp
      exact List.pairwise_iff_getElem.1 h2 j (j + 1) hj' hj (by omega)

/-- A row is parted by a name: what is below, the column itself, what is above. -/
theorem rise_split {R : List Pcol} (h : Rise R) (s : ByteArray) : ∃ A M B, R = A ++ M ++ B ∧ (∀ x ∈ A, nlt x.name s = true) ∧ (∀ x ∈ B, nlt s x.name = true) ∧ (M = [] ∨ ∃ l, M = [⟨s, l⟩]) := by
  induction R with
  | nil => exact ⟨[], [], [], rfl, by simp, by simp, .inl rfl⟩
  | cons c t ih =>
    obtain ⟨hc, ht⟩ := List.pairwise_cons.1 h
    cases h1 : nlt c.name s with
    | true =>
      obtain ⟨A, M, B, rfl, hA, hB, hM⟩ := ih ht
      refine ⟨c :: A, M, B, by simp, fun x hx => ?_, hB, hM⟩
      rcases List.mem_cons.1 hx with rfl | hx
      · exact h1
      · exact hA x hx
    | false =>
      cases h2 : neq c.name s with
      | true =>
        have e := neq_iff.1 h2
        refine ⟨[], [c], t, by simp, by simp, fun x hx => e ▸ hc x hx, .inr ⟨c.l, by rw [← e]⟩⟩
      | false =>
        have h3 : nlt s c.name = true := by rw [← ngt_iff]; unfold ngt; rw [h1, h2]; rfl
        refine ⟨[], [], c :: t, by simp, by simp, fun x hx => ?_, .inl rfl⟩
        rcases List.mem_cons.1 hx with rfl | hx
        · exact h3
        · exact nlt_trans h3 (hc x hx)

theorem filter_all {α : Type} {p : α → Bool} {l : List α} (h : ∀ x ∈ l, p x = true) : l.filter p = l := List.filter_eq_self.2 h
theorem filter_no {α : Type} {p : α → Bool} {l : List α} (h : ∀ x ∈ l, p x = false) : l.filter p = [] := List.filter_eq_nil_iff.2 fun x hx => by simp [h x hx]
theorem find_no {α : Type} {p : α → Bool} {l : List α} (h : ∀ x ∈ l, p x = false) : l.find? p = none := List.find?_eq_none.2 fun x hx => by simp [h x hx]

theorem split_pidx0 {A B : List Pcol} {s : ByteArray} (hA : ∀ x ∈ A, nlt x.name s = true) (hB : ∀ x ∈ B, nlt s x.name = true) : pidx (A ++ B) s = A.length := by
  unfold pidx
  rw [List.takeWhile_append_of_pos hA]
  cases B with
  | nil => simp
  | cons b t =>
    have := nlt_asymm (hB b (by simp))
    simp [this]
theorem split_pidx1 {A B : List Pcol} {s : ByteArray} (l : List Pver) (hA : ∀ x ∈ A, nlt x.name s = true) : pidx (A ++ [⟨s, l⟩] ++ B) s = A.length := by
  unfold pidx
  rw [List.append_assoc, List.takeWhile_append_of_pos hA]
  simp [nlt_self]
theorem split_has0 {A B : List Pcol} {s : ByteArray} (hA : ∀ x ∈ A, nlt x.name s = true) (hB : ∀ x ∈ B, nlt s x.name = true) : phas (A ++ B) s = false := by
  unfold phas
  rw [split_pidx0 hA hB]
  cases B with
  | nil => simp
  | cons b t =>
    simp only [List.getElem?_append_right (Nat.le_refl _), Nat.sub_self, List.getElem?_cons_zero]
    exact nlt_neq (hB b (by simp))
theorem split_has1 {A B : List Pcol} {s : ByteArray} (l : List Pver) (hA : ∀ x ∈ A, nlt x.name s = true) : phas (A ++ [⟨s, l⟩] ++ B) s = true := by
  unfold phas
  rw [split_pidx1 l hA, List.append_assoc]
  simp [neq_self]
theorem split_vers0 {A B : List Pcol} {s : ByteArray} (hA : ∀ x ∈ A, nlt x.name s = true) (hB : ∀ x ∈ B, nlt s x.name = true) : pvers (A ++ B) s = [] := by
  unfold pvers
  rw [List.find?_append, find_no fun x hx => nlt_ne (hA x hx), find_no fun x hx => nlt_neq (hB x hx)]
  rfl
theorem split_vers1 {A B : List Pcol} {s : ByteArray} (l : List Pver) (hA : ∀ x ∈ A, nlt x.name s = true) : pvers (A ++ [⟨s, l⟩] ++ B) s = l := by
  unfold pvers
  rw [List.append_assoc, List.find?_append, find_no fun x hx => nlt_ne (hA x hx)]
  simp [neq_self]
theorem split_with0 {A B : List Pcol} {s : ByteArray} (l : List Pver) (hA : ∀ x ∈ A, nlt x.name s = true) (hB : ∀ x ∈ B, nlt s x.name = true) : pwith (A ++ B) s l = A ++ (if l.length = 0 then [] else [⟨s, l⟩]) ++ B := by
  unfold pwith
  rw [List.filter_append, List.filter_append, filter_all hA, filter_no fun x hx => nlt_asymm (hB x hx), filter_no (l := A) (p := fun c => ngt c.name s) fun x hx => by rw [ngt_iff]; exact nlt_asymm (hA x hx), filter_all (l := B) (p := fun c => ngt c.name s) fun x hx => by rw [ngt_iff]; exact hB x hx]
  simp
theorem split_with1 {A B : List Pcol} {s : ByteArray} (l l' : List Pver) (hA : ∀ x ∈ A, nlt x.name s = true) (hB : ∀ x ∈ B, nlt s x.name = true) : pwith (A ++ [⟨s, l'⟩] ++ B) s l = A ++ (if l.length = 0 then [] else [⟨s, l⟩]) ++ B := by
  unfold pwith
  rw [List.filter_append, List.filter_append, List.filter_append, List.filter_append, filter_all hA, filter_no (l := B) fun x hx => nlt_asymm (hB x hx), filter_no (l := A) (p := fun c => ngt c.name s) fun x hx => by rw [ngt_iff]; exact nlt_asymm (hA x hx), filter_all (l := B) (p := fun c => ngt c.name s) fun x hx => by rw [ngt_iff]; exact hB x hx]
  simp [nlt_self, ngt_self]

theorem rlist_pput {l : List Pver} (v : Pver) (h : l = [] ∨ prightV l = true) : rlist l v = pput l v := by
  rcases h with rfl | h
  · rfl
  · rcases prightV_cases h with ⟨x, rfl, _⟩ | ⟨x, y, rfl, _, _, _, _, h5⟩
    · unfold rlist pput
      rcases Int.lt_trichotomy v.t x.t with h | h | h
      · simp [h, show ¬ x.t < v.t by omega]
      · simp [h]
      · simp [h, show ¬ v.t < x.t by omega, show ¬ x.t = v.t by omega]
    · unfold rlist pput
      rcases Int.lt_trichotomy v.t x.t with h | h | h
      · rcases Int.lt_trichotomy v.t y.t with h' | h' | h'
        · simp [h, h']
        · simp [h', h5, show ¬ x.t < y.t by omega]
        · simp [h, h', show ¬ v.t < y.t by omega, show ¬ y.t = v.t by omega, show ¬ x.t < v.t by omega]
      · simp [h, h5, show ¬ x.t < y.t by omega, show ¬ y.t = x.t by omega]
      · simp [h, show ¬ v.t < x.t by omega, show ¬ v.t < y.t by omega, show y.t < v.t by omega, show ¬ x.t = v.t by omega, show ¬ y.t = v.t by omega]

/-- What Copy leaves may be. -/
theorem pright_canon {R : List Pcol} (h : pright R = true) : pright (R.map pcanonC) = true := by
  obtain ⟨h1, h2, h3⟩ := pright_iff.1 h
  refine pright_iff.2 ⟨by simpa using h1, ?_, fun x hx => ?_⟩
  · unfold Rise
    rw [List.pairwise_map]
    exact h2
  · obtain ⟨y, hy, rfl⟩ := List.mem_map.1 hx
    exact ⟨(h3 y hy).1, prightV_canon (h3 y hy).2⟩
theorem pasked_of {R : List Pcol} (h : pright R = true) : pasked R = R := by unfold pasked; rw [h]; rfl
theorem pcopy_of {R : List Pcol} (h : pright R = true) : pcopy R = R.map pcanonC := by unfold pcopy; rw [pasked_of h]
theorem pcopy_right (R : List Pcol) : pright (pcopy R) = true := pright_canon (pasked_right R)
theorem pcanonC_twice (x : Pcol) : pcanonC (pcanonC x) = pcanonC x := by
  unfold pcanonC
  simp only [List.map_map]
  congr 1
  apply List.map_congr_left
  intro y _
  show pcanonV (pcanonV y) = pcanonV y
  unfold pcanonV
  simp only [pcanon_pcanon]
/-- A row that may be, with a column put in or taken out, may be. -/
theorem pwith_right {C : List Pcol} (hC : pright C = true) {s : ByteArray} {l : List Pver} (hs : pname s = true) (hl : l = [] ∨ prightV l = true) (hn : l = [] ∨ ¬ ((pvers C s).length = 0 ∧ 4 ≤ C.length)) : pright (pwith C s l) = true := by
  obtain ⟨h1, h2, h3⟩ := pright_iff.1 hC
  obtain ⟨A, M, B, rfl, hA, hB, hM⟩ := rise_split h2 s
  have e : pwith (A ++ M ++ B) s l = A ++ (if l.length = 0 then [] else [⟨s, l⟩]) ++ B := by
    rcases hM with rfl | ⟨l', rfl⟩
    · rw [List.append_nil]; exact split_with0 l hA hB
    · exact split_with1 l l' hA hB
  have hAB : ∀ x ∈ A, ∀ y ∈ B, nlt x.name y.name = true := fun x hx y hy => nlt_trans (hA x hx) (hB y hy)
  have hrA : Rise A := h2.sublist ((List.sublist_append_left A M).trans (List.sublist_append_left _ B))
  have hrB : Rise B := h2.sublist (List.sublist_append_right _ B)
  rw [e]
  refine pright_iff.2 ⟨?_, ?_, ?_⟩
  · have h4 : (A ++ M ++ B).length ≤ 4 := h1
    simp only [List.length_append] at h4 ⊢
    rcases hl with rfl | hl
    · simp; omega
    · rcases hn with rfl | hn
      · simp; omega
      · have h5 : (if l.length = 0 then ([] : List Pcol) else [⟨s, l⟩]).length ≤ 1 := by split <;> simp
        rcases hM with rfl | ⟨l', rfl⟩
        · rw [List.append_nil, split_vers0 hA hB] at hn
          simp at hn
          simp at h4
          omega
        · simp at h4
          omega
  · unfold Rise
    by_cases h0 : l.length = 0
    · rw [if_pos h0, List.append_nil]
      exact List.pairwise_append.2 ⟨hrA, hrB, hAB⟩
    · rw [if_neg h0]
      refine List.pairwise_append.2 ⟨List.pairwise_append.2 ⟨hrA, List.pairwise_singleton _ _, fun x hx y hy => ?_⟩, hrB, fun x hx y hy => ?_⟩
      · simp at hy; subst hy; exact hA x hx
      · rcases List.mem_append.1 hx with hx | hx
        · exact hAB x hx y hy
        · simp at hx; subst hx; exact hB y hy
  · intro x hx
    simp only [List.mem_append] at hx
    rcases hx with (hx | hx) | hx
    · exact h3 x (by simp [hx])
    · split at hx
      · simp at hx
      · rename_i h0
        simp at hx
        subst hx
        rcases hl with rfl | hl
        · simp at h0
        · exact ⟨hs, hl⟩
    · exact h3 x (by simp [hx])
theorem pvers_right {C : List Pcol} (hC : pright C = true) (s : ByteArray) : pvers C s = [] ∨ prightV (pvers C s) = true := by
  unfold pvers
  cases hq : C.find? (fun c => neq c.name s) with
  | none => exact .inl rfl
  | some c => exact .inr (pright_at hC (List.mem_of_find?_eq_some hq)).2
theorem pPut_right (R : List Pcol) (s : ByteArray) (t : Int) (p : Pv) : pright (pPut R s t p) = true := by
  unfold pPut
  split
  · rename_i h
    unfold pPutE at h
    split at h
    · simp at h
    · rename_i h1
      split at h
      · simp at h
      · rename_i h2
        simp only [Bool.not_eq_false, Bool.and_eq_true] at h1
        refine pwith_right (pcopy_right R) h1.1.1 (.inr ?_) (.inr h2)
        rcases pvers_right (pcopy_right R) s with h3 | h3
        · rw [h3]
          show prightV [_] = true
          rw [prightV_one]
          simp [h1.1.2, pvr_canon, h1.2]
        · exact pput_right h3 h1.1.2 (by rw [pvr_canon]; exact h1.2)
  · rfl
/-- The document's own words and the program's come to the same. -/
theorem rPut_eq {R : List Pcol} (hR : pright R = true) (s : ByteArray) (t : Int) (p : Pv) : rPutE (R.map pcanonC) s t p = pPutE R s t p ∧ rPut (R.map pcanonC) s t p = pPut R s t p := by
  have hC := pcopy_right R
  have hq := pcopy_of hR
  unfold rPut pPut rPutE pPutE
  rw [← hq]
  obtain ⟨C, hCq⟩ : ∃ C, pcopy R = C := ⟨_, rfl⟩
  rw [hCq] at hC ⊢
  obtain ⟨h1, h2, h3⟩ := pright_iff.1 hC
  obtain ⟨A, M, B, rfl, hA, hB, hM⟩ := rise_split h2 s
  by_cases hall : (pname s && ptime t && pvr p) = false
  · rw [if_pos hall, if_pos hall]; exact ⟨rfl, rfl⟩
  · rw [if_neg hall, if_neg hall]
    rcases hM with rfl | ⟨l', rfl⟩
    · rw [List.append_nil] at *
      have e1 := split_has0 hA hB
      have e2 := split_vers0 hA hB
      have e3 := split_pidx0 hA hB
      have hcond : (phas (A ++ B) s = false ∧ 4 ≤ (A ++ B).length) ↔ ((pvers (A ++ B) s).length = 0 ∧ 4 ≤ (A ++ B).length) := by rw [e1, e2]; simp
      by_cases hf : (phas (A ++ B) s = false ∧ 4 ≤ (A ++ B).length)
      · rw [if_pos hf, if_pos (hcond.1 hf)]; exact ⟨rfl, rfl⟩
      · rw [if_neg hf, if_neg (fun h => hf (hcond.2 h))]
        refine ⟨rfl, ?_⟩
        rw [if_pos rfl, if_pos rfl]
        have e4 : rins (A ++ B) s = A ++ [⟨s, []⟩] ++ B := by unfold rins; rw [e1, e3]; simp
        rw [e4, e3, e2, split_with0 _ hA hB, if_neg (by have := pput_ne [] ⟨t, pcanon p⟩; simpa using this)]
        rw [List.append_assoc, List.getElem?_append_right (Nat.le_refl _)]
        simp only [Nat.sub_self, List.singleton_append, List.getElem?_cons_zero]
        rw [rlist_pput _ (.inl rfl)]
        simp
    · have e1 := split_has1 (B := B) l' hA
      have e2 := split_vers1 (B := B) l' hA
      have e3 := split_pidx1 (B := B) l' hA
      have hl' := (h3 ⟨s, l'⟩ (by simp)).2
      have hpos := (prightV_two hl').1
      rw [if_neg (by rw [e1]; simp), if_neg (by rw [e2]; rintro ⟨h, _⟩; simp only at hpos; omega)]
      refine ⟨rfl, ?_⟩
      rw [if_pos rfl, if_pos rfl]
      have e4 : rins (A ++ [⟨s, l'⟩] ++ B) s = A ++ [⟨s, l'⟩] ++ B := by unfold rins; rw [e1]; rfl
      rw [e4, e3, e2, split_with1 _ _ hA hB, if_neg (by have := pput_ne l' ⟨t, pcanon p⟩; simpa using this)]
      rw [List.append_assoc, List.getElem?_append_right (Nat.le_refl _)]
      simp only [Nat.sub_self, List.singleton_append, List.getElem?_cons_zero]
      rw [rlist_pput _ (.inr hl')]
      simp

/-- Rows that are told the same. -/
def SameV (x y : List Pver) : Prop := x.length = y.length ∧ ∀ (k : Nat) a b, x[k]? = some a → y[k]? = some b → a.t = b.t ∧ psame a.v b.v = true
def SameR (R Q : List Pcol) : Prop := R.length = Q.length ∧ ∀ (k : Nat) a b, R[k]? = some a → Q[k]? = some b → a.name = b.name ∧ SameV a.l b.l
theorem SameV.refl (x : List Pver) : SameV x x := ⟨rfl, fun k a b h1 h2 => by rw [h1] at h2; simp at h2; subst h2; exact ⟨rfl, psame_self _⟩⟩
theorem SameR.refl (x : List Pcol) : SameR x x := ⟨rfl, fun k a b h1 h2 => by rw [h1] at h2; simp at h2; subst h2; exact ⟨rfl, SameV.refl _⟩⟩
end Go.Proofs.Ytcngllcifcpbkaa
