/-
  Spans as plain data: Right, Has, Meet, Split, Join of two texts, and what follows of them.
-/
import Derived.Sort.Walk0
import Derived.WalkLawsBesides
namespace Go.Proofs.YtfhdodopjgfedaaGreat
open Go.RowKit Go

/-- A span, as plain data. -/
structure Psp where
  lo : ByteArray
  hi : ByteArray
def zlt (a b : ByteArray) : Bool := Op.bytesLess a.toList b.toList
def zeq (a b : ByteArray) : Bool := a.toList == b.toList
def bz (a : ByteArray) : Bool := a.toList.isEmpty
/-- It ends behind that name. -/
def spB (s : Psp) (n : ByteArray) : Bool := bz s.hi || zlt n s.hi
def spE (a : ByteArray) : Bool := decide (a.size ≤ 16)
def spR (s : Psp) : Bool := spE s.lo && spE s.hi && spB s s.lo
def spH (s : Psp) (n : ByteArray) : Bool := !zlt n s.lo && spB s n
def spM (a b : Psp) : Bool := spR a && spR b && (spH a b.lo || spH b a.lo)
def spC (s : Psp) (t : ByteArray) : Bool := spR s && spE t && !zeq t s.lo && spH s t
def spJ (a b : Psp) : Bool := spR a && spR b && !bz a.hi && zeq a.hi b.lo
def Psp.zero : Psp := ⟨⟨#[]⟩, ⟨#[]⟩⟩

theorem zlt_iff (a b : ByteArray) : zlt a b = decide (a.data.toList < b.data.toList) := by
  unfold zlt
  rw [bytesLess_eq, ByteArray.toList_eq, ByteArray.toList_eq]
theorem zeq_iff {a b : ByteArray} : zeq a b = true ↔ a = b := by
  unfold zeq
  rw [ByteArray.toList_eq, ByteArray.toList_eq, beq_iff_eq]
  exact ⟨fun h => by cases a; cases b; simpa using h, fun h => by rw [h]⟩
theorem zlt_self (a : ByteArray) : zlt a a = false := by rw [zlt_iff]; exact decide_eq_false (List.lt_irrefl _)
theorem zlt_trans {a b c : ByteArray} (h1 : zlt a b = true) (h2 : zlt b c = true) : zlt a c = true := by
  rw [zlt_iff, decide_eq_true_eq] at *
  exact List.lt_trans h1 h2
theorem zlt_asymm {a b : ByteArray} (h : zlt a b = true) : zlt b a = false := by
  cases hq : zlt b a with
  | false => rfl
  | true => have := zlt_trans h hq; rw [zlt_self] at this; simp at this
theorem zlt_total {a b : ByteArray} (h1 : zlt a b = false) (h2 : zlt b a = false) : a = b := by
  rw [zlt_iff, decide_eq_false_iff_not] at *
  have := List.le_antisymm (List.not_lt.1 h2) (List.not_lt.1 h1)
  cases a; cases b; simpa using this
theorem zle_trans {a b c : ByteArray} (h1 : zlt b a = false) (h2 : zlt c b = false) : zlt c a = false := by
  cases h : zlt c a with
  | false => rfl
  | true =>
    cases h3 : zlt a b with
    | true => rw [zlt_trans h h3] at h2; simp at h2
    | false => have := zlt_total h3 h1; subst this; rw [h2] at h; simp at h
theorem zlt_le {a b c : ByteArray} (h1 : zlt a b = true) (h2 : zlt c b = false) : zlt a c = true := by
  cases h : zlt a c with
  | true => rfl
  | false => rw [zle_trans h2 h] at h1; simp at h1
theorem zle_lt {a b c : ByteArray} (h1 : zlt b a = false) (h2 : zlt b c = true) : zlt a c = true := by
  cases h : zlt a c with
  | true => rfl
  | false => rw [zle_trans h h1] at h2; simp at h2
theorem bz_iff {a : ByteArray} : bz a = true ↔ a = ⟨#[]⟩ := by
  unfold bz
  rw [ByteArray.toList_eq, List.isEmpty_iff]
  exact ⟨fun h => by cases a; simpa using h, fun h => by rw [h]⟩
theorem zlt_nil (a : ByteArray) : zlt a ⟨#[]⟩ = false := by rw [zlt_iff]; exact decide_eq_false (by simp)
theorem zero_R : spR Psp.zero = true := by
  unfold spR spE spB Psp.zero
  simp [bz_iff, ByteArray.size]
/-- What the document says of Meet. -/
theorem spM_eq (a b : Psp) (ha : spR a = true) (hb : spR b = true) : (spH a b.lo || spH b a.lo) = ((bz a.hi || zlt b.lo a.hi) && (bz b.hi || zlt a.lo b.hi)) := by
  unfold spR at ha hb
  unfold spH
  have ha' : spB a a.lo = true := by simp at ha; exact ha.2
  have hb' : spB b b.lo = true := by simp at hb; exact hb.2
  unfold spB at *
  cases h1 : zlt b.lo a.lo with
  | true =>
    have h2 := zlt_asymm h1
    rw [h2]
    have h3 : (bz a.hi || zlt b.lo a.hi) = true := by
      cases hz : bz a.hi with
      | true => rfl
      | false => rw [hz] at ha'; simp at ha' ⊢; exact zlt_trans h1 ha'
    rw [h3]; simp
  | false =>
    cases h2 : zlt a.lo b.lo with
    | true =>
      have h3 : (bz b.hi || zlt a.lo b.hi) = true := by
        cases hz : bz b.hi with
        | true => rfl
        | false => rw [hz] at hb'; simp at hb' ⊢; exact zlt_trans h2 hb'
      rw [h3]; simp
    | false =>
      have e := zlt_total h1 h2
      rw [e] at hb' ⊢
      rw [ha', hb']; rfl
/-- Parted. -/
theorem spC_split {s : Psp} {t : ByteArray} (h : spC s t = true) : spR s = true ∧ spE t = true ∧ zlt s.lo t = true ∧ spB s t = true ∧ bz t = false := by
  unfold spC spH at h
  simp only [Bool.and_eq_true, Bool.not_eq_true'] at h
  obtain ⟨⟨⟨h1, h2⟩, h3⟩, h4, h5⟩ := h
  have h6 : zlt s.lo t = true := by
    cases h6 : zlt s.lo t with
    | true => rfl
    | false => have := zlt_total h6 h4; rw [← this] at h3; rw [(zeq_iff (a := s.lo)).2 rfl] at h3; simp at h3
  refine ⟨h1, h2, h6, h5, ?_⟩
  cases h7 : bz t with
  | false => rfl
  | true => rw [bz_iff.1 h7, zlt_nil] at h6; simp at h6
theorem spR_parts {s : Psp} (h : spR s = true) : spE s.lo = true ∧ spE s.hi = true ∧ spB s s.lo = true := by
  unfold spR at h; simp only [Bool.and_eq_true] at h; exact ⟨h.1.1, h.1.2, h.2⟩
theorem spR_mk {s : Psp} (h1 : spE s.lo = true) (h2 : spE s.hi = true) (h3 : spB s s.lo = true) : spR s = true := by
  unfold spR; rw [h1, h2, h3]; rfl
theorem split_R {s : Psp} {t : ByteArray} (h : spC s t = true) : spR ⟨s.lo, t⟩ = true ∧ spR ⟨t, s.hi⟩ = true := by
  obtain ⟨h1, h2, h3, h4, h5⟩ := spC_split h
  obtain ⟨r1, r2, r3⟩ := spR_parts h1
  refine ⟨spR_mk r1 h2 ?_, spR_mk h2 r2 ?_⟩
  · unfold spB; simp [h3]
  · exact h4
theorem spJ_parts {a b : Psp} (h : spJ a b = true) : spR a = true ∧ spR b = true ∧ bz a.hi = false ∧ a.hi = b.lo := by
  unfold spJ at h
  simp only [Bool.and_eq_true, Bool.not_eq_true'] at h
  exact ⟨h.1.1.1, h.1.1.2, h.1.2, zeq_iff.1 h.2⟩
theorem join_R {a b : Psp} (h : spJ a b = true) : spR ⟨a.lo, b.hi⟩ = true := by
  obtain ⟨h1, h2, h3, h4⟩ := spJ_parts h
  obtain ⟨r1, r2, r3⟩ := spR_parts h1
  obtain ⟨q1, q2, q3⟩ := spR_parts h2
  refine spR_mk r1 q2 ?_
  unfold spB at *
  rw [h3] at r3
  simp only [Bool.false_or] at r3
  cases hz : bz b.hi with
  | true => rfl
  | false => rw [hz] at q3; simp at q3 ⊢; rw [h4] at r3; exact zlt_trans r3 q3
end Go.Proofs.YtfhdodopjgfedaaGreat
