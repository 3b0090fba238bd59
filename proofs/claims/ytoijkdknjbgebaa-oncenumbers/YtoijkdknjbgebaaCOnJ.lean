/-
  Joined caches as plain lists.
-/
import Derived.Test.YtoijkdknjbgebaaCOn8
import Derived.Test.YtoijkdknjbgebaaCOn11
import Derived.Test.YtoijkdknjbgebaaCOe2
namespace Go.Proofs.Ytoijkdknjbgebaa
open Go.RowKit

theorem rise_ext : ∀ (l k : List Int), l.Pairwise (· < ·) → k.Pairwise (· < ·) → (∀ c, c ∈ l ↔ c ∈ k) → l = k
  | [], [], _, _, _ => rfl
  | [], y :: k, _, _, h => absurd ((h y).2 (by simp)) (by simp)
  | x :: l, [], _, _, h => absurd ((h x).1 (by simp)) (by simp)
  | x :: l, y :: k, h1, h2, h => by
    have a1 := (List.pairwise_cons.1 h1).1
    have a2 := (List.pairwise_cons.1 h2).1
    have e : x = y := by
      rcases List.mem_cons.1 ((h x).1 (by simp)) with e | e
      · exact e
      · rcases List.mem_cons.1 ((h y).2 (by simp)) with f | f
        · exact f.symm
        · have := a1 y f
          have := a2 x e
          omega
    subst e
    congr 1
    refine rise_ext l k (List.pairwise_cons.1 h1).2 (List.pairwise_cons.1 h2).2 (fun c => ⟨fun hc => ?_, fun hc => ?_⟩)
    · rcases List.mem_cons.1 ((h c).1 (by simp [hc])) with e | e
      · have := a1 c hc
        omega
      · exact e
    · rcases List.mem_cons.1 ((h c).2 (by simp [hc])) with e | e
      · have := a2 c hc
        omega
      · exact e
theorem RiseT.map {xs : List Pt} (h : RiseT xs) : (xs.map Pt.c).Pairwise (· < ·) := List.pairwise_map.2 h
/-- Numbers begin at 1. -/
def PosT (xs : List Pt) : Prop := ∀ x ∈ xs, 1 ≤ x.s
theorem mem_of {xs : List Pt} (h1 : OneT xs) (hp : PosT xs) {c : Int} : c ∈ xs.map Pt.c ↔ 1 ≤ (ofT xs c).s := by
  rw [List.mem_map]
  constructor
  · rintro ⟨x, hx, rfl⟩
    rw [ofT_mem h1 hx]
    exact hp x hx
  · intro h
    rcases ofT_cases xs c with ⟨k1, k2⟩ | ⟨k1, _⟩
    · exact ⟨_, k1, k2⟩
    · rw [k1] at h
      have : (noT.s : Int) = 0 := rfl
      omega
theorem clients_eq {A B : List Pt} (hA : RiseT A) (hB : RiseT B) (pA : PosT A) (pB : PosT B) (h : ∀ c, (ofT A c).s = (ofT B c).s) : A.map Pt.c = B.map Pt.c :=
  rise_ext _ _ hA.map hB.map (fun c => by rw [mem_of hA.one pA, mem_of hB.one pB, h])
theorem map_of {A : List Pt} (h : OneT A) : (A.map Pt.c).map (ofT A) = A := by
  rw [List.map_map]
  conv => rhs; rw [← List.map_id A]
  exact List.map_congr_left fun x hx => ofT_mem h hx
theorem list_eq {A B : List Pt} (hA : RiseT A) (hB : RiseT B) (pA : PosT A) (pB : PosT B) (h : ∀ c, ofT A c = ofT B c) : A = B := by
  have e := clients_eq hA hB pA pB (fun c => by rw [h])
  rw [← map_of hA.one, ← map_of hB.one, e]
  exact List.map_congr_left fun c _ => h c
theorem ofT_pos {xs : List Pt} (hp : PosT xs) (c : Int) : 0 ≤ (ofT xs c).s := by
  rcases ofT_cases xs c with ⟨k1, _⟩ | ⟨k1, _⟩
  · have := hp _ k1
    omega
  · rw [k1]
    show (0 : Int) ≤ 0
    omega
theorem keepT_pos {xs : List Pt} (h : PosT xs) {x : Pt} (hx : 1 ≤ x.s) : PosT (keepT xs x) := fun y hy => by
  rcases keepT_mem hy with rfl | hy
  · exact hx
  · exact h y hy
theorem foldl_pos (L : List Pt) (hL : PosT L) : ∀ zs, PosT zs → PosT (L.foldl keepT zs) := by
  induction L with
  | nil => intro zs h; exact h
  | cons x L ih => intro zs h; exact ih (fun y hy => hL y (by simp [hy])) _ (keepT_pos h (hL x (by simp)))
theorem OneT.tail {x : Pt} {xs : List Pt} (h : OneT (x :: xs)) : OneT xs := fun a ha b hb e => h a (by simp [ha]) b (by simp [hb]) e
/-- Of each client what has the greater number, of the same one the first's. -/
theorem foldl_of (L : List Pt) : OneT L → PosT L → ∀ zs, RiseT zs → PosT zs → ∀ c, ofT (L.foldl keepT zs) c = if (ofT zs c).s < (ofT L c).s then ofT L c else ofT zs c := by
  induction L with
  | nil =>
    intro _ _ zs _ hz c
    have h0 := ofT_pos hz c
    have e : ofT [] c = noT := rfl
    rw [e, if_neg (by show ¬ (ofT zs c).s < 0; omega)]
    rfl
  | cons x L ih =>
    intro h1 hp zs hr hz c
    have hpL : PosT L := fun y hy => hp y (by simp [hy])
    rw [List.foldl_cons, ih h1.tail hpL _ (keepT_rise hr x) (keepT_pos hz (hp x (by simp))) c, ofT_keep hr]
    by_cases hc : x.c = c
    · have e1 : ofT (x :: L) c = x := by rw [← hc]; exact ofT_mem h1 (by simp)
      rw [e1]
      rcases ofT_cases L c with ⟨k1, k2⟩ | ⟨k1, _⟩
      · have e2 : ofT L c = x := h1 _ (by simp [k1]) x (by simp) (by rw [k2, hc])
        rw [e2]
        by_cases hlt : (ofT zs c).s < x.s
        · have q : (if x.c = c ∧ (ofT zs c).s < x.s then x else ofT zs c) = x := if_pos ⟨hc, hlt⟩
          rw [q, if_neg (by omega), if_pos hlt]
        · have q : (if x.c = c ∧ (ofT zs c).s < x.s then x else ofT zs c) = ofT zs c := if_neg (fun k => hlt k.2)
          rw [q]
      · rw [k1]
        have h0 := ofT_pos hz c
        have h1x := hp x (by simp)
        by_cases hlt : (ofT zs c).s < x.s
        · have q : (if x.c = c ∧ (ofT zs c).s < x.s then x else ofT zs c) = x := if_pos ⟨hc, hlt⟩
          rw [q, if_pos hlt]
          exact if_neg (by show ¬ x.s < 0; omega)
        · have q : (if x.c = c ∧ (ofT zs c).s < x.s then x else ofT zs c) = ofT zs c := if_neg (fun k => hlt k.2)
          rw [q, if_neg hlt]
          exact if_neg (by show ¬ (ofT zs c).s < 0; omega)
    · have e1 : ofT (x :: L) c = ofT L c := by
        unfold ofT
        rw [List.find?_cons_of_neg (by simp [hc])]
      have q : (if x.c = c ∧ (ofT zs c).s < x.s then x else ofT zs c) = ofT zs c := if_neg (fun k => hc k.1)
      rw [e1, q]
theorem foldl_self {xs : List Pt} (hr : RiseT xs) (hp : PosT xs) : xs.foldl keepT [] = xs := by
  refine list_eq (foldl_rise xs [] List.Pairwise.nil) hr (foldl_pos xs hp [] (by intro x hx; simp at hx)) hp (fun c => ?_)
  rw [foldl_of xs hr.one hp [] List.Pairwise.nil (by intro x hx; simp at hx)]
  have e : ofT [] c = noT := rfl
  rw [e]
  have h0 := ofT_pos hp c
  by_cases h : (0 : Int) < (ofT xs c).s
  · exact if_pos h
  · have q : (if noT.s < (ofT xs c).s then ofT xs c else noT) = noT := if_neg h
    rw [q]
    rcases ofT_cases xs c with ⟨k1, _⟩ | ⟨k1, _⟩
    · have := hp _ k1
      omega
    · exact k1.symm
theorem CaIs.elder {W W' w : World} {p : Nat} {a : Option Nat} {xs : List Pt} (h : CaIs W' w p a xs) (hle : W.heap.size ≤ W'.heap.size) : CaIs W w p a xs := by
  obtain ⟨v, h1, h2, h3⟩ := h
  exact ⟨v, h1, h2, h3.elder hle⟩
end Go.Proofs.Ytoijkdknjbgebaa
