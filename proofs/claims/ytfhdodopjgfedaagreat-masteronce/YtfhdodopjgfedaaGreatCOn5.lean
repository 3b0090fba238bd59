/-
  What put and Keep make of a cache's list, as plain functions of lists.
-/
import Derived.Test.YtfhdodopjgfedaaGreatCOn4
namespace Go.Proofs.YtfhdodopjgfedaaGreat
open Go.RowKit

def putT (xs : List Pt) (x : Pt) : List Pt := xs.filter (fun y => decide (y.c < x.c)) ++ x :: xs.filter (fun y => decide (x.c < y.c))
def keepT (xs : List Pt) (x : Pt) : List Pt := if (ofT xs x.c).s < x.s then putT xs x else xs
theorem mem_takeT {xs : List Pt} {i : Nat} {y : Pt} (h : y ∈ xs.take i) : ∃ k, k < i ∧ xs[k]? = some y := by
  obtain ⟨k, hk, e⟩ := List.getElem_of_mem h
  rw [List.length_take] at hk
  refine ⟨k, by omega, ?_⟩
  rw [List.getElem_take] at e
  rw [← e]
  exact List.getElem?_eq_getElem (by omega)
theorem mem_dropT {xs : List Pt} {i : Nat} {y : Pt} (h : y ∈ xs.drop i) : ∃ k, i ≤ k ∧ xs[k]? = some y := by
  obtain ⟨k, hk, e⟩ := List.getElem_of_mem h
  rw [List.length_drop] at hk
  refine ⟨i + k, by omega, ?_⟩
  rw [List.getElem_drop] at e
  rw [← e]
  exact List.getElem?_eq_getElem (by omega)
theorem place_filters {xs : List Pt} (hr : RiseT xs) {c : Int} {i : Nat} (h : PlaceT xs c i) : xs.filter (fun y => decide (y.c < c)) = xs.take i ∧ xs.filter (fun y => decide (c < y.c)) = (if hasT xs c i then xs.drop (i + 1) else xs.drop i) := by
  have e0 : xs = xs.take i ++ xs.drop i := (List.take_append_drop i xs).symm
  constructor
  · conv => lhs; rw [e0]
    rw [List.filter_append, List.filter_eq_self.2, List.filter_eq_nil_iff.2, List.append_nil]
    · intro y hy
      obtain ⟨k, hk, hx⟩ := mem_dropT hy
      have := h.hi k y hx hk
      simp
      omega
    · intro y hy
      obtain ⟨k, hk, hx⟩ := mem_takeT hy
      have := h.lo k y hx hk
      simp
      omega
  · have e1 : (xs.take i).filter (fun y => decide (c < y.c)) = [] := by
      rw [List.filter_eq_nil_iff]
      intro y hy
      obtain ⟨k, hk, hx⟩ := mem_takeT hy
      have := h.lo k y hx hk
      simp
      omega
    conv => lhs; rw [e0]
    rw [List.filter_append, e1, List.nil_append]
    cases hh : hasT xs c i with
    | true =>
      obtain ⟨x, hx, hxc, _⟩ := ofT_yes h hh
      have hil := (List.getElem?_eq_some_iff.1 hx).1
      have e2 : xs.drop i = x :: xs.drop (i + 1) := by rw [List.drop_eq_getElem_cons hil, (List.getElem?_eq_some_iff.1 hx).2]
      rw [e2, List.filter_cons, if_neg (by simp; omega), if_pos rfl]
      rw [List.filter_eq_self]
      intro y hy
      obtain ⟨k, hk, hy⟩ := mem_dropT hy
      have := hr.lt hx hy (by omega)
      simp
      omega
    | false =>
      obtain ⟨_, hne⟩ := ofT_no hr h hh
      simp only [Bool.false_eq_true, if_false]
      rw [List.filter_eq_self]
      intro y hy
      have h1 := hne y (List.mem_of_mem_drop hy)
      obtain ⟨k, hk, hy⟩ := mem_dropT hy
      have := h.hi k y hy hk
      simp
      omega

theorem putT_mem {xs : List Pt} {x y : Pt} : y ∈ putT xs x ↔ y = x ∨ (y ∈ xs ∧ y.c ≠ x.c) := by
  unfold putT
  rw [List.mem_append, List.mem_cons, List.mem_filter, List.mem_filter]
  simp only [decide_eq_true_eq]
  constructor
  · rintro (⟨h1, h2⟩ | rfl | ⟨h1, h2⟩)
    · exact .inr ⟨h1, by omega⟩
    · exact .inl rfl
    · exact .inr ⟨h1, by omega⟩
  · rintro (rfl | ⟨h1, h2⟩)
    · exact .inr (.inl rfl)
    · rcases Int.lt_or_lt_of_ne h2 with h | h
      · exact .inl ⟨h1, h⟩
      · exact .inr (.inr ⟨h1, h⟩)
theorem putT_rise {xs : List Pt} (hr : RiseT xs) (x : Pt) : RiseT (putT xs x) := by
  unfold putT RiseT
  rw [List.pairwise_append, List.pairwise_cons]
  refine ⟨List.Pairwise.filter _ hr, ⟨?_, List.Pairwise.filter _ hr⟩, ?_⟩
  · intro y hy
    rw [List.mem_filter] at hy
    exact of_decide_eq_true hy.2
  · intro a ha b hb
    rw [List.mem_filter] at ha
    have h1 : a.c < x.c := of_decide_eq_true ha.2
    rcases List.mem_cons.1 hb with rfl | hb
    · exact h1
    · rw [List.mem_filter] at hb
      have h2 : x.c < b.c := of_decide_eq_true hb.2
      omega
theorem keepT_rise {xs : List Pt} (hr : RiseT xs) (x : Pt) : RiseT (keepT xs x) := by
  unfold keepT
  split
  · exact putT_rise hr x
  · exact hr
theorem ofT_none {xs : List Pt} {c : Int} (h : ∀ x ∈ xs, x.c ≠ c) : ofT xs c = noT := by
  unfold ofT
  have hf : xs.find? (fun x => decide (x.c = c)) = none := by
    rw [List.find?_eq_none]
    intro x hx
    simp [h x hx]
  rw [hf]
  rfl
/-- Of each client at most one. -/
def OneT (xs : List Pt) : Prop := ∀ x ∈ xs, ∀ y ∈ xs, x.c = y.c → x = y
theorem RiseT.one {xs : List Pt} (hr : RiseT xs) : OneT xs := by
  intro x hx y hy e
  obtain ⟨j, hj, rfl⟩ := List.getElem_of_mem hx
  obtain ⟨k, hk, rfl⟩ := List.getElem_of_mem hy
  rcases Nat.lt_trichotomy j k with h | h | h
  · have := hr.lt (List.getElem?_eq_getElem hj) (List.getElem?_eq_getElem hk) h
    omega
  · subst h; rfl
  · have := hr.lt (List.getElem?_eq_getElem hk) (List.getElem?_eq_getElem hj) h
    omega
theorem ofT_mem {xs : List Pt} (h1 : OneT xs) {x : Pt} (hx : x ∈ xs) : ofT xs x.c = x := by
  unfold ofT
  cases hf : xs.find? (fun y => decide (y.c = x.c)) with
  | none =>
    rw [List.find?_eq_none] at hf
    exact absurd (decide_eq_true rfl) (hf x hx)
  | some y =>
    have hq := List.find?_some hf
    simp only [decide_eq_true_eq] at hq
    exact h1 y (List.mem_of_find?_eq_some hf) x hx hq
theorem ofT_cases (xs : List Pt) (c : Int) : (ofT xs c ∈ xs ∧ (ofT xs c).c = c) ∨ (ofT xs c = noT ∧ ∀ x ∈ xs, x.c ≠ c) := by
  unfold ofT
  cases hf : xs.find? (fun y => decide (y.c = c)) with
  | none =>
    rw [List.find?_eq_none] at hf
    exact .inr ⟨rfl, fun x hx e => hf x hx (decide_eq_true e)⟩
  | some y =>
    have hq := List.find?_some hf
    simp only [decide_eq_true_eq] at hq
    exact .inl ⟨List.mem_of_find?_eq_some hf, hq⟩
theorem ofT_put {xs : List Pt} (hr : RiseT xs) (x : Pt) (c : Int) : ofT (putT xs x) c = if x.c = c then x else ofT xs c := by
  have h1 := (putT_rise hr x).one
  split
  · rename_i h
    rw [← h]
    exact ofT_mem h1 (putT_mem.2 (.inl rfl))
  · rename_i h
    rcases ofT_cases xs c with ⟨k1, k2⟩ | ⟨k1, k2⟩
    · have := ofT_mem h1 (putT_mem.2 (.inr ⟨k1, by omega⟩))
      rw [k2] at this
      exact this
    · rw [k1]
      refine ofT_none fun y hy => ?_
      rcases putT_mem.1 hy with rfl | ⟨hy, _⟩
      · exact h
      · exact k2 y hy
theorem ofT_keep {xs : List Pt} (hr : RiseT xs) (x : Pt) (c : Int) : ofT (keepT xs x) c = if x.c = c ∧ (ofT xs c).s < x.s then x else ofT xs c := by
  unfold keepT
  by_cases h : (ofT xs x.c).s < x.s
  · rw [if_pos h, ofT_put hr]
    by_cases e : x.c = c
    · rw [if_pos e, if_pos ⟨e, by rw [← e]; exact h⟩]
    · rw [if_neg e, if_neg (fun k => e k.1)]
  · rw [if_neg h]
    rw [if_neg (fun k => h (by rw [k.1]; exact k.2))]

theorem oput_w (W w : World) (p : Nat) (a : Option Nat) (xs : List Pt) (c s : Int) (z : ByteArray) (h : CaIs W w p a xs) (hr : RiseT xs) (hl : xs.length ≤ 1000) (hs : 1 ≤ s) (hW : W.heap.size ≤ w.heap.size) :
    Calls Tryz.prog 149 #[.pointer (some ⟨p, 0, none⟩), .agg #[.int .i64 c, .int .i64 s, .string z]] w fun e w' => e = .returned (.bool (decide ((ofT xs c).s < s))) ∧ ∃ a', CaTo W w p a w' a' (keepT xs ⟨c, s, z⟩) := by
  obtain ⟨v, hp, rfl, hG⟩ := h
  obtain ⟨ad, n, cap, rfl, hn, hc⟩ := hG.open
  obtain ⟨i, hP⟩ := placeT_ex xs hr c
  obtain ⟨f1, f2⟩ := place_filters hr hP
  have hln : n ≤ 1000 := by have := hn.out; omega
  cases hh : hasT xs c i with
  | false =>
    obtain ⟨hof, _⟩ := ofT_no hr hP hh
    have h0 : (ofT xs c).s < s := by rw [hof]; unfold noT; show (0 : Int) < s; omega
    have e1 : keepT xs ⟨c, s, z⟩ = xs.take i ++ [⟨c, s, z⟩] ++ xs.drop i := by
      unfold keepT
      rw [if_pos h0]
      unfold putT
      dsimp only
      rw [f1, f2, hh]
      simp
    rw [e1, decide_eq_true h0]
    exact oput_ins W w p xs c s z ad n cap i hp hG hn hr hln hP hh hW
  | true =>
    obtain ⟨x, hx, hxc, hof⟩ := ofT_yes hP hh
    have hil := (List.getElem?_eq_some_iff.1 hx).1
    by_cases h0 : (ofT xs c).s < s
    · have e1 : keepT xs ⟨c, s, z⟩ = xs.set i ⟨c, s, z⟩ := by
        unfold keepT
        rw [if_pos h0]
        unfold putT
        dsimp only
        rw [f1, f2, hh, List.set_eq_take_append_cons_drop, if_pos hil]
        rfl
      rw [e1, decide_eq_true h0]
      refine oput_set W w p xs c s z ad n cap i hp hG hn hr hln hP hh (fun y hy => ?_)
      rw [hx] at hy
      simp at hy
      subst hy
      rw [hof] at h0
      exact h0
    · have e1 : keepT xs ⟨c, s, z⟩ = xs := by unfold keepT; rw [if_neg h0]
      rw [e1, decide_eq_false h0]
      refine oput_no W w p xs c s z ad n cap i hp hG hn hr hln hP hh (fun y hy => ?_)
      rw [hx] at hy
      simp at hy
      subst hy
      rw [hof] at h0
      exact h0

/-- What may be kept. -/
def mayK (c s : Int) (n : Nat) : Bool := decide (0 ≤ c) && (decide (c ≤ 255) && (decide (1 ≤ s) && (decide (s ≤ 1073741824) && decide (n ≤ 1048576))))
theorem mayK_iff {c s : Int} {n : Nat} : mayK c s n = true ↔ 0 ≤ c ∧ c ≤ 255 ∧ 1 ≤ s ∧ s ≤ 1073741824 ∧ n ≤ 1048576 := by
  simp [mayK]

set_option maxRecDepth 100000 in
set_option maxHeartbeats 8000000 in
theorem okeep_no (w : World) (pv : Value) (c s : Int) (ad : Option Addr) (n cap : Nat) (hm : mayK c s n = false) :
    Calls Tryz.prog 108 #[pv, .int .i64 c, .int .i64 s, .slice ad n cap] w fun e w' => e = .returned (.bool false) ∧ w = w' := by
  have hm' : ¬ (0 ≤ c ∧ c ≤ 255 ∧ 1 ≤ s ∧ s ≤ 1073741824 ∧ n ≤ 1048576) := fun h => by rw [mayK_iff.2 h] at hm; simp at hm
  clear hm
  by_cases h1 : c < 0
  · go_enter Tryz.func108, Tryz.ntmps108
    go_wp2
    go_ret
    exact ⟨rfl, rfl⟩
  · by_cases h2 : 255 < c
    · go_enter Tryz.func108, Tryz.ntmps108
      go_wp2
      go_ret
      exact ⟨rfl, rfl⟩
    · by_cases h3 : s < 1
      · go_enter Tryz.func108, Tryz.ntmps108
        go_wp2
        go_ret
        exact ⟨rfl, rfl⟩
      · by_cases h4 : 1073741824 < s
        · go_enter Tryz.func108, Tryz.ntmps108
          go_wp2
          go_ret
          exact ⟨rfl, rfl⟩
        · have h5 : (1048576 : Int) < (n : Int) := by omega
          clear hm'
          go_enter Tryz.func108, Tryz.ntmps108
          go_wp2
          go_ret
          exact ⟨rfl, rfl⟩

set_option maxRecDepth 100000 in
set_option maxHeartbeats 8000000 in
theorem okeep_w (W w : World) (p : Nat) (a : Option Nat) (xs : List Pt) (c s : Int) (v : Value) (g : Nat) (bs : List Nat) (h : CaIs W w p a xs) (hr : RiseT xs) (hl : xs.length ≤ 1000) (hv : IsB w g v bs) (ho : ∀ b ∈ bs, b < 256) (hW : W.heap.size ≤ w.heap.size) :
    Calls Tryz.prog 108 #[.pointer (some ⟨p, 0, none⟩), .int .i64 c, .int .i64 s, v] w fun e w' => e = .returned (.bool (mayK c s bs.length && decide ((ofT xs c).s < s))) ∧ ∃ a', CaTo W w p a w' a' (if mayK c s bs.length then keepT xs ⟨c, s, strOf bs⟩ else xs) := by
  have hv' := hv
  obtain ⟨ad, n, cap, rfl, hn, _⟩ := hv'
  cases hm : mayK c s bs.length with
  | false =>
    refine (okeep_no w _ c s ad n cap (by rw [← hn]; exact hm)).mono ?_
    rintro _ _ ⟨rfl, rfl⟩
    exact ⟨rfl, a, CaTo.refl h⟩
  | true =>
    obtain ⟨k1, k2, k3, k4, k5⟩ := mayK_iff.1 hm
    have hrun := run_str hv ho
    obtain ⟨z, hz⟩ : ∃ z, strOf bs = z := ⟨_, rfl⟩
    rw [hz] at hrun ⊢
    have hput := oput_w W w p a xs c s z h hr hl k3 hW
    have h1 : ¬ c < 0 := by omega
    have h2 : ¬ 255 < c := by omega
    have h3 : ¬ s < 1 := by omega
    have h4 : ¬ 1073741824 < s := by omega
    have h5 : ¬ (1048576 : Int) < (n : Int) := by omega
    rw [Bool.true_and, if_pos rfl]
    clear hm k1 k2 k3 k4 k5 hn hv h hr hW hz
    go_enter Tryz.func108, Tryz.ntmps108
    go_wp2_with (go_at_call 149; refine hput.mono ?_; rintro _ w2 ⟨rfl, a2, hT⟩)
    go_ret
    exact ⟨rfl, a2, hT⟩
end Go.Proofs.YtfhdodopjgfedaaGreat
