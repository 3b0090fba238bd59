/- ours -/
import Derived.Test.YtilbbnmhnacnlaaGreatCOn4
import Derived.Test.YtilbbnmhnacnlaaGreatCB04
/-
  What put and Keep make of a cache's list, as plain functions of lists.
-/
namespace Go.Proofs.YtilbbnmhnacnlaaGreat
open Go.RowKit

def putT (xs : List Pt) (x : Pt) : List Pt := xs.filter (fun y => decide (y.c < x.c)) ++ x :: xs.filter (fun y => decide (x.c < y.c))
def keepT (xs : List Pt) (x : Pt) : List Pt := if (ofT xs x.c).s < x.s then putT xs x else xs
theorem mem_takeT {xs : List Pt} {i : Nat} {y : Pt} (h : y ∈ xs.take i) : ∃ k, k < i ∧ xs[k]? = some y := by
  obtain ⟨k, hk, e⟩ := List.getElem_of_mem h
  rw [List.length_take] at hk
  refine ⟨k, by omega, ?_⟩
  rw [List.getElem_take] at e
  rw [← e]
  exact List.getElem?_eq_getElem (by omega)
theorem mem_dropT {xs : List Pt} {i : Nat} {y : Pt} (h : y ∈ xs.drop i) : ∃ k, i ≤ k ∧ xs[k]? = some y := by
  obtain ⟨k, hk, e⟩ := List.getElem_of_mem h
  rw [List.length_drop] at hk
  refine ⟨i + k, by omega, ?_⟩
  rw [List.getElem_drop] at e
  rw [← e]
  exact List.getElem?_eq_getElem (by omega)
theorem place_filters {xs : List Pt} (hr : RiseT xs) {c : Int} {i : Nat} (h : PlaceT xs c i) : xs.filter (fun y => decide (y.c < c)) = xs.take i ∧ xs.filter (fun y => decide (c < y.c)) = (if hasT xs c i then xs.drop (i + 1) else xs.drop i) := by
  have e0 : xs = xs.take i ++ xs.drop i := (List.take_append_drop i xs).symm
  constructor
  · conv => lhs; rw [e0]
    rw [List.filter_append, List.filter_eq_self.2, List.filter_eq_nil_iff.2, List.append_nil]
    · intro y hy
      obtain ⟨k, hk, hx⟩ := mem_dropT hy
      have := h.hi k y hx hk
      simp
      omega
    · intro y hy
      obtain ⟨k, hk, hx⟩ := mem_takeT hy
      have := h.lo k y hx hk
      simp
      omega
  · have e1 : (xs.take i).filter (fun y => decide (c < y.c)) = [] := by
      rw [List.filter_eq_nil_iff]
      intro y hy
      obtain ⟨k, hk, hx⟩ := mem_takeT hy
      have := h.lo k y hx hk
      simp
      omega
    conv => lhs; rw [e0]
    rw [List.filter_append, e1, List.nil_append]
    cases hh : hasT xs c i with
    | true =>
      obtain ⟨x, hx, hxc, _⟩ := ofT_yes h hh
      have hil := (List.getElem?_eq_some_iff.1 hx).1
      have e2 : xs.drop i = x :: xs.drop (i + 1) := by rw [List.drop_eq_getElem_cons hil, (List.getElem?_eq_some_iff.1 hx).2]
      rw [e2, List.filter_cons, if_neg (by simp; omega), if_pos rfl]
      rw [List.filter_eq_self]
      intro y hy
      obtain ⟨k, hk, hy⟩ := mem_dropT hy
      have := hr.lt hx hy (by omega)
      simp
      omega
    | false =>
      obtain ⟨_, hne⟩ := ofT_no hr h hh
      simp only [Bool.false_eq_true, if_false]
      rw [List.filter_eq_self]
      intro y hy
      have h1 := hne y (List.mem_of_mem_drop hy)
      obtain ⟨k, hk, hy⟩ := mem_dropT hy
      have := h.hi k y hy hk
      simp
      omega

theorem putT_mem {xs : List Pt} {x y : Pt} : y ∈ putT xs x ↔ y = x ∨ (y ∈ xs ∧ y.c ≠ x.c) := by
  unfold putT
  rw [List.mem_append, List.mem_cons, List.mem_filter, List.mem_filter]
  simp only [decide_eq_true_eq]
  constructor
  · rintro (⟨h1, h2⟩ | rfl | ⟨h1, h2⟩)
    · exact .inr ⟨h1, by omega⟩
    · exact .inl rfl
    · exact .inr ⟨h1, by omega⟩
  · rintro (rfl | ⟨h1, h2⟩)
    · exact .inr (.inl rfl)
    · rcases Int.lt_or_lt_of_ne h2 with h | h
      · exact .inl ⟨h1, h⟩
      · exact .inr (.inr ⟨h1, h⟩)
theorem putT_rise {xs : List Pt} (hr : RiseT xs) (x : Pt) : RiseT (putT xs x) := by
  unfold putT RiseT
  rw [List.pairwise_append, List.pairwise_cons]
  refine ⟨List.Pairwise.filter _ hr, ⟨?_, List.Pairwise.filter _ hr⟩, ?_⟩
  · intro y hy
    rw [List.mem_filter] at hy
    exact of_decide_eq_true hy.2
  · intro a ha b hb
    rw [List.mem_filter] at ha
    have h1 : a.c < x.c := of_decide_eq_true ha.2
    rcases List.mem_cons.1 hb with rfl | hb
    · exact h1
    · rw [List.mem_filter] at hb
      have h2 : x.c < b.c := of_decide_eq_true hb.2
      omega
theorem filters_perm (xs : List Pt) (c : Int) : (xs.filter (fun y => decide (y.c < c)) ++ xs.filter (fun y => decide (c < y.c))).Perm (xs.filter (fun y => decide (y.c ≠ c))) := by
  induction xs with
  | nil => simp
  | cons y ys ih =>
    rcases Int.lt_trichotomy y.c c with h | h | h
    · rw [List.filter_cons, if_pos (by simp; omega), List.filter_cons, if_neg (by simp; omega), List.filter_cons (p := fun y : Pt => decide (y.c ≠ c)), if_pos (by simp; omega)]
      exact ih.cons y
    · rw [List.filter_cons, if_neg (by simp; omega), List.filter_cons, if_neg (by simp; omega), List.filter_cons (p := fun y : Pt => decide (y.c ≠ c)), if_neg (by simp; omega)]
      exact ih
    · rw [List.filter_cons, if_neg (by simp; omega), List.filter_cons, if_pos (by simp; omega), List.filter_cons (p := fun y : Pt => decide (y.c ≠ c)), if_pos (by simp; omega)]
      exact List.perm_middle.trans (ih.cons y)
theorem putT_perm (xs : List Pt) (x : Pt) : (putT xs x).Perm (x :: xs.filter (fun y => decide (y.c ≠ x.c))) := by
  unfold putT
  exact List.perm_middle.trans ((filters_perm xs x.c).cons x)
theorem keepT_rise {xs : List Pt} (hr : RiseT xs) (x : Pt) : RiseT (keepT xs x) := by
  unfold keepT
  split
  · exact putT_rise hr x
  · exact hr
theorem ofT_none {xs : List Pt} {c : Int} (h : ∀ x ∈ xs, x.c ≠ c) : ofT xs c = noT := by
  unfold ofT
  have hf : xs.find? (fun x => decide (x.c = c)) = none := by
    rw [List.find?_eq_none]
    intro x hx
    simp [h x hx]
  rw [hf]
  rfl
def OneT (xs : List Pt) : Prop := ∀ x ∈ xs, ∀ y ∈ xs, x.c = y.c → x = y
theorem RiseT.one {xs : List Pt} (hr : RiseT xs) : OneT xs := by
  intro x hx y hy e
  obtain ⟨j, hj, rfl⟩ := List.getElem_of_mem hx
  obtain ⟨k, hk, rfl⟩ := List.getElem_of_mem hy
  rcases Nat.lt_trichotomy j k with h | h | h
  · have := hr.lt (List.getElem?_eq_getElem hj) (List.getElem?_eq_getElem hk) h
    omega
  · subst h; rfl
  · have := hr.lt (List.getElem?_eq_getElem hk) (List.getElem?_eq_getElem hj) h
    omega
theorem ofT_mem {xs : List Pt} (h1 : OneT xs) {x : Pt} (hx : x ∈ xs) : ofT xs x.c = x := by
  unfold ofT
  cases hf : xs.find? (fun y => decide (y.c = x.c)) with
  | none =>
    rw [List.find?_eq_none] at hf
    exact absurd (decide_eq_true rfl) (hf x hx)
  | some y =>
    have hq := List.find?_some hf
    simp only [decide_eq_true_eq] at hq
    exact h1 y (List.mem_of_find?_eq_some hf) x hx hq
theorem ofT_cases (xs : List Pt) (c : Int) : (ofT xs c ∈ xs ∧ (ofT xs c).c = c) ∨ (ofT xs c = noT ∧ ∀ x ∈ xs, x.c ≠ c) := by
  unfold ofT
  cases hf : xs.find? (fun y => decide (y.c = c)) with
  | none =>
    rw [List.find?_eq_none] at hf
    exact .inr ⟨rfl, fun x hx e => hf x hx (decide_eq_true e)⟩
  | some y =>
    have hq := List.find?_some hf
    simp only [decide_eq_true_eq] at hq
    exact .inl ⟨List.mem_of_find?_eq_some hf, hq⟩
theorem ofT_put {xs : List Pt} (hr : RiseT xs) (x : Pt) (c : Int) : ofT (putT xs x) c = if x.c = c then x else ofT xs c := by
  have h1 := (putT_rise hr x).one
  split
  · rename_i h
    rw [← h]
    exact ofT_mem h1 (putT_mem.2 (.inl rfl))
  · rename_i h
    rcases ofT_cases xs c with ⟨k1, k2⟩ | ⟨k1, k2⟩
    · have := ofT_mem h1 (putT_mem.2 (.inr ⟨k1, by omega⟩))
      rw [k2] at this
      exact this
    · rw [k1]
      refine ofT_none fun y hy => ?_
      rcases putT_mem.1 hy with rfl | ⟨hy, _⟩
      · exact h
      · exact k2 y hy
theorem ofT_keep {xs : List Pt} (hr : RiseT xs) (x : Pt) (c : Int) : ofT (keepT xs x) c = if x.c = c ∧ (ofT xs c).s < x.s then x else ofT xs c := by
  unfold keepT
  by_cases h : (ofT xs x.c).s < x.s
  · rw [if_pos h, ofT_put hr]
    by_cases e : x.c = c
    · rw [if_pos e, if_pos ⟨e, by rw [← e]; exact h⟩]
    · rw [if_neg e, if_neg (fun k => e k.1)]
  · rw [if_neg h]
    rw [if_neg (fun k => h (by rw [k.1]; exact k.2))]

theorem oput_w (W w : World) (p : Nat) (a : Option Nat) (xs : List Pt) (c s : Int) (z : ByteArray) (h : CaIs W w p a xs) (hr : RiseT xs) (hl : xs.length ≤ 1000) (hs : 1 ≤ s) (hW : W.heap.size ≤ w.heap.size) :
    Calls Tryz.prog 149 #[.pointer (some ⟨p, 0, none⟩), .agg #[.int .i64 c, .int .i64 s, .string z]] w fun e w' => e = .returned (.bool (decide ((ofT xs c).s < s))) ∧ ∃ a', CaTo W w p a w' a' (keepT xs ⟨c, s, z⟩) := by
  obtain ⟨v, hp, rfl, hG⟩ := h
  obtain ⟨ad, n, cap, rfl, hn, hc⟩ := hG.open
  obtain ⟨i, hP⟩ := placeT_ex xs hr c
  obtain ⟨f1, f2⟩ := place_filters hr hP
  have hln : n ≤ 1000 := by have := hn.out; omega
  cases hh : hasT xs c i with
  | false =>
    obtain ⟨hof, _⟩ := ofT_no hr hP hh
    have h0 : (ofT xs c).s < s := by rw [hof]; unfold noT; show (0 : Int) < s; omega
    have e1 : keepT xs ⟨c, s, z⟩ = xs.take i ++ [⟨c, s, z⟩] ++ xs.drop i := by
      unfold keepT
      rw [if_pos h0]
      unfold putT
      dsimp only
      rw [f1, f2, hh]
      simp
    rw [e1, decide_eq_true h0]
    exact oput_ins W w p xs c s z ad n cap i hp hG hn hr hln hP hh hW
  | true =>
    obtain ⟨x, hx, hxc, hof⟩ := ofT_yes hP hh
    have hil := (List.getElem?_eq_some_iff.1 hx).1
    by_cases h0 : (ofT xs c).s < s
    · have e1 : keepT xs ⟨c, s, z⟩ = xs.set i ⟨c, s, z⟩ := by
        unfold keepT
        rw [if_pos h0]
        unfold putT
        dsimp only
        rw [f1, f2, hh, List.set_eq_take_append_cons_drop, if_pos hil]
        rfl
      rw [e1, decide_eq_true h0]
      refine oput_set W w p xs c s z ad n cap i hp hG hn hr hln hP hh (fun y hy => ?_)
      rw [hx] at hy
      simp at hy
      subst hy
      rw [hof] at h0
      exact h0
    · have e1 : keepT xs ⟨c, s, z⟩ = xs := by unfold keepT; rw [if_neg h0]
      rw [e1, decide_eq_false h0]
      refine oput_no W w p xs c s z ad n cap i hp hG hn hr hln hP hh (fun y hy => ?_)
      rw [hx] at hy
      simp at hy
      subst hy
      rw [hof] at h0
      exact h0

def mayK (c s : Int) (n : Nat) : Bool := decide (0 ≤ c) && (decide (c ≤ 255) && (decide (1 ≤ s) && (decide (s ≤ 1073741824) && decide (n ≤ 1048576))))
theorem mayK_iff {c s : Int} {n : Nat} : mayK c s n = true ↔ 0 ≤ c ∧ c ≤ 255 ∧ 1 ≤ s ∧ s ≤ 1073741824 ∧ n ≤ 1048576 := by
  simp [mayK]

set_option maxRecDepth 100000 in
set_option maxHeartbeats 8000000 in
theorem okeep_no (w : World) (pv : Value) (c s : Int) (ad : Option Addr) (n cap : Nat) (hm : mayK c s n = false) :
    Calls Tryz.prog 108 #[pv, .int .i64 c, .int .i64 s, .slice ad n cap] w fun e w' => e = .returned (.bool false) ∧ w = w' := by
  have hm' : ¬ (0 ≤ c ∧ c ≤ 255 ∧ 1 ≤ s ∧ s ≤ 1073741824 ∧ n ≤ 1048576) := fun h => by rw [mayK_iff.2 h] at hm; simp at hm
  clear hm
  by_cases h1 : c < 0
  · go_enter Tryz.func108, Tryz.ntmps108
    go_wp2
    go_ret
    exact ⟨rfl, rfl⟩
  · by_cases h2 : 255 < c
    · go_enter Tryz.func108, Tryz.ntmps108
      go_wp2
      go_ret
      exact ⟨rfl, rfl⟩
    · by_cases h3 : s < 1
      · go_enter Tryz.func108, Tryz.ntmps108
        go_wp2
        go_ret
        exact ⟨rfl, rfl⟩
      · by_cases h4 : 1073741824 < s
        · go_enter Tryz.func108, Tryz.ntmps108
          go_wp2
          go_ret
          exact ⟨rfl, rfl⟩
        · have h5 : (1048576 : Int) < (n : Int) := by omega
          clear hm'
          go_enter Tryz.func108, Tryz.ntmps108
          go_wp2
          go_ret
          exact ⟨rfl, rfl⟩

set_option maxRecDepth 100000 in
set_option maxHeartbeats 8000000 in
theorem okeep_w (W w : World) (p : Nat) (a : Option Nat) (xs : List Pt) (c s : Int) (v : Value) (g : Nat) (bs : List Nat) (h : CaIs W w p a xs) (hr : RiseT xs) (hl : xs.length ≤ 1000) (hv : IsB w g v bs) (ho : ∀ b ∈ bs, b < 256) (hW : W.heap.size ≤ w.heap.size) :
    Calls Tryz.prog 108 #[.pointer (some ⟨p, 0, none⟩), .int .i64 c, .int .i64 s, v] w fun e w' => e = .returned (.bool (mayK c s bs.length && decide ((ofT xs c).s < s))) ∧ ∃ a', CaTo W w p a w' a' (if mayK c s bs.length then keepT xs ⟨c, s, strOf bs⟩ else xs) := by
  have hv' := hv
  obtain ⟨ad, n, cap, rfl, hn, _⟩ := hv'
  cases hm : mayK c s bs.length with
  | false =>
    refine (okeep_no w _ c s ad n cap (by rw [← hn]; exact hm)).mono ?_
    rintro _ _ ⟨rfl, rfl⟩
    exact ⟨rfl, a, CaTo.refl h⟩
  | true =>
    obtain ⟨k1, k2, k3, k4, k5⟩ := mayK_iff.1 hm
    have hrun := run_str hv ho
    obtain ⟨z, hz⟩ : ∃ z, strOf bs = z := ⟨_, rfl⟩
    rw [hz] at hrun ⊢
    have hput := oput_w W w p a xs c s z h hr hl k3 hW
    have h1 : ¬ c < 0 := by omega
    have h2 : ¬ 255 < c := by omega
    have h3 : ¬ s < 1 := by omega
    have h4 : ¬ 1073741824 < s := by omega
    have h5 : ¬ (1048576 : Int) < (n : Int) := by omega
    rw [Bool.true_and, if_pos rfl]
    clear hm k1 k2 k3 k4 k5 hn hv h hr hW hz
    go_enter Tryz.func108, Tryz.ntmps108
    go_wp2_with (go_at_call 149; refine hput.mono ?_; rintro _ w2 ⟨rfl, a2, hT⟩)
    go_ret
    exact ⟨rfl, a2, hT⟩
end Go.Proofs.YtilbbnmhnacnlaaGreat
/-
  The document's own entries of clients, how a list of them lies in memory, how it grows. Plain facts, no program in sight but for the numbers of its types.
-/
namespace Go.Proofs.YtilbbnmhnacnlaaGreat
open Go.RowKit

def EntC (w : World) (c : List Value) (x : Pt) : Prop := ∃ ad n cap g, c = [.int .i64 x.c, .int .i64 x.s, .slice ad n cap] ∧ IsB w g (.slice ad n cap) (zbs x.a) ∧ U8 w g (zbs x.a)
def EntsAt (w : World) (v : Value) (xs : List Pt) : Prop := ∃ css, Lies w 116 3 v css ∧ All2 (EntC w) css xs
def GrowE (W w : World) (v : Value) (xs : List Pt) : Prop := Grow EntC 116 3 W w v xs

theorem EntC.stay {T : TypeId → Prop} {w w' : World} (st : Stay T w w') (h1 : T 5) {c : List Value} {x : Pt} (h : EntC w c x) : EntC w' c x := by
  obtain ⟨ad, n, cap, g, e, k1, k2⟩ := h
  obtain ⟨j1, j2⟩ := k1.stay st h1 k2
  exact ⟨ad, n, cap, g, e, j1, j2⟩
theorem EntC.moves {w w' : World} (m : Moves [] w w') {c : List Value} {x : Pt} (h : EntC w c x) : EntC w' c x := h.stay (T := fun _ => True) (Stay.ofMoves m) trivial
theorem EntC.one {w : World} {c : List Value} {x : Pt} (h : EntC w c x) : ∀ u ∈ c, u.oneCell' = true := by
  obtain ⟨ad, n, cap, g, rfl, _⟩ := h
  intro u hu
  simp only [List.mem_cons, List.not_mem_nil, or_false] at hu
  rcases hu with rfl | rfl | rfl <;> rfl
theorem EntsAt.stay {T : TypeId → Prop} {w w' : World} (st : Stay T w w') (h1 : T 5) (h4 : T 116) {v : Value} {xs : List Pt} (h : EntsAt w v xs) : EntsAt w' v xs := by
  obtain ⟨css, k1, k2⟩ := h
  exact ⟨css, k1.stay st h4, k2.mono fun _ _ k => k.stay st h1⟩
theorem EntsAt.moves {w w' : World} (m : Moves [] w w') {v : Value} {xs : List Pt} (h : EntsAt w v xs) : EntsAt w' v xs := h.stay (T := fun _ => True) (Stay.ofMoves m) trivial trivial
theorem EntsAt.nil (w : World) : EntsAt w (.slice none 0 0) [] := ⟨[], Lies.nil _ _ _, trivial⟩
theorem EntsAt.slice {w : World} {v : Value} {xs : List Pt} (h : EntsAt w v xs) : ∃ ad cap, v = .slice ad xs.length cap ∧ xs.length ≤ cap := by
  obtain ⟨css, h1, h2⟩ := h
  obtain ⟨ad, cap, e, k⟩ := h1.slice
  rw [h2.length] at e k
  exact ⟨ad, cap, e, k⟩
theorem EntsAt.open {w : World} {v : Value} {xs : List Pt} (h : EntsAt w v xs) : ∃ ad n cap, v = .slice ad n cap ∧ Hid (n = xs.length) ∧ n ≤ cap := by
  obtain ⟨ad, cap, rfl, hc⟩ := h.slice
  exact ⟨ad, _, cap, rfl, rfl, hc⟩
theorem EntsAt.at {w : World} {ad : Option Addr} {n cap : Nat} {xs : List Pt} (h : EntsAt w (.slice ad n cap) xs) {k : Nat} {x : Pt} (hk : xs[k]? = some x) :
    ∃ g off a2 n2 c2, ad = some ⟨g, off, none⟩ ∧ w.cell? ⟨g, off + k * 3, none⟩ = some (.int .i64 x.c) ∧ w.cell? ⟨g, off + k * 3 + 1, none⟩ = some (.int .i64 x.s) ∧ w.cell? ⟨g, off + k * 3 + 2, none⟩ = some (.slice a2 n2 c2) ∧ EntC w [.int .i64 x.c, .int .i64 x.s, .slice a2 n2 c2] x := by
  obtain ⟨css, h1, h2⟩ := h
  obtain ⟨c, hc, h3⟩ := h2.get hk
  have h3' := h3
  obtain ⟨a2, n2, c2, g2, rfl, _⟩ := h3'
  obtain ⟨g, off, e, h4⟩ := h1.at hc
  exact ⟨g, off, a2, n2, c2, e, h4 0 _ rfl, h4 1 _ rfl, h4 2 _ rfl, h3⟩
theorem EntC.isB {w : World} {a : Option Addr} {n cap : Nat} {y z : Value} {x : Pt} (h : EntC w [y, z, .slice a n cap] x) : ∃ g, IsB w g (.slice a n cap) (zbs x.a) := by
  obtain ⟨ad, n', cap', g, e, k1, _⟩ := h
  simp at e
  obtain ⟨_, _, rfl, rfl, rfl⟩ := e
  exact ⟨g, k1⟩

theorem GrowE.nil (W w : World) : GrowE W w (.slice none 0 0) [] := ⟨Fresh.nil _, [], OwnL.nil _ _ _, trivial⟩
theorem GrowE.at {W w : World} {v : Value} {xs : List Pt} (h : GrowE W w v xs) : EntsAt w v xs := by
  obtain ⟨_, css, h1, h2⟩ := h
  exact ⟨css, Lies.ofOwn h1, h2⟩
theorem GrowE.moves0 {W w w' : World} (m : Moves [] w w') {v : Value} {xs : List Pt} (h : GrowE W w v xs) : GrowE W w' v xs := by
  obtain ⟨h0, css, h1, h2⟩ := h
  exact ⟨h0, css, h1.moves m (by simp), h2.mono fun _ _ k => k.moves m⟩
theorem GrowE.open {W w : World} {v : Value} {xs : List Pt} (h : GrowE W w v xs) : ∃ ad n cap, v = .slice ad n cap ∧ Hid (n = xs.length) ∧ n ≤ cap := h.at.open

theorem ent_info : (Tryz.prog.info? 116).map (fun i => (i.zero, i.size, i.bytes)) = some (some (.agg #[.int .i64 0, .int .i64 0, .slice none 0 0]), 3, 40) := by kernel_rfl
theorem growE_wp {o : Oper} {a : Act} {K : Act → World → Prop} {Q : Exit → Act → World → Prop} {W w : World} (s x : Operand)
    (ho : o.op = .call { callee := .builtin .append, args := #[s, x], argTypes := #[77, 77] })
    (v yv : Value) (xs ys : List Pt) (hs : a.eval s = v) (hx : a.eval x = yv)
    (hv : GrowE W w v xs) (hy : EntsAt w yv ys) (hm : Moves [] W w) (hb : xs.length + ys.length ≤ 1048576)
    (h : ∀ v' w', GrowE W w' v' (xs ++ ys) → Moves [] W w' → Moves v.ownBlock.toList w w' → Stay (· ≠ 116) w w' → Lain w v v' → K (a.put o.dst v') w') :
    o.wp Tryz.prog a w K Q := by
  obtain ⟨ds, hd, hys⟩ := hy
  exact grow_append s x _ 116 _ 3 40 ent_info Tryz.underlying77 rfl (by omega) (by omega) (fun _ _ _ h => h.one) (fun _ _ _ _ h hs => h.stay hs (by decide)) ho v yv xs ys ds hs hx hv hd hys hm hb h
theorem growE_append {ops : Array Oper} {rest : List Oper} {o : Oper} {a : Act} {Q : Exit → Act → World → Prop} {W w : World} (s x : Operand)
    (ho : o.op = .call { callee := .builtin .append, args := #[s, x], argTypes := #[77, 77] })
    (v yv : Value) (xs ys : List Pt) (hs : a.eval s = v) (hx : a.eval x = yv) (hw : Region.wanted o (yielded ops a.tmps) = true)
    (hv : GrowE W w v xs) (hy : EntsAt w yv ys) (hm : Moves [] W w) (hb : xs.length + ys.length ≤ 1048576)
    (h : ∀ v' w', GrowE W w' v' (xs ++ ys) → Moves [] W w' → Moves v.ownBlock.toList w w' → Stay (· ≠ 116) w w' → Lain w v v' → wpList Tryz.prog ops Q rest (a.put o.dst v') w') :
    wpList Tryz.prog ops Q (o :: rest) a w := by
  refine wpList_wanted hw (wpList_plain rfl fun K hK => ?_)
  exact growE_wp s x ho v yv xs ys hs hx hv hy hm hb (fun v' w' h1 h2 h3 h4 h5 => hK _ _ (h v' w' h1 h2 h3 h4 h5))
theorem ents_new (w : World) (c0 c1 c2 : Value) (x : Pt) (h : EntC w [c0, c1, c2] x) : EntsAt (w.alloc (.cells #[c0, c1, c2] 116)) (.slice (some ⟨w.heap.size, 0, none⟩) 1 1) [x] :=
  ⟨_, lies_new w [c0, c1, c2] _, h.moves ((Moves.refl _ _).alloc _), trivial⟩
def keepE (m : List Pt) (x : Pt) : List Pt := if (ofT m x.c).s < x.s then m.filter (fun y => decide (y.c ≠ x.c)) ++ [x] else m
structure Agree (xs m : List Pt) : Prop where
  rise : RiseT xs
  perm : xs.Perm m
theorem Agree.nil : Agree [] [] := ⟨List.Pairwise.nil, List.Perm.nil⟩
theorem Agree.one {xs m : List Pt} (h : Agree xs m) : OneT m := fun x hx y hy e => h.rise.one x (h.perm.mem_iff.2 hx) y (h.perm.mem_iff.2 hy) e
theorem Agree.of {xs m : List Pt} (h : Agree xs m) (c : Int) : ofT m c = ofT xs c := by
  rcases ofT_cases xs c with ⟨k1, k2⟩ | ⟨k1, k2⟩
  · have := ofT_mem h.one (h.perm.mem_iff.1 k1)
    rw [k2] at this
    exact this
  · rw [k1]
    exact ofT_none fun x hx => k2 x (h.perm.mem_iff.2 hx)
theorem Agree.keep {xs m : List Pt} (h : Agree xs m) (x : Pt) : Agree (keepT xs x) (keepE m x) := by
  refine ⟨keepT_rise h.rise x, ?_⟩
  unfold keepT keepE
  rw [h.of]
  split
  · refine (putT_perm xs x).trans ?_
    refine ((h.perm.filter _).cons x).trans ?_
    exact (List.perm_append_singleton _ _).symm
  · exact h.perm
theorem Agree.len {xs m : List Pt} (h : Agree xs m) : m.length = xs.length := h.perm.length_eq.symm
end Go.Proofs.YtilbbnmhnacnlaaGreat
