/- ours -/
import Derived.Test.YtfhdodopjgfedaaGreatCOn4
import Derived.Test.YtfhdodopjgfedaaGreatCB02
import Derived.Deep.Slices
import Derived.Deep.Fields
import Derived.ChangeShapes
import Derived.Test.YtfhdodopjgfedaaGreatCB00
import Derived.WalkLawsBesides
import Derived.Sort.Walk0
/-
  What put and Keep make of a cache's list, as plain functions of lists.
-/
namespace Go.Proofs.YtfhdodopjgfedaaGreat
open Go.RowKit

def putT (xs : List Pt) (x : Pt) : List Pt := xs.filter (fun y => decide (y.c < x.c)) ++ x :: xs.filter (fun y => decide (x.c < y.c))
def keepT (xs : List Pt) (x : Pt) : List Pt := if (ofT xs x.c).s < x.s then putT xs x else xs
theorem mem_takeT {xs : List Pt} {i : Nat} {y : Pt} (h : y ∈ xs.take i) : ∃ k, k < i ∧ xs[k]? = some y := by
  obtain ⟨k, hk, e⟩ := List.getElem_of_mem h
  rw [List.length_take] at hk
  refine ⟨k, by omega, ?_⟩
  rw [List.getElem_take] at e
  rw [← e]
  exact List.getElem?_eq_getElem (by omega)
theorem mem_dropT {xs : List Pt} {i : Nat} {y : Pt} (h : y ∈ xs.drop i) : ∃ k, i ≤ k ∧ xs[k]? = some y := by
  obtain ⟨k, hk, e⟩ := List.getElem_of_mem h
  rw [List.length_drop] at hk
  refine ⟨i + k, by omega, ?_⟩
  rw [List.getElem_drop] at e
  rw [← e]
  exact List.getElem?_eq_getElem (by omega)
theorem place_filters {xs : List Pt} (hr : RiseT xs) {c : Int} {i : Nat} (h : PlaceT xs c i) : xs.filter (fun y => decide (y.c < c)) = xs.take i ∧ xs.filter (fun y => decide (c < y.c)) = (if hasT xs c i then xs.drop (i + 1) else xs.drop i) := by
  have e0 : xs = xs.take i ++ xs.drop i := (List.take_append_drop i xs).symm
  constructor
  · conv => lhs; rw [e0]
    rw [List.filter_append, List.filter_eq_self.2, List.filter_eq_nil_iff.2, List.append_nil]
    · intro y hy
      obtain ⟨k, hk, hx⟩ := mem_dropT hy
      have := h.hi k y hx hk
      simp
      omega
    · intro y hy
      obtain ⟨k, hk, hx⟩ := mem_takeT hy
      have := h.lo k y hx hk
      simp
      omega
  · have e1 : (xs.take i).filter (fun y => decide (c < y.c)) = [] := by
      rw [List.filter_eq_nil_iff]
      intro y hy
      obtain ⟨k, hk, hx⟩ := mem_takeT hy
      have := h.lo k y hx hk
      simp
      omega
    conv => lhs; rw [e0]
    rw [List.filter_append, e1, List.nil_append]
    cases hh : hasT xs c i with
    | true =>
      obtain ⟨x, hx, hxc, _⟩ := ofT_yes h hh
      have hil := (List.getElem?_eq_some_iff.1 hx).1
      have e2 : xs.drop i = x :: xs.drop (i + 1) := by rw [List.drop_eq_getElem_cons hil, (List.getElem?_eq_some_iff.1 hx).2]
      rw [e2, List.filter_cons, if_neg (by simp; omega), if_pos rfl]
      rw [List.filter_eq_self]
      intro y hy
      obtain ⟨k, hk, hy⟩ := mem_dropT hy
      have := hr.lt hx hy (by omega)
      simp
      omega
    | false =>
      obtain ⟨_, hne⟩ := ofT_no hr h hh
      simp only [Bool.false_eq_true, if_false]
      rw [List.filter_eq_self]
      intro y hy
      have h1 := hne y (List.mem_of_mem_drop hy)
      obtain ⟨k, hk, hy⟩ := mem_dropT hy
      have := h.hi k y hy hk
      simp
      omega

theorem putT_mem {xs : List Pt} {x y : Pt} : y ∈ putT xs x ↔ y = x ∨ (y ∈ xs ∧ y.c ≠ x.c) := by
  unfold putT
  rw [List.mem_append, List.mem_cons, List.mem_filter, List.mem_filter]
  simp only [decide_eq_true_eq]
  constructor
  · rintro (⟨h1, h2⟩ | rfl | ⟨h1, h2⟩)
    · exact .inr ⟨h1, by omega⟩
    · exact .inl rfl
    · exact .inr ⟨h1, by omega⟩
  · rintro (rfl | ⟨h1, h2⟩)
    · exact .inr (.inl rfl)
    · rcases Int.lt_or_lt_of_ne h2 with h | h
      · exact .inl ⟨h1, h⟩
      · exact .inr (.inr ⟨h1, h⟩)
theorem putT_rise {xs : List Pt} (hr : RiseT xs) (x : Pt) : RiseT (putT xs x) := by
  unfold putT RiseT
  rw [List.pairwise_append, List.pairwise_cons]
  refine ⟨List.Pairwise.filter _ hr, ⟨?_, List.Pairwise.filter _ hr⟩, ?_⟩
  · intro y hy
    rw [List.mem_filter] at hy
    exact of_decide_eq_true hy.2
  · intro a ha b hb
    rw [List.mem_filter] at ha
    have h1 : a.c < x.c := of_decide_eq_true ha.2
    rcases List.mem_cons.1 hb with rfl | hb
    · exact h1
    · rw [List.mem_filter] at hb
      have h2 : x.c < b.c := of_decide_eq_true hb.2
      omega
theorem keepT_rise {xs : List Pt} (hr : RiseT xs) (x : Pt) : RiseT (keepT xs x) := by
  unfold keepT
  split
  · exact putT_rise hr x
  · exact hr
theorem ofT_none {xs : List Pt} {c : Int} (h : ∀ x ∈ xs, x.c ≠ c) : ofT xs c = noT := by
  unfold ofT
  have hf : xs.find? (fun x => decide (x.c = c)) = none := by
    rw [List.find?_eq_none]
    intro x hx
    simp [h x hx]
  rw [hf]
  rfl
def OneT (xs : List Pt) : Prop := ∀ x ∈ xs, ∀ y ∈ xs, x.c = y.c → x = y
theorem RiseT.one {xs : List Pt} (hr : RiseT xs) : OneT xs := by
  intro x hx y hy e
  obtain ⟨j, hj, rfl⟩ := List.getElem_of_mem hx
  obtain ⟨k, hk, rfl⟩ := List.getElem_of_mem hy
  rcases Nat.lt_trichotomy j k with h | h | h
  · have := hr.lt (List.getElem?_eq_getElem hj) (List.getElem?_eq_getElem hk) h
    omega
  · subst h; rfl
  · have := hr.lt (List.getElem?_eq_getElem hk) (List.getElem?_eq_getElem hj) h
    omega
theorem ofT_mem {xs : List Pt} (h1 : OneT xs) {x : Pt} (hx : x ∈ xs) : ofT xs x.c = x := by
  unfold ofT
  cases hf : xs.find? (fun y => decide (y.c = x.c)) with
  | none =>
    rw [List.find?_eq_none] at hf
    exact absurd (decide_eq_true rfl) (hf x hx)
  | some y =>
    have hq := List.find?_some hf
    simp only [decide_eq_true_eq] at hq
    exact h1 y (List.mem_of_find?_eq_some hf) x hx hq
theorem ofT_cases (xs : List Pt) (c : Int) : (ofT xs c ∈ xs ∧ (ofT xs c).c = c) ∨ (ofT xs c = noT ∧ ∀ x ∈ xs, x.c ≠ c) := by
  unfold ofT
  cases hf : xs.find? (fun y => decide (y.c = c)) with
  | none =>
    rw [List.find?_eq_none] at hf
    exact .inr ⟨rfl, fun x hx e => hf x hx (decide_eq_true e)⟩
  | some y =>
    have hq := List.find?_some hf
    simp only [decide_eq_true_eq] at hq
    exact .inl ⟨List.mem_of_find?_eq_some hf, hq⟩
theorem ofT_put {xs : List Pt} (hr : RiseT xs) (x : Pt) (c : Int) : ofT (putT xs x) c = if x.c = c then x else ofT xs c := by
  have h1 := (putT_rise hr x).one
  split
  · rename_i h
    rw [← h]
    exact ofT_mem h1 (putT_mem.2 (.inl rfl))
  · rename_i h
    rcases ofT_cases xs c with ⟨k1, k2⟩ | ⟨k1, k2⟩
    · have := ofT_mem h1 (putT_mem.2 (.inr ⟨k1, by omega⟩))
      rw [k2] at this
      exact this
    · rw [k1]
      refine ofT_none fun y hy => ?_
      rcases putT_mem.1 hy with rfl | ⟨hy, _⟩
      · exact h
      · exact k2 y hy
theorem ofT_keep {xs : List Pt} (hr : RiseT xs) (x : Pt) (c : Int) : ofT (keepT xs x) c = if x.c = c ∧ (ofT xs c).s < x.s then x else ofT xs c := by
  unfold keepT
  by_cases h : (ofT xs x.c).s < x.s
  · rw [if_pos h, ofT_put hr]
    by_cases e : x.c = c
    · rw [if_pos e, if_pos ⟨e, by rw [← e]; exact h⟩]
    · rw [if_neg e, if_neg (fun k => e k.1)]
  · rw [if_neg h]
    rw [if_neg (fun k => h (by rw [k.1]; exact k.2))]

theorem oput_w (W w : World) (p : Nat) (a : Option Nat) (xs : List Pt) (c s : Int) (z : ByteArray) (h : CaIs W w p a xs) (hr : RiseT xs) (hl : xs.length ≤ 1000) (hs : 1 ≤ s) (hW : W.heap.size ≤ w.heap.size) :
    Calls Tryz.prog 149 #[.pointer (some ⟨p, 0, none⟩), .agg #[.int .i64 c, .int .i64 s, .string z]] w fun e w' => e = .returned (.bool (decide ((ofT xs c).s < s))) ∧ ∃ a', CaTo W w p a w' a' (keepT xs ⟨c, s, z⟩) := by
  obtain ⟨v, hp, rfl, hG⟩ := h
  obtain ⟨ad, n, cap, rfl, hn, hc⟩ := hG.open
  obtain ⟨i, hP⟩ := placeT_ex xs hr c
  obtain ⟨f1, f2⟩ := place_filters hr hP
  have hln : n ≤ 1000 := by have := hn.out; omega
  cases hh : hasT xs c i with
  | false =>
    obtain ⟨hof, _⟩ := ofT_no hr hP hh
    have h0 : (ofT xs c).s < s := by rw [hof]; unfold noT; show (0 : Int) < s; omega
    have e1 : keepT xs ⟨c, s, z⟩ = xs.take i ++ [⟨c, s, z⟩] ++ xs.drop i := by
      unfold keepT
      rw [if_pos h0]
      unfold putT
      dsimp only
      rw [f1, f2, hh]
      simp
    rw [e1, decide_eq_true h0]
    exact oput_ins W w p xs c s z ad n cap i hp hG hn hr hln hP hh hW
  | true =>
    obtain ⟨x, hx, hxc, hof⟩ := ofT_yes hP hh
    have hil := (List.getElem?_eq_some_iff.1 hx).1
    by_cases h0 : (ofT xs c).s < s
    · have e1 : keepT xs ⟨c, s, z⟩ = xs.set i ⟨c, s, z⟩ := by
        unfold keepT
        rw [if_pos h0]
        unfold putT
        dsimp only
        rw [f1, f2, hh, List.set_eq_take_append_cons_drop, if_pos hil]
        rfl
      rw [e1, decide_eq_true h0]
      refine oput_set W w p xs c s z ad n cap i hp hG hn hr hln hP hh (fun y hy => ?_)
      rw [hx] at hy
      simp at hy
      subst hy
      rw [hof] at h0
      exact h0
    · have e1 : keepT xs ⟨c, s, z⟩ = xs := by unfold keepT; rw [if_neg h0]
      rw [e1, decide_eq_false h0]
      refine oput_no W w p xs c s z ad n cap i hp hG hn hr hln hP hh (fun y hy => ?_)
      rw [hx] at hy
      simp at hy
      subst hy
      rw [hof] at h0
      exact h0

def mayK (c s : Int) (n : Nat) : Bool := decide (0 ≤ c) && (decide (c ≤ 255) && (decide (1 ≤ s) && (decide (s ≤ 1073741824) && decide (n ≤ 1048576))))
theorem mayK_iff {c s : Int} {n : Nat} : mayK c s n = true ↔ 0 ≤ c ∧ c ≤ 255 ∧ 1 ≤ s ∧ s ≤ 1073741824 ∧ n ≤ 1048576 := by
  simp [mayK]

set_option maxRecDepth 100000 in
set_option maxHeartbeats 8000000 in
theorem okeep_no (w : World) (pv : Value) (c s : Int) (ad : Option Addr) (n cap : Nat) (hm : mayK c s n = false) :
    Calls Tryz.prog 108 #[pv, .int .i64 c, .int .i64 s, .slice ad n cap] w fun e w' => e = .returned (.bool false) ∧ w = w' := by
  have hm' : ¬ (0 ≤ c ∧ c ≤ 255 ∧ 1 ≤ s ∧ s ≤ 1073741824 ∧ n ≤ 1048576) := fun h => by rw [mayK_iff.2 h] at hm; simp at hm
  clear hm
  by_cases h1 : c < 0
  · go_enter Tryz.func108, Tryz.ntmps108
    go_wp2
    go_ret
    exact ⟨rfl, rfl⟩
  · by_cases h2 : 255 < c
    · go_enter Tryz.func108, Tryz.ntmps108
      go_wp2
      go_ret
      exact ⟨rfl, rfl⟩
    · by_cases h3 : s < 1
      · go_enter Tryz.func108, Tryz.ntmps108
        go_wp2
        go_ret
        exact ⟨rfl, rfl⟩
      · by_cases h4 : 1073741824 < s
        · go_enter Tryz.func108, Tryz.ntmps108
          go_wp2
          go_ret
          exact ⟨rfl, rfl⟩
        · have h5 : (1048576 : Int) < (n : Int) := by omega
          clear hm'
          go_enter Tryz.func108, Tryz.ntmps108
          go_wp2
          go_ret
          exact ⟨rfl, rfl⟩

set_option maxRecDepth 100000 in
set_option maxHeartbeats 8000000 in
theorem okeep_w (W w : World) (p : Nat) (a : Option Nat) (xs : List Pt) (c s : Int) (v : Value) (g : Nat) (bs : List Nat) (h : CaIs W w p a xs) (hr : RiseT xs) (hl : xs.length ≤ 1000) (hv : IsB w g v bs) (ho : ∀ b ∈ bs, b < 256) (hW : W.heap.size ≤ w.heap.size) :
    Calls Tryz.prog 108 #[.pointer (some ⟨p, 0, none⟩), .int .i64 c, .int .i64 s, v] w fun e w' => e = .returned (.bool (mayK c s bs.length && decide ((ofT xs c).s < s))) ∧ ∃ a', CaTo W w p a w' a' (if mayK c s bs.length then keepT xs ⟨c, s, strOf bs⟩ else xs) := by
  have hv' := hv
  obtain ⟨ad, n, cap, rfl, hn, _⟩ := hv'
  cases hm : mayK c s bs.length with
  | false =>
    refine (okeep_no w _ c s ad n cap (by rw [← hn]; exact hm)).mono ?_
    rintro _ _ ⟨rfl, rfl⟩
    exact ⟨rfl, a, CaTo.refl h⟩
  | true =>
    obtain ⟨k1, k2, k3, k4, k5⟩ := mayK_iff.1 hm
    have hrun := run_str hv ho
    obtain ⟨z, hz⟩ : ∃ z, strOf bs = z := ⟨_, rfl⟩
    rw [hz] at hrun ⊢
    have hput := oput_w W w p a xs c s z h hr hl k3 hW
    have h1 : ¬ c < 0 := by omega
    have h2 : ¬ 255 < c := by omega
    have h3 : ¬ s < 1 := by omega
    have h4 : ¬ 1073741824 < s := by omega
    have h5 : ¬ (1048576 : Int) < (n : Int) := by omega
    rw [Bool.true_and, if_pos rfl]
    clear hm k1 k2 k3 k4 k5 hn hv h hr hW hz
    go_enter Tryz.func108, Tryz.ntmps108
    go_wp2_with (go_at_call 149; refine hput.mono ?_; rintro _ w2 ⟨rfl, a2, hT⟩)
    go_ret
    exact ⟨rfl, a2, hT⟩
end Go.Proofs.YtfhdodopjgfedaaGreat
/-
  Arguments opened: integers, lists of integers, strings, lists of strings.
-/
namespace Go.Proofs.YtfhdodopjgfedaaGreat
open Go.RowKit
open Go.ChangeShapes Go.WideShapes

theorem struct_cells {W : World} {base i sz : Nat} {ad : Addr} {cs0 cs' : List Value} (hsz : 0 < sz) (h0 : W.cells? base (ad.add (0 * sz)) sz = some cs0) (h1 : W.cells? base (ad.add (i * sz)) sz = some cs') : ∃ b off, ad = ⟨b, off, none⟩ ∧ cs'.length = sz ∧ ∀ j u, cs'[j]? = some u → W.cell? ⟨b, off + i * sz + j, none⟩ = some u := by
  obtain ⟨_, hlen, hcell⟩ := World.cells?_some h1
  have hsp : ad.spot = none := by
    obtain ⟨_, hlen, hcell⟩ := World.cells?_some h0
    have e0 := hcell 0 hsz
    cases cs0 with
    | nil => simp at hlen; omega
    | cons v t =>
      have := World.cell?_spot e0
      simpa [Addr.add] using this
  obtain ⟨b, off, spot⟩ := ad
  simp at hsp
  subst hsp
  refine ⟨b, off, rfl, hlen, fun j u hj => ?_⟩
  have hjl : j < sz := by
    have := (List.getElem?_eq_some_iff.1 hj).1
    omega
  have e := hcell j hjl
  rw [Go.Deep.add_add] at e
  have ea : (⟨b, off, none⟩ : Addr).add (i * sz + j) = ⟨b, off + i * sz + j, none⟩ := by
    unfold Addr.add; split <;> simp_all [Nat.add_assoc]
  rw [ea, hj] at e
  exact e

end Go.Proofs.YtfhdodopjgfedaaGreat
/-
  A span that was handed in, opened.
-/
namespace Go.Proofs.YtfhdodopjgfedaaGreat
open Go.RowKit
open Go.ChangeShapes Go.WideShapes

end Go.Proofs.YtfhdodopjgfedaaGreat
/-
  keep's Head and Row, book's Within, as plain functions.
-/
namespace Go.Proofs.YtfhdodopjgfedaaGreat
open Go.RowKit

def pwithin (n : Int) : Int := if 0 ≤ n ∧ n ≤ 1048576 then n else if n.tmod 1048577 < 0 then n.tmod 1048577 + 1048577 else n.tmod 1048577
theorem pwithin_b (n : Int) : 0 ≤ pwithin n ∧ pwithin n ≤ 1048576 := by
  have t := tmod_bounds n
  unfold pwithin
  generalize n.tmod 1048577 = m at *
  split
  · assumption
  · split <;> omega
theorem within_d (n : Int) (w : World) : Calls Tryz.prog 23 #[.int .i64 n, .int .i64 0, .int .i64 1048576] w fun e w' => e = .returned (.int .i64 (pwithin n)) ∧ w = w' := by
  have t := tmod_bounds n
  obtain ⟨q, hq⟩ : ∃ q, Hid (pwithin n = q) := ⟨_, rfl⟩
  rw [hq.out]
  have hq' := hq.out
  unfold pwithin at hq'
  have HQ : Hid ((if 0 ≤ n ∧ n ≤ 1048576 then n else if n.tmod 1048577 < 0 then n.tmod 1048577 + 1048577 else n.tmod 1048577) = q) := hq'
  clear hq'
  go_enter Tryz.func23, Tryz.ntmps23
  go_wp2
  all_goals go_ret
  all_goals refine ⟨congrArg (fun z => Ending.returned (.int .i64 z)) ?_, rfl⟩
  all_goals have hz := HQ.out
  all_goals have hte : 0 ≤ n → n.tmod 1048577 = n % 1048577 := Int.tmod_eq_emod_of_nonneg
  all_goals generalize n.tmod 1048577 = m at *
  all_goals try unfold wrap64
  all_goals (split at hz)
  all_goals try (split at hz)
  all_goals omega
def rowNames : List ByteArray := [⟨#[97]⟩, ⟨#[98]⟩, ⟨#[109]⟩, ⟨#[110]⟩, ⟨#[122]⟩, ⟨#[109, 97]⟩, ⟨#[122, 122]⟩, ⟨#[48]⟩]
set_option maxRecDepth 100000 in
set_option maxHeartbeats 1000000 in
theorem row_ds (n : Int) : ∃ s, (1 ≤ s.size ∧ s.size ≤ 2) ∧ ∀ w, Calls Tryz.prog 24 #[.int .i64 n] w fun e w' => e = .returned (.string s) ∧ Moves [] w w' := by
  have hb := pwithin_b n
  obtain ⟨j, hj, hje⟩ : ∃ j : Nat, j < 8 ∧ (pwithin n).tmod 8 = (j : Int) := by
    refine ⟨((pwithin n).tmod 8).toNat, ?_, ?_⟩ <;> rw [Int.tmod_eq_emod_of_nonneg hb.1] <;> omega
  have hsz : ∀ s ∈ rowNames, 1 ≤ s.size ∧ s.size ≤ 2 := by decide
  refine ⟨rowNames[j]'(by simpa [rowNames] using hj), hsz _ (List.getElem_mem _), fun w => ?_⟩
  clear hsz
  have hcell : (w.alloc (.cells #[.string ⟨#[97]⟩, .string ⟨#[98]⟩, .string ⟨#[109]⟩, .string ⟨#[110]⟩, .string ⟨#[122]⟩, .string ⟨#[109, 97]⟩, .string ⟨#[122, 122]⟩, .string ⟨#[48]⟩] 9)).cell? ⟨w.heap.size, j, none⟩ = some (.string (rowNames[j]'(by simpa [rowNames] using hj))) := by
    simp only [World.cell?, heap_alloc_new]
    match j, hj with
    | 0, _ => rfl
    | 1, _ => rfl
    | 2, _ => rfl
    | 3, _ => rfl
    | 4, _ => rfl
    | 5, _ => rfl
    | 6, _ => rfl
    | 7, _ => rfl
  generalize rowNames[j]'(by simpa [rowNames] using hj) = s at hcell ⊢
  have m1 : Moves [] w (w.alloc (.cells #[.string ⟨#[97]⟩, .string ⟨#[98]⟩, .string ⟨#[109]⟩, .string ⟨#[110]⟩, .string ⟨#[122]⟩, .string ⟨#[109, 97]⟩, .string ⟨#[122, 122]⟩, .string ⟨#[48]⟩] 9)) := (Moves.refl _ _).alloc _
  have hj3 : (j : Int) < 8 := by omega
  have hj0 : (0 : Int) ≤ j := by omega
  have hpick : ∀ cap, Calls Tryz.prog 45 #[.slice (some ⟨w.heap.size, 0, none⟩) 8 cap, .int .i64 n] (w.alloc (.cells #[.string ⟨#[97]⟩, .string ⟨#[98]⟩, .string ⟨#[109]⟩, .string ⟨#[110]⟩, .string ⟨#[122]⟩, .string ⟨#[109, 97]⟩, .string ⟨#[122, 122]⟩, .string ⟨#[48]⟩] 9)) fun e w' => e = .returned (.string s) ∧ Moves [] w w' := by
    intro cap
    generalize w.alloc _ = w1 at hcell m1 ⊢
    go_enter Tryz.func45, Tryz.ntmps45
    go_wp2_with (go_at_call 23; refine (within_d _ _).mono ?_; rintro _ _ ⟨rfl, rfl⟩)
    go_ret
    exact ⟨rfl, m1⟩
  clear hcell m1
  go_enter Tryz.func24, Tryz.ntmps24
  go_wp2_with (go_at_call 45; refine (hpick _).mono ?_; rintro _ w2 ⟨rfl, m2⟩)
  go_ret
  exact ⟨rfl, m2⟩

end Go.Proofs.YtfhdodopjgfedaaGreat
/-
  Spans as plain data: Right, Has, Meet, Split, Join of two texts, and what follows of them.
-/
namespace Go.Proofs.YtfhdodopjgfedaaGreat
open Go.RowKit Go

structure Psp where
  lo : ByteArray
  hi : ByteArray
def zlt (a b : ByteArray) : Bool := Op.bytesLess a.toList b.toList
def zeq (a b : ByteArray) : Bool := a.toList == b.toList
def bz (a : ByteArray) : Bool := a.toList.isEmpty
def spB (s : Psp) (n : ByteArray) : Bool := bz s.hi || zlt n s.hi
def spE (a : ByteArray) : Bool := decide (a.size ≤ 16)
def spR (s : Psp) : Bool := spE s.lo && spE s.hi && spB s s.lo
def spH (s : Psp) (n : ByteArray) : Bool := !zlt n s.lo && spB s n
def spM (a b : Psp) : Bool := spR a && spR b && (spH a b.lo || spH b a.lo)
def spC (s : Psp) (t : ByteArray) : Bool := spR s && spE t && !zeq t s.lo && spH s t
def spJ (a b : Psp) : Bool := spR a && spR b && !bz a.hi && zeq a.hi b.lo
def Psp.zero : Psp := ⟨⟨#[]⟩, ⟨#[]⟩⟩

theorem zlt_iff (a b : ByteArray) : zlt a b = decide (a.data.toList < b.data.toList) := by
  unfold zlt
  rw [bytesLess_eq, ByteArray.toList_eq, ByteArray.toList_eq]
theorem zeq_iff {a b : ByteArray} : zeq a b = true ↔ a = b := by
  unfold zeq
  rw [ByteArray.toList_eq, ByteArray.toList_eq, beq_iff_eq]
  exact ⟨fun h => by cases a; cases b; simpa using h, fun h => by rw [h]⟩
theorem zlt_self (a : ByteArray) : zlt a a = false := by rw [zlt_iff]; exact decide_eq_false (List.lt_irrefl _)
theorem zlt_trans {a b c : ByteArray} (h1 : zlt a b = true) (h2 : zlt b c = true) : zlt a c = true := by
  rw [zlt_iff, decide_eq_true_eq] at *
  exact List.lt_trans h1 h2
theorem zlt_asymm {a b : ByteArray} (h : zlt a b = true) : zlt b a = false := by
  cases hq : zlt b a with
  | false => rfl
  | true => have := zlt_trans h hq; rw [zlt_self] at this; simp at this
theorem zlt_total {a b : ByteArray} (h1 : zlt a b = false) (h2 : zlt b a = false) : a = b := by
  rw [zlt_iff, decide_eq_false_iff_not] at *
  have := List.le_antisymm (List.not_lt.1 h2) (List.not_lt.1 h1)
  cases a; cases b; simpa using this
theorem zle_trans {a b c : ByteArray} (h1 : zlt b a = false) (h2 : zlt c b = false) : zlt c a = false := by
  cases h : zlt c a with
  | false => rfl
  | true =>
    cases h3 : zlt a b with
    | true => rw [zlt_trans h h3] at h2; simp at h2
    | false => have := zlt_total h3 h1; subst this; rw [h2] at h; simp at h
theorem zlt_le {a b c : ByteArray} (h1 : zlt a b = true) (h2 : zlt c b = false) : zlt a c = true := by
  cases h : zlt a c with
  | true => rfl
  | false => rw [zle_trans h2 h] at h1; simp at h1
theorem zle_lt {a b c : ByteArray} (h1 : zlt b a = false) (h2 : zlt b c = true) : zlt a c = true := by
  cases h : zlt a c with
  | true => rfl
  | false => rw [zle_trans h h1] at h2; simp at h2
theorem bz_iff {a : ByteArray} : bz a = true ↔ a = ⟨#[]⟩ := by
  unfold bz
  rw [ByteArray.toList_eq, List.isEmpty_iff]
  exact ⟨fun h => by cases a; simpa using h, fun h => by rw [h]⟩
theorem zlt_nil (a : ByteArray) : zlt a ⟨#[]⟩ = false := by rw [zlt_iff]; exact decide_eq_false (by simp)
theorem zero_R : spR Psp.zero = true := by
  unfold spR spE spB Psp.zero
  simp [bz_iff, ByteArray.size]
theorem spM_eq (a b : Psp) (ha : spR a = true) (hb : spR b = true) : (spH a b.lo || spH b a.lo) = ((bz a.hi || zlt b.lo a.hi) && (bz b.hi || zlt a.lo b.hi)) := by
  unfold spR at ha hb
  unfold spH
  have ha' : spB a a.lo = true := by simp at ha; exact ha.2
  have hb' : spB b b.lo = true := by simp at hb; exact hb.2
  unfold spB at *
  cases h1 : zlt b.lo a.lo with
  | true =>
    have h2 := zlt_asymm h1
    rw [h2]
    have h3 : (bz a.hi || zlt b.lo a.hi) = true := by
      cases hz : bz a.hi with
      | true => rfl
      | false => rw [hz] at ha'; simp at ha' ⊢; exact zlt_trans h1 ha'
    rw [h3]; simp
  | false =>
    cases h2 : zlt a.lo b.lo with
    | true =>
      have h3 : (bz b.hi || zlt a.lo b.hi) = true := by
        cases hz : bz b.hi with
        | true => rfl
        | false => rw [hz] at hb'; simp at hb' ⊢; exact zlt_trans h2 hb'
      rw [h3]; simp
    | false =>
      have e := zlt_total h1 h2
      rw [e] at hb' ⊢
      rw [ha', hb']; rfl
theorem spC_split {s : Psp} {t : ByteArray} (h : spC s t = true) : spR s = true ∧ spE t = true ∧ zlt s.lo t = true ∧ spB s t = true ∧ bz t = false := by
  unfold spC spH at h
  simp only [Bool.and_eq_true, Bool.not_eq_true'] at h
  obtain ⟨⟨⟨h1, h2⟩, h3⟩, h4, h5⟩ := h
  have h6 : zlt s.lo t = true := by
    cases h6 : zlt s.lo t with
    | true => rfl
    | false => have := zlt_total h6 h4; rw [← this] at h3; rw [(zeq_iff (a := s.lo)).2 rfl] at h3; simp at h3
  refine ⟨h1, h2, h6, h5, ?_⟩
  cases h7 : bz t with
  | false => rfl
  | true => rw [bz_iff.1 h7, zlt_nil] at h6; simp at h6
theorem spR_parts {s : Psp} (h : spR s = true) : spE s.lo = true ∧ spE s.hi = true ∧ spB s s.lo = true := by
  unfold spR at h; simp only [Bool.and_eq_true] at h; exact ⟨h.1.1, h.1.2, h.2⟩
theorem spR_mk {s : Psp} (h1 : spE s.lo = true) (h2 : spE s.hi = true) (h3 : spB s s.lo = true) : spR s = true := by
  unfold spR; rw [h1, h2, h3]; rfl
theorem split_R {s : Psp} {t : ByteArray} (h : spC s t = true) : spR ⟨s.lo, t⟩ = true ∧ spR ⟨t, s.hi⟩ = true := by
  obtain ⟨h1, h2, h3, h4, h5⟩ := spC_split h
  obtain ⟨r1, r2, r3⟩ := spR_parts h1
  refine ⟨spR_mk r1 h2 ?_, spR_mk h2 r2 ?_⟩
  · unfold spB; simp [h3]
  · exact h4
theorem spJ_parts {a b : Psp} (h : spJ a b = true) : spR a = true ∧ spR b = true ∧ bz a.hi = false ∧ a.hi = b.lo := by
  unfold spJ at h
  simp only [Bool.and_eq_true, Bool.not_eq_true'] at h
  exact ⟨h.1.1.1, h.1.1.2, h.1.2, zeq_iff.1 h.2⟩
theorem join_R {a b : Psp} (h : spJ a b = true) : spR ⟨a.lo, b.hi⟩ = true := by
  obtain ⟨h1, h2, h3, h4⟩ := spJ_parts h
  obtain ⟨r1, r2, r3⟩ := spR_parts h1
  obtain ⟨q1, q2, q3⟩ := spR_parts h2
  refine spR_mk r1 q2 ?_
  unfold spB at *
  rw [h3] at r3
  simp only [Bool.false_or] at r3
  cases hz : bz b.hi with
  | true => rfl
  | false => rw [hz] at q3; simp at q3 ⊢; rw [h4] at r3; exact zlt_trans r3 q3
end Go.Proofs.YtfhdodopjgfedaaGreat
