/-
  Where a client is in a cache, or would be: the library's search, the cache's place.
-/
import Derived.Test.YtfhdodopjgfedaaGreatCOn0
namespace Go.Proofs.YtfhdodopjgfedaaGreat
open Go.RowKit

def ocmp (a b : Int) : Int := if a < b then -1 else if b < a then 1 else 0
theorem ocmp_lt (a b : Int) : decide (ocmp a b < 0) = decide (a < b) := by
  unfold ocmp
  by_cases h1 : a < b
  · simp [h1]
  · by_cases h2 : b < a <;> simp [h1, h2]
theorem ocmp_eq (a b : Int) : (ocmp a b == 0) = decide (a = b) := by
  unfold ocmp
  by_cases h1 : a < b
  · have : a ≠ b := by omega
    simp [h1, this]
  · by_cases h2 : b < a
    · have : a ≠ b := by omega
      simp [h1, h2, this]
    · have : a = b := by omega
      simp [this]

theorem compareI_w (x y : Int) (w : World) :
    Calls Tryz.prog 167 #[.int .i64 x, .int .i64 y] w fun e w' => e = .returned (.int .i64 (ocmp x y)) ∧ w = w' := by
  unfold ocmp
  by_cases h1 : x < y
  · rw [if_pos h1]
    go_enter Tryz.func167, Tryz.ntmps167
    go_wp2
    all_goals (go_ret; exact ⟨rfl, rfl⟩)
  · rw [if_neg h1]
    by_cases h2 : y < x
    · rw [if_pos h2]
      go_enter Tryz.func167, Tryz.ntmps167
      go_wp2
      all_goals (go_ret; exact ⟨rfl, rfl⟩)
    · rw [if_neg h2]
      go_enter Tryz.func167, Tryz.ntmps167
      go_wp2
      all_goals (go_ret; exact ⟨rfl, rfl⟩)

set_option maxRecDepth 100000 in
theorem oplace1_w (x : Pt) (s : Int) (w : World) : Calls Tryz.prog 166 #[.agg #[.int .i64 x.c, .int .i64 x.s, .string x.a], .int .i64 s] w fun e w' => e = .returned (.int .i64 (ocmp x.c s)) ∧ Moves [] w w' := by
  go_enter Tryz.func166, Tryz.ntmps166
  go_wp2_with (go_at_call 167; refine (compareI_w _ _ _).mono ?_; rintro _ _ ⟨rfl, rfl⟩)
  go_ret
  exact ⟨rfl, (Moves.refl _ _).alloc _⟩

set_option maxRecDepth 100000 in
set_option maxHeartbeats 4000000 in
theorem osearch_w (W w : World) (ad : Option Addr) (n cap : Nat) (xs : List Pt) (s : Int) (h : ToldsAt W (.slice ad n cap) xs) (hn : n = xs.length) (m : Moves [] W w) (hr : RiseT xs) (hl : n ≤ 1000000) :
    Calls Tryz.prog 165 #[.slice ad n cap, .int .i64 s, .func (.func 166) #[] #[]] w fun e w' => ∃ i : Nat, e = .returned (.tuple #[.int .i64 (i : Int), .bool (hasT xs s i)]) ∧ PlaceT xs s i ∧ Moves [] w w' := by
  have HN : Hid (n = xs.length) := hn
  have HH : Hid (ToldsAt W (.slice ad n cap) xs) := h
  have HW : Hid (Moves [] W w) := m
  have hcf : ∀ (args : Array Value) (w : World), (callFunc 166 args).run Tryz.prog w = .ok (.enter 166 args) w := fun _ _ => rfl
  clear hn h m
  go_enter Tryz.func165, Tryz.ntmps165
  go_wp2_with fail
  go_loopw [9, 10] (fun vi vj wr => ∃ (i j : Nat), i ≤ j ∧ j ≤ n ∧ vi = .int .i64 (i : Nat) ∧ vj = .int .i64 (j : Nat) ∧ Moves [] w wr ∧ (∀ k x, xs[k]? = some x → k < i → x.c < s) ∧ (∀ k x, xs[k]? = some x → j ≤ k → s ≤ x.c)) (fun vi vj _ => (intOf vj - intOf vi).toNat)
  case atStart => exact ⟨0, n, Nat.zero_le _, Nat.le_refl _, rfl, rfl, Moves.refl _ _, fun k x _ hk => absurd hk (by omega), fun k x hx hk => by have := (List.getElem?_eq_some_iff.1 hx).1; have := HN.out; omega⟩
  case round =>
    obtain ⟨i, j, hij, hjn, rfl, rfl, mr, hlo, hhi⟩ := hrel
    have HLO : Hid (∀ k x, xs[k]? = some x → k < i → x.c < s) := hlo
    have HHI : Hid (∀ k x, xs[k]? = some x → j ≤ k → s ≤ x.c) := hhi
    clear hlo hhi
    by_cases hlt : i < j
    · have hk3 : (i : Int) < j := by omega
      obtain ⟨q, hq⟩ : ∃ q, q = (i + j) / 2 := ⟨_, rfl⟩
      have hqi : i ≤ q := by omega
      have hqj : q < j := by omega
      have hqn : (q : Int) < n := by omega
      have hmid : ((i : Int) + (j : Int)) / 2 = (q : Int) := by omega
      have hmid2 : ((i : Int) + (j : Int)) / 2 ^ 1 = (q : Int) := by omega
      obtain ⟨x, hx⟩ : ∃ x, xs[q]? = some x := ⟨_, List.getElem?_eq_getElem (by have := HN.out; omega)⟩
      obtain ⟨g, off, rfl, y0, y1, y2⟩ := HH.out.at hx
      have z0 := (HW.out.then mr).cell y0
      have z1 := (HW.out.then mr).cell y1
      have z2 := (HW.out.then mr).cell y2
      have HX : Hid (xs[q]? = some x) := hx
      have hsl := ocmp_lt x.c s
      obtain ⟨sc, hsc⟩ : ∃ sc, ocmp x.c s = sc := ⟨_, rfl⟩
      rw [hsc] at hsl
      have HSC : Hid (ocmp x.c s = sc) := hsc
      have HSL : Hid (decide (sc < 0) = decide (x.c < s)) := hsl
      clear hx y0 y1 y2 hsc hsl hq
      by_cases hs : sc < 0
      · go_wp2_with (go_at_call 166; refine (oplace1_w x _ _).mono ?_; rintro _ w2 ⟨rfl, m2⟩; rw [HSC.out])
        go_roundw
        case rel =>
          refine ⟨q + 1, j, by omega, hjn, by go_num, rfl, mr.then m2, fun k y hy hk => ?_, HHI.out⟩
          have hxs : x.c < s := by have := HSL.out; rw [decide_eq_true hs] at this; exact of_decide_eq_true this.symm
          by_cases e : k = q
          · subst e; rw [HX.out] at hy; simp at hy; subst hy; exact hxs
          · exact Int.lt_trans (hr.lt hy HX.out (by omega)) hxs
        case measure => simp [intOf]; omega
      · go_wp2_with (go_at_call 166; refine (oplace1_w x _ _).mono ?_; rintro _ w2 ⟨rfl, m2⟩; rw [HSC.out])
        go_roundw
        case rel =>
          refine ⟨i, q, by omega, by omega, rfl, rfl, mr.then m2, HLO.out, fun k y hy hk => ?_⟩
          have hxs : ¬ x.c < s := by have := HSL.out; rw [decide_eq_false (show ¬ sc < 0 by omega)] at this; exact of_decide_eq_false this.symm
          by_cases e : k = q
          · subst e; rw [HX.out] at hy; simp at hy; subst hy; omega
          · have := hr.lt HX.out hy (by omega)
            omega
        case measure => simp [intOf]; omega
    · have hk3 : ¬ (i : Int) < j := by omega
      obtain rfl : i = j := by omega
      have HP : Hid (PlaceT xs s i) := ⟨by have := HN.out; omega, HLO.out, HHI.out⟩
      by_cases hin : i < n
      · have hin3 : (i : Int) < n := by omega
        obtain ⟨x, hx⟩ : ∃ x, xs[i]? = some x := ⟨_, List.getElem?_eq_getElem (by have := HN.out; omega)⟩
        obtain ⟨g, off, rfl, y0, y1, y2⟩ := HH.out.at hx
        have z0 := (HW.out.then mr).cell y0
        have z1 := (HW.out.then mr).cell y1
        have z2 := (HW.out.then mr).cell y2
        have HA : Hid (hasT xs s i = (ocmp x.c s == 0)) := by unfold Hid hasT; rw [hx, ocmp_eq]
        clear hx y0 y1 y2
        go_wp2_with (go_at_call 166; refine (oplace1_w x _ _).mono ?_; rintro _ w2 ⟨rfl, m2⟩)
        go_ret2
        exact ⟨i, by rw [HA.out]; rfl, HP.out, mr.then m2⟩
      · have hin3 : ¬ (i : Int) < n := by omega
        have HA : Hid (hasT xs s i = false) := by unfold Hid hasT; rw [List.getElem?_eq_none (by have := HN.out; omega)]
        go_wp2_with fail
        go_ret2
        exact ⟨i, by rw [HA.out]; rfl, HP.out, mr⟩

set_option maxRecDepth 100000 in
theorem oplace_w (W w : World) (p : Nat) (a : Option Nat) (xs : List Pt) (s : Int) (i : Nat) (h : CaIs W w p a xs) (hr : RiseT xs) (hl : xs.length ≤ 1000000) (hi : PlaceT xs s i) :
    Calls Tryz.prog 130 #[.pointer (some ⟨p, 0, none⟩), .int .i64 s] w fun e w' => e = .returned (.tuple #[.int .i64 (i : Int), .bool (hasT xs s i)]) ∧ Moves [] w w' := by
  obtain ⟨v, hp, _, hG⟩ := h
  obtain ⟨ad, n, cap, rfl, hn, _⟩ := hG.open
  obtain ⟨c0, _⟩ := one_cell hp
  have hS := osearch_w w w ad n cap xs s hG.at hn.out (Moves.refl _ _) hr (by rw [hn.out]; exact hl)
  have HI : Hid (PlaceT xs s i) := hi
  go_enter Tryz.func130, Tryz.ntmps130
  go_wp2_with (go_at_call 165; refine hS.mono ?_; rintro _ w2 ⟨j, rfl, hP, m2⟩; rw [← placeT_one HI.out hP])
  go_ret2
  exact ⟨rfl, m2⟩
end Go.Proofs.YtfhdodopjgfedaaGreat
