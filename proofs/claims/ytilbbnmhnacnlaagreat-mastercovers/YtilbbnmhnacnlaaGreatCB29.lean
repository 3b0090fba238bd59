/- ours -/
import Derived.Test.YtilbbnmhnacnlaaGreatCMt0
import Derived.RangeFuncNested
import Derived.RangeFuncBound
import Derived.RangeFuncCalls
import Derived.RangeFuncLeaves
import Derived.RangeFuncBox
import Derived.Shelf.Abstract
import Derived.Shelf.RegionOpen
import Derived.WalkKit
import Derived.OwnWalkIn
import Derived.TacticsInMore
import Derived.LoopNIn
import Derived.LoopIn
/-
  Package meta: spans, isNowhere, mayBeAll, and the library's Clone, IndexFunc, ContainsFunc of tablets.
-/
namespace Go.Proofs.YtilbbnmhnacnlaaGreat
open Go.RowKit

def tbBad (x : Ptb) : Bool := decide (x.g < 0) || decide (255 < x.g) || decide (x.n < 1) || decide (1073741824 < x.n)
def mayT (xs : List Ptb) : Int := if (!spCov (xs.map Ptb.sp) || xs.any tbBad) = true then 1 else if 16 < xs.length then 13 else 0

set_option maxRecDepth 100000 in
theorem mtNowhere_w (x : Ptb) (w : World) : Calls Tryz.prog 78 #[.agg #[.string x.lo, .string x.hi, .int .i64 x.g, .int .i64 x.n]] w fun e w' => e = .returned (.bool (tbBad x)) ∧ Moves [] w w' := by
  have m1 : Moves [] w (w.alloc (.cells #[.string x.lo, .string x.hi, .int .i64 x.g, .int .i64 x.n] 54)) := (Moves.refl _ _).alloc _
  unfold tbBad
  by_cases h1 : x.g < 0
  · rw [decide_eq_true h1]
    go_enter Tryz.func78, Tryz.ntmps78
    go_wp2_with fail
    all_goals go_ret
    all_goals exact ⟨by simp, m1⟩
  · rw [decide_eq_false h1]
    by_cases h2 : 255 < x.g
    · rw [decide_eq_true h2]
      go_enter Tryz.func78, Tryz.ntmps78
      go_wp2_with fail
      all_goals go_ret
      all_goals exact ⟨by simp, m1⟩
    · rw [decide_eq_false h2]
      by_cases h3 : x.n < 1
      · rw [decide_eq_true h3]
        go_enter Tryz.func78, Tryz.ntmps78
        go_wp2_with fail
        all_goals go_ret
        all_goals exact ⟨by simp, m1⟩
      · rw [decide_eq_false h3]
        go_enter Tryz.func78, Tryz.ntmps78
        go_wp2_with fail
        all_goals go_ret
        all_goals exact ⟨by simp, m1⟩

set_option maxRecDepth 100000 in
set_option maxHeartbeats 2000000 in
theorem mtClone_w (w : World) (g : Nat) (v : Value) (xs : List Ptb) (h : TbL w g v xs) (hl : xs.length ≤ 1000) :
    Calls Tryz.prog 80 #[v] w fun e w' => ∃ v', e = .returned v' ∧ OwnT w' v' xs ∧ Fresh w v' ∧ Moves [] w w' := by
  obtain ⟨ad, n, cap, rfl, hn, hc, HL⟩ := h.open
  clear h
  cases ad with
  | none =>
    obtain ⟨e1, e2, e3, e4⟩ := HL.out.len
    have hcap : cap = 0 := e3 rfl
    have hn0 : n = 0 := by omega
    have hx : xs = [] := List.eq_nil_of_length_eq_zero (by omega)
    subst hx hcap hn0
    clear e1 e2 e3 e4 hc hn HL
    have hpe : ∀ w1 : World, (binOp .eql 51 (.slice none 0 0) (.slice none 0 0)).run Tryz.prog w1 = .ok (.bool true) w1 := by intro w1; kernel_rfl
    go_enter Tryz.func80, Tryz.ntmps80
    go_wp2_with fail
    go_ret
    exact ⟨_, rfl, OwnT.nil _, Fresh.nil _, Moves.refl _ _⟩
  | some y =>
    have mA : Moves [] w (w.alloc (.cells #[] 54)) := (Moves.refl _ _).alloc _
    have hE : OwnT (w.alloc (.cells #[] 54)) (.slice (some ⟨w.heap.size, 0, none⟩) 0 0) [] := OwnT.empty (heap_alloc_new w _)
    have hFE : Fresh w (.slice (some ⟨w.heap.size, 0, none⟩) 0 0) := fun k hk => Nat.le_of_eq (by simpa [Value.ownBlock] using hk)
    have hY := HL.out.moves mA (by simp)
    have HL2 : Hid (xs.length ≤ 1000) := hl
    have HY : Hid (TbL (w.alloc (.cells #[] 54)) g (.slice (some y) n cap) xs) := hY
    clear hY hl HL
    have hpe : ∀ w1 : World, (binOp .eql 51 (.slice (some y) n cap) (.slice none 0 0)).run Tryz.prog w1 = .ok (.bool false) w1 := by intro w1; kernel_rfl
    go_enter Tryz.func80, Tryz.ntmps80
    go_wp2_with (refine tabs_append _ _ rfl _ _ g [] xs rfl rfl rfl hE HY.out (by have := HL2.out; simp; omega) ?_; intro v' w1 hO m1 hla)
    go_ret
    refine ⟨v', rfl, by simpa using hO, ?_, ?_⟩
    · exact lain_fresh (v := .slice (some ⟨w.heap.size, 0, none⟩) 0 0) hFE mA.size hla
    · exact fresh_trans mA hFE m1

set_option maxRecDepth 100000 in
set_option maxHeartbeats 4000000 in
theorem mtSpans_w (w : World) (g : Nat) (v : Value) (xs : List Ptb) (h : TbL w g v xs) (hl : xs.length ≤ 1000) :
    Calls Tryz.prog 76 #[v] w fun e w' => ∃ v', e = .returned v' ∧ OwnS w' v' (xs.map Ptb.sp) ∧ Moves [] w w' := by
  obtain ⟨ad, n, cap, rfl, hn, hc, HL⟩ := h.open
  clear h
  have HB : Hid (xs.length ≤ 1000) := hl
  clear hl
  go_enter Tryz.func76, Tryz.ntmps76
  go_wp2_with fail
  go_loopw [3, 8] (fun vu vi wr => ∃ (i : Nat) (vo : Value), i ≤ n ∧ vo = vu ∧ vi = .int .i64 (i : Nat) ∧ Moves [] w wr ∧ OwnS wr vo ((xs.take i).map Ptb.sp) ∧ Fresh w vo) (fun _ vi _ => n - (intOf vi).toNat)
  case atStart => exact ⟨0, _, Nat.zero_le _, rfl, rfl, Moves.refl _ _, OwnS.nil _, Fresh.nil _⟩
  case round =>
    obtain ⟨i, vo, hin, rfl, rfl, mr, hO, hF⟩ := hrel
    have HO : Hid (OwnS wr vo ((xs.take i).map Ptb.sp)) := hO
    by_cases hlt : i < n
    · have hk3 : (i : Int) < n := by omega
      have hi3 : i < 1000 := by have := hn.out; have := HB.out; omega
      obtain ⟨x, hx⟩ : ∃ x, xs[i]? = some x := ⟨_, List.getElem?_eq_getElem (by have := hn.out; omega)⟩
      obtain ⟨off, rfl, y0, y1, y2, y3⟩ := HL.out.at hx
      replace y0 := mr.cell y0
      replace y1 := mr.cell y1
      replace y2 := mr.cell y2
      replace y3 := mr.cell y3
      have HX : Hid (xs[i]? = some x) := hx
      have mA : Moves [] wr (wr.alloc (.cells #[.string x.lo, .string x.hi, .int .i64 x.g, .int .i64 x.n] 54)) := (Moves.refl _ _).alloc _
      have mB : Moves [] wr ((wr.alloc (.cells #[.string x.lo, .string x.hi, .int .i64 x.g, .int .i64 x.n] 54)).alloc (.cells #[.string x.lo, .string x.hi] 37)) := mA.alloc _
      have hO2 : Hid (OwnS ((wr.alloc (.cells #[.string x.lo, .string x.hi, .int .i64 x.g, .int .i64 x.n] 54)).alloc (.cells #[.string x.lo, .string x.hi] 37)) vo ((xs.take i).map Ptb.sp)) := hO.moves mB (by simp)
      have hsp : Hid (SpsAt ((wr.alloc (.cells #[.string x.lo, .string x.hi, .int .i64 x.g, .int .i64 x.n] 54)).alloc (.cells #[.string x.lo, .string x.hi] 37)) (some ⟨(wr.alloc (.cells #[.string x.lo, .string x.hi, .int .i64 x.g, .int .i64 x.n] 54)).heap.size, 0, none⟩) [x.sp]) := SpsAt.block (xs := [x.sp]) (heap_alloc_new _ _)
      rw [World.size_alloc] at hsp
      clear hx hO
      go_wp2_with (refine spans_append _ _ rfl _ _ _ _ ((xs.take i).map Ptb.sp) [x.sp] rfl rfl rfl hO2.out hsp.out rfl (by simp) (by have := HB.out; simp; omega) ?_; intro v' w1 hO1 m1 hla; obtain ⟨ad', n', cap', rfl, hn'⟩ := hO1.open)
      go_roundw
      case rel =>
        refine ⟨i + 1, _, by omega, rfl, by go_num, fresh_trans (mr.then mB) hF m1, ?_, lain_fresh hF (mr.then mB).size hla⟩
        rw [List.take_add_one, HX.out]
        simpa using hO1
      case measure => simp [intOf]; omega
    · obtain rfl : i = n := by omega
      have hk3 : ¬ (i : Int) < i := by omega
      have e : xs.take i = xs := List.take_of_length_le (by have := hn.out; omega)
      rw [e] at HO
      obtain ⟨ad', n', cap', rfl, hn'⟩ := HO.out.open
      go_wp2_with fail
      go_ret
      exact ⟨_, rfl, HO.out, mr⟩

set_option maxRecDepth 100000 in
set_option maxHeartbeats 4000000 in
theorem mtIndex_w (W w : World) (g : Nat) (ad : Option Addr) (n cap : Nat) (xs : List Ptb) (h : TbL W g (.slice ad n cap) xs) (m : Moves [] W w) (hl : xs.length ≤ 1000) (F : Nat) (p : Ptb → Bool)
    (hcf : ∀ (args : Array Value) (w : World), (callFunc F args).run Tryz.prog w = .ok (.enter F args) w)
    (hp : ∀ (x : Ptb) (w1 : World), Moves [] W w1 → Calls Tryz.prog F #[.agg #[.string x.lo, .string x.hi, .int .i64 x.g, .int .i64 x.n]] w1 fun e w' => e = .returned (.bool (p x)) ∧ Moves [] w1 w') :
    Calls Tryz.prog 115 #[.slice ad n cap, .func (.func F) #[] #[]] w fun e w' => ∃ i : Int, e = .returned (.int .i64 i) ∧ Hid (decide (0 ≤ i) = xs.any p) ∧ Moves [] w w' := by
  have hn : Hid (n = xs.length) := h.len.1
  have HL : Hid (TbL W g (.slice ad n cap) xs) := h
  have HB : Hid (xs.length ≤ 1000) := hl
  clear h hl
  go_enter Tryz.func115, Tryz.ntmps115
  go_wp2_with fail
  go_loopw [8] (fun vi wr => ∃ (i : Nat), i ≤ n ∧ vi = .int .i64 (i : Nat) ∧ Moves [] w wr ∧ Hid ((xs.take i).any p = false)) (fun vi _ => n - (intOf vi).toNat)
  case atStart => exact ⟨0, Nat.zero_le _, rfl, Moves.refl _ _, rfl⟩
  case round =>
    obtain ⟨i, hin, rfl, mr, hO⟩ := hrel
    by_cases hlt : i < n
    · have hk3 : (i : Int) < n := by omega
      have hi3 : i < 1000 := by have := hn.out; have := HB.out; omega
      obtain ⟨x, hx⟩ : ∃ x, xs[i]? = some x := ⟨_, List.getElem?_eq_getElem (by have := hn.out; omega)⟩
      obtain ⟨off, rfl, y0, y1, y2, y3⟩ := HL.out.at hx
      have M : Moves [] W wr := m.then mr
      replace y0 := M.cell y0
      replace y1 := M.cell y1
      replace y2 := M.cell y2
      replace y3 := M.cell y3
      have HX : Hid (xs[i]? = some x) := hx
      clear hx
      go_wp2_with fail
      refine (hp x wr M).mono ?_
      rintro _ w2 ⟨rfl, m2⟩
      cases hb : p x with
      | true =>
        go_wp2_with fail
        go_ret
        refine ⟨_, rfl, ?_, mr.then m2⟩
        rw [show xs.any p = true from List.any_eq_true.2 ⟨x, List.mem_of_getElem? HX.out, hb⟩]
        exact decide_eq_true (by omega)
      | false =>
        go_wp2_with fail
        go_roundw
        case rel =>
          refine ⟨i + 1, by omega, by go_num, mr.then m2, ?_⟩
          rw [List.take_add_one, HX.out]
          simp only [Option.toList_some, List.any_append, hO.out, List.any_cons, hb, List.any_nil]
          rfl
        case measure => simp [intOf]; omega
    · obtain rfl : i = n := by omega
      have hk3 : ¬ (i : Int) < i := by omega
      have e : xs.take i = xs := List.take_of_length_le (by have := hn.out; omega)
      rw [e] at hO
      go_wp2_with fail
      go_ret
      refine ⟨_, rfl, ?_, mr⟩
      rw [hO.out]
      rfl
set_option maxRecDepth 100000 in
theorem mtContains_w (W w : World) (g : Nat) (ad : Option Addr) (n cap : Nat) (xs : List Ptb) (h : TbL W g (.slice ad n cap) xs) (m : Moves [] W w) (hl : xs.length ≤ 1000) (F : Nat) (p : Ptb → Bool)
    (hcf : ∀ (args : Array Value) (w : World), (callFunc F args).run Tryz.prog w = .ok (.enter F args) w)
    (hp : ∀ (x : Ptb) (w1 : World), Moves [] W w1 → Calls Tryz.prog F #[.agg #[.string x.lo, .string x.hi, .int .i64 x.g, .int .i64 x.n]] w1 fun e w' => e = .returned (.bool (p x)) ∧ Moves [] w1 w') :
    Calls Tryz.prog 77 #[.slice ad n cap, .func (.func F) #[] #[]] w fun e w' => e = .returned (.bool (xs.any p)) ∧ Moves [] w w' := by
  have hi := mtIndex_w W w g ad n cap xs h m hl F p hcf hp
  clear h hp
  go_enter Tryz.func77, Tryz.ntmps77
  go_wp2_with fail
  refine hi.mono ?_
  rintro _ w2 ⟨i, rfl, hd, m2⟩
  go_wp2_with fail
  go_ret
  refine ⟨?_, m2⟩
  rw [← hd.out]
  rfl

set_option maxRecDepth 100000 in
set_option maxHeartbeats 4000000 in
theorem mtIndex1_w (W w : World) (g : Nat) (ad : Option Addr) (n cap : Nat) (xs : List Ptb) (h : TbL W g (.slice ad n cap) xs) (m : Moves [] W w) (hl : xs.length ≤ 1000) (F : Nat) (q : Value) (p : Ptb → Bool)
    (hcf : ∀ (args : Array Value) (w : World), (callFunc F args).run Tryz.prog w = .ok (.enter F args) w)
    (hp : ∀ (x : Ptb) (w1 : World), Moves [] W w1 → Calls Tryz.prog F #[.agg #[.string x.lo, .string x.hi, .int .i64 x.g, .int .i64 x.n], q] w1 fun e w' => e = .returned (.bool (p x)) ∧ Moves [] w1 w') :
    Calls Tryz.prog 115 #[.slice ad n cap, .func (.func F) #[] #[q]] w fun e w' => ∃ i : Int, e = .returned (.int .i64 i) ∧ Hid (decide (0 ≤ i) = xs.any p) ∧ Moves [] w w' := by
  have hn : Hid (n = xs.length) := h.len.1
  have HL : Hid (TbL W g (.slice ad n cap) xs) := h
  have HB : Hid (xs.length ≤ 1000) := hl
  clear h hl
  go_enter Tryz.func115, Tryz.ntmps115
  go_wp2_with fail
  go_loopw [8] (fun vi wr => ∃ (i : Nat), i ≤ n ∧ vi = .int .i64 (i : Nat) ∧ Moves [] w wr ∧ Hid ((xs.take i).any p = false)) (fun vi _ => n - (intOf vi).toNat)
  case atStart => exact ⟨0, Nat.zero_le _, rfl, Moves.refl _ _, rfl⟩
  case round =>
    obtain ⟨i, hin, rfl, mr, hO⟩ := hrel
    by_cases hlt : i < n
    · have hk3 : (i : Int) < n := by omega
      have hi3 : i < 1000 := by have := hn.out; have := HB.out; omega
      obtain ⟨x, hx⟩ : ∃ x, xs[i]? = some x := ⟨_, List.getElem?_eq_getElem (by have := hn.out; omega)⟩
      obtain ⟨off, rfl, y0, y1, y2, y3⟩ := HL.out.at hx
      have M : Moves [] W wr := m.then mr
      replace y0 := M.cell y0
      replace y1 := M.cell y1
      replace y2 := M.cell y2
      replace y3 := M.cell y3
      have HX : Hid (xs[i]? = some x) := hx
      clear hx
      go_wp2_with fail
      refine (hp x wr M).mono ?_
      rintro _ w2 ⟨rfl, m2⟩
      cases hb : p x with
      | true =>
        go_wp2_with fail
        go_ret
        refine ⟨_, rfl, ?_, mr.then m2⟩
        rw [show xs.any p = true from List.any_eq_true.2 ⟨x, List.mem_of_getElem? HX.out, hb⟩]
        exact decide_eq_true (by omega)
      | false =>
        go_wp2_with fail
        go_roundw
        case rel =>
          refine ⟨i + 1, by omega, by go_num, mr.then m2, ?_⟩
          rw [List.take_add_one, HX.out]
          simp only [Option.toList_some, List.any_append, hO.out, List.any_cons, hb, List.any_nil]
          rfl
        case measure => simp [intOf]; omega
    · obtain rfl : i = n := by omega
      have hk3 : ¬ (i : Int) < i := by omega
      have e : xs.take i = xs := List.take_of_length_le (by have := hn.out; omega)
      rw [e] at hO
      go_wp2_with fail
      go_ret
      refine ⟨_, rfl, ?_, mr⟩
      rw [hO.out]
      rfl
set_option maxRecDepth 100000 in
theorem mtContains1_w (W w : World) (g : Nat) (ad : Option Addr) (n cap : Nat) (xs : List Ptb) (h : TbL W g (.slice ad n cap) xs) (m : Moves [] W w) (hl : xs.length ≤ 1000) (F : Nat) (q : Value) (p : Ptb → Bool)
    (hcf : ∀ (args : Array Value) (w : World), (callFunc F args).run Tryz.prog w = .ok (.enter F args) w)
    (hp : ∀ (x : Ptb) (w1 : World), Moves [] W w1 → Calls Tryz.prog F #[.agg #[.string x.lo, .string x.hi, .int .i64 x.g, .int .i64 x.n], q] w1 fun e w' => e = .returned (.bool (p x)) ∧ Moves [] w1 w') :
    Calls Tryz.prog 77 #[.slice ad n cap, .func (.func F) #[] #[q]] w fun e w' => e = .returned (.bool (xs.any p)) ∧ Moves [] w w' := by
  have hi := mtIndex1_w W w g ad n cap xs h m hl F q p hcf hp
  clear h hp
  go_enter Tryz.func77, Tryz.ntmps77
  go_wp2_with fail
  refine hi.mono ?_
  rintro _ w2 ⟨i, rfl, hd, m2⟩
  go_wp2_with fail
  go_ret
  refine ⟨?_, m2⟩
  rw [← hd.out]
  rfl

set_option maxRecDepth 100000 in
set_option maxHeartbeats 2000000 in
theorem mtMayBe_w (w : World) (g : Nat) (v : Value) (xs : List Ptb) (h : TbL w g v xs) (hl : xs.length ≤ 1000) :
    Calls Tryz.prog 43 #[v] w fun e w' => e = .returned (.int .i64 (mayT xs)) ∧ Moves [] w w' := by
  have hsp := mtSpans_w w g v xs h hl
  obtain ⟨ad, n, cap, rfl, hn, hc, HL⟩ := h.open
  have hcf : ∀ (args : Array Value) (w : World), (callFunc 78 args).run Tryz.prog w = .ok (.enter 78 args) w := fun _ _ => rfl
  have hct := fun (w1 : World) (m : Moves [] w w1) => mtContains_w w w1 g ad n cap xs h m hl 78 tbBad hcf (fun x w1 _ => mtNowhere_w x w1)
  have HB : Hid (xs.length ≤ 1000) := hl
  clear h hl hcf
  unfold mayT
  cases h1 : spCov (xs.map Ptb.sp) with
  | false =>
    rw [if_pos (by simp)]
    have H1 : Hid (spCov (xs.map Ptb.sp) = false) := h1
    clear h1
    go_enter Tryz.func43, Tryz.ntmps43
    go_wp2_with fail
    refine hsp.mono ?_
    rintro _ w2 ⟨v2, rfl, hO, m2⟩
    obtain ⟨ad2, cap2, rfl, hc2, hnil2, hS2⟩ := hO.at
    have hcov := spCover_w w2 ad2 _ cap2 (xs.map Ptb.sp) hS2 rfl hc2 (by have := HB.out; simp; omega)
    rw [H1.out] at hcov
    obtain ⟨n2, hn2⟩ : ∃ n2, (xs.map Ptb.sp).length = n2 := ⟨_, rfl⟩
    rw [hn2] at hcov ⊢
    clear hn2 hO hS2 hc2 hnil2
    go_wp2_with fail
    refine hcov.mono ?_
    rintro _ w3 ⟨rfl, m3⟩
    go_wp2_with fail
    go_ret
    exact ⟨rfl, m2.then m3⟩
  | true =>
    have H1 : Hid (spCov (xs.map Ptb.sp) = true) := h1
    clear h1
    cases h2 : xs.any tbBad with
    | true =>
      rw [if_pos (by simp)]
      have H2 : Hid (xs.any tbBad = true) := h2
      clear h2
      go_enter Tryz.func43, Tryz.ntmps43
      go_wp2_with fail
      refine hsp.mono ?_
      rintro _ w2 ⟨v2, rfl, hO, m2⟩
      obtain ⟨ad2, cap2, rfl, hc2, hnil2, hS2⟩ := hO.at
      have hcov := spCover_w w2 ad2 _ cap2 (xs.map Ptb.sp) hS2 rfl hc2 (by have := HB.out; simp; omega)
      rw [H1.out] at hcov
      obtain ⟨n2, hn2⟩ : ∃ n2, (xs.map Ptb.sp).length = n2 := ⟨_, rfl⟩
      rw [hn2] at hcov ⊢
      clear hn2 hO hS2 hc2 hnil2
      go_wp2_with fail
      refine hcov.mono ?_
      rintro _ w3 ⟨rfl, m3⟩
      go_wp2_with fail
      refine (hct w3 (m2.then m3)).mono ?_
      rintro _ w4 ⟨rfl, m4⟩
      rw [H2.out]
      go_wp2_with fail
      go_ret
      exact ⟨rfl, (m2.then m3).then m4⟩
    | false =>
      rw [if_neg (by simp)]
      have H2 : Hid (xs.any tbBad = false) := h2
      clear h2
      rw [← hn.out]
      by_cases h3 : 16 < n
      all_goals go_enter Tryz.func43, Tryz.ntmps43
      all_goals go_wp2_with fail
      all_goals refine hsp.mono ?_
      all_goals rintro _ w2 ⟨v2, rfl, hO, m2⟩
      all_goals obtain ⟨ad2, cap2, rfl, hc2, hnil2, hS2⟩ := hO.at
      all_goals have hcov := spCover_w w2 ad2 _ cap2 (xs.map Ptb.sp) hS2 rfl hc2 (by have := HB.out; simp; omega)
      all_goals rw [H1.out] at hcov
      all_goals obtain ⟨n2, hn2⟩ : ∃ n2, (xs.map Ptb.sp).length = n2 := ⟨_, rfl⟩
      all_goals rw [hn2] at hcov ⊢
      all_goals clear hn2 hO hS2 hc2 hnil2
      all_goals go_wp2_with fail
      all_goals refine hcov.mono ?_
      all_goals rintro _ w3 ⟨rfl, m3⟩
      all_goals go_wp2_with fail
      all_goals refine (hct w3 (m2.then m3)).mono ?_
      all_goals rintro _ w4 ⟨rfl, m4⟩
      all_goals rw [H2.out]
      all_goals go_wp2_with fail
      all_goals go_ret
      all_goals exact ⟨rfl, (m2.then m3).then m4⟩
end Go.Proofs.YtilbbnmhnacnlaaGreat
/-
  Package meta: inMetas: a list by fours, each in memory of its own: the library's Chunk, a range over its function.
-/
namespace Go.Proofs.YtilbbnmhnacnlaaGreat
open Go.RowKit Go.Shelf
attribute [local go_sem] Oper.semAt_some

set_option maxHeartbeats 1000000 in
theorem mtChunk_w (ad : Option Addr) (n cap : Nat) (w : World) :
    Calls Tryz.prog 79 #[.slice ad n cap, .int .i64 4] w fun e w' => e = .returned (.func (.func 116) #[] #[.pointer (some ⟨w.heap.size, 0, none⟩), .pointer (some ⟨w.heap.size + 1, 0, none⟩)]) ∧ w' = (w.alloc (.cells #[.slice ad n cap] 51)).alloc (.cells #[.int .i64 4] 3) := by
  go_enter Tryz.func79, Tryz.ntmps79
  go_wp2_with fail
  go_ret
  exact ⟨rfl, rfl⟩

def KpT (n₀ p : Nat) (A B : World) : Prop := A.heap.size ≤ B.heap.size ∧ ∀ k, k < n₀ → k ≠ p → B.heap[k]? = A.heap[k]?
theorem KpT.refl (n₀ p : Nat) (A : World) : KpT n₀ p A A := ⟨Nat.le_refl _, fun _ _ _ => rfl⟩
theorem KpT.trans {n₀ p : Nat} {A B C : World} (h : KpT n₀ p A B) (k : KpT n₀ p B C) : KpT n₀ p A C := ⟨Nat.le_trans h.1 k.1, fun i h1 h2 => (k.2 i h1 h2).trans (h.2 i h1 h2)⟩
theorem KpT.cell {n₀ p : Nat} {A B : World} (h : KpT n₀ p A B) {g off : Nat} (h1 : g < n₀) (h2 : g ≠ p) : B.cell? ⟨g, off, none⟩ = A.cell? ⟨g, off, none⟩ := World.cell?_of_block (h.2 g h1 h2)

abbrev Kth (len : Nat) := { k : Nat // k * 4 < len }
def kthV (b off len : Nat) (k : Kth len) : Value := .slice (some ⟨b, off + k.1 * 4 * 4, none⟩) (min 4 (len - k.1 * 4)) (min 4 (len - k.1 * 4))
def kths (len n : Nat) : List (Kth len) := (List.range n).filterMap fun k => if h : k * 4 < len then some ⟨k, h⟩ else none
theorem kths_succ {len n : Nat} (h : n * 4 < len) : kths len (n + 1) = kths len n ++ [⟨n, h⟩] := by
  unfold kths
  rw [List.range_succ, List.filterMap_append]
  simp [h]

set_option maxRecDepth 100000 in
set_option maxHeartbeats 4000000 in
theorem chunk1_in (F : Fence) (n : Nat) (hF : F.fn 116) (hro : F.round = none) (hn : 1 ≤ n) (l Bs Bn n₀ p b off len cap : Nat) (hlen : len ≤ 1000) (hcap : len ≤ cap) (J Jx : List (Kth len) → World → Prop) (hJ : ∀ s A, J s A → J s A.drew)
    (hY : ∀ pre x W, J pre W → pre.length < len → YieldAt F (n - 1) Tryz.prog l #[kthV b off len x] W fun e W' =>
      (e = .returned (.bool true) ∧ J (pre ++ [x]) W' ∧ KpT n₀ p W W') ∨ (e = .returned (.bool false) ∧ Jx (pre ++ [x]) W'))
    (W : World) (h1 : Bs < n₀) (h2 : Bn < n₀) (h3 : Bs ≠ p) (h4 : Bn ≠ p) (hBs : W.cell? ⟨Bs, 0, none⟩ = some (.slice (some ⟨b, off, none⟩) len cap)) (hBn : W.cell? ⟨Bn, 0, none⟩ = some (.int .i64 4)) (h0 : J [] W) :
    CallsIn F n Tryz.prog 116 #[.func (.yield l) #[] #[], .pointer (some ⟨Bs, 0, none⟩), .pointer (some ⟨Bn, 0, none⟩)] W fun e W' => (∃ v, e = .returned v) ∧
      ((∃ ys, ys = kths len ((len + 3) / 4) ∧ J ys W') ∨ (∃ pre, True ∧ Jx pre W')) := by
  refine callsIn_of_wp Tryz.func116 rfl hF ?_ hro
  simp only [Tryz.ntmps116, List.size_toArray, List.length_cons, List.length_nil, Nat.reduceAdd, Nat.reduceSub, Array.replicate_succ, Array.replicate_zero, List.push_toArray, List.append_toArray, List.nil_append, List.cons_append]
  gi_wp2
  gi_loopw [4] (fun vi wr => ∃ (k i : Nat), Hid (i = k * 4) ∧ k ≤ (len + 3) / 4 ∧ vi = .int .i64 (i : Int) ∧ J (kths len k) wr ∧ KpT n₀ p W wr ∧ Hid ((kths len k).length = k))
    (fun i _ => (len + 3) - (intOf i).toNat)
  case atStart => exact ⟨0, 0, rfl, Nat.zero_le _, rfl, h0, KpT.refl _ _ _, rfl⟩
  case round =>
    obtain ⟨k, i, hik, hk, rfl, hJs, hnx, hkl⟩ := hrel
    have hc1 := (hnx.cell (off := 0) h1 h3).trans hBs
    have hc2 := (hnx.cell (off := 0) h2 h4).trans hBn
    have hi3 : i < len + 4 := by have := hik.out; omega
    by_cases hlt : i < len
    · have hlt4 : k * 4 < len := by have := hik.out; omega
      obtain ⟨m, hm⟩ : ∃ m, Hid (min 4 (len - i) = m) := ⟨_, rfl⟩
      have ev : kthV b off len ⟨k, hlt4⟩ = .slice (some ⟨b, off + i * 4, none⟩) m m := by unfold kthV; rw [← hm.out, hik.out]
      obtain ⟨fn, tmps, assign, body, hy, hR⟩ := hY _ ⟨k, hlt4⟩ wr.drew (hJ _ _ hJs) (by have := hkl.out; omega)
      rw [ev] at hy
      have HK : Hid (k * 4 < len) := hlt4
      have hki : (i : Int) < len := by omega
      have hmx : Tryz.prog.follows .mixedOrders = true := by kernel_rfl
      have hm1 : min (4 : Int) ((len - i : Nat) : Int) = (m : Int) := by have := hm.out; omega
      have hml : i + m ≤ len := by have := hm.out; omega
      have hd1 : wr.drew.cell? ⟨Bs, 0, none⟩ = some (.slice (some ⟨b, off, none⟩) len cap) := hc1
      have hd2 : wr.drew.cell? ⟨Bn, 0, none⟩ = some (.int .i64 4) := hc2
      gi_wp2
      gi_region_with_o fail
      all_goals gi_wp2
      all_goals refine hR.mono ?_
      all_goals rintro e W3 (⟨rfl, hJ3, hk3⟩ | ⟨rfl, hJx3⟩)
      all_goals first
        | (have hq3 := (hk3.cell (off := 0) h2 h4).trans hd2
           gi_wp2
           go_roundw
           case rel => exact ⟨k + 1, i + 4, (by have := hik.out; unfold Hid; omega), by omega, by go_num, (by rw [kths_succ HK.out]; exact hJ3), hnx.trans hk3, (by unfold Hid; rw [kths_succ HK.out, List.length_append, hkl.out]; rfl)⟩
           case measure => simp [intOf]; omega)
        | (gi_wp2
           refine bodyPost_ret (results_none rfl _ _ _) rfl ?_
           exact ⟨⟨_, rfl⟩, .inr ⟨_, trivial, hJx3⟩⟩)
    · have hk2 : k = (len + 3) / 4 := by have := hik.out; omega
      have hni : ¬ (i : Int) < len := by omega
      gi_wp2
      go_end0
      exact ⟨⟨_, rfl⟩, .inl (by rw [← hk2]; exact hJs)⟩
end Go.Proofs.YtilbbnmhnacnlaaGreat
