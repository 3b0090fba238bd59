/-
  row's versions, with, put, drop: for every list the call returns what the chapter's words come to, and writes nothing that was there.
-/
import Derived.Test.YtfegflimnngfaabCRow4
namespace Go.Proofs.Ytfegflimnngfaab
open Go.RowKit

def pvers (R : List Pcol) (s : ByteArray) : List Pver := match R.find? (fun c => neq c.name s) with
  | none => []
  | some c => c.l
def ngt (a b : ByteArray) : Bool := !(nlt a b || neq a b)
def pwith (R : List Pcol) (s : ByteArray) (l : List Pver) : List Pcol := R.filter (fun c => nlt c.name s) ++ (if l.length = 0 then [] else [⟨s, l⟩]) ++ R.filter (fun c => ngt c.name s)
def pput (l : List Pver) (v : Pver) : List Pver := (l.filter (fun x => decide (v.t < x.t)) ++ [v] ++ l.filter (fun x => decide (x.t < v.t))).take 2
def pdrop (l : List Pver) (t : Int) : List Pver := l.filter (fun x => x.t != t)

theorem find_none_take {α : Type} (p : α → Bool) {l : List α} {k : Nat} {x : α} (hx : l[k]? = some x) (h : (l.take k).find? p = none) (hp : p x = false) : (l.take (k + 1)).find? p = none := by
  rw [List.take_add_one, hx, List.find?_append, h]
  simp [hp]
theorem find_some_take {α : Type} (p : α → Bool) {l : List α} {k : Nat} {x : α} (hx : l[k]? = some x) (h : (l.take k).find? p = none) (hp : p x = true) : l.find? p = some x := by
  have e : l = l.take k ++ x :: l.drop (k + 1) := by
    have hlt := (List.getElem?_eq_some_iff.1 hx).1
    have hg := (List.getElem?_eq_some_iff.1 hx).2
    rw [← hg, List.getElem_cons_drop, List.take_append_drop]
  rw [e, List.find?_append, h]
  simp [hp]
theorem filter_take {α : Type} (p : α → Bool) {l : List α} {k : Nat} {x : α} (hx : l[k]? = some x) : (l.take (k + 1)).filter p = (l.take k).filter p ++ (if p x then [x] else []) := by
  rw [List.take_add_one, hx, List.filter_append]
  cases hp : p x <;> simp [hp]

set_option maxRecDepth 100000 in
set_option maxHeartbeats 4000000 in
theorem versions_w (W w : World) (v : Value) (xs : List Pcol) (s : ByteArray) (h : RowAt W v xs) (m : Moves [] W w) (hsm : xs.length ≤ 1048576) :
    Calls Try.prog 71 #[v, .string s] w fun e w' => ∃ ad n cap, e = .returned (.slice ad n cap) ∧ VersAt W (.slice ad n cap) (pvers xs s) ∧ Moves [] w w' := by
  obtain ⟨lv, rfl, h⟩ := h
  obtain ⟨ad, cap, hlv, hcap⟩ := h.slice
  obtain ⟨n, HN⟩ : ∃ n, Hid (n = xs.length) := ⟨_, rfl⟩
  rw [← HN.out] at hlv hcap hsm
  subst hlv
  go_enter Try.func71, Try.ntmps71
  go_wp2_with fail
  have m1 : Moves [] w (w.alloc (.cells #[.slice ad n cap] 25)) := (Moves.refl _ _).alloc _
  go_loopw [10] (fun i wr => ∃ k : Nat, k ≤ n ∧ i = .int .i64 k ∧ Moves [] w wr ∧ (xs.take k).find? (fun c => neq c.name s) = none) (fun i _ => n - (intOf i).toNat)
  case atStart => exact ⟨0, Nat.zero_le _, rfl, m1, by simp⟩
  case round =>
    obtain ⟨k, hk, rfl, mr, hnone⟩ := hrel
    have HNone : Hid ((xs.take k).find? (fun c => neq c.name s) = none) := hnone
    clear hnone
    by_cases hlt : k < n
    · have hk3 : (k : Int) < n := by omega
      obtain ⟨x, hx⟩ : ∃ x, xs[k]? = some x := ⟨_, List.getElem?_eq_getElem (by rw [← HN.out]; exact hlt)⟩
      obtain ⟨g, off, a2, n2, c2, rfl, e0, e1, en, hle, hV⟩ := h.at hx
      have d0 := (m.then mr).cell e0
      have d1 := (m.then mr).cell e1
      have HX : Hid (xs[k]? = some x) := hx
      have HV : Hid (VersAt W (.slice a2 n2 c2) x.l) := hV
      clear e0 e1 hx en hV h
      cases hq : neq x.name s with
      | true =>
        have hf := find_some_take (fun c => neq c.name s) HX.out HNone.out hq
        have he : Hid (pvers xs s = x.l) := by unfold Hid pvers; rw [hf]
        have hbe : (x.name.toList == s.toList) = true := hq
        clear hf hq
        go_wp2_with fail
        go_ret
        exact ⟨_, _, _, rfl, by rw [he.out]; exact HV.out, mr.alloc _⟩
      | false =>
        have hf := find_none_take (fun c => neq c.name s) HX.out HNone.out hq
        have hbe : (x.name.toList == s.toList) = false := hq
        have HF : Hid ((xs.take (k + 1)).find? (fun c => neq c.name s) = none) := hf
        clear hf hq
        go_wp2_with fail
        go_roundw
        case rel => exact ⟨k + 1, by omega, by go_num, mr.alloc _, HF.out⟩
        case measure => simp [intOf]; omega
    · have hk3 : ¬ (k : Int) < n := by omega
      obtain rfl : k = n := by omega
      have hf := HNone.out
      rw [HN.out, List.take_length] at hf
      have he : Hid (pvers xs s = []) := by unfold Hid pvers; rw [hf]
      clear hf h
      go_wp2_with fail
      go_ret
      exact ⟨_, _, _, rfl, by rw [he.out]; exact VersAt.nil _, mr⟩

set_option maxRecDepth 100000 in
set_option maxHeartbeats 4000000 in
theorem drop_w (W w : World) (ad : Option Addr) (n cap : Nat) (xs : List Pver) (t : Int) (h : VersAt W (.slice ad n cap) xs) (hn : Hid (n = xs.length)) (m : Moves [] W w) (hsm : n ≤ 1048576) :
    Calls Try.prog 74 #[.slice ad n cap, .int .i64 t] w fun e w' => ∃ ad' n' cap', e = .returned (.slice ad' n' cap') ∧ Hid (n' = (pdrop xs t).length) ∧ GrowV w w' (.slice ad' n' cap') (pdrop xs t) ∧ Moves [] w w' := by
  unfold pdrop
  go_enter Try.func74, Try.ntmps74
  go_wp2_with fail
  go_loopw [5, 10] (fun l i wr => ∃ k : Nat, k ≤ n ∧ i = .int .i64 k ∧ Moves [] w wr ∧ GrowV w wr l ((xs.take k).filter (fun x => x.t != t))) (fun _ i _ => n - (intOf i).toNat)
  case atStart => exact ⟨0, Nat.zero_le _, rfl, Moves.refl _ _, by simpa using GrowV.nil _ _⟩
  case round =>
    obtain ⟨k, hk, rfl, mr, hG⟩ := hrel
    obtain ⟨ad4, n4, cap4, rfl, hn4⟩ := hG.open
    have HG : Hid (GrowV w wr (.slice ad4 n4 cap4) ((xs.take k).filter (fun x => x.t != t))) := hG
    clear hG
    by_cases hlt : k < n
    · have hk3 : (k : Int) < n := by omega
      obtain ⟨x, hx⟩ : ∃ x, xs[k]? = some x := ⟨_, List.getElem?_eq_getElem (by rw [← hn.out]; exact hlt)⟩
      obtain ⟨g, off, a2, n2, c2, rfl, e0, e1, e2, e3, hV⟩ := h.at hx
      have d0 := (m.then mr).cell e0
      have d1 := (m.then mr).cell e1
      have d2 := (m.then mr).cell e2
      have d3 := (m.then mr).cell e3
      have hft := filter_take (fun x : Pver => x.t != t) hx
      have HVC : Hid (VC W [.int .i64 x.v.kind, .slice a2 n2 c2, .float .f64 x.v.n] x.v) := hV
      clear e0 e1 e2 e3 hx hV h
      cases hq : (x.t != t) with
      | false =>
        rw [hq] at hft
        have HF : Hid ((xs.take (k + 1)).filter (fun x => x.t != t) = (xs.take k).filter (fun x => x.t != t)) := hft.trans (by simp)
        have hxt : Hid (x.t = t) := by unfold Hid; simpa using hq
        clear hft hq
        rw [hxt.out] at d0
        go_wp2_with fail
        go_roundw
        case rel => exact ⟨k + 1, by omega, by go_num, mr.alloc _, by rw [HF.out]; exact HG.out.moves0 ((Moves.refl _ _).alloc _)⟩
        case measure => simp [intOf]; omega
      | true =>
        rw [hq] at hft
        have HF : Hid ((xs.take (k + 1)).filter (fun x => x.t != t) = (xs.take k).filter (fun x => x.t != t) ++ [x]) := hft.trans (by simp)
        clear hft
        have ma : Moves [] wr ((wr.alloc (.cells #[.int .i64 x.t, .int .i64 x.v.kind, .slice a2 n2 c2, .float .f64 x.v.n] 69)).alloc (.cells #[.int .i64 x.t, .int .i64 x.v.kind, .slice a2 n2 c2, .float .f64 x.v.n] 69)) := ((Moves.refl _ _).alloc _).alloc _
        have hvn := vers_new' wr (.cells #[.int .i64 x.t, .int .i64 x.v.kind, .slice a2 n2 c2, .float .f64 x.v.n] 69) (.int .i64 x.t) _ _ _ x ⟨_, rfl, HVC.out.moves ((m.then mr).alloc _)⟩
        have hG1 := HG.out.moves0 ma
        have hM1 := mr.then ma
        have hbd : ((xs.take k).filter (fun x => x.t != t)).length + [x].length ≤ 1048576 := by
          have := List.length_filter_le (fun x : Pver => x.t != t) (xs.take k)
          have := List.length_take_le k xs
          simp
          omega
        go_wp2_with (at_builtin; refine growV_append (.tmp 18) (.tmp 20) rfl _ _ _ [x] rfl rfl (by rfl) hG1 hvn hM1 hbd ?_; intro v8 w8 hG8 M8 m8 s8 l8; have hsl := hG8.open; obtain ⟨ad9, n9, cap9, rfl, hn9⟩ := hsl)
        go_roundw
        case rel => exact ⟨k + 1, by omega, by go_num, M8, by rw [HF.out]; exact hG8⟩
        case measure => simp [intOf]; omega
    · have hk3 : ¬ (k : Int) < n := by omega
      obtain rfl : k = n := by omega
      have hG := HG.out
      have hn5 := hn4.out
      rw [hn.out, List.take_length] at hG hn5
      have HG2 : Hid (GrowV w wr (.slice ad4 n4 cap4) (xs.filter (fun x => x.t != t))) := hG
      have HN2 : Hid (n4 = (xs.filter (fun x => x.t != t)).length) := hn5
      clear hG h hn5
      go_wp2_with fail
      go_ret
      exact ⟨_, _, _, rfl, HN2, HG2.out, mr⟩

/-- A store into a row's box. -/
theorem GrowC.setRow {W w : World} {v : Value} {xs : List Pcol} (h : GrowC W w v xs) {p : Nat} {c : Array Value} {fz : Nat × Nat} (hp : w.heap[p]? = some (.cells c 25 fz)) (u : Value) : GrowC W (w.setCell ⟨p, 0, none⟩ u) v xs := by
  refine h.moves (moves_set _ _ _ _) (fun b hb hbs => ?_) (Stay.set hp (by decide) _)
  simp at hbs
  subst hbs
  exact h.neT hp (by decide) (by rw [hb]; simp)
/-- Two lists of the call's own that share no block. -/
def Apart (u v : Value) : Prop := ∀ k, u.ownBlock = some k → v.ownBlock ≠ some k
theorem Apart.symm {u v : Value} (h : Apart u v) : Apart v u := fun k hk hu => h k hu hk
theorem Apart.grown {w : World} {u u' v : Value} (h : Apart u v) (hl : Lain w u u') (hv : ∀ k, v.ownBlock = some k → k < w.heap.size) : Apart u' v := by
  intro k hk hvk
  rcases hl with e | e
  · exact h k (by rw [← e]; exact hk) hvk
  · rw [e] at hk
    simp at hk
    have := hv k hvk
    omega
theorem Apart.not {u v : Value} (h : Apart u v) : ∀ k, v.ownBlock = some k → k ∉ u.ownBlock.toList := fun k hk hm => h k (by cases hq : u.ownBlock <;> simp_all) hk
theorem Apart.nil (v : Value) : Apart (.slice none 0 0) v := fun k h => by simp [Value.ownBlock] at h

set_option maxRecDepth 100000 in
set_option maxHeartbeats 4000000 in
theorem with_w (W w : World) (v : Value) (xs : List Pcol) (s : ByteArray) (adl : Option Addr) (nl capl : Nat) (l : List Pver) (h : RowAt W v xs) (hl : VersAt W (.slice adl nl capl) l) (hnl : Hid (nl = l.length)) (m : Moves [] W w) (hsm : xs.length ≤ 100000) :
    Calls Try.prog 72 #[v, .string s, .slice adl nl capl] w fun e w' => ∃ ad n cap, e = .returned (.agg #[.slice ad n cap]) ∧ GrowC w w' (.slice ad n cap) (pwith xs s l) ∧ Moves [] w w' := by
  obtain ⟨lv, rfl, h⟩ := h
  obtain ⟨ad, cap, hlv, hcap⟩ := h.slice
  obtain ⟨n, HN⟩ : ∃ n, Hid (n = xs.length) := ⟨_, rfl⟩
  rw [← HN.out] at hlv hcap hsm
  subst hlv
  have HL : Hid (VersAt W (.slice adl nl capl) l) := hl
  clear hl
  go_enter Try.func72, Try.ntmps72
  go_wp2_with fail
  obtain ⟨w0, hw0⟩ : ∃ w0, (w.alloc (.cells #[.slice ad n cap] 25)).alloc (.cells #[.slice none 0 0] 25) = w0 := ⟨_, rfl⟩
  have m0 : Moves [] w w0 := by rw [← hw0]; exact ((Moves.refl _ _).alloc _).alloc _
  have p2 : w0.heap[w.heap.size + 1]? = some (.cells #[.slice none 0 0] 25 (0, 0)) := by
    obtain ⟨_, h2, _⟩ := boxes (Moves.refl [] ((w.alloc (.cells #[.slice ad n cap] 25)).alloc (.cells #[.slice none 0 0] 25)))
    rw [← hw0]
    exact h2
  rw [hw0]
  clear hw0
  go_loopw [7, 8, 14] (fun u1 u2 i wr => ∃ k : Nat, k ≤ n ∧ i = .int .i64 k ∧ Moves [] w wr ∧ wr.heap[w.heap.size + 1]? = some (.cells #[.slice none 0 0] 25 (0, 0)) ∧ GrowC w wr u1 ((xs.take k).filter (fun c => nlt c.name s)) ∧ GrowC w wr u2 ((xs.take k).filter (fun c => ngt c.name s)) ∧ Apart u1 u2) (fun _ _ i _ => n - (intOf i).toNat)
  case atStart => exact ⟨0, Nat.zero_le _, rfl, m0, p2, by simpa using GrowC.nil _ _, by simpa using GrowC.nil _ _, Apart.nil _⟩
  case round =>
    obtain ⟨k, hk, rfl, mr, q2, hG1, hG2, hap⟩ := hrel
    obtain ⟨ad4, n4, cap4, rfl, hn4⟩ := hG1.open
    obtain ⟨ad5, n5, cap5, rfl, hn5⟩ := hG2.open
    have HG1 : Hid (GrowC w wr (.slice ad4 n4 cap4) ((xs.take k).filter (fun c => nlt c.name s))) := hG1
    have HG2 : Hid (GrowC w wr (.slice ad5 n5 cap5) ((xs.take k).filter (fun c => ngt c.name s))) := hG2
    have HAP : Hid (Apart (.slice ad4 n4 cap4) (.slice ad5 n5 cap5)) := hap
    clear hG1 hG2 hap
    by_cases hlt : k < n
    · have hk3 : (k : Int) < n := by omega
      obtain ⟨x, hx⟩ : ∃ x, xs[k]? = some x := ⟨_, List.getElem?_eq_getElem (by rw [← HN.out]; exact hlt)⟩
      obtain ⟨g, off, a2, n2, c2, rfl, e0, e1, en, hle, hV⟩ := h.at hx
      have d0 := (m.then mr).cell e0
      have d1 := (m.then mr).cell e1
      have hf1 := filter_take (fun c : Pcol => nlt c.name s) hx
      have hf2 := filter_take (fun c : Pcol => ngt c.name s) hx
      have HV : Hid (VersAt W (.slice a2 n2 c2) x.l) := hV
      have hb1 : ((xs.take k).filter (fun c => nlt c.name s)).length + [x].length ≤ 1048576 := by
        have := List.length_filter_le (fun c : Pcol => nlt c.name s) (xs.take k)
        have := List.length_take_le k xs
        simp
        omega
      have hb2 : ((xs.take k).filter (fun c => ngt c.name s)).length + [x].length ≤ 1048576 := by
        have := List.length_filter_le (fun c : Pcol => ngt c.name s) (xs.take k)
        have := List.length_take_le k xs
        simp
        omega
      clear e0 e1 hx en hV h
      have ma1 : Moves [] wr (wr.alloc (.cells #[.string x.name, .slice a2 n2 c2] 67)) := (Moves.refl _ _).alloc _
      have ma : Moves [] wr ((wr.alloc (.cells #[.string x.name, .slice a2 n2 c2] 67)).alloc (.cells #[.string x.name, .slice a2 n2 c2] 67)) := ((Moves.refl _ _).alloc _).alloc _
      have hcn := cols_new' wr (.cells #[.string x.name, .slice a2 n2 c2] 67) (.string x.name) _ x ⟨_, rfl, HV.out.moves ((m.then mr).alloc _)⟩
      have hG1 := HG1.out.moves0 ma
      have hG2 := HG2.out.moves0 ma
      have hM1 := mr.then ma
      have hq2 := ma.at q2 (by simp)
      have hne1 := hG1.neT hq2 (by decide)
      have hne2 := hG2.neT hq2 (by decide)
      cases hq : nlt x.name s with
      | true =>
        have hgt : ngt x.name s = false := by unfold ngt; rw [hq]; rfl
        rw [hq] at hf1
        rw [hgt] at hf2
        have HF1 : Hid ((xs.take (k + 1)).filter (fun c => nlt c.name s) = (xs.take k).filter (fun c => nlt c.name s) ++ [x]) := hf1.trans (by simp)
        have HF2 : Hid ((xs.take (k + 1)).filter (fun c => ngt c.name s) = (xs.take k).filter (fun c => ngt c.name s)) := hf2.trans (by simp)
        have hbl : Op.bytesLess x.name.toList s.toList = true := hq
        clear hf1 hf2 hq hgt
        go_wp2_with (at_builtin; refine growC_append (.tmp 23) (.tmp 25) rfl _ _ _ [x] rfl rfl (by rfl) hG1 hcn hM1 hb1 ?_; intro v8 w8 hG8 M8 m8 s8 l8; have hsl := hG8.open; obtain ⟨ad9, n9, cap9, rfl, hn9⟩ := hsl)
        go_roundw
        case rel => exact ⟨k + 1, by omega, by go_num, M8, m8.at hq2 hne1, by rw [HF1.out]; exact hG8, by rw [HF2.out]; exact hG2.moves m8 HAP.out.not (s8.weak (by intro t ht; rcases ht with rfl | rfl <;> decide)), HAP.out.grown l8 (fun _ hb => hG2.lt hb)⟩
        case measure => simp [intOf]; omega
      | false =>
        have hbl : Op.bytesLess x.name.toList s.toList = false := hq
        cases hqe : neq x.name s with
        | true =>
          have hgt : ngt x.name s = false := by unfold ngt; rw [hq, hqe]; rfl
          rw [hq] at hf1
          rw [hgt] at hf2
          have HF1 : Hid ((xs.take (k + 1)).filter (fun c => nlt c.name s) = (xs.take k).filter (fun c => nlt c.name s)) := hf1.trans (by simp)
          have HF2 : Hid ((xs.take (k + 1)).filter (fun c => ngt c.name s) = (xs.take k).filter (fun c => ngt c.name s)) := hf2.trans (by simp)
          have hbe : (x.name.toList == s.toList) = true := hqe
          clear hf1 hf2 hq hgt hqe
          go_wp2_with fail
          go_roundw
          case rel => exact ⟨k + 1, by omega, by go_num, mr.then ma1, ma1.at q2 (by simp), by rw [HF1.out]; exact HG1.out.moves0 ma1, by rw [HF2.out]; exact HG2.out.moves0 ma1, HAP.out⟩
          case measure => simp [intOf]; omega
        | false =>
          have hgt : ngt x.name s = true := by unfold ngt; rw [hq, hqe]; rfl
          rw [hq] at hf1
          rw [hgt] at hf2
          have HF1 : Hid ((xs.take (k + 1)).filter (fun c => nlt c.name s) = (xs.take k).filter (fun c => nlt c.name s)) := hf1.trans (by simp)
          have HF2 : Hid ((xs.take (k + 1)).filter (fun c => ngt c.name s) = (xs.take k).filter (fun c => ngt c.name s) ++ [x]) := hf2.trans (by simp)
          have hbe : (x.name.toList == s.toList) = false := hqe
          clear hf1 hf2 hq hgt hqe
          go_wp2_with (at_builtin; refine growC_append (.tmp 32) (.tmp 34) rfl _ _ _ [x] rfl rfl (by rfl) hG2 hcn hM1 hb2 ?_; intro v8 w8 hG8 M8 m8 s8 l8; have hsl := hG8.open; obtain ⟨ad9, n9, cap9, rfl, hn9⟩ := hsl)
          go_roundw
          case rel => exact ⟨k + 1, by omega, by go_num, M8, m8.at hq2 hne2, by rw [HF1.out]; exact hG1.moves m8 HAP.out.symm.not (s8.weak (by intro t ht; rcases ht with rfl | rfl <;> decide)), by rw [HF2.out]; exact hG8, (HAP.out.symm.grown l8 (fun _ hb => hG1.lt hb)).symm⟩
          case measure => simp [intOf]; omega
    · have hk3 : ¬ (k : Int) < n := by omega
      obtain rfl : k = n := by omega
      have hA := HG1.out
      have hB := HG2.out
      rw [HN.out, List.take_length] at hA hB
      have hla : (xs.filter (fun c => nlt c.name s)).length ≤ 100000 := by
        have := List.length_filter_le (fun c : Pcol => nlt c.name s) xs
        have := HN.out
        omega
      have hlb : (xs.filter (fun c => ngt c.name s)).length ≤ 100000 := by
        have := List.length_filter_le (fun c : Pcol => ngt c.name s) xs
        have := HN.out
        omega
      clear HG1 HG2 h hn4 hn5
      by_cases hz : nl = 0
      · have he : Hid (pwith xs s l = xs.filter (fun c => nlt c.name s) ++ xs.filter (fun c => ngt c.name s)) := by
          unfold Hid pwith
          rw [if_pos (by rw [← hnl.out]; exact hz), List.append_nil]
        have hbd : (xs.filter (fun c => nlt c.name s)).length + (xs.filter (fun c => ngt c.name s)).length ≤ 1048576 := by omega
        have hBat := hB.at
        subst hz
        have HA : Hid (GrowC w wr (.slice ad4 n4 cap4) (xs.filter (fun c => nlt c.name s))) := hA
        have hne1 := hA.neT q2 (by decide)
        clear hA hB
        go_wp2_with (at_builtin; refine growC_append (.tmp 46) (.tmp 47) rfl _ _ _ _ rfl rfl (by rfl) HA.out hBat mr hbd ?_; intro v8 w8 hG8 M8 m8 s8 l8; have hsl := hG8.open; obtain ⟨ad9, n9, cap9, rfl, hn9⟩ := hsl; have c8 := m8.at q2 hne1; obtain ⟨f0, f1⟩ := one_cell c8)
        try simp only [Exit.inBlock, Exit.then]
        exact bodyPost_ret (ret_row rfl _ _ _ _ rfl (set_one c8 _)) rfl ⟨_, _, _, rfl, by rw [he.out]; exact hG8.setRow c8 _, M8.setCell (.inr (by show _ ≤ _ + 1; omega)) _⟩
      · have he : Hid (pwith xs s l = xs.filter (fun c => nlt c.name s) ++ [⟨s, l⟩] ++ xs.filter (fun c => ngt c.name s)) := by
          unfold Hid pwith
          rw [if_neg (by rw [← hnl.out]; exact hz)]
        have hz' : (0 : Int) < nl := by omega
        have hz3 : 0 < nl := by omega
        have ma : Moves [] wr (wr.alloc (.cells #[.string s, .slice adl nl capl] 67)) := (Moves.refl _ _).alloc _
        have hcn := cols_new wr (.string s) (.slice adl nl capl) ⟨s, l⟩ ⟨_, rfl, HL.out.moves (m.then mr)⟩
        have hA1 := hA.moves0 ma
        have hB1 := hB.moves0 ma
        have hbd : (xs.filter (fun c => nlt c.name s)).length + [(⟨s, l⟩ : Pcol)].length ≤ 1048576 := by simp; omega
        have hbd2 : (xs.filter (fun c => nlt c.name s) ++ [(⟨s, l⟩ : Pcol)]).length + (xs.filter (fun c => ngt c.name s)).length ≤ 1048576 := by simp; omega
        have M1 := mr.then ma
        have c1 := ma.at q2 (by simp)
        have hne1 := hA1.neT c1 (by decide)
        clear hA hB
        go_wp2_with (first | (at_builtin; refine growC_append (.tmp 40) (.tmp 44) rfl _ _ _ [⟨s, l⟩] rfl rfl (by rfl) hA1 hcn M1 hbd ?_; intro v6 w6 hG6 M6 m6 s6 l6; have hsl := hG6.open; obtain ⟨ad6, n6, cap6, rfl, hn6⟩ := hsl; have c6 := m6.at c1 hne1; have hB6 := (hB1.moves m6 HAP.out.not (s6.weak (by intro t ht; rcases ht with rfl | rfl <;> decide))).at; have hne6 := hG6.neT c6 (by decide)) | (at_builtin; refine growC_append (.tmp 46) (.tmp 47) rfl _ _ _ _ rfl rfl (by rfl) hG6 hB6 M6 hbd2 ?_; intro v8 w8 hG8 M8 m8 s8 l8; have hsl := hG8.open; obtain ⟨ad9, n9, cap9, rfl, hn9⟩ := hsl; have c8 := m8.at c6 hne6; obtain ⟨f0, f1⟩ := one_cell c8))
        try simp only [Exit.inBlock, Exit.then]
        exact bodyPost_ret (ret_row rfl _ _ _ _ rfl (set_one c8 _)) rfl ⟨_, _, _, rfl, by rw [he.out]; exact hG8.setRow c8 _, M8.setCell (.inr (by show _ ≤ _ + 1; omega)) _⟩
end Go.Proofs.Ytfegflimnngfaab
