/-
  Row5, Row6, Row7, Row8: our texts of these names, laid into one.
-/
import Derived.Test.YtdngndkdkbggkaaCRow4
import Derived.Test.YtdngndkdkbggkaaCRow2
/-
  row's versions, with, put, drop: for every list the call returns what the chapter's words come to, and writes nothing that was there.
-/
namespace Go.Proofs.Ytdngndkdkbggkaa
open Go.RowKit

def pvers (R : List Pcol) (s : ByteArray) : List Pver := match R.find? (fun c => neq c.name s) with
  | none => []
  | some c => c.l
def ngt (a b : ByteArray) : Bool := !(nlt a b || neq a b)
def pwith (R : List Pcol) (s : ByteArray) (l : List Pver) : List Pcol := R.filter (fun c => nlt c.name s) ++ (if l.length = 0 then [] else [⟨s, l⟩]) ++ R.filter (fun c => ngt c.name s)
def pput (l : List Pver) (v : Pver) : List Pver := (l.filter (fun x => decide (v.t < x.t)) ++ [v] ++ l.filter (fun x => decide (x.t < v.t))).take 2
theorem find_none_take {α : Type} (p : α → Bool) {l : List α} {k : Nat} {x : α} (hx : l[k]? = some x) (h : (l.take k).find? p = none) (hp : p x = false) : (l.take (k + 1)).find? p = none := by
  rw [List.take_add_one, hx, List.find?_append, h]
  simp [hp]
theorem find_some_take {α : Type} (p : α → Bool) {l : List α} {k : Nat} {x : α} (hx : l[k]? = some x) (h : (l.take k).find? p = none) (hp : p x = true) : l.find? p = some x := by
  have e : l = l.take k ++ x :: l.drop (k + 1) := by
    have hlt := (List.getElem?_eq_some_iff.1 hx).1
    have hg := (List.getElem?_eq_some_iff.1 hx).2
    rw [← hg, List.getElem_cons_drop, List.take_append_drop]
  rw [e, List.find?_append, h]
  simp [hp]
theorem filter_take {α : Type} (p : α → Bool) {l : List α} {k : Nat} {x : α} (hx : l[k]? = some x) : (l.take (k + 1)).filter p = (l.take k).filter p ++ (if p x then [x] else []) := by
  rw [List.take_add_one, hx, List.filter_append]
  cases hp : p x <;> simp [hp]

set_option maxRecDepth 100000 in
set_option maxHeartbeats 4000000 in
theorem versions_w (W w : World) (v : Value) (xs : List Pcol) (s : ByteArray) (h : RowAt W v xs) (m : Moves [] W w) (hsm : xs.length ≤ 1048576) :
    Calls Try.prog 80 #[v, .string s] w fun e w' => ∃ ad n cap, e = .returned (.slice ad n cap) ∧ VersAt W (.slice ad n cap) (pvers xs s) ∧ Moves [] w w' := by
  obtain ⟨lv, rfl, h⟩ := h
  obtain ⟨ad, cap, hlv, hcap⟩ := h.slice
  obtain ⟨n, HN⟩ : ∃ n, Hid (n = xs.length) := ⟨_, rfl⟩
  rw [← HN.out] at hlv hcap hsm
  subst hlv
  go_enter Try.func80, Try.ntmps80
  go_wp2_with fail
  have m1 : Moves [] w (w.alloc (.cells #[.slice ad n cap] 26)) := (Moves.refl _ _).alloc _
  go_loopw [10] (fun i wr => ∃ k : Nat, k ≤ n ∧ i = .int .i64 k ∧ Moves [] w wr ∧ (xs.take k).find? (fun c => neq c.name s) = none) (fun i _ => n - (intOf i).toNat)
  case atStart => exact ⟨0, Nat.zero_le _, rfl, m1, by simp⟩
  case round =>
    obtain ⟨k, hk, rfl, mr, hnone⟩ := hrel
    have HNone : Hid ((xs.take k).find? (fun c => neq c.name s) = none) := hnone
    clear hnone
    by_cases hlt : k < n
    · have hk3 : (k : Int) < n := by omega
      obtain ⟨x, hx⟩ : ∃ x, xs[k]? = some x := ⟨_, List.getElem?_eq_getElem (by rw [← HN.out]; exact hlt)⟩
      obtain ⟨g, off, a2, n2, c2, rfl, e0, e1, en, hle, hV⟩ := h.at hx
      have d0 := (m.then mr).cell e0
      have d1 := (m.then mr).cell e1
      have HX : Hid (xs[k]? = some x) := hx
      have HV : Hid (VersAt W (.slice a2 n2 c2) x.l) := hV
      clear e0 e1 hx en hV h
      cases hq : neq x.name s with
      | true =>
        have hf := find_some_take (fun c => neq c.name s) HX.out HNone.out hq
        have he : Hid (pvers xs s = x.l) := by unfold Hid pvers; rw [hf]
        have hbe : (x.name.toList == s.toList) = true := hq
        clear hf hq
        go_wp2_with fail
        go_ret
        exact ⟨_, _, _, rfl, by rw [he.out]; exact HV.out, mr.alloc _⟩
      | false =>
        have hf := find_none_take (fun c => neq c.name s) HX.out HNone.out hq
        have hbe : (x.name.toList == s.toList) = false := hq
        have HF : Hid ((xs.take (k + 1)).find? (fun c => neq c.name s) = none) := hf
        clear hf hq
        go_wp2_with fail
        go_roundw
        case rel => exact ⟨k + 1, by omega, by go_num, mr.alloc _, HF.out⟩
        case measure => simp [intOf]; omega
    · have hk3 : ¬ (k : Int) < n := by omega
      obtain rfl : k = n := by omega
      have hf := HNone.out
      rw [HN.out, List.take_length] at hf
      have he : Hid (pvers xs s = []) := by unfold Hid pvers; rw [hf]
      clear hf h
      go_wp2_with fail
      go_ret
      exact ⟨_, _, _, rfl, by rw [he.out]; exact VersAt.nil _, mr⟩

/-- A store into a row's box. -/
theorem GrowC.setRow {W w : World} {v : Value} {xs : List Pcol} (h : GrowC W w v xs) {p : Nat} {c : Array Value} {fz : Nat × Nat} (hp : w.heap[p]? = some (.cells c 26 fz)) (u : Value) : GrowC W (w.setCell ⟨p, 0, none⟩ u) v xs := by
  refine h.moves (moves_set _ _ _ _) (fun b hb hbs => ?_) (Stay.set hp (by decide) _)
  simp at hbs
  subst hbs
  exact h.neT hp (by decide) (by rw [hb]; simp)
/-- Two lists of the call's own that share no block. -/
def Apart (u v : Value) : Prop := ∀ k, u.ownBlock = some k → v.ownBlock ≠ some k
theorem Apart.symm {u v : Value} (h : Apart u v) : Apart v u := fun k hk hu => h k hu hk
theorem Apart.grown {w : World} {u u' v : Value} (h : Apart u v) (hl : Lain w u u') (hv : ∀ k, v.ownBlock = some k → k < w.heap.size) : Apart u' v := by
  intro k hk hvk
  rcases hl with e | e
  · exact h k (by rw [← e]; exact hk) hvk
  · rw [e] at hk
    simp at hk
    have := hv k hvk
    omega
theorem Apart.not {u v : Value} (h : Apart u v) : ∀ k, v.ownBlock = some k → k ∉ u.ownBlock.toList := fun k hk hm => h k (by cases hq : u.ownBlock <;> simp_all) hk
theorem Apart.nil (v : Value) : Apart (.slice none 0 0) v := fun k h => by simp [Value.ownBlock] at h

set_option maxRecDepth 100000 in
set_option maxHeartbeats 4000000 in
theorem with_w (W w : World) (v : Value) (xs : List Pcol) (s : ByteArray) (adl : Option Addr) (nl capl : Nat) (l : List Pver) (h : RowAt W v xs) (hl : VersAt W (.slice adl nl capl) l) (hnl : Hid (nl = l.length)) (m : Moves [] W w) (hsm : xs.length ≤ 100000) :
    Calls Try.prog 81 #[v, .string s, .slice adl nl capl] w fun e w' => ∃ ad n cap, e = .returned (.agg #[.slice ad n cap]) ∧ GrowC w w' (.slice ad n cap) (pwith xs s l) ∧ Moves [] w w' := by
  obtain ⟨lv, rfl, h⟩ := h
  obtain ⟨ad, cap, hlv, hcap⟩ := h.slice
  obtain ⟨n, HN⟩ : ∃ n, Hid (n = xs.length) := ⟨_, rfl⟩
  rw [← HN.out] at hlv hcap hsm
  subst hlv
  have HL : Hid (VersAt W (.slice adl nl capl) l) := hl
  clear hl
  go_enter Try.func81, Try.ntmps81
  go_wp2_with fail
  obtain ⟨w0, hw0⟩ : ∃ w0, (w.alloc (.cells #[.slice ad n cap] 26)).alloc (.cells #[.slice none 0 0] 26) = w0 := ⟨_, rfl⟩
  have m0 : Moves [] w w0 := by rw [← hw0]; exact ((Moves.refl _ _).alloc _).alloc _
  have p2 : w0.heap[w.heap.size + 1]? = some (.cells #[.slice none 0 0] 26 (0, 0)) := by
    obtain ⟨_, h2, _⟩ := boxes (Moves.refl [] ((w.alloc (.cells #[.slice ad n cap] 26)).alloc (.cells #[.slice none 0 0] 26)))
    rw [← hw0]
    exact h2
  rw [hw0]
  clear hw0
  go_loopw [7, 8, 14] (fun u1 u2 i wr => ∃ k : Nat, k ≤ n ∧ i = .int .i64 k ∧ Moves [] w wr ∧ wr.heap[w.heap.size + 1]? = some (.cells #[.slice none 0 0] 26 (0, 0)) ∧ GrowC w wr u1 ((xs.take k).filter (fun c => nlt c.name s)) ∧ GrowC w wr u2 ((xs.take k).filter (fun c => ngt c.name s)) ∧ Apart u1 u2) (fun _ _ i _ => n - (intOf i).toNat)
  case atStart => exact ⟨0, Nat.zero_le _, rfl, m0, p2, by simpa using GrowC.nil _ _, by simpa using GrowC.nil _ _, Apart.nil _⟩
  case round =>
    obtain ⟨k, hk, rfl, mr, q2, hG1, hG2, hap⟩ := hrel
    obtain ⟨ad4, n4, cap4, rfl, hn4⟩ := hG1.open
    obtain ⟨ad5, n5, cap5, rfl, hn5⟩ := hG2.open
    have HG1 : Hid (GrowC w wr (.slice ad4 n4 cap4) ((xs.take k).filter (fun c => nlt c.name s))) := hG1
    have HG2 : Hid (GrowC w wr (.slice ad5 n5 cap5) ((xs.take k).filter (fun c => ngt c.name s))) := hG2
    have HAP : Hid (Apart (.slice ad4 n4 cap4) (.slice ad5 n5 cap5)) := hap
    clear hG1 hG2 hap
    by_cases hlt : k < n
    · have hk3 : (k : Int) < n := by omega
      obtain ⟨x, hx⟩ : ∃ x, xs[k]? = some x := ⟨_, List.getElem?_eq_getElem (by rw [← HN.out]; exact hlt)⟩
      obtain ⟨g, off, a2, n2, c2, rfl, e0, e1, en, hle, hV⟩ := h.at hx
      have d0 := (m.then mr).cell e0
      have d1 := (m.then mr).cell e1
      have hf1 := filter_take (fun c : Pcol => nlt c.name s) hx
      have hf2 := filter_take (fun c : Pcol => ngt c.name s) hx
      have HV : Hid (VersAt W (.slice a2 n2 c2) x.l) := hV
      have hb1 : ((xs.take k).filter (fun c => nlt c.name s)).length + [x].length ≤ 1048576 := by
        have := List.length_filter_le (fun c : Pcol => nlt c.name s) (xs.take k)
        have := List.length_take_le k xs
        simp
        omega
      have hb2 : ((xs.take k).filter (fun c => ngt c.name s)).length + [x].length ≤ 1048576 := by
        have := List.length_filter_le (fun c : Pcol => ngt c.name s) (xs.take k)
        have := List.length_take_le k xs
        simp
        omega
      clear e0 e1 hx en hV h
      have ma1 : Moves [] wr (wr.alloc (.cells #[.string x.name, .slice a2 n2 c2] 45)) := (Moves.refl _ _).alloc _
      have ma : Moves [] wr ((wr.alloc (.cells #[.string x.name, .slice a2 n2 c2] 45)).alloc (.cells #[.string x.name, .slice a2 n2 c2] 45)) := ((Moves.refl _ _).alloc _).alloc _
      have hcn := cols_new' wr (.cells #[.string x.name, .slice a2 n2 c2] 45) (.string x.name) _ x ⟨_, rfl, HV.out.moves ((m.then mr).alloc _)⟩
      have hG1 := HG1.out.moves0 ma
      have hG2 := HG2.out.moves0 ma
      have hM1 := mr.then ma
      have hq2 := ma.at q2 (by simp)
      have hne1 := hG1.neT hq2 (by decide)
      have hne2 := hG2.neT hq2 (by decide)
      cases hq : nlt x.name s with
      | true =>
        have hgt : ngt x.name s = false := by unfold ngt; rw [hq]; rfl
        rw [hq] at hf1
        rw [hgt] at hf2
        have HF1 : Hid ((xs.take (k + 1)).filter (fun c => nlt c.name s) = (xs.take k).filter (fun c => nlt c.name s) ++ [x]) := hf1.trans (by simp)
        have HF2 : Hid ((xs.take (k + 1)).filter (fun c => ngt c.name s) = (xs.take k).filter (fun c => ngt c.name s)) := hf2.trans (by simp)
        have hbl : Op.bytesLess x.name.toList s.toList = true := hq
        clear hf1 hf2 hq hgt
        go_wp2_with (at_builtin; refine growC_append (.tmp 23) (.tmp 25) rfl _ _ _ [x] rfl rfl (by rfl) hG1 hcn hM1 hb1 ?_; intro v8 w8 hG8 M8 m8 s8 l8; have hsl := hG8.open; obtain ⟨ad9, n9, cap9, rfl, hn9⟩ := hsl)
        go_roundw
        case rel => exact ⟨k + 1, by omega, by go_num, M8, m8.at hq2 hne1, by rw [HF1.out]; exact hG8, by rw [HF2.out]; exact hG2.moves m8 HAP.out.not (s8.weak (by intro t ht; rcases ht with rfl | rfl <;> decide)), HAP.out.grown l8 (fun _ hb => hG2.lt hb)⟩
        case measure => simp [intOf]; omega
      | false =>
        have hbl : Op.bytesLess x.name.toList s.toList = false := hq
        cases hqe : neq x.name s with
        | true =>
          have hgt : ngt x.name s = false := by unfold ngt; rw [hq, hqe]; rfl
          rw [hq] at hf1
          rw [hgt] at hf2
          have HF1 : Hid ((xs.take (k + 1)).filter (fun c => nlt c.name s) = (xs.take k).filter (fun c => nlt c.name s)) := hf1.trans (by simp)
          have HF2 : Hid ((xs.take (k + 1)).filter (fun c => ngt c.name s) = (xs.take k).filter (fun c => ngt c.name s)) := hf2.trans (by simp)
          have hbe : (x.name.toList == s.toList) = true := hqe
          clear hf1 hf2 hq hgt hqe
          go_wp2_with fail
          go_roundw
          case rel => exact ⟨k + 1, by omega, by go_num, mr.then ma1, ma1.at q2 (by simp), by rw [HF1.out]; exact HG1.out.moves0 ma1, by rw [HF2.out]; exact HG2.out.moves0 ma1, HAP.out⟩
          case measure => simp [intOf]; omega
        | false =>
          have hgt : ngt x.name s = true := by unfold ngt; rw [hq, hqe]; rfl
          rw [hq] at hf1
          rw [hgt] at hf2
          have HF1 : Hid ((xs.take (k + 1)).filter (fun c => nlt c.name s) = (xs.take k).filter (fun c => nlt c.name s)) := hf1.trans (by simp)
          have HF2 : Hid ((xs.take (k + 1)).filter (fun c => ngt c.name s) = (xs.take k).filter (fun c => ngt c.name s) ++ [x]) := hf2.trans (by simp)
          have hbe : (x.name.toList == s.toList) = false := hqe
          clear hf1 hf2 hq hgt hqe
          go_wp2_with (at_builtin; refine growC_append (.tmp 32) (.tmp 34) rfl _ _ _ [x] rfl rfl (by rfl) hG2 hcn hM1 hb2 ?_; intro v8 w8 hG8 M8 m8 s8 l8; have hsl := hG8.open; obtain ⟨ad9, n9, cap9, rfl, hn9⟩ := hsl)
          go_roundw
          case rel => exact ⟨k + 1, by omega, by go_num, M8, m8.at hq2 hne2, by rw [HF1.out]; exact hG1.moves m8 HAP.out.symm.not (s8.weak (by intro t ht; rcases ht with rfl | rfl <;> decide)), by rw [HF2.out]; exact hG8, (HAP.out.symm.grown l8 (fun _ hb => hG1.lt hb)).symm⟩
          case measure => simp [intOf]; omega
    · have hk3 : ¬ (k : Int) < n := by omega
      obtain rfl : k = n := by omega
      have hA := HG1.out
      have hB := HG2.out
      rw [HN.out, List.take_length] at hA hB
      have hla : (xs.filter (fun c => nlt c.name s)).length ≤ 100000 := by
        have := List.length_filter_le (fun c : Pcol => nlt c.name s) xs
        have := HN.out
        omega
      have hlb : (xs.filter (fun c => ngt c.name s)).length ≤ 100000 := by
        have := List.length_filter_le (fun c : Pcol => ngt c.name s) xs
        have := HN.out
        omega
      clear HG1 HG2 h hn4 hn5
      by_cases hz : nl = 0
      · have he : Hid (pwith xs s l = xs.filter (fun c => nlt c.name s) ++ xs.filter (fun c => ngt c.name s)) := by
          unfold Hid pwith
          rw [if_pos (by rw [← hnl.out]; exact hz), List.append_nil]
        have hbd : (xs.filter (fun c => nlt c.name s)).length + (xs.filter (fun c => ngt c.name s)).length ≤ 1048576 := by omega
        have hBat := hB.at
        subst hz
        have HA : Hid (GrowC w wr (.slice ad4 n4 cap4) (xs.filter (fun c => nlt c.name s))) := hA
        have hne1 := hA.neT q2 (by decide)
        clear hA hB
        go_wp2_with (at_builtin; refine growC_append (.tmp 46) (.tmp 47) rfl _ _ _ _ rfl rfl (by rfl) HA.out hBat mr hbd ?_; intro v8 w8 hG8 M8 m8 s8 l8; have hsl := hG8.open; obtain ⟨ad9, n9, cap9, rfl, hn9⟩ := hsl; have c8 := m8.at q2 hne1; obtain ⟨f0, f1⟩ := one_cell c8)
        try simp only [Exit.inBlock, Exit.then]
        exact bodyPost_ret (ret_row rfl _ _ _ _ rfl (set_one c8 _)) rfl ⟨_, _, _, rfl, by rw [he.out]; exact hG8.setRow c8 _, M8.setCell (.inr (by show _ ≤ _ + 1; omega)) _⟩
      · have he : Hid (pwith xs s l = xs.filter (fun c => nlt c.name s) ++ [⟨s, l⟩] ++ xs.filter (fun c => ngt c.name s)) := by
          unfold Hid pwith
          rw [if_neg (by rw [← hnl.out]; exact hz)]
        have hz' : (0 : Int) < nl := by omega
        have hz3 : 0 < nl := by omega
        have ma : Moves [] wr (wr.alloc (.cells #[.string s, .slice adl nl capl] 45)) := (Moves.refl _ _).alloc _
        have hcn := cols_new wr (.string s) (.slice adl nl capl) ⟨s, l⟩ ⟨_, rfl, HL.out.moves (m.then mr)⟩
        have hA1 := hA.moves0 ma
        have hB1 := hB.moves0 ma
        have hbd : (xs.filter (fun c => nlt c.name s)).length + [(⟨s, l⟩ : Pcol)].length ≤ 1048576 := by simp; omega
        have hbd2 : (xs.filter (fun c => nlt c.name s) ++ [(⟨s, l⟩ : Pcol)]).length + (xs.filter (fun c => ngt c.name s)).length ≤ 1048576 := by simp; omega
        have M1 := mr.then ma
        have c1 := ma.at q2 (by simp)
        have hne1 := hA1.neT c1 (by decide)
        clear hA hB
        go_wp2_with (first | (at_builtin; refine growC_append (.tmp 40) (.tmp 44) rfl _ _ _ [⟨s, l⟩] rfl rfl (by rfl) hA1 hcn M1 hbd ?_; intro v6 w6 hG6 M6 m6 s6 l6; have hsl := hG6.open; obtain ⟨ad6, n6, cap6, rfl, hn6⟩ := hsl; have c6 := m6.at c1 hne1; have hB6 := (hB1.moves m6 HAP.out.not (s6.weak (by intro t ht; rcases ht with rfl | rfl <;> decide))).at; have hne6 := hG6.neT c6 (by decide)) | (at_builtin; refine growC_append (.tmp 46) (.tmp 47) rfl _ _ _ _ rfl rfl (by rfl) hG6 hB6 M6 hbd2 ?_; intro v8 w8 hG8 M8 m8 s8 l8; have hsl := hG8.open; obtain ⟨ad9, n9, cap9, rfl, hn9⟩ := hsl; have c8 := m8.at c6 hne6; obtain ⟨f0, f1⟩ := one_cell c8))
        try simp only [Exit.inBlock, Exit.then]
        exact bodyPost_ret (ret_row rfl _ _ _ _ rfl (set_one c8 _)) rfl ⟨_, _, _, rfl, by rw [he.out]; exact hG8.setRow c8 _, M8.setCell (.inr (by show _ ≤ _ + 1; omega)) _⟩
end Go.Proofs.Ytdngndkdkbggkaa
/-
  row.put: for every list of versions and every version the call returns the list with it at its place, and writes nothing that was there.
-/
namespace Go.Proofs.Ytdngndkdkbggkaa
open Go.RowKit

theorem Lies.take {w : World} {e : TypeId} {size : Nat} {ad : Option Addr} {n cap : Nat} {css : List (List Value)} (h : Lies w e size (.slice ad n cap) css) {k c : Nat} (hk : k ≤ n) (hc : k ≤ c) (hc2 : c ≤ cap) : Lies w e size (.slice ad k c) (css.take k) := by
  obtain ⟨h0, ad', cap', h1, h2, h3, h4⟩ := h
  simp at h1
  obtain ⟨rfl, rfl, rfl⟩ := h1
  refine ⟨fun x hx => h0 x (List.mem_of_mem_take hx), ad, c, by rw [List.length_take, Nat.min_eq_left hk], by rw [List.length_take, Nat.min_eq_left hk]; exact hc, fun hn => by have := h3 hn; omega, ?_⟩
  rcases h4 with rfl | ⟨g, off, arr, fz, k1, k2, k3⟩
  · exact .inl (by simp)
  · refine .inr ⟨g, off, arr, fz, k1, k2, fun i x hi j u hj => k3 i x ?_ j u hj⟩
    rw [List.getElem?_take] at hi
    split at hi
    · exact hi
    · simp at hi
theorem take_min_two {α : Type} (l : List α) : l.take (min l.length 2) = l.take 2 := by
  by_cases h : l.length ≤ 2
  · rw [Nat.min_eq_left h, List.take_length, List.take_of_length_le h]
  · rw [Nat.min_eq_right (by omega)]
theorem VersAt.take {w : World} {ad : Option Addr} {n cap : Nat} {xs : List Pver} (h : VersAt w (.slice ad n cap) xs) {k c : Nat} (hk : k ≤ n) (hc : k ≤ c) (hc2 : c ≤ cap) : VersAt w (.slice ad k c) (xs.take k) := by
  obtain ⟨css, h1, h2⟩ := h
  exact ⟨css.take k, h1.take hk hc hc2, h2.take k⟩
theorem ColsAt.take {w : World} {ad : Option Addr} {n cap : Nat} {xs : List Pcol} (h : ColsAt w (.slice ad n cap) xs) {k c : Nat} (hk : k ≤ n) (hc : k ≤ c) (hc2 : c ≤ cap) : ColsAt w (.slice ad k c) (xs.take k) := by
  obtain ⟨css, h1, h2⟩ := h
  exact ⟨css.take k, h1.take hk hc hc2, h2.take k⟩

set_option maxRecDepth 100000 in
set_option maxHeartbeats 4000000 in
theorem put_w (W w : World) (ad : Option Addr) (n cap : Nat) (xs : List Pver) (y : Pver) (ay : Option Addr) (ny cy : Nat) (h : VersAt W (.slice ad n cap) xs) (hn : Hid (n = xs.length)) (hy : VC W [.int .i64 y.v.kind, .slice ay ny cy, .float .f64 y.v.n] y.v) (m : Moves [] W w) (hsm : n ≤ 100000) :
    Calls Try.prog 82 #[.slice ad n cap, .agg #[.int .i64 y.t, .int .i64 y.v.kind, .slice ay ny cy, .float .f64 y.v.n]] w fun e w' => ∃ ad' n' cap', e = .returned (.slice ad' n' cap') ∧ Hid (n' = (pput xs y).length) ∧ VersAt w' (.slice ad' n' cap') (pput xs y) ∧ Moves [] w w' := by
  have HY : Hid (VC W [.int .i64 y.v.kind, .slice ay ny cy, .float .f64 y.v.n] y.v) := hy
  clear hy
  go_enter Try.func82, Try.ntmps82
  go_wp2_with fail
  obtain ⟨w0, hw0⟩ : ∃ w0, w.alloc (.cells #[.int .i64 y.t, .int .i64 y.v.kind, .slice ay ny cy, .float .f64 y.v.n] 69) = w0 := ⟨_, rfl⟩
  have m0 : Moves [] w w0 := by rw [← hw0]; exact (Moves.refl _ _).alloc _
  have p2 : w0.heap[w.heap.size]? = some (.cells #[.int .i64 y.t, .int .i64 y.v.kind, .slice ay ny cy, .float .f64 y.v.n] 69 (0, 0)) := by rw [← hw0]; exact heap_alloc_new _ _
  have sz0 : w.heap.size < w0.heap.size := lt_of_block p2
  rw [hw0]
  clear hw0
  go_loopw [5, 6, 13] (fun u1 u2 i wr => ∃ k : Nat, k ≤ n ∧ i = .int .i64 k ∧ Moves [] w0 wr ∧ GrowV w0 wr u1 ((xs.take k).filter (fun x => decide (y.t < x.t))) ∧ GrowV w0 wr u2 ((xs.take k).filter (fun x => decide (x.t < y.t))) ∧ Apart u1 u2) (fun _ _ i _ => n - (intOf i).toNat)
  case atStart => exact ⟨0, Nat.zero_le _, rfl, Moves.refl _ _, by simpa using GrowV.nil _ _, by simpa using GrowV.nil _ _, Apart.nil _⟩
  case round =>
    obtain ⟨k, hk, rfl, mr, hG1, hG2, hap⟩ := hrel
    obtain ⟨ad4, n4, cap4, rfl, hn4⟩ := hG1.open
    obtain ⟨ad5, n5, cap5, rfl, hn5⟩ := hG2.open
    have HG1 : Hid (GrowV w0 wr (.slice ad4 n4 cap4) ((xs.take k).filter (fun x => decide (y.t < x.t)))) := hG1
    have HG2 : Hid (GrowV w0 wr (.slice ad5 n5 cap5) ((xs.take k).filter (fun x => decide (x.t < y.t)))) := hG2
    have HAP : Hid (Apart (.slice ad4 n4 cap4) (.slice ad5 n5 cap5)) := hap
    have q2 := mr.at p2 (by simp)
    clear hG1 hG2 hap
    by_cases hlt : k < n
    · have hk3 : (k : Int) < n := by omega
      obtain ⟨x, hx⟩ : ∃ x, xs[k]? = some x := ⟨_, List.getElem?_eq_getElem (by rw [← hn.out]; exact hlt)⟩
      obtain ⟨g, off, a2, n2, c2, rfl, e0, e1, e2, e3, hV⟩ := h.at hx
      have MR := (m.then m0).then mr
      have d0 := MR.cell e0
      have d1 := MR.cell e1
      have d2 := MR.cell e2
      have d3 := MR.cell e3
      have hf1 := filter_take (fun x : Pver => decide (y.t < x.t)) hx
      have hf2 := filter_take (fun x : Pver => decide (x.t < y.t)) hx
      have HV : Hid (VC W [.int .i64 x.v.kind, .slice a2 n2 c2, .float .f64 x.v.n] x.v) := hV
      have hb1 : ((xs.take k).filter (fun x => decide (y.t < x.t))).length + [x].length ≤ 1048576 := by
        have := List.length_filter_le (fun x : Pver => decide (y.t < x.t)) (xs.take k)
        have := List.length_take_le k xs
        simp
        omega
      have hb2 : ((xs.take k).filter (fun x => decide (x.t < y.t))).length + [x].length ≤ 1048576 := by
        have := List.length_filter_le (fun x : Pver => decide (x.t < y.t)) (xs.take k)
        have := List.length_take_le k xs
        simp
        omega
      clear e0 e1 e2 e3 hx hV h
      have ma1 : Moves [] wr (wr.alloc (.cells #[.int .i64 x.t, .int .i64 x.v.kind, .slice a2 n2 c2, .float .f64 x.v.n] 69)) := (Moves.refl _ _).alloc _
      have ma : Moves [] wr ((wr.alloc (.cells #[.int .i64 x.t, .int .i64 x.v.kind, .slice a2 n2 c2, .float .f64 x.v.n] 69)).alloc (.cells #[.int .i64 x.t, .int .i64 x.v.kind, .slice a2 n2 c2, .float .f64 x.v.n] 69)) := ((Moves.refl _ _).alloc _).alloc _
      have hcn := vers_new' wr (.cells #[.int .i64 x.t, .int .i64 x.v.kind, .slice a2 n2 c2, .float .f64 x.v.n] 69) (.int .i64 x.t) _ _ _ x ⟨_, rfl, HV.out.moves (MR.alloc _)⟩
      have hG1 := HG1.out.moves0 ma
      have hG2 := HG2.out.moves0 ma
      have hM1 := mr.then ma
      obtain ⟨y0, _⟩ := quad_cells (ma1.at q2 (by simp))
      clear MR
      by_cases hq : y.t < x.t
      · have hgt : ¬ x.t < y.t := by omega
        rw [decide_eq_true hq] at hf1
        rw [decide_eq_false hgt] at hf2
        have HF1 : Hid ((xs.take (k + 1)).filter (fun x => decide (y.t < x.t)) = (xs.take k).filter (fun x => decide (y.t < x.t)) ++ [x]) := hf1.trans (by simp)
        have HF2 : Hid ((xs.take (k + 1)).filter (fun x => decide (x.t < y.t)) = (xs.take k).filter (fun x => decide (x.t < y.t))) := hf2.trans (by simp)
        clear hf1 hf2 hgt
        go_wp2_with (at_builtin; refine growV_append (.tmp 23) (.tmp 25) rfl _ _ _ [x] rfl rfl (by rfl) hG1 hcn hM1 hb1 ?_; intro v8 w8 hG8 M8 m8 s8 l8; have hsl := hG8.open; obtain ⟨ad9, n9, cap9, rfl, hn9⟩ := hsl)
        go_roundw
        case rel => exact ⟨k + 1, by omega, by go_num, M8, by rw [HF1.out]; exact hG8, by rw [HF2.out]; exact hG2.moves m8 HAP.out.not (s8.weak (by intro t ht; rw [ht]; decide)), HAP.out.grown l8 (fun _ hb => hG2.lt hb)⟩
        case measure => simp [intOf]; omega
      · by_cases hqe : x.t < y.t
        · rw [decide_eq_false hq] at hf1
          rw [decide_eq_true hqe] at hf2
          have HF1 : Hid ((xs.take (k + 1)).filter (fun x => decide (y.t < x.t)) = (xs.take k).filter (fun x => decide (y.t < x.t))) := hf1.trans (by simp)
          have HF2 : Hid ((xs.take (k + 1)).filter (fun x => decide (x.t < y.t)) = (xs.take k).filter (fun x => decide (x.t < y.t)) ++ [x]) := hf2.trans (by simp)
          clear hf1 hf2
          go_wp2_with (at_builtin; refine growV_append (.tmp 33) (.tmp 35) rfl _ _ _ [x] rfl rfl (by rfl) hG2 hcn hM1 hb2 ?_; intro v8 w8 hG8 M8 m8 s8 l8; have hsl := hG8.open; obtain ⟨ad9, n9, cap9, rfl, hn9⟩ := hsl)
          go_roundw
          case rel => exact ⟨k + 1, by omega, by go_num, M8, by rw [HF1.out]; exact hG1.moves m8 HAP.out.symm.not (s8.weak (by intro t ht; rw [ht]; decide)), by rw [HF2.out]; exact hG8, (HAP.out.symm.grown l8 (fun _ hb => hG1.lt hb)).symm⟩
          case measure => simp [intOf]; omega
        · rw [decide_eq_false hq] at hf1
          rw [decide_eq_false hqe] at hf2
          have HF1 : Hid ((xs.take (k + 1)).filter (fun x => decide (y.t < x.t)) = (xs.take k).filter (fun x => decide (y.t < x.t))) := hf1.trans (by simp)
          have HF2 : Hid ((xs.take (k + 1)).filter (fun x => decide (x.t < y.t)) = (xs.take k).filter (fun x => decide (x.t < y.t))) := hf2.trans (by simp)
          clear hf1 hf2
          go_wp2_with fail
          go_roundw
          case rel => exact ⟨k + 1, by omega, by go_num, mr.then ma1, by rw [HF1.out]; exact HG1.out.moves0 ma1, by rw [HF2.out]; exact HG2.out.moves0 ma1, HAP.out⟩
          case measure => simp [intOf]; omega
    · have hk3 : ¬ (k : Int) < n := by omega
      obtain rfl : k = n := by omega
      have hA := HG1.out
      have hB := HG2.out
      rw [hn.out, List.take_length] at hA hB
      have hla : (xs.filter (fun x => decide (y.t < x.t))).length ≤ 100000 := by
        have := List.length_filter_le (fun x : Pver => decide (y.t < x.t)) xs
        have := hn.out
        omega
      have hlb : (xs.filter (fun x => decide (x.t < y.t))).length ≤ 100000 := by
        have := List.length_filter_le (fun x : Pver => decide (x.t < y.t)) xs
        have := hn.out
        omega
      clear HG1 HG2 h hn4 hn5
      have ma : Moves [] wr (wr.alloc (.cells #[.int .i64 y.t, .int .i64 y.v.kind, .slice ay ny cy, .float .f64 y.v.n] 69)) := (Moves.refl _ _).alloc _
      have hcn := vers_new wr (.int .i64 y.t) _ _ _ y ⟨_, rfl, HY.out.moves ((m.then m0).then mr)⟩
      have hA1 := hA.moves0 ma
      have hB1 := hB.moves0 ma
      have hbd : (xs.filter (fun x => decide (y.t < x.t))).length + [y].length ≤ 1048576 := by simp; omega
      have hbd2 : (xs.filter (fun x => decide (y.t < x.t)) ++ [y]).length + (xs.filter (fun x => decide (x.t < y.t))).length ≤ 1048576 := by simp; omega
      have M1 := mr.then ma
      obtain ⟨y0, y1, y2, y3⟩ := quad_cells q2
      clear hA hB
      go_wp2_with (first | (at_builtin; refine growV_append (.tmp 38) (.tmp 40) rfl _ _ _ [y] rfl rfl (by rfl) hA1 hcn M1 hbd ?_; intro v6 w6 hG6 M6 m6 s6 l6; have hsl := hG6.open; obtain ⟨ad6, n6, cap6, rfl, hn6⟩ := hsl; have hB6 := (hB1.moves m6 HAP.out.not (s6.weak (by intro t ht; rw [ht]; decide))).at) | (at_builtin; refine growV_append (.tmp 41) (.tmp 42) rfl _ _ _ _ rfl rfl (by rfl) hG6 hB6 M6 hbd2 ?_; intro v8 w8 hG8 M8 m8 s8 l8; have hsl := hG8.slice; obtain ⟨ad9, cap9, e9, hc9⟩ := hsl; obtain ⟨n9, hn9⟩ : ∃ n9, Hid (n9 = (xs.filter (fun x => decide (y.t < x.t)) ++ [y] ++ xs.filter (fun x => decide (x.t < y.t))).length) := ⟨_, rfl⟩; rw [← hn9.out] at e9 hc9; subst e9; have HG8 : Hid (GrowV w0 w8 (.slice ad9 n9 cap9) (xs.filter (fun x => decide (y.t < x.t)) ++ [y] ++ xs.filter (fun x => decide (x.t < y.t)))) := hG8; clear hG8))
      have hk2 : (min (n9 : Int) 2).toNat = min n9 2 := by omega
      have hpp : (xs.filter (fun x => decide (y.t < x.t)) ++ [y] ++ xs.filter (fun x => decide (x.t < y.t))).take (min n9 2) = pput xs y := by
        unfold pput
        rw [hn9.out]
        exact take_min_two _
      have hAt := HG8.out.at.take (k := (min (n9 : Int) 2).toNat) (c := (min (n9 : Int) 2).toNat) (by omega) (Nat.le_refl _) (by omega)
      have hlen : (min (n9 : Int) 2).toNat = (pput xs y).length := by
        rw [hk2, ← hpp, List.length_take, ← hn9.out]
        omega
      rw [hk2] at hAt
      rw [hpp] at hAt
      rw [← hk2] at hAt
      go_ret
      exact ⟨ad9, _, _, rfl, hlen, hAt, m0.then M8⟩
end Go.Proofs.Ytdngndkdkbggkaa
/-
  row's Put, Drop, DropCol, At, Newest: for every row the call returns what the chapter says, and writes nothing that was there.
-/
namespace Go.Proofs.Ytdngndkdkbggkaa
open Go.RowKit

theorem VersAt.len {w : World} {ad : Option Addr} {n cap : Nat} {xs : List Pver} (h : VersAt w (.slice ad n cap) xs) : n = xs.length := by
  obtain ⟨ad', cap', e, _⟩ := h.slice
  simp at e
  exact e.2.1
theorem ColsAt.len {w : World} {ad : Option Addr} {n cap : Nat} {xs : List Pcol} (h : ColsAt w (.slice ad n cap) xs) : n = xs.length := by
  obtain ⟨ad', cap', e, _⟩ := h.slice
  simp at e
  exact e.2.1
theorem pvers_two (R : List Pcol) (s : ByteArray) (h : ∀ x ∈ R, x.l.length ≤ 2) : (pvers R s).length ≤ 2 := by
  unfold pvers
  split
  · simp
  · rename_i c hc
    exact h c (List.mem_of_find?_eq_some hc)

def pPutE (R : List Pcol) (s : ByteArray) (t : Int) (p : Pv) : Int := if (pname s && ptime t && pvr p) = false then 1 else if (pvers (pcopy R) s).length = 0 ∧ 4 ≤ (pcopy R).length then 13 else 0
def pPut (R : List Pcol) (s : ByteArray) (t : Int) (p : Pv) : List Pcol := if pPutE R s t p = 0 then pwith (pcopy R) s (pput (pvers (pcopy R) s) ⟨t, pcanon p⟩) else []
def pAt (R : List Pcol) (s : ByteArray) (t : Int) : Option Pv := ((pvers (pasked R) s).find? (fun x => decide (x.t ≤ t))).map (fun x => pcanon x.v)

theorem ret_row2 {fn : Func} {p u : Tmp} (h : fn.results = #[.cell p 26, .tmp u]) (tmps : Array Value) (w : World) (g : Nat) (x : Value) (hp : tmps.getD p undef = .pointer (some ⟨g, 0, none⟩)) (hg : w.heap[g]? = some (.cells #[x] 26 (0, 0))) :
    (results fn tmps).run Try.prog w = .ok (.tuple #[.agg #[x], tmps.getD u undef]) w := by
  have hl := run_loadVar_row (P := Try.prog) w g 26 26 _ (0, 0) _ hg Try.underlying26 rfl Try.size26
  rw [results_cell_tmp h, hp]
  simp only [asAddr, Sem.run_pure, Result.andThen, hl]

/-- One box that a call laid. -/
theorem boxesW {w w' : World} {A : Array Value} {t : TypeId} (m : Moves [] (w.alloc (.cells A t)) w') : w'.heap[w.heap.size]? = some (.cells A t (0, 0)) ∧ Moves [] w w' :=
  ⟨m.at (heap_alloc_new _ _) (by simp), ((Moves.refl [] w).alloc _).then m⟩
/-- A value, behind a store into a box of a value. -/
theorem VC.box3 {w w' : World} {c : List Value} {p : Pv} (h : VC w c p) {b : Nat} {cs : Array Value} {fz : Nat × Nat} (hb : w.heap[b]? = some (.cells cs 61 fz)) (m : Moves [b] w w') : VC w' c p :=
  h.stay (T := (· = 5)) (Stay.ofMovesS m (fun k hk c t fz hc => by
    simp at hk
    subst hk
    rw [hb] at hc
    simp at hc
    rw [← hc.2.1]
    decide)) rfl

set_option maxRecDepth 100000 in
set_option maxHeartbeats 4000000 in
theorem at_w (W w : World) (v : Value) (R : List Pcol) (s : ByteArray) (t : Int) (h : RowAt W v R) (m : Moves [] W w) :
    Calls Try.prog 84 #[v, .string s, .int .i64 t] w fun e w' => ∃ k ad n cap x, e = .returned (.tuple #[.agg #[.int .i64 k, .slice ad n cap, .float .f64 x], .bool (pAt R s t).isSome]) ∧ VC w' [.int .i64 k, .slice ad n cap, .float .f64 x] ((pAt R s t).getD ⟨0, [], 0⟩) ∧ Moves [] w w' := by
  have hA := fun w1 (m1 : Moves [] W w1) => asked_w W w1 v R h m1
  obtain ⟨lv, rfl, hl⟩ := h
  obtain ⟨ad, cap, rfl, hc⟩ := hl.slice
  have hlen := pasked_len R
  have hvl := pvers_two (pasked R) s (pasked_l R)
  obtain ⟨C, hCq⟩ : ∃ C, Hid (pasked R = C) := ⟨_, rfl⟩
  obtain ⟨V, hVq⟩ : ∃ V, Hid (pvers C s = V) := ⟨_, rfl⟩
  obtain ⟨A, hAq⟩ : ∃ A, Hid (pAt R s t = A) := ⟨_, rfl⟩
  have hAV : Hid (A = (V.find? (fun x => decide (x.t ≤ t))).map (fun x => pcanon x.v)) := by unfold Hid; rw [← hAq.out, ← hVq.out, ← hCq.out]; rfl
  rw [hCq.out] at hA hlen hvl
  rw [hVq.out] at hvl
  rw [hAq.out]
  clear hl
  have hm : Moves [] W ((w.alloc (.cells #[.slice ad R.length cap] 26)).alloc (.cells #[.int .i64 0, .slice none 0 0, .float .f64 0] 61)) := (m.alloc _).alloc _
  go_enter Try.func84, Try.ntmps84
  go_wp2_with (first | (go_at_call 61; refine (hA _ hm).mono ?_; rintro _ w2 ⟨ad2, cap2, rfl, hAt, m2⟩; obtain ⟨p1, p2, m0⟩ := boxes m2) | (go_at_call 80; refine (versions_w W _ _ C s ⟨_, rfl, hAt⟩ (m.then m0) (by omega)).mono ?_; rintro _ w3 ⟨ad3, n3, cap3, rfl, hV3, m3⟩))
  rw [hVq.out] at hV3
  have hn3 : Hid (n3 = V.length) := hV3.len
  have HV3 : Hid (VersAt W (.slice ad3 n3 cap3) V) := hV3
  have M3 := m0.then m3
  have c3 := m3.at p2 (by simp)
  have hb3 : n3 ≤ 2 := by have := hn3.out; omega
  clear hV3 hA hAt m2 p1 p2 m0 m3
  go_loopw [15] (fun i wr => ∃ k : Nat, k ≤ n3 ∧ i = .int .i64 k ∧ Moves [] w wr ∧ wr.heap[w.heap.size + 1]? = some (.cells #[.int .i64 0, .slice none 0 0, .float .f64 0] 61 (0, 0)) ∧ (V.take k).find? (fun x => decide (x.t ≤ t)) = none) (fun i _ => n3 - (intOf i).toNat)
  case atStart => exact ⟨0, Nat.zero_le _, rfl, M3, c3, by simp⟩
  case round =>
    obtain ⟨k, hk, rfl, mr, q2, hnone⟩ := hrel
    have HNone : Hid ((V.take k).find? (fun x => decide (x.t ≤ t)) = none) := hnone
    clear hnone
    by_cases hlt : k < n3
    · have hk3 : (k : Int) < n3 := by omega
      obtain ⟨x, hx⟩ : ∃ x, V[k]? = some x := ⟨_, List.getElem?_eq_getElem (by rw [← hn3.out]; exact hlt)⟩
      obtain ⟨g, off, a2, n2, c2, rfl, e0, e1, e2, e3, hVC⟩ := HV3.out.at hx
      have MR := m.then mr
      have d0 := MR.cell e0
      have d1 := MR.cell e1
      have d2 := MR.cell e2
      have d3 := MR.cell e3
      have HX : Hid (V[k]? = some x) := hx
      have ma : Moves [] wr (wr.alloc (.cells #[.int .i64 x.t, .int .i64 x.v.kind, .slice a2 n2 c2, .float .f64 x.v.n] 69)) := (Moves.refl _ _).alloc _
      have HVC : Hid (VC wr [.int .i64 x.v.kind, .slice a2 n2 c2, .float .f64 x.v.n] x.v) := hVC.moves MR
      clear e0 e1 e2 e3 hx hVC MR
      by_cases hq : x.t ≤ t
      · have hf := find_some_take (fun x : Pver => decide (x.t ≤ t)) HX.out HNone.out (decide_eq_true hq)
        have he : Hid (A = some (pcanon x.v)) := by unfold Hid; rw [hAV.out, hf]; rfl
        clear hf
        go_wp2_with (go_at_call 83; refine (canonC_w wr _ _ _ _ _ _ _ HVC.out.va ma).mono ?_; rintro _ w5 ⟨ad6, n6, c6, rfl, hC5, m5, m6⟩; have c5 := m6.at q2 (by simp); obtain ⟨x0, x1, x2, f0, f1, f2⟩ := three_cells c5)
        try simp only [Exit.inBlock, Exit.then]
        obtain ⟨s1, s2, s3⟩ := stored3 c5 (mr.then m6) (by omega) (.int .i64 (pcanon x.v).kind) (.slice ad6 n6 c6) (.float .f64 (pcanon x.v).n)
        refine bodyPost_ret (ret_val2 rfl _ _ _ _ _ _ rfl s1) rfl ⟨(pcanon x.v).kind, ad6, n6, c6, (pcanon x.v).n, ?_, ?_, s2⟩
        · rw [he.out]; rfl
        · rw [he.out]
          exact hC5.box3 c5 s3
      · have hf := find_none_take (fun x : Pver => decide (x.t ≤ t)) HX.out HNone.out (decide_eq_false hq)
        have HF : Hid ((V.take (k + 1)).find? (fun x => decide (x.t ≤ t)) = none) := hf
        clear hf
        go_wp2_with fail
        go_roundw
        case rel => exact ⟨k + 1, by omega, by go_num, mr.then ma, ma.at q2 (by simp), HF.out⟩
        case measure => simp [intOf]; omega
    · have hk3 : ¬ (k : Int) < n3 := by omega
      obtain rfl : k = n3 := by omega
      have hf := HNone.out
      rw [hn3.out, List.take_length] at hf
      have he : Hid (A = none) := by unfold Hid; rw [hAV.out, hf]; rfl
      obtain ⟨x0, x1, x2, f0, f1, f2⟩ := three_cells q2
      clear hf
      go_wp2_with fail
      try simp only [Exit.inBlock, Exit.then]
      obtain ⟨s1, s2, s3⟩ := stored3 q2 mr (by omega) (.int .i64 0) (.slice none 0 0) (.float .f64 0)
      refine bodyPost_ret (ret_val2 rfl _ _ _ _ _ _ rfl s1) rfl ⟨0, none, 0, 0, 0, ?_, ?_, s2⟩
      · rw [he.out]; rfl
      · rw [he.out]
        exact ⟨none, 0, 0, 0, rfl, isB_nil _ _, fits_zero, by simp, by simp, .inl rfl⟩

set_option maxRecDepth 100000 in
set_option maxHeartbeats 4000000 in
theorem newest_w (W w : World) (v : Value) (R : List Pcol) (s : ByteArray) (h : RowAt W v R) (m : Moves [] W w) :
    Calls Try.prog 37 #[v, .string s] w fun e w' => ∃ k ad n cap x, e = .returned (.tuple #[.agg #[.int .i64 k, .slice ad n cap, .float .f64 x], .bool (pAt R s 1099511627776).isSome]) ∧ VC w' [.int .i64 k, .slice ad n cap, .float .f64 x] ((pAt R s 1099511627776).getD ⟨0, [], 0⟩) ∧ Moves [] w w' := by
  have hA := fun w1 (m1 : Moves [] W w1) => at_w W w1 v R s 1099511627776 h m1
  obtain ⟨lv, rfl, hl⟩ := h
  obtain ⟨ad, cap, rfl, hc⟩ := hl.slice
  clear hl
  obtain ⟨A, hAq⟩ : ∃ A, Hid (pAt R s 1099511627776 = A) := ⟨_, rfl⟩
  rw [hAq.out] at hA ⊢
  have hm : Moves [] W ((w.alloc (.cells #[.slice ad R.length cap] 26)).alloc (.cells #[.int .i64 0, .slice none 0 0, .float .f64 0] 61)) := (m.alloc _).alloc _
  go_enter Try.func37, Try.ntmps37
  go_wp2_with (go_at_call 84; refine (hA _ hm).mono ?_; rintro _ w2 ⟨k2, ad2, n2, cap2, x2, rfl, hVC, m2⟩; obtain ⟨p1, p2, m0⟩ := boxes m2; obtain ⟨x0, x1, x2', f0, f1, f2⟩ := three_cells p2)
  try simp only [Exit.inBlock, Exit.then]
  obtain ⟨s1, s2, s3⟩ := stored3 p2 m0 (by omega) (.int .i64 k2) (.slice ad2 n2 cap2) (.float .f64 x2)
  refine bodyPost_ret (ret_val2 rfl _ _ _ _ _ _ rfl s1) rfl ⟨_, _, _, _, _, rfl, ?_, s2⟩
  exact hVC.box3 p2 s3
end Go.Proofs.Ytdngndkdkbggkaa
/-
  row.Put: for every row, name, time and value the call returns what the chapter says, and writes nothing that was there.
-/
namespace Go.Proofs.Ytdngndkdkbggkaa
open Go.RowKit

theorem pPut_no {R : List Pcol} {s : ByteArray} {t : Int} {p : Pv} (h : (pname s && ptime t && pvr p) = false) : pPutE R s t p = 1 ∧ pPut R s t p = [] := by
  have e : pPutE R s t p = 1 := by unfold pPutE; rw [if_pos h]
  exact ⟨e, by unfold pPut; rw [e]; rfl⟩
theorem pPut_full {R : List Pcol} {s : ByteArray} {t : Int} {p : Pv} (h : (pname s && ptime t && pvr p) = true) (h2 : (pvers (pcopy R) s).length = 0 ∧ 4 ≤ (pcopy R).length) : pPutE R s t p = 13 ∧ pPut R s t p = [] := by
  have e : pPutE R s t p = 13 := by unfold pPutE; rw [if_neg (by simp [h]), if_pos h2]
  exact ⟨e, by unfold pPut; rw [e]; rfl⟩
theorem pPut_yes {R : List Pcol} {s : ByteArray} {t : Int} {p : Pv} (h : (pname s && ptime t && pvr p) = true) (h2 : ¬ ((pvers (pcopy R) s).length = 0 ∧ 4 ≤ (pcopy R).length)) : pPutE R s t p = 0 ∧ pPut R s t p = pwith (pcopy R) s (pput (pvers (pcopy R) s) ⟨t, pcanon p⟩) := by
  have e : pPutE R s t p = 0 := by unfold pPutE; rw [if_neg (by simp [h]), if_neg h2]
  exact ⟨e, by unfold pPut; rw [e]; rfl⟩

set_option maxRecDepth 100000 in
set_option maxHeartbeats 8000000 in
theorem rput_w (W w : World) (v : Value) (R : List Pcol) (s : ByteArray) (t : Int) (k : Int) (adv : Option Addr) (nv cv xv : Nat) (p : Pv) (h : RowAt W v R) (hv : VA W [.int .i64 k, .slice adv nv cv, .float .f64 xv] p) (m : Moves [] W w) :
    Calls Try.prog 35 #[v, .string s, .int .i64 t, .agg #[.int .i64 k, .slice adv nv cv, .float .f64 xv]] w fun e w' => ∃ ad n cap, e = .returned (.tuple #[.agg #[.slice ad n cap], .int .i64 (pPutE R s t p)]) ∧ ColsAt w' (.slice ad n cap) (pPut R s t p) ∧ Moves [] w w' := by
  have hC := fun w1 (m1 : Moves [] W w1) => copy_w W w1 v R h m1
  have hR := fun w1 (m1 : Moves [] W w1) => right4_w W w1 k adv nv cv xv p hv m1
  obtain ⟨lv, rfl, hl⟩ := h
  obtain ⟨ad, cap, rfl, hc⟩ := hl.slice
  have HV : Hid (VA W [.int .i64 k, .slice adv nv cv, .float .f64 xv] p) := hv
  have hlen := pcopy_len R
  have hvl := pvers_two (pcopy R) s (pcopy_l R)
  obtain ⟨E, hEq⟩ : ∃ E, Hid (pPutE R s t p = E) := ⟨_, rfl⟩
  obtain ⟨P, hPq⟩ : ∃ P, Hid (pPut R s t p = P) := ⟨_, rfl⟩
  obtain ⟨C, hCq⟩ : ∃ C, Hid (pcopy R = C) := ⟨_, rfl⟩
  obtain ⟨V, hVq⟩ : ∃ V, Hid (pvers C s = V) := ⟨_, rfl⟩
  rw [hEq.out, hPq.out]
  have hm : Moves [] W (((w.alloc (.cells #[.slice ad R.length cap] 26)).alloc (.cells #[.int .i64 k, .slice adv nv cv, .float .f64 xv] 61)).alloc (.cells #[.slice none 0 0] 26)) := ((m.alloc _).alloc _).alloc _
  obtain ⟨b1, b2, b3, bm⟩ := boxes3 (Moves.refl [] (((w.alloc (.cells #[.slice ad R.length cap] 26)).alloc (.cells #[.int .i64 k, .slice adv nv cv, .float .f64 xv] 61)).alloc (.cells #[.slice none 0 0] 26)))
  clear hl hv
  cases hp1 : pname s with
  | false =>
    obtain ⟨e1, e2⟩ := pPut_no (R := R) (s := s) (t := t) (p := p) (by rw [hp1]; rfl)
    rw [e1] at hEq
    rw [e2] at hPq
    obtain rfl : 1 = E := hEq.out
    obtain rfl : [] = P := hPq.out
    have HP : Hid (pname s = false) := hp1
    clear hp1 e1 e2
    obtain ⟨f0, f1⟩ := one_cell b3
    go_enter Try.func35, Try.ntmps35
    go_wp2_with (go_at_call 39; refine (name_w _ _).mono ?_; rintro _ _ ⟨rfl, rfl⟩; rw [HP.out])
    try simp only [Exit.inBlock, Exit.then]
    exact bodyPost_ret (ret_row2 rfl _ _ _ _ rfl b3) rfl ⟨_, _, _, rfl, ColsAt.nil _, bm⟩
  | true =>
    have HP : Hid (pname s = true) := hp1
    cases hp2 : ptime t with
    | false =>
      obtain ⟨e1, e2⟩ := pPut_no (R := R) (s := s) (t := t) (p := p) (by rw [hp1, hp2]; rfl)
      rw [e1] at hEq
      rw [e2] at hPq
      obtain rfl : 1 = E := hEq.out
      obtain rfl : [] = P := hPq.out
      have HT : Hid (ptime t = false) := hp2
      clear hp1 hp2 e1 e2
      obtain ⟨f0, f1⟩ := one_cell b3
      go_enter Try.func35, Try.ntmps35
      go_wp2_with (first | (go_at_call 39; refine (name_w _ _).mono ?_; rintro _ _ ⟨rfl, rfl⟩; rw [HP.out]) | (go_at_call 78; refine (rightTime_w _ _).mono ?_; rintro _ _ ⟨rfl, rfl⟩; rw [HT.out]))
      try simp only [Exit.inBlock, Exit.then]
      exact bodyPost_ret (ret_row2 rfl _ _ _ _ rfl b3) rfl ⟨_, _, _, rfl, ColsAt.nil _, bm⟩
    | true =>
      have HT : Hid (ptime t = true) := hp2
      cases hp3 : pvr p with
      | false =>
        obtain ⟨e1, e2⟩ := pPut_no (R := R) (s := s) (t := t) (p := p) (by rw [hp1, hp2, hp3]; rfl)
        rw [e1] at hEq
        rw [e2] at hPq
        obtain rfl : 1 = E := hEq.out
        obtain rfl : [] = P := hPq.out
        have HR : Hid (pvr p = false) := hp3
        clear hp1 hp2 hp3 e1 e2
        go_enter Try.func35, Try.ntmps35
        go_wp2_with (first | (go_at_call 39; refine (name_w _ _).mono ?_; rintro _ _ ⟨rfl, rfl⟩; rw [HP.out]) | (go_at_call 78; refine (rightTime_w _ _).mono ?_; rintro _ _ ⟨rfl, rfl⟩; rw [HT.out]) | (go_at_call 79; refine (right4_w _ _ _ _ _ _ _ p (HV.out.moves hm) (Moves.refl _ _)).mono ?_; rintro _ w2 ⟨rfl, m2⟩; rw [HR.out]; have c2 := m2.at b3 (by simp); obtain ⟨f0, f1⟩ := one_cell c2))
        try simp only [Exit.inBlock, Exit.then]
        exact bodyPost_ret (ret_row2 rfl _ _ _ _ rfl (set_one c2 _)) rfl ⟨_, _, _, rfl, ColsAt.nil _, (bm.then m2).setCell (.inr (by show _ ≤ _ + 1 + 1; omega)) _⟩
      | true =>
        have HR : Hid (pvr p = true) := hp3
        have hall : (pname s && ptime t && pvr p) = true := by rw [hp1, hp2, hp3]; rfl
        have hfull := pPut_full (R := R) hall
        have hyes := pPut_yes (R := R) hall
        rw [hCq.out, hVq.out] at hfull hyes hvl
        rw [hCq.out] at hlen hC
        rw [hEq.out, hPq.out] at hfull hyes
        obtain ⟨no, hno⟩ : ∃ no, Hid (no = C.length) := ⟨_, rfl⟩
        obtain ⟨nw, hnw⟩ : ∃ nw, Hid (nw = V.length) := ⟨_, rfl⟩
        rw [← hno.out, ← hnw.out] at hfull hyes
        rw [← hno.out] at hlen
        rw [← hnw.out] at hvl
        have hC1 : C.length ≤ 1048576 := by have := hno.out; omega
        have hC2 : C.length ≤ 100000 := by have := hno.out; omega
        have hV2 : nw ≤ 100000 := by omega
        clear hp1 hp2 hp3 hall hR
        by_cases hcase : nw = 0 ∧ 4 ≤ no
        · obtain ⟨e1, e2⟩ := hfull hcase
          subst e1 e2
          obtain ⟨hz, hf4⟩ := hcase
          subst hz
          have hf4' : (4 : Int) ≤ no := by omega
          clear hfull hyes
          go_enter Try.func35, Try.ntmps35
          go_wp2_with (first | (go_at_call 39; refine (name_w _ _).mono ?_; rintro _ _ ⟨rfl, rfl⟩; rw [HP.out]) | (go_at_call 78; refine (rightTime_w _ _).mono ?_; rintro _ _ ⟨rfl, rfl⟩; rw [HT.out]) | (go_at_call 79; refine (right4_w _ _ _ _ _ _ _ p (HV.out.moves hm) (Moves.refl _ _)).mono ?_; rintro _ w2 ⟨rfl, m2⟩; rw [HR.out]; have c1 := m2.at b1 (by simp); have c2 := m2.at b3 (by simp); obtain ⟨g0, g1⟩ := one_cell c1) | (go_at_call 50; refine (hC _ (hm.then m2)).mono ?_; rintro _ w3 ⟨lv3, rfl, hG3, m3⟩; have c3 := m3.at c2 (by simp); have hA3 := hG3.at; obtain ⟨ad3, n3, cap3, rfl, hn3⟩ := hG3.open; obtain rfl : n3 = no := hn3.out.trans hno.out.symm) | (go_at_call 80; refine (versions_w w3 _ _ C s ⟨_, rfl, hA3⟩ ((Moves.refl _ _).alloc _) hC1).mono ?_; rintro _ w4 ⟨ad4, n4, cap4, rfl, hV4, m4⟩; rw [hVq.out] at hV4; obtain rfl : 0 = n4 := (hnw.out.trans hV4.len.symm); obtain ⟨q1, mq⟩ := boxesW m4; obtain ⟨h0, h1⟩ := one_cell q1; have c4 := mq.at c3 (by simp); obtain ⟨f0, f1⟩ := one_cell c4))
          try simp only [Exit.inBlock, Exit.then]
          exact bodyPost_ret (ret_row2 rfl _ _ _ _ rfl (set_one c4 _)) rfl ⟨_, _, _, rfl, ColsAt.nil _, (((bm.then m2).then m3).then mq).setCell (.inr (by show _ ≤ _ + 1 + 1; omega)) _⟩
        · obtain ⟨e1, e2⟩ := hyes hcase
          subst e1 e2
          clear hfull hyes
          by_cases hz : nw = 0
          · subst hz
            have hf4 : no < 4 := by omega
            have hf4' : ¬ (4 : Int) ≤ no := by omega
            go_enter Try.func35, Try.ntmps35
            go_wp2_with (first | (go_at_call 39; refine (name_w _ _).mono ?_; rintro _ _ ⟨rfl, rfl⟩; rw [HP.out]) | (go_at_call 78; refine (rightTime_w _ _).mono ?_; rintro _ _ ⟨rfl, rfl⟩; rw [HT.out]) | (go_at_call 79; refine (right4_w _ _ _ _ _ _ _ p (HV.out.moves hm) (Moves.refl _ _)).mono ?_; rintro _ w2 ⟨rfl, m2⟩; rw [HR.out]; have c1 := m2.at b1 (by simp); have c2 := m2.at b3 (by simp); obtain ⟨g0, g1⟩ := one_cell c1) | (go_at_call 50; refine (hC _ (hm.then m2)).mono ?_; rintro _ w3 ⟨lv3, rfl, hG3, m3⟩; have c3 := m3.at c2 (by simp); have hA3 := hG3.at; obtain ⟨ad3, n3, cap3, rfl, hn3⟩ := hG3.open; obtain rfl : n3 = no := hn3.out.trans hno.out.symm) | (go_at_call 80; refine (versions_w w3 _ _ C s ⟨_, rfl, hA3⟩ ((Moves.refl _ _).alloc _) hC1).mono ?_; rintro _ w4 ⟨ad4, n4, cap4, rfl, hV4, m4⟩; rw [hVq.out] at hV4; obtain rfl : 0 = n4 := (hnw.out.trans hV4.len.symm); obtain ⟨q1, mq⟩ := boxesW m4; obtain ⟨h0, h1⟩ := one_cell q1; have c4 := mq.at c3 (by simp); skip))
            have e1 := mq.at (m3.at (m2.at b2 (by simp)) (by simp)) (by simp)
            obtain ⟨v0, v1, v2, _, _, _⟩ := three_cells e1
            have hlt3 := lt_of_block c3
            have HA3 : Hid (RowAt w3 (.agg #[.slice ad3 n3 cap3]) C) := ⟨_, rfl, hA3⟩
            have HV4 : Hid (VersAt w3 (.slice ad4 0 cap4) V) := hV4
            have HVC : Hid (VA w4.drew [.int .i64 k, .slice adv nv cv, .float .f64 xv] p) := HV.out.moves (((hm.then m2).then m3).then mq).drew
            have hM : Moves [] w w4 := ((bm.then m2).then m3).then mq
            clear hA3 hV4 hG3 hC e1 q1 m4 b1 b2 c1
            go_region_held3 (fun w' => w'.cell? ⟨w3.heap.size, 0, none⟩ = some (.slice ad3 n3 cap3) ∧ w'.cell? ⟨w.heap.size + 1, 0, none⟩ = some (.int .i64 k) ∧ w'.cell? ⟨w.heap.size + 1, 1, none⟩ = some (.slice adv nv cv) ∧ w'.cell? ⟨w.heap.size + 1, 2, none⟩ = some (.float .f64 xv)) (first | exact ⟨(moves_set _ _ _ _).cellOf (m9.cell h0) (by simp; omega), (moves_set _ _ _ _).cellOf (m9.cell v0) (by simp), (moves_set _ _ _ _).cellOf (m9.cell v1) (by simp), (moves_set _ _ _ _).cellOf (m9.cell v2) (by simp)⟩ | exact ⟨m9.cell h0, m9.cell v0, m9.cell v1, m9.cell v2⟩ | exact ⟨m7.cell h0, m7.cell v0, m7.cell v1, m7.cell v2⟩ | exact ⟨m5.cell h0, m5.cell v0, m5.cell v1, m5.cell v2⟩ | exact ⟨h0, v0, v1, v2⟩) (first | (go_at_call 83; refine (canonC_w w4.drew _ _ _ _ _ _ _ HVC.out (Moves.refl _ _)).mono ?_; rintro _ w5 ⟨ad5, n5, c5, rfl, hC5, m5, _⟩; have HC5 : Hid (VC w5 [.int .i64 (pcanon p).kind, .slice ad5 n5 c5, .float .f64 (pcanon p).n] (pcanon p)) := hC5; clear hC5) | (go_at_call 82; refine (put_w w5 _ _ _ _ V ⟨t, pcanon p⟩ _ _ _ (HV4.out.moves (mq.drew.then m5)) hnw HC5.out (Moves.refl _ _) hV2).mono ?_; rintro _ w7 ⟨ad7, n7, cap7, rfl, hn7, hG7, m57⟩; have m7 := m5.then m57) | (go_at_call 81; refine (with_w w7 _ _ C s _ _ _ _ (HA3.out.moves (mq.drew.then m7)) hG7 hn7 (Moves.refl _ _) hC2).mono ?_; rintro _ w9 ⟨ad9, n9, cap9, rfl, hG9, m79⟩; have m9 := m7.then m79; have c9 := m9.at c4 (by simp); obtain ⟨f0, f1⟩ := one_cell c9))
            go_wp2_with fail
            try simp only [Exit.inBlock, Exit.then]
            exact bodyPost_ret (ret_row2 rfl _ _ _ _ rfl (set_one c9 _)) rfl ⟨_, _, _, rfl, (hG9.setRow c9 _).at, (hM.drew.then m9).setCell (.inr (by show _ ≤ _ + 1 + 1; omega)) _⟩
          · have hz' : (nw : Int) ≠ 0 := by omega
            go_enter Try.func35, Try.ntmps35
            go_wp2_with (first | (go_at_call 39; refine (name_w _ _).mono ?_; rintro _ _ ⟨rfl, rfl⟩; rw [HP.out]) | (go_at_call 78; refine (rightTime_w _ _).mono ?_; rintro _ _ ⟨rfl, rfl⟩; rw [HT.out]) | (go_at_call 79; refine (right4_w _ _ _ _ _ _ _ p (HV.out.moves hm) (Moves.refl _ _)).mono ?_; rintro _ w2 ⟨rfl, m2⟩; rw [HR.out]; have c1 := m2.at b1 (by simp); have c2 := m2.at b3 (by simp); obtain ⟨g0, g1⟩ := one_cell c1) | (go_at_call 50; refine (hC _ (hm.then m2)).mono ?_; rintro _ w3 ⟨lv3, rfl, hG3, m3⟩; have c3 := m3.at c2 (by simp); have hA3 := hG3.at; obtain ⟨ad3, n3, cap3, rfl, hn3⟩ := hG3.open; obtain rfl : n3 = no := hn3.out.trans hno.out.symm) | (go_at_call 80; refine (versions_w w3 _ _ C s ⟨_, rfl, hA3⟩ ((Moves.refl _ _).alloc _) hC1).mono ?_; rintro _ w4 ⟨ad4, n4, cap4, rfl, hV4, m4⟩; rw [hVq.out] at hV4; obtain rfl : n4 = nw := (hV4.len.trans hnw.out.symm); obtain ⟨q1, mq⟩ := boxesW m4; obtain ⟨h0, h1⟩ := one_cell q1; have c4 := mq.at c3 (by simp); skip))
            have e1 := mq.at (m3.at (m2.at b2 (by simp)) (by simp)) (by simp)
            obtain ⟨v0, v1, v2, _, _, _⟩ := three_cells e1
            have hlt3 := lt_of_block c3
            have HA3 : Hid (RowAt w3 (.agg #[.slice ad3 n3 cap3]) C) := ⟨_, rfl, hA3⟩
            have HV4 : Hid (VersAt w3 (.slice ad4 n4 cap4) V) := hV4
            have HVC : Hid (VA w4.drew [.int .i64 k, .slice adv nv cv, .float .f64 xv] p) := HV.out.moves (((hm.then m2).then m3).then mq).drew
            have hM : Moves [] w w4 := ((bm.then m2).then m3).then mq
            clear hA3 hV4 hG3 hC e1 q1 m4 b1 b2 c1
            go_region_held3 (fun w' => w'.cell? ⟨w3.heap.size, 0, none⟩ = some (.slice ad3 n3 cap3) ∧ w'.cell? ⟨w.heap.size + 1, 0, none⟩ = some (.int .i64 k) ∧ w'.cell? ⟨w.heap.size + 1, 1, none⟩ = some (.slice adv nv cv) ∧ w'.cell? ⟨w.heap.size + 1, 2, none⟩ = some (.float .f64 xv)) (first | exact ⟨(moves_set _ _ _ _).cellOf (m9.cell h0) (by simp; omega), (moves_set _ _ _ _).cellOf (m9.cell v0) (by simp), (moves_set _ _ _ _).cellOf (m9.cell v1) (by simp), (moves_set _ _ _ _).cellOf (m9.cell v2) (by simp)⟩ | exact ⟨m9.cell h0, m9.cell v0, m9.cell v1, m9.cell v2⟩ | exact ⟨m7.cell h0, m7.cell v0, m7.cell v1, m7.cell v2⟩ | exact ⟨m5.cell h0, m5.cell v0, m5.cell v1, m5.cell v2⟩ | exact ⟨h0, v0, v1, v2⟩) (first | (go_at_call 83; refine (canonC_w w4.drew _ _ _ _ _ _ _ HVC.out (Moves.refl _ _)).mono ?_; rintro _ w5 ⟨ad5, n5, c5, rfl, hC5, m5, _⟩; have HC5 : Hid (VC w5 [.int .i64 (pcanon p).kind, .slice ad5 n5 c5, .float .f64 (pcanon p).n] (pcanon p)) := hC5; clear hC5) | (go_at_call 82; refine (put_w w5 _ _ _ _ V ⟨t, pcanon p⟩ _ _ _ (HV4.out.moves (mq.drew.then m5)) hnw HC5.out (Moves.refl _ _) hV2).mono ?_; rintro _ w7 ⟨ad7, n7, cap7, rfl, hn7, hG7, m57⟩; have m7 := m5.then m57) | (go_at_call 81; refine (with_w w7 _ _ C s _ _ _ _ (HA3.out.moves (mq.drew.then m7)) hG7 hn7 (Moves.refl _ _) hC2).mono ?_; rintro _ w9 ⟨ad9, n9, cap9, rfl, hG9, m79⟩; have m9 := m7.then m79; have c9 := m9.at c4 (by simp); obtain ⟨f0, f1⟩ := one_cell c9))
            go_wp2_with fail
            try simp only [Exit.inBlock, Exit.then]
            exact bodyPost_ret (ret_row2 rfl _ _ _ _ rfl (set_one c9 _)) rfl ⟨_, _, _, rfl, (hG9.setRow c9 _).at, (hM.drew.then m9).setCell (.inr (by show _ ≤ _ + 1 + 1; omega)) _⟩
end Go.Proofs.Ytdngndkdkbggkaa
