/-
  row.put: for every list of versions and every version the call returns the list with it at its place, and writes nothing that was there.
-/
import Derived.Test.YtfegflimnngfaabCRow5
namespace Go.Proofs.Ytfegflimnngfaab
open Go.RowKit

theorem Lies.take {w : World} {e : TypeId} {size : Nat} {ad : Option Addr} {n cap : Nat} {css : List (List Value)} (h : Lies w e size (.slice ad n cap) css) {k c : Nat} (hk : k ≤ n) (hc : k ≤ c) (hc2 : c ≤ cap) : Lies w e size (.slice ad k c) (css.take k) := by
  obtain ⟨h0, ad', cap', h1, h2, h3, h4⟩ := h
  simp at h1
  obtain ⟨rfl, rfl, rfl⟩ := h1
  refine ⟨fun x hx => h0 x (List.mem_of_mem_take hx), ad, c, by rw [List.length_take, Nat.min_eq_left hk], by rw [List.length_take, Nat.min_eq_left hk]; exact hc, fun hn => by have := h3 hn; omega, ?_⟩
  rcases h4 with rfl | ⟨g, off, arr, fz, k1, k2, k3⟩
  · exact .inl (by simp)
  · refine .inr ⟨g, off, arr, fz, k1, k2, fun i x hi j u hj => k3 i x ?_ j u hj⟩
    rw [List.getElem?_take] at hi
    split at hi
    · exact hi
    · simp at hi
theorem take_min_two {α : Type} (l : List α) : l.take (min l.length 2) = l.take 2 := by
  by_cases h : l.length ≤ 2
  · rw [Nat.min_eq_left h, List.take_length, List.take_of_length_le h]
  · rw [Nat.min_eq_right (by omega)]
theorem VersAt.take {w : World} {ad : Option Addr} {n cap : Nat} {xs : List Pver} (h : VersAt w (.slice ad n cap) xs) {k c : Nat} (hk : k ≤ n) (hc : k ≤ c) (hc2 : c ≤ cap) : VersAt w (.slice ad k c) (xs.take k) := by
  obtain ⟨css, h1, h2⟩ := h
  exact ⟨css.take k, h1.take hk hc hc2, h2.take k⟩
theorem ColsAt.take {w : World} {ad : Option Addr} {n cap : Nat} {xs : List Pcol} (h : ColsAt w (.slice ad n cap) xs) {k c : Nat} (hk : k ≤ n) (hc : k ≤ c) (hc2 : c ≤ cap) : ColsAt w (.slice ad k c) (xs.take k) := by
  obtain ⟨css, h1, h2⟩ := h
  exact ⟨css.take k, h1.take hk hc hc2, h2.take k⟩

set_option maxRecDepth 100000 in
set_option maxHeartbeats 4000000 in
theorem put_w (W w : World) (ad : Option Addr) (n cap : Nat) (xs : List Pver) (y : Pver) (ay : Option Addr) (ny cy : Nat) (h : VersAt W (.slice ad n cap) xs) (hn : Hid (n = xs.length)) (hy : VC W [.int .i64 y.v.kind, .slice ay ny cy, .float .f64 y.v.n] y.v) (m : Moves [] W w) (hsm : n ≤ 100000) :
    Calls Try.prog 73 #[.slice ad n cap, .agg #[.int .i64 y.t, .int .i64 y.v.kind, .slice ay ny cy, .float .f64 y.v.n]] w fun e w' => ∃ ad' n' cap', e = .returned (.slice ad' n' cap') ∧ Hid (n' = (pput xs y).length) ∧ VersAt w' (.slice ad' n' cap') (pput xs y) ∧ Moves [] w w' := by
  have HY : Hid (VC W [.int .i64 y.v.kind, .slice ay ny cy, .float .f64 y.v.n] y.v) := hy
  clear hy
  go_enter Try.func73, Try.ntmps73
  go_wp2_with fail
  obtain ⟨w0, hw0⟩ : ∃ w0, w.alloc (.cells #[.int .i64 y.t, .int .i64 y.v.kind, .slice ay ny cy, .float .f64 y.v.n] 69) = w0 := ⟨_, rfl⟩
  have m0 : Moves [] w w0 := by rw [← hw0]; exact (Moves.refl _ _).alloc _
  have p2 : w0.heap[w.heap.size]? = some (.cells #[.int .i64 y.t, .int .i64 y.v.kind, .slice ay ny cy, .float .f64 y.v.n] 69 (0, 0)) := by rw [← hw0]; exact heap_alloc_new _ _
  have sz0 : w.heap.size < w0.heap.size := lt_of_block p2
  rw [hw0]
  clear hw0
  go_loopw [5, 6, 13] (fun u1 u2 i wr => ∃ k : Nat, k ≤ n ∧ i = .int .i64 k ∧ Moves [] w0 wr ∧ GrowV w0 wr u1 ((xs.take k).filter (fun x => decide (y.t < x.t))) ∧ GrowV w0 wr u2 ((xs.take k).filter (fun x => decide (x.t < y.t))) ∧ Apart u1 u2) (fun _ _ i _ => n - (intOf i).toNat)
  case atStart => exact ⟨0, Nat.zero_le _, rfl, Moves.refl _ _, by simpa using GrowV.nil _ _, by simpa using GrowV.nil _ _, Apart.nil _⟩
  case round =>
    obtain ⟨k, hk, rfl, mr, hG1, hG2, hap⟩ := hrel
    obtain ⟨ad4, n4, cap4, rfl, hn4⟩ := hG1.open
    obtain ⟨ad5, n5, cap5, rfl, hn5⟩ := hG2.open
    have HG1 : Hid (GrowV w0 wr (.slice ad4 n4 cap4) ((xs.take k).filter (fun x => decide (y.t < x.t)))) := hG1
    have HG2 : Hid (GrowV w0 wr (.slice ad5 n5 cap5) ((xs.take k).filter (fun x => decide (x.t < y.t)))) := hG2
    have HAP : Hid (Apart (.slice ad4 n4 cap4) (.slice ad5 n5 cap5)) := hap
    have q2 := mr.at p2 (by simp)
    clear hG1 hG2 hap
    by_cases hlt : k < n
    · have hk3 : (k : Int) < n := by omega
      obtain ⟨x, hx⟩ : ∃ x, xs[k]? = some x := ⟨_, List.getElem?_eq_getElem (by rw [← hn.out]; exact hlt)⟩
      obtain ⟨g, off, a2, n2, c2, rfl, e0, e1, e2, e3, hV⟩ := h.at hx
      have MR := (m.then m0).then mr
      have d0 := MR.cell e0
      have d1 := MR.cell e1
      have d2 := MR.cell e2
      have d3 := MR.cell e3
      have hf1 := filter_take (fun x : Pver => decide (y.t < x.t)) hx
      have hf2 := filter_take (fun x : Pver => decide (x.t < y.t)) hx
      have HV : Hid (VC W [.int .i64 x.v.kind, .slice a2 n2 c2, .float .f64 x.v.n] x.v) := hV
      have hb1 : ((xs.take k).filter (fun x => decide (y.t < x.t))).length + [x].length ≤ 1048576 := by
        have := List.length_filter_le (fun x : Pver => decide (y.t < x.t)) (xs.take k)
        have := List.length_take_le k xs
        simp
        omega
      have hb2 : ((xs.take k).filter (fun x => decide (x.t < y.t))).length + [x].length ≤ 1048576 := by
        have := List.length_filter_le (fun x : Pver => decide (x.t < y.t)) (xs.take k)
        have := List.length_take_le k xs
        simp
        omega
      clear e0 e1 e2 e3 hx hV h
      have ma1 : Moves [] wr (wr.alloc (.cells #[.int .i64 x.t, .int .i64 x.v.kind, .slice a2 n2 c2, .float .f64 x.v.n] 69)) := (Moves.refl _ _).alloc _
      have ma : Moves [] wr ((wr.alloc (.cells #[.int .i64 x.t, .int .i64 x.v.kind, .slice a2 n2 c2, .float .f64 x.v.n] 69)).alloc (.cells #[.int .i64 x.t, .int .i64 x.v.kind, .slice a2 n2 c2, .float .f64 x.v.n] 69)) := ((Moves.refl _ _).alloc _).alloc _
      have hcn := vers_new' wr (.cells #[.int .i64 x.t, .int .i64 x.v.kind, .slice a2 n2 c2, .float .f64 x.v.n] 69) (.int .i64 x.t) _ _ _ x ⟨_, rfl, HV.out.moves (MR.alloc _)⟩
      have hG1 := HG1.out.moves0 ma
      have hG2 := HG2.out.moves0 ma
      have hM1 := mr.then ma
      obtain ⟨y0, _⟩ := quad_cells (ma1.at q2 (by simp))
      clear MR
      by_cases hq : y.t < x.t
      · have hgt : ¬ x.t < y.t := by omega
        rw [decide_eq_true hq] at hf1
        rw [decide_eq_false hgt] at hf2
        have HF1 : Hid ((xs.take (k + 1)).filter (fun x => decide (y.t < x.t)) = (xs.take k).filter (fun x => decide (y.t < x.t)) ++ [x]) := hf1.trans (by simp)
        have HF2 : Hid ((xs.take (k + 1)).filter (fun x => decide (x.t < y.t)) = (xs.take k).filter (fun x => decide (x.t < y.t))) := hf2.trans (by simp)
        clear hf1 hf2 hgt
        go_wp2_with (at_builtin; refine growV_append (.tmp 23) (.tmp 25) rfl _ _ _ [x] rfl rfl (by rfl) hG1 hcn hM1 hb1 ?_; intro v8 w8 hG8 M8 m8 s8 l8; have hsl := hG8.open; obtain ⟨ad9, n9, cap9, rfl, hn9⟩ := hsl)
        go_roundw
        case rel => exact ⟨k + 1, by omega, by go_num, M8, by rw [HF1.out]; exact hG8, by rw [HF2.out]; exact hG2.moves m8 HAP.out.not (s8.weak (by intro t ht; rw [ht]; decide)), HAP.out.grown l8 (fun _ hb => hG2.lt hb)⟩
        case measure => simp [intOf]; omega
      · by_cases hqe : x.t < y.t
        · rw [decide_eq_false hq] at hf1
          rw [decide_eq_true hqe] at hf2
          have HF1 : Hid ((xs.take (k + 1)).filter (fun x => decide (y.t < x.t)) = (xs.take k).filter (fun x => decide (y.t < x.t))) := hf1.trans (by simp)
          have HF2 : Hid ((xs.take (k + 1)).filter (fun x => decide (x.t < y.t)) = (xs.take k).filter (fun x => decide (x.t < y.t)) ++ [x]) := hf2.trans (by simp)
          clear hf1 hf2
          go_wp2_with (at_builtin; refine growV_append (.tmp 33) (.tmp 35) rfl _ _ _ [x] rfl rfl (by rfl) hG2 hcn hM1 hb2 ?_; intro v8 w8 hG8 M8 m8 s8 l8; have hsl := hG8.open; obtain ⟨ad9, n9, cap9, rfl, hn9⟩ := hsl)
          go_roundw
          case rel => exact ⟨k + 1, by omega, by go_num, M8, by rw [HF1.out]; exact hG1.moves m8 HAP.out.symm.not (s8.weak (by intro t ht; rw [ht]; decide)), by rw [HF2.out]; exact hG8, (HAP.out.symm.grown l8 (fun _ hb => hG1.lt hb)).symm⟩
          case measure => simp [intOf]; omega
        · rw [decide_eq_false hq] at hf1
          rw [decide_eq_false hqe] at hf2
          have HF1 : Hid ((xs.take (k + 1)).filter (fun x => decide (y.t < x.t)) = (xs.take k).filter (fun x => decide (y.t < x.t))) := hf1.trans (by simp)
          have HF2 : Hid ((xs.take (k + 1)).filter (fun x => decide (x.t < y.t)) = (xs.take k).filter (fun x => decide (x.t < y.t))) := hf2.trans (by simp)
          clear hf1 hf2
          go_wp2_with fail
          go_roundw
          case rel => exact ⟨k + 1, by omega, by go_num, mr.then ma1, by rw [HF1.out]; exact HG1.out.moves0 ma1, by rw [HF2.out]; exact HG2.out.moves0 ma1, HAP.out⟩
          case measure => simp [intOf]; omega
    · have hk3 : ¬ (k : Int) < n := by omega
      obtain rfl : k = n := by omega
      have hA := HG1.out
      have hB := HG2.out
      rw [hn.out, List.take_length] at hA hB
      have hla : (xs.filter (fun x => decide (y.t < x.t))).length ≤ 100000 := by
        have := List.length_filter_le (fun x : Pver => decide (y.t < x.t)) xs
        have := hn.out
        omega
      have hlb : (xs.filter (fun x => decide (x.t < y.t))).length ≤ 100000 := by
        have := List.length_filter_le (fun x : Pver => decide (x.t < y.t)) xs
        have := hn.out
        omega
      clear HG1 HG2 h hn4 hn5
      have ma : Moves [] wr (wr.alloc (.cells #[.int .i64 y.t, .int .i64 y.v.kind, .slice ay ny cy, .float .f64 y.v.n] 69)) := (Moves.refl _ _).alloc _
      have hcn := vers_new wr (.int .i64 y.t) _ _ _ y ⟨_, rfl, HY.out.moves ((m.then m0).then mr)⟩
      have hA1 := hA.moves0 ma
      have hB1 := hB.moves0 ma
      have hbd : (xs.filter (fun x => decide (y.t < x.t))).length + [y].length ≤ 1048576 := by simp; omega
      have hbd2 : (xs.filter (fun x => decide (y.t < x.t)) ++ [y]).length + (xs.filter (fun x => decide (x.t < y.t))).length ≤ 1048576 := by simp; omega
      have M1 := mr.then ma
      obtain ⟨y0, y1, y2, y3⟩ := quad_cells q2
      clear hA hB
      go_wp2_with (first | (at_builtin; refine growV_append (.tmp 38) (.tmp 40) rfl _ _ _ [y] rfl rfl (by rfl) hA1 hcn M1 hbd ?_; intro v6 w6 hG6 M6 m6 s6 l6; have hsl := hG6.open; obtain ⟨ad6, n6, cap6, rfl, hn6⟩ := hsl; have hB6 := (hB1.moves m6 HAP.out.not (s6.weak (by intro t ht; rw [ht]; decide))).at) | (at_builtin; refine growV_append (.tmp 41) (.tmp 42) rfl _ _ _ _ rfl rfl (by rfl) hG6 hB6 M6 hbd2 ?_; intro v8 w8 hG8 M8 m8 s8 l8; have hsl := hG8.slice; obtain ⟨ad9, cap9, e9, hc9⟩ := hsl; obtain ⟨n9, hn9⟩ : ∃ n9, Hid (n9 = (xs.filter (fun x => decide (y.t < x.t)) ++ [y] ++ xs.filter (fun x => decide (x.t < y.t))).length) := ⟨_, rfl⟩; rw [← hn9.out] at e9 hc9; subst e9; have HG8 : Hid (GrowV w0 w8 (.slice ad9 n9 cap9) (xs.filter (fun x => decide (y.t < x.t)) ++ [y] ++ xs.filter (fun x => decide (x.t < y.t)))) := hG8; clear hG8))
      have hk2 : (min (n9 : Int) 2).toNat = min n9 2 := by omega
      have hpp : (xs.filter (fun x => decide (y.t < x.t)) ++ [y] ++ xs.filter (fun x => decide (x.t < y.t))).take (min n9 2) = pput xs y := by
        unfold pput
        rw [hn9.out]
        exact take_min_two _
      have hAt := HG8.out.at.take (k := (min (n9 : Int) 2).toNat) (c := (min (n9 : Int) 2).toNat) (by omega) (Nat.le_refl _) (by omega)
      have hlen : (min (n9 : Int) 2).toNat = (pput xs y).length := by
        rw [hk2, ← hpp, List.length_take, ← hn9.out]
        omega
      rw [hk2] at hAt
      rw [hpp] at hAt
      rw [← hk2] at hAt
      go_ret
      exact ⟨ad9, _, _, rfl, hlen, hAt, m0.then M8⟩
end Go.Proofs.Ytfegflimnngfaab
