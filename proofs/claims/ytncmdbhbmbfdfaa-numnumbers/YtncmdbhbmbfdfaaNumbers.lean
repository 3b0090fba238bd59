/-
  Proved: NumNumbers returns true. It takes no argument. No condition.
-/
import Derived.Test.YtncmdbhbmbfdfaaSlices
import Derived.Deep.RegionWith
import Derived.ProofKit
import Derived.OpenShut
namespace Go.Proofs.Ytncmdbhbmbfdfaa
open Go.RowKit

/-- The words of the law's own list. -/
def odds : List Nat := [0, 9223372036854775808, 4607182418800017408, 13830554455654793216, infOf 1, infOf (-1), 9221120237041090561, 18444492273895866369, 9218868437227405313, 9218868437227405311, 18442240474082181119, 1, 9223372036854775809, 4591870180066957722, 2024022533073106]

theorem odds_fit : AllFit odds := fun i => by
  match i with
  | 0 | 1 | 2 | 3 | 4 | 5 | 6 | 7 | 8 | 9 | 10 | 11 | 12 | 13 | 14 => unfold Pl.Fits; decide
  | i + 15 =>
    have : nth odds (i + 15) = 0 := by
      unfold nth
      rw [List.getD_eq_getElem?_getD, List.getElem?_eq_none (by simp [odds])]
      rfl
    rw [this]; exact fits_zero

theorem odds_cells (w : World) : Floats (w.alloc (.cells (odds.map (Value.float .f64)).toArray 25)) w.heap.size 0 15 odds := fun i hi => by
  show (match (w.heap.push (.cells (odds.map (Value.float .f64)).toArray 25))[w.heap.size]? with | some (.cells c _ _) => if false then none else c[0 + i]? | _ => none) = _
  have e : (w.heap.push (.cells (odds.map (Value.float .f64)).toArray 25))[w.heap.size]? = some (.cells (odds.map (Value.float .f64)).toArray 25) := by simp
  rw [e]
  have hl : i < odds.length := hi
  simp [nth, hl]

set_option maxHeartbeats 1000000 in
theorem odd_w (w : World) :
    Calls Try.prog 9 #[] w fun e w' => ∃ g zs, e = .returned (.slice (some ⟨g, 0, none⟩) 15 15) ∧ AllFit zs ∧ Floats w' g 0 15 zs ∧ Below w.heap.size w w' := by
  go_enter Try.func9, Try.ntmps9
  go_wp2_with (first
    | (go_at_call 22; refine (copysign_w _).mono ?_; rintro _ _ ⟨rfl, rfl⟩)
    | (go_at_call 26; refine (inf_w _ _).mono ?_; rintro _ _ ⟨rfl, rfl⟩)
    | (go_at_call 24; refine (nan_w _).mono ?_; rintro _ _ ⟨rfl, rfl⟩))
  go_ret
  exact ⟨w.heap.size, odds, rfl, odds_fit, odds_cells w, (Below.refl _ _).alloc (Nat.le_refl _) _⟩

theorem three_fl (w : World) {p q r : Nat} (hp : Pl.Fits p) (hq : Pl.Fits q) (hr : Pl.Fits r) :
    IsFl (w.alloc (.cells #[.float .f64 p, .float .f64 q, .float .f64 r] 25)) (some ⟨w.heap.size, 0, none⟩) 3 3 [p, q, r] := by
  have hfit : AllFit [p, q, r] := fun i => by
    match i with
    | 0 => exact hp
    | 1 => exact hq
    | 2 => exact hr
    | i + 3 => exact fits_zero
  refine .inr (.inr ⟨w.heap.size, 0, rfl, by omega, by omega, by omega, fun i hi => ?_, hfit⟩)
  show (match (w.heap.push (.cells #[.float .f64 p, .float .f64 q, .float .f64 r] 25))[w.heap.size]? with | some (.cells c _ _) => if false then none else c[0 + i]? | _ => none) = _
  have e : (w.heap.push (.cells #[.float .f64 p, .float .f64 q, .float .f64 r] 25))[w.heap.size]? = some (.cells #[.float .f64 p, .float .f64 q, .float .f64 r] 25) := by simp
  rw [e]
  match i, hi with
  | 0, _ => rfl
  | 1, _ => rfl
  | 2, _ => rfl

theorem fits_one : Pl.Fits 4607182418800017408 := by unfold Pl.Fits; omega

theorem Floats.at {w : World} {g n : Nat} {zs : List Nat} (h : Floats w g 0 n zs) {i : Nat} (hi : i < n) : w.cell? ⟨g, i, none⟩ = some (.float .f64 (nth zs i)) := by
  have := h i hi
  rw [Nat.zero_add] at this; exact this

theorem head_fl {w : World} {g i n : Nat} {zs : List Nat} (h : Floats w g 0 n zs) (hz : AllFit zs) (hi : i ≤ n) (hn : n ≤ 9223372036854775807) : IsFl w (some ⟨g, 0, none⟩) i n zs := by
  by_cases h0 : i = 0
  · exact .inr (.inl ⟨_, rfl, h0⟩)
  · exact .inr (.inr ⟨g, 0, rfl, by omega, hi, by omega, fun k hk => h k (by omega), hz⟩)

theorem tail_fl {w : World} {g i n : Nat} {zs : List Nat} (h : Floats w g 0 n zs) (hz : AllFit zs) (hi : i < n) (hn : n ≤ 9223372036854775807) : IsFl w (some ⟨g, i, none⟩) (n - i) (n - i) (zs.drop i) := by
  have hnth : ∀ k, nth (zs.drop i) k = nth zs (i + k) := fun k => by simp [nth]
  refine .inr (.inr ⟨g, i, rfl, by omega, Nat.le_refl _, by omega, fun k hk => ?_, fun k => by rw [hnth]; exact hz _⟩)
  have := h (i + k) (by omega)
  rw [Nat.zero_add] at this
  rw [hnth]; exact this

set_option maxHeartbeats 40000000 in
theorem numbers_w (w : World) :
    Calls Try.prog 3 #[] w fun e w' => e = .returned (.bool true) ∧ Below w.heap.size w w' := by
  go_enter Try.func3, Try.ntmps3
  go_wp2_with (go_at_call 9; refine (odd_w _).mono ?_; rintro _ w1 ⟨g, zs, rfl, hfit, hfl, hb1⟩)
  go_loopw [2] (fun i w2 => ∃ k : Nat, k ≤ 15 ∧ i = .int .i64 k ∧ Below w1.heap.size w1 w2) (fun i _ => 15 - (intOf i).toNat)
  case atStart => exact ⟨0, Nat.zero_le _, rfl, Below.refl _ _⟩
  case round =>
    obtain ⟨i, hi, rfl, hbi⟩ := hrel
    rcases Nat.lt_or_ge i 15 with hi15 | hi15
    · have ii : (i : Int) < 15 := by omega
      go_wp2_with fail
      go_loopw [3] (fun k w3 => ∃ j : Nat, j ≤ 15 ∧ k = .int .i64 j ∧ Below w1.heap.size w1 w3) (fun k _ => 15 - (intOf k).toNat)
      case atStart => exact ⟨0, Nat.zero_le _, rfl, hbi⟩
      case round =>
        obtain ⟨j, hj, rfl, hbj⟩ := hrel
        have hfr := hfl.below hbj
        have ci := hfr.at hi15
        have fi := hfit i
        have fj := hfit j
        have f1 := fits_one
        rcases Nat.lt_or_ge j 15 with hj15 | hj15
        · have cj := hfr.at hj15
          have ij : (j : Int) < 15 := by omega
          go_wp2_with fail
          go_region_with (first
            | (go_at_call 10; refine (two_w _ _ fi fj _).mono ?_; rintro _ w4 ⟨rfl, hs4⟩; have hf4 := (hfr.still (Still.drew _)).still hs4; have c4i := hf4.at hi15; have c4j := hf4.at hj15; clear hf4)
            | (go_at_call 11; refine (lists_any_w _ _ _ _ _ (three_fl _ fi fj f1)).mono ?_; rintro _ w5 ⟨rfl, hs5⟩))
          all_goals have hb4 : Below w1.heap.size w1 w4 := (hbj.trans ((Still.drew _).below _)).trans (hs4.below _)
          all_goals have hb5 : Below w1.heap.size w1 w5 := (hb4.alloc hb4.size _).trans (hs5.below _)
          all_goals clear hb4 hs4 hs5 c4i c4j ci cj hfr hfl hbj hbi fi fj f1 hfit
          all_goals go_wp2
          all_goals (go_roundw <;> first | exact ⟨j + 1, by omega, by go_num, hb5⟩ | (simp [intOf]; omega))
        · have hj' : j = 15 := by omega
          subst hj'
          have hl1 := head_fl hfr hfit (Nat.le_of_lt hi15) (by omega)
          have hl2 := tail_fl hfr hfit hi15 (by omega)
          clear ci fi fj f1
          go_wp2_with (first
            | (go_at_call 11; revert hs6; intro hs6; refine (lists_any_w _ _ _ _ _ (hl2.still hs6)).mono ?_; rintro _ w7 ⟨rfl, hs7⟩)
            | (go_at_call 11; refine (lists_any_w _ _ _ _ _ hl1).mono ?_; rintro _ w6 ⟨rfl, hs6⟩))
          all_goals (go_roundw <;> first | exact ⟨i + 1, by omega, by go_num, (hbj.trans (hs6.below _)).trans (hs7.below _)⟩ | (simp [intOf]; omega))
    · have hi' : i = 15 := by omega
      subst hi'
      go_wp2_with (go_at_call 12; refine (known_w _).mono ?_; rintro _ _ ⟨rfl, hs⟩)
      go_ret
      exact ⟨rfl, hb1.trans ((hbi.mono hb1.size).trans (hs.below _))⟩

end Go.Proofs.Ytncmdbhbmbfdfaa
