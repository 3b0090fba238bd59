/-
  Bl1, Bl2: our texts of these names, laid into one.
-/
import Derived.Test.YtjeancijbogpbaaCB00
import Derived.Test.YtjeancijbogpbaaRows
import Derived.ProofKit
import Derived.Deep.Slices
import Derived.ChangeShapes
/-
  Chapter 15's runs; the program's ballots are the document's; the walks of stage 15's four.
-/
namespace Go.Proofs.Ytjeancijbogpbaa
open Go.RowKit

def pw (n lo hi : Int) : Int := if lo ≤ n ∧ n ≤ hi then n else if n.tmod (hi - lo + 1) < 0 then lo + (n.tmod (hi - lo + 1) + hi - lo + 1) else lo + n.tmod (hi - lo + 1)
theorem pw_is (n lo hi : Int) (h1 : lo ≤ hi) : lo ≤ pw n lo hi ∧ pw n lo hi ≤ hi := by
  have h1 := Int.tmod_lt_of_pos n (show 0 < hi - lo + 1 by omega)
  have h2 := Int.tmod_lt_of_pos (-n) (show 0 < hi - lo + 1 by omega)
  rw [Int.neg_tmod] at h2
  unfold pw
  generalize n.tmod (hi - lo + 1) = m at *
  split
  · assumption
  · split <;> omega
set_option maxRecDepth 100000 in
theorem withinD_w (n lo hi : Int) (h0 : -1000 ≤ lo) (h1 : lo ≤ hi) (h2 : hi ≤ 1099511627776) (w : World) :
    Calls Try.prog 9 #[.int .i64 n, .int .i64 lo, .int .i64 hi] w fun e w' => e = .returned (.int .i64 (pw n lo hi)) ∧ w = w' := by
  obtain ⟨q, hq⟩ : ∃ q, Hid (pw n lo hi = q) := ⟨_, rfl⟩
  rw [hq.out]
  have hz : ¬ hi - lo + 1 = 0 := by omega
  have t : -(hi - lo + 1) < n.tmod (hi - lo + 1) ∧ n.tmod (hi - lo + 1) < hi - lo + 1 := by
    have h1 := Int.tmod_lt_of_pos n (show 0 < hi - lo + 1 by omega)
    have h2 := Int.tmod_lt_of_pos (-n) (show 0 < hi - lo + 1 by omega)
    rw [Int.neg_tmod] at h2
    omega
  have t1 := Int.emod_nonneg n (show hi - lo + 1 ≠ 0 by omega)
  have t2 := Int.emod_lt_of_pos n (show 0 < hi - lo + 1 by omega)
  by_cases hA : lo ≤ n
  · by_cases hB : n ≤ hi
    · go_enter Try.func9, Try.ntmps9
      go_wp2
      go_ret
      refine ⟨congrArg (fun z => Ending.returned (.int .i64 z)) ?_, rfl⟩
      have hy := hq.out
      unfold pw at hy
      rw [if_pos ⟨hA, hB⟩] at hy
      exact hy
    · go_enter Try.func9, Try.ntmps9
      go_wp2
      all_goals go_ret
      all_goals refine ⟨congrArg (fun z => Ending.returned (.int .i64 z)) ?_, rfl⟩
      all_goals have hy := hq.out
      all_goals unfold pw at hy
      all_goals rw [if_neg (by omega)] at hy
      all_goals have hte : 0 ≤ n → n.tmod (hi - lo + 1) = n % (hi - lo + 1) := Int.tmod_eq_emod_of_nonneg
      all_goals generalize n % (hi - lo + 1) = m at *
      all_goals generalize n.tmod (hi - lo + 1) = m' at *
      all_goals try unfold wrap64
      all_goals (split at hy <;> omega)
  · go_enter Try.func9, Try.ntmps9
    go_wp2
    all_goals go_ret
    all_goals refine ⟨congrArg (fun z => Ending.returned (.int .i64 z)) ?_, rfl⟩
    all_goals have hy := hq.out
    all_goals unfold pw at hy
    all_goals rw [if_neg (by omega)] at hy
    all_goals have hte : 0 ≤ n → n.tmod (hi - lo + 1) = n % (hi - lo + 1) := Int.tmod_eq_emod_of_nonneg
    all_goals generalize n % (hi - lo + 1) = m at *
    all_goals generalize n.tmod (hi - lo + 1) = m' at *
    all_goals try unfold wrap64
    all_goals (split at hy <;> omega)
theorem bN_a : bN 4 0 3 = 6 := by decide +kernel
theorem bN_b : bN (-1) 2 3 = 2 := by decide +kernel
theorem bP_a : bP 7 3 = 8 := by decide +kernel
theorem bR_a : bR 4 = false := by decide +kernel
theorem known15_w (w : World) : Calls Try.prog 8 #[] w fun e w' => e = .returned (.bool true) ∧ w = w' := by
  go_enter Try.func8, Try.ntmps8
  go_wp2_with (first | (go_at_call 15; refine (bRight_w _ _).mono ?_; rintro _ _ ⟨rfl, rfl⟩; rw [bR_a]) | (go_at_call 12; refine (bPatience_w _ _ (by omega) _).mono ?_; rintro _ _ ⟨rfl, rfl⟩; rw [bP_a]) | (go_at_call 10; refine (bNext_w _ _ _ (by omega) (by omega) _).mono ?_; rintro _ _ ⟨rfl, rfl⟩; first | rw [bN_a] | rw [bN_b]))
  go_ret
  exact ⟨rfl, rfl⟩
/-- One of 1, 3, 5, as the laws draw it. -/
theorem draw135 (w : World) (n : Int) : ∃ (j : Nat) (x : Int), (x = 1 ∨ x = 3 ∨ x = 5) ∧ j < 3 ∧ (pw n 0 1048576).tmod 3 = (j : Int) ∧ pw n 0 1048576 % 3 = (j : Int) ∧ (w.alloc (.cells #[.int .i64 1, .int .i64 3, .int .i64 5] 3)).cell? ⟨w.heap.size, j, none⟩ = some (.int .i64 x) := by
  have hr := pw_is n 0 1048576 (by omega)
  rw [Int.tmod_eq_emod_of_nonneg hr.1]
  generalize pw n 0 1048576 = r at *
  have h3 : r % 3 = 0 ∨ r % 3 = 1 ∨ r % 3 = 2 := by omega
  simp only [World.cell?, heap_alloc_new]
  rcases h3 with h | h | h
  · exact ⟨0, 1, .inl rfl, by omega, by simpa using h, by simpa using h, rfl⟩
  · exact ⟨1, 3, .inr (.inl rfl), by omega, by simpa using h, by simpa using h, rfl⟩
  · exact ⟨2, 5, .inr (.inr rfl), by omega, by simpa using h, by simpa using h, rfl⟩
end Go.Proofs.Ytjeancijbogpbaa
/-
  The walks of BallotTurns and BallotQuorums.
-/
namespace Go.Proofs.Ytjeancijbogpbaa
open Go.RowKit

theorem bQ_turns {n : Int} (hn : n = 1 ∨ n = 3 ∨ n = 5) : n < 2 * bQ n ∧ bQ n ≤ n ∧ 1 ≤ bQ n := by rcases hn with rfl | rfl | rfl <;> decide
set_option maxRecDepth 100000 in
set_option maxHeartbeats 4000000 in
theorem ballotTurns_w (b me n : Int) (w : World) : Calls Try.prog 5 #[.int .i64 b, .int .i64 me, .int .i64 n] w fun e w' => e = .returned (.bool true) ∧ Moves [] w w' := by
  obtain ⟨j, x, hx, hj, hje, hje2, hcell⟩ := draw135 w n
  have m1 : Moves [] w (w.alloc (.cells #[.int .i64 1, .int .i64 3, .int .i64 5] 3)) := (Moves.refl _ _).alloc _
  have hx1 : 1 ≤ x ∧ x ≤ 5 := by omega
  obtain ⟨k, hkk⟩ : ∃ k, Hid (pw b (-1) 536870912 = k) := ⟨_, rfl⟩
  obtain ⟨i, hii⟩ : ∃ i, Hid (pw me 0 (x - 1) = i) := ⟨_, rfl⟩
  have hk := pw_is b (-1) 536870912 (by omega)
  have hi := pw_is me 0 (x - 1) (by omega)
  have hw1 := fun w => withinD_w b (-1) 536870912 (by omega) (by omega) (by omega) w
  rw [hkk.out] at hk
  rw [hii.out] at hi
  obtain ⟨hy1, hy2, hy3⟩ := bN_turns (b := k) (me := i) (n := x) (by omega) hx hi
  obtain ⟨hp1, hp2, hp3⟩ := bP_turns (b := k) (n := x) (by omega) hx
  obtain ⟨hq1, hq2, hq3⟩ := bQ_turns hx
  have HY3 : Hid (∀ z, k < z → z < bN k i x → ¬ bL z x = i) := hy3
  have hn := pw_is n 0 1048576 (by omega)
  have hj3 : (j : Int) < 3 := by omega
  have hj0 : (0 : Int) ≤ j := by omega
  clear hx hy3 hw1
  obtain ⟨y, HY⟩ : ∃ y, Hid (bN k i x = y) := ⟨_, rfl⟩
  obtain ⟨p, HP⟩ : ∃ p, Hid (bP k x = p) := ⟨_, rfl⟩
  obtain ⟨p', HP'⟩ : ∃ p', Hid (bP (k + 1) x = p') := ⟨_, rfl⟩
  obtain ⟨q, HQ⟩ : ∃ q, Hid (bQ x = q) := ⟨_, rfl⟩
  rw [HY.out] at hy1 hy2 HY3
  rw [HP.out] at hp1 hp2
  rw [HP'.out] at hp2 hp3
  rw [HQ.out] at hq1 hq2 hq3
  go_enter Try.func5, Try.ntmps5
  go_wp2_with (first | (go_at_call 9; refine (withinD_w _ _ _ (by omega) (by omega) (by omega) _).mono ?_; rintro _ _ ⟨rfl, rfl⟩; first | rw [hkk.out] | rw [hii.out] | skip) | (go_at_call 10; refine (bNext_w _ _ _ (by omega) (by omega) _).mono ?_; rintro _ _ ⟨rfl, rfl⟩; rw [HY.out]) | (go_at_call 11; refine (bLeader_w _ _ (by omega) _).mono ?_; rintro _ _ ⟨rfl, rfl⟩))
  go_loop [11] (fun v => ∃ z : Int, (k < z ∧ z ≤ y) ∧ v = .int .i64 z) (fun v => (y - intOf v).toNat)
  case atStart => exact ⟨k + 1, by omega, rfl⟩
  case round =>
    obtain ⟨z, hz, rfl⟩ := hrel
    by_cases hlt : z < y
    · have hne : ¬ bL z x = i := HY3.out z hz.1 hlt
      go_wp2_with (go_at_call 11; refine (bLeader_w _ _ (by omega) _).mono ?_; rintro _ _ ⟨rfl, rfl⟩)
      go_round
      case rel => exact ⟨z + 1, by omega, by go_num⟩
      case measure => simp [intOf]; omega
    · go_wp2_with (first | (go_at_call 12; refine (bPatience_w _ _ (by omega) _).mono ?_; rintro _ _ ⟨rfl, rfl⟩; first | rw [HP.out] | rw [HP'.out]) | (go_at_call 13; refine (bQuorum_w _ _).mono ?_; rintro _ _ ⟨rfl, rfl⟩; rw [HQ.out]) | (go_at_call 8; refine (known15_w _).mono ?_; rintro _ _ ⟨rfl, rfl⟩))
      go_ret
      exact ⟨rfl, m1⟩

/-- A list of bools. -/
def BoArgs (W : World) (v : Value) : Prop := ∃ ad len cap, v = .slice ad len cap ∧ ∀ k, k < len → ∃ b off x, ad = some ⟨b, off, none⟩ ∧ W.cell? ⟨b, off + k, none⟩ = some (.bool x)
set_option maxRecDepth 100000 in
set_option maxHeartbeats 4000000 in
theorem ballotQuorums_w (n : Int) (u v : Value) (w : World) (hu : BoArgs w u) (hv : BoArgs w v) : Calls Try.prog 6 #[.int .i64 n, u, v] w fun e w' => e = .returned (.bool true) ∧ Moves [] w w' := by
  obtain ⟨ad1, n1, c1, rfl, hu⟩ := hu
  obtain ⟨ad2, n2, c2, rfl, hv⟩ := hv
  obtain ⟨j, x, hx, hj, hje, hje2, hcell⟩ := draw135 w n
  obtain ⟨w1, hw1⟩ : ∃ w1, w1 = w.alloc (.cells #[.int .i64 1, .int .i64 3, .int .i64 5] 3) := ⟨_, rfl⟩
  have m1 : Moves [] w w1 := by rw [hw1]; exact (Moves.refl _ _).alloc _
  have hx1 : 1 ≤ x ∧ x ≤ 5 := by omega
  obtain ⟨hq1, hq2, hq3⟩ := bQ_turns hx
  have hn := pw_is n 0 1048576 (by omega)
  have hj3 : (j : Int) < 3 := by omega
  have hj0 : (0 : Int) ≤ j := by omega
  have HU : Hid (∀ k, k < n1 → ∃ b off x, ad1 = some ⟨b, off, none⟩ ∧ w.cell? ⟨b, off + k, none⟩ = some (.bool x)) := hu
  have HV : Hid (∀ k, k < n2 → ∃ b off x, ad2 = some ⟨b, off, none⟩ ∧ w.cell? ⟨b, off + k, none⟩ = some (.bool x)) := hv
  clear hx hu hv
  obtain ⟨q, HQ⟩ : ∃ q, Hid (bQ x = q) := ⟨_, rfl⟩
  rw [HQ.out] at hq1 hq2 hq3
  go_enter Try.func6, Try.ntmps6
  go_wp2_with (go_at_call 9; refine (withinD_w _ _ _ (by omega) (by omega) (by omega) _).mono ?_; rintro _ _ ⟨rfl, rfl⟩)
  rw [← hw1] at hcell ⊢
  clear hw1 hcell
  go_loopw [8, 9, 10, 11] (fun vc vd vb vi wr => ∃ c d z i : Nat, ((i : Int) ≤ x ∧ c + d ≤ z + i ∧ c ≤ i ∧ d ≤ i ∧ z ≤ i) ∧ vc = .int .i64 c ∧ vd = .int .i64 d ∧ vb = .int .i64 z ∧ vi = .int .i64 i ∧ Moves [] w wr) (fun _ _ _ vi _ => (x - intOf vi).toNat)
  case atStart => exact ⟨0, 0, 0, 0, by omega, rfl, rfl, rfl, rfl, m1⟩
  case round =>
    obtain ⟨c, d, z, i, hz, rfl, rfl, rfl, rfl, mr⟩ := hrel
    obtain ⟨wo, hwo⟩ : ∃ wo, wo = wr := ⟨_, rfl⟩
    subst hwo
    by_cases hlt : (i : Int) < x
    · by_cases h1 : i < n1
      · obtain ⟨b1, o1, x1, rfl, hc1⟩ := HU.out i h1
        have g1 := mr.cell hc1
        have i1 : (i : Int) < n1 := by omega
        by_cases h2 : i < n2
        · obtain ⟨b2, o2, x2, rfl, hc2⟩ := HV.out i h2
          have g2 := mr.cell hc2
          have i2 : (i : Int) < n2 := by omega
          clear HU HV hc1 hc2
          cases x1 <;> cases x2
          all_goals go_wp2_with fail
          all_goals have j1 : decide (i < n1) = true := decide_eq_true (by omega)
          all_goals have j2 : decide (i < n2) = true := decide_eq_true (by omega)
          all_goals go_region
          all_goals go_wp2_with fail
          all_goals go_round
          all_goals first
            | exact ⟨c, d, z, i + 1, by omega, rfl, rfl, rfl, by go_num, mr.drew⟩
            | exact ⟨c + 1, d, z, i + 1, by omega, by go_num, rfl, rfl, by go_num, mr.drew⟩
            | exact ⟨c, d + 1, z, i + 1, by omega, rfl, by go_num, rfl, by go_num, mr.drew⟩
            | exact ⟨c + 1, d + 1, z + 1, i + 1, by omega, by go_num, by go_num, by go_num, by go_num, mr.drew⟩
            | (simp [intOf]; omega)
        · have i2 : ¬ (i : Int) < n2 := by omega
          clear HU HV hc1 h2
          cases x1
          all_goals go_wp2_with fail
          all_goals have j1 : decide (i < n1) = true := decide_eq_true (by omega)
          all_goals have j2 : decide (i < n2) = false := decide_eq_false (by omega)
          all_goals go_region
          all_goals go_wp2_with fail
          all_goals go_round
          all_goals first
            | exact ⟨c, d, z, i + 1, by omega, rfl, rfl, rfl, by go_num, mr.drew⟩
            | exact ⟨c + 1, d, z, i + 1, by omega, by go_num, rfl, rfl, by go_num, mr.drew⟩
            | exact ⟨c, d + 1, z, i + 1, by omega, rfl, by go_num, rfl, by go_num, mr.drew⟩
            | exact ⟨c + 1, d + 1, z + 1, i + 1, by omega, by go_num, by go_num, by go_num, by go_num, mr.drew⟩
            | (simp [intOf]; omega)
      · have i1 : ¬ (i : Int) < n1 := by omega
        by_cases h2 : i < n2
        · obtain ⟨b2, o2, x2, rfl, hc2⟩ := HV.out i h2
          have g2 := mr.cell hc2
          have i2 : (i : Int) < n2 := by omega
          clear HU HV hc2 h1
          cases x2
          all_goals go_wp2_with fail
          all_goals have j1 : decide (i < n1) = false := decide_eq_false (by omega)
          all_goals have j2 : decide (i < n2) = true := decide_eq_true (by omega)
          all_goals go_region
          all_goals go_wp2_with fail
          all_goals go_round
          all_goals first
            | exact ⟨c, d, z, i + 1, by omega, rfl, rfl, rfl, by go_num, mr.drew⟩
            | exact ⟨c + 1, d, z, i + 1, by omega, by go_num, rfl, rfl, by go_num, mr.drew⟩
            | exact ⟨c, d + 1, z, i + 1, by omega, rfl, by go_num, rfl, by go_num, mr.drew⟩
            | exact ⟨c + 1, d + 1, z + 1, i + 1, by omega, by go_num, by go_num, by go_num, by go_num, mr.drew⟩
            | (simp [intOf]; omega)
        · have i2 : ¬ (i : Int) < n2 := by omega
          clear HU HV h1 h2
          all_goals go_wp2_with fail
          all_goals have j1 : decide (i < n1) = false := decide_eq_false (by omega)
          all_goals have j2 : decide (i < n2) = false := decide_eq_false (by omega)
          all_goals go_region
          all_goals go_wp2_with fail
          all_goals go_round
          all_goals first
            | exact ⟨c, d, z, i + 1, by omega, rfl, rfl, rfl, by go_num, mr.drew⟩
            | exact ⟨c + 1, d, z, i + 1, by omega, by go_num, rfl, rfl, by go_num, mr.drew⟩
            | exact ⟨c, d + 1, z, i + 1, by omega, rfl, by go_num, rfl, by go_num, mr.drew⟩
            | exact ⟨c + 1, d + 1, z + 1, i + 1, by omega, by go_num, by go_num, by go_num, by go_num, mr.drew⟩
            | (simp [intOf]; omega)
    · have hq : (q : Int) ≤ c → q ≤ d → (0 : Int) < z := by omega
      clear HU HV
      by_cases hc : (c : Int) < q
      · go_wp2_with (first | (go_at_call 13; refine (bQuorum_w _ _).mono ?_; rintro _ _ ⟨rfl, rfl⟩; rw [HQ.out]) | (go_at_call 8; refine (known15_w _).mono ?_; rintro _ _ ⟨rfl, rfl⟩))
        go_ret
        exact ⟨congrArg (fun z => Ending.returned (.bool z)) (by first | rfl | (simp only [Bool.or_eq_true, decide_eq_true_eq]; omega)), mr⟩
      · by_cases hd : (d : Int) < q
        · go_wp2_with (first | (go_at_call 13; refine (bQuorum_w _ _).mono ?_; rintro _ _ ⟨rfl, rfl⟩; rw [HQ.out]) | (go_at_call 8; refine (known15_w _).mono ?_; rintro _ _ ⟨rfl, rfl⟩))
          go_ret
          exact ⟨congrArg (fun z => Ending.returned (.bool z)) (by first | rfl | (simp only [Bool.or_eq_true, decide_eq_true_eq]; omega)), mr⟩
        · have hz0 : (0 : Int) < z := hq (by omega) (by omega)
          go_wp2_with (first | (go_at_call 13; refine (bQuorum_w _ _).mono ?_; rintro _ _ ⟨rfl, rfl⟩; rw [HQ.out]) | (go_at_call 8; refine (known15_w _).mono ?_; rintro _ _ ⟨rfl, rfl⟩))
          go_ret
          exact ⟨congrArg (fun z => Ending.returned (.bool z)) (by first | rfl | (simp only [Bool.or_eq_true, decide_eq_true_eq]; omega)), mr⟩
theorem ballotQuorums_v (u0 u1 u2 : Value) (w : World) (h0 : IArg u0) (h1 : BoArgs w u1) (h2 : BoArgs w u2) : Calls Try.prog 6 #[u0, u1, u2] w fun e w' => e = .returned (.bool true) ∧ Moves [] w w' := by
  obtain ⟨a, rfl⟩ := h0
  exact ballotQuorums_w a u1 u2 w h1 h2
open Go.ChangeShapes Go.WideShapes
theorem bool_of_trod {H : Type} {enc : TypeId × Value → H} {W : World} {base : Nat} {spare : Nat → Bool} {held : Bool} {fuel : Nat} {v : Value} {x : DataW H × List MemPlace}
    (h : DataW.trod enc Try.prog W base spare held fuel 4 [v] = some x) : ∃ s : Bool, v = .bool s := by
  cases fuel with
  | zero => simp [DataW.trod] at h
  | succ n =>
    simp only [DataW.trod, Try.underlying4] at h
    cases v <;> simp at h
    rename_i b
    exact ⟨b, rfl⟩
set_option maxRecDepth 100000 in
theorem boargs_of_raw {H : Type} {enc : TypeId × Value → H} {W : World} {base fuel : Nat} {spare : Nat → Bool} {held : Bool} {v : Value} {x : DataW H × List MemPlace}
    (h : DataW.trod enc Try.prog W base spare held fuel 28 [v] = some x) : BoArgs W v := by
  rcases Go.Deep.open_slice1 Try.underlying28 (by kernel_rfl) h with ⟨hcs, _⟩ | ⟨ad, len, cap, m, n, V, D, Pls, hcs, _, hl, hm, hmm, _, hx⟩
  · simp at hcs
    subst hcs
    exact ⟨none, 0, 0, rfl, fun k hk => absurd hk (by omega)⟩
  · simp at hcs
    subst hcs
    have hlm : len ≤ m := by rw [hmm]; split <;> omega
    refine ⟨_, _, _, rfl, fun k hk => ?_⟩
    obtain ⟨hc, hd⟩ := hx k (by omega)
    obtain ⟨z, hz⟩ := bool_of_trod hd
    have hsp := World.cell?_spot (hx 0 (by omega)).1
    obtain ⟨b, off, spot⟩ := ad
    obtain rfl : spot = none := by simpa [Addr.add] using hsp
    have e : (⟨b, off, none⟩ : Addr).add k = ⟨b, off + k, none⟩ := by unfold Addr.add; split <;> simp_all
    rw [e, hz] at hc
    exact ⟨b, off, z, rfl, hc⟩
set_option maxRecDepth 100000 in
theorem boargs_of_trod {H : Type} {enc : TypeId × Value → H} {W : World} {base b0 : Nat} {r : Reach} {spare : Nat → Bool} {held : Bool} {v : Value} {d : DataW H} {p : List MemPlace}
    (hv : Value.okWide Try.prog W r b0 28 v) (h : DataW.Trod enc Try.prog W base spare held 28 v d p) : BoArgs W v := by
  obtain ⟨a, len, cap, rfl⟩ := okWide_slice Try.underlying28 hv
  obtain ⟨fuel, hf⟩ := h
  exact boargs_of_raw (by simpa [Value.cells] using hf)
end Go.Proofs.Ytjeancijbogpbaa
