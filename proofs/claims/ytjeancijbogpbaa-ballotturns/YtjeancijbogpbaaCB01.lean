/-
  Bl1, Bl2: our texts of these names, laid into one.
-/
import Derived.Test.YtjeancijbogpbaaCB00
import Derived.Test.YtjeancijbogpbaaRows
import Derived.ProofKit
import Derived.Deep.Slices
import Derived.ChangeShapes
/-
  Chapter 15's runs; the program's ballots are the document's; the walks of stage 15's four.
-/
namespace Go.Proofs.Ytjeancijbogpbaa
open Go.RowKit

def pw (n lo hi : Int) : Int := if lo ≤ n ∧ n ≤ hi then n else if n.tmod (hi - lo + 1) < 0 then lo + (n.tmod (hi - lo + 1) + hi - lo + 1) else lo + n.tmod (hi - lo + 1)
theorem pw_is (n lo hi : Int) (h1 : lo ≤ hi) : lo ≤ pw n lo hi ∧ pw n lo hi ≤ hi := by
  have h1 := Int.tmod_lt_of_pos n (show 0 < hi - lo + 1 by omega)
  have h2 := Int.tmod_lt_of_pos (-n) (show 0 < hi - lo + 1 by omega)
  rw [Int.neg_tmod] at h2
  unfold pw
  generalize n.tmod (hi - lo + 1) = m at *
  split
  · assumption
  · split <;> omega
set_option maxRecDepth 100000 in
theorem withinD_w (n lo hi : Int) (h0 : -1000 ≤ lo) (h1 : lo ≤ hi) (h2 : hi ≤ 1099511627776) (w : World) :
    Calls Try.prog 9 #[.int .i64 n, .int .i64 lo, .int .i64 hi] w fun e w' => e = .returned (.int .i64 (pw n lo hi)) ∧ w = w' := by
  obtain ⟨q, hq⟩ : ∃ q, Hid (pw n lo hi = q) := ⟨_, rfl⟩
  rw [hq.out]
  have hz : ¬ hi - lo + 1 = 0 := by omega
  have t : -(hi - lo + 1) < n.tmod (hi - lo + 1) ∧ n.tmod (hi - lo + 1) < hi - lo + 1 := by
    have h1 := Int.tmod_lt_of_pos n (show 0 < hi - lo + 1 by omega)
    have h2 := Int.tmod_lt_of_pos (-n) (show 0 < hi - lo + 1 by omega)
    rw [Int.neg_tmod] at h2
    omega
  have t1 := Int.emod_nonneg n (show hi - lo + 1 ≠ 0 by omega)
  have t2 := Int.emod_lt_of_pos n (show 0 < hi - lo + 1 by omega)
  by_cases hA : lo ≤ n
  · by_cases hB : n ≤ hi
    · go_enter Try.func9, Try.ntmps9
      go_wp2
      go_ret
      refine ⟨congrArg (fun z => Ending.returned (.int .i64 z)) ?_, rfl⟩
      have hy := hq.out
      unfold pw at hy
      rw [if_pos ⟨hA, hB⟩] at hy
      exact hy
    · go_enter Try.func9, Try.ntmps9
      go_wp2
      all_goals go_ret
      all_goals refine ⟨congrArg (fun z => Ending.returned (.int .i64 z)) ?_, rfl⟩
      all_goals have hy := hq.out
      all_goals unfold pw at hy
      all_goals rw [if_neg (by omega)] at hy
      all_goals have hte : 0 ≤ n → n.tmod (hi - lo + 1) = n % (hi - lo + 1) := Int.tmod_eq_emod_of_nonneg
      all_goals generalize n % (hi - lo + 1) = m at *
      all_goals generalize n.tmod (hi - lo + 1) = m' at *
      all_goals try unfold wrap64
      all_goals (split at hy <;> omega)
  · go_enter Try.func9, Try.ntmps9
    go_wp2
    all_goals go_ret
    all_goals refine ⟨congrArg (fun z => Ending.returned (.int .i64 z)) ?_, rfl⟩
    all_goals have hy := hq.out
    all_goals unfold pw at hy
    all_goals rw [if_neg (by omega)] at hy
    all_goals have hte : 0 ≤ n → n.tmod (hi - lo + 1) = n % (hi - lo + 1) := Int.tmod_eq_emod_of_nonneg
    all_goals generalize n % (hi - lo + 1) = m at *
    all_goals generalize n.tmod (hi - lo + 1) = m' at *
    all_goals try unfold wrap64
    all_goals (split at hy <;> omega)
theorem bN_a : bN 4 0 3 = 6 := by decide +kernel
theorem bN_b : bN (-1) 2 3 = 2 := by decide +kernel
theorem bP_a : bP 7 3 = 8 := by decide +kernel
theorem bR_a : bR 4 = false := by decide +kernel
theorem known15_w (w : World) : Calls Try.prog 8 #[] w fun e w' => e = .returned (.bool true) ∧ w = w' := by
  go_enter Try.func8, Try.ntmps8
  go_wp2_with (first | (go_at_call 15; refine (bRight_w _ _).mono ?_; rintro _ _ ⟨rfl, rfl⟩; rw [bR_a]) | (go_at_call 12; refine (bPatience_w _ _ (by omega) _).mono ?_; rintro _ _ ⟨rfl, rfl⟩; rw [bP_a]) | (go_at_call 10; refine (bNext_w _ _ _ (by omega) (by omega) _).mono ?_; rintro _ _ ⟨rfl, rfl⟩; first | rw [bN_a] | rw [bN_b]))
  go_ret
  exact ⟨rfl, rfl⟩
/-- One of 1, 3, 5, as the laws draw it. -/
theorem draw135 (w : World) (n : Int) : ∃ (j : Nat) (x : Int), (x = 1 ∨ x = 3 ∨ x = 5) ∧ j < 3 ∧ (pw n 0 1048576).tmod 3 = (j : Int) ∧ pw n 0 1048576 % 3 = (j : Int) ∧ (w.alloc (.cells #[.int .i64 1, .int .i64 3, .int .i64 5] 3)).cell? ⟨w.heap.size, j, none⟩ = some (.int .i64 x) := by
  have hr := pw_is n 0 1048576 (by omega)
  rw [Int.tmod_eq_emod_of_nonneg hr.1]
  generalize pw n 0 1048576 = r at *
  have h3 : r % 3 = 0 ∨ r % 3 = 1 ∨ r % 3 = 2 := by omega
  simp only [World.cell?, heap_alloc_new]
  rcases h3 with h | h | h
  · exact ⟨0, 1, .inl rfl, by omega, by simpa using h, by simpa using h, rfl⟩
  · exact ⟨1, 3, .inr (.inl rfl), by omega, by simpa using h, by simpa using h, rfl⟩
  · exact ⟨2, 5, .inr (.inr rfl), by omega, by simpa using h, by simpa using h, rfl⟩
end Go.Proofs.Ytjeancijbogpbaa
/-
  The walks of BallotTurns and BallotQuorums.
-/
namespace Go.Proofs.Ytjeancijbogpbaa
open Go.RowKit

theorem bN_turns {b me n : Int} (hb : -1 ≤ b ∧ b ≤ 1073741824) (hn : n = 1 ∨ n = 3 ∨ n = 5) (hm : 0 ≤ me ∧ me ≤ n - 1) : (b < bN b me n ∧ bN b me n ≤ b + n) ∧ bL (bN b me n) n = me ∧ ∀ z, b < z → z < bN b me n → ¬ bL z n = me := by
  have hr : bR n = true := by rcases hn with rfl | rfl | rfl <;> rfl
  have hF : bF b = b + 1 := by unfold bF; rw [if_neg (by omega)]
  have hN : bN b me n = b + 1 + (me - (b + 1)) % n := by unfold bN; rw [if_pos ⟨hr, by omega, by omega⟩, hF]
  have hL : ∀ z, 0 ≤ z → bL z n = z % n := fun z hz => by unfold bL; rw [if_pos ⟨hr, hz⟩]
  rw [hN]
  refine ⟨?_, ?_, fun z h1 h2 => ?_⟩
  · rcases hn with rfl | rfl | rfl <;> omega
  · rw [hL _ (by rcases hn with rfl | rfl | rfl <;> omega)]
    rcases hn with rfl | rfl | rfl <;> omega
  · rw [hL _ (by omega)]
    rcases hn with rfl | rfl | rfl <;> omega
theorem bW_mono {a b : Int} (h : a ≤ b) : bW a ≤ bW b := by
  unfold bW
  by_cases h1 : a ≤ 0
  · rw [if_pos h1]; split <;> (try split) <;> (try split) <;> omega
  · rw [if_neg h1, if_neg (by omega : ¬ b ≤ 0)]
    by_cases h2 : a = 1
    · rw [if_pos h2]; split <;> (try split) <;> omega
    · rw [if_neg h2, if_neg (by omega : ¬ b = 1)]
      by_cases h3 : a = 2
      · rw [if_pos h3]; split <;> omega
      · rw [if_neg h3, if_neg (by omega : ¬ b = 2)]; omega
theorem bW_is (a : Int) : 2 ≤ bW a ∧ bW a ≤ 16 := by unfold bW; split <;> (try split) <;> (try split) <;> omega
theorem bP_turns {b n : Int} (hb : -1 ≤ b ∧ b ≤ 1073741824) (hn : n = 1 ∨ n = 3 ∨ n = 5) : 2 ≤ bP b n ∧ bP b n ≤ bP (b + 1) n ∧ bP (b + 1) n ≤ 16 := by
  have hr : bR n = true := by rcases hn with rfl | rfl | rfl <;> rfl
  have e : ∀ z, bP z n = bW (b0 z / n) := fun z => by simp [bP, hr]
  rw [e, e]
  refine ⟨(bW_is _).1, bW_mono ?_, (bW_is _).2⟩
  refine Int.ediv_le_ediv (by omega) ?_
  unfold b0
  split <;> split <;> omega
theorem bQ_turns {n : Int} (hn : n = 1 ∨ n = 3 ∨ n = 5) : n < 2 * bQ n ∧ bQ n ≤ n ∧ 1 ≤ bQ n := by rcases hn with rfl | rfl | rfl <;> decide
set_option maxRecDepth 100000 in
set_option maxHeartbeats 4000000 in
theorem ballotTurns_w (b me n : Int) (w : World) : Calls Try.prog 5 #[.int .i64 b, .int .i64 me, .int .i64 n] w fun e w' => e = .returned (.bool true) ∧ Moves [] w w' := by
  obtain ⟨j, x, hx, hj, hje, hje2, hcell⟩ := draw135 w n
  have m1 : Moves [] w (w.alloc (.cells #[.int .i64 1, .int .i64 3, .int .i64 5] 3)) := (Moves.refl _ _).alloc _
  have hx1 : 1 ≤ x ∧ x ≤ 5 := by omega
  obtain ⟨k, hkk⟩ : ∃ k, Hid (pw b (-1) 536870912 = k) := ⟨_, rfl⟩
  obtain ⟨i, hii⟩ : ∃ i, Hid (pw me 0 (x - 1) = i) := ⟨_, rfl⟩
  have hk := pw_is b (-1) 536870912 (by omega)
  have hi := pw_is me 0 (x - 1) (by omega)
  have hw1 := fun w => withinD_w b (-1) 536870912 (by omega) (by omega) (by omega) w
  rw [hkk.out] at hk
  rw [hii.out] at hi
  obtain ⟨hy1, hy2, hy3⟩ := bN_turns (b := k) (me := i) (n := x) (by omega) hx hi
  obtain ⟨hp1, hp2, hp3⟩ := bP_turns (b := k) (n := x) (by omega) hx
  obtain ⟨hq1, hq2, hq3⟩ := bQ_turns hx
  have HY3 : Hid (∀ z, k < z → z < bN k i x → ¬ bL z x = i) := hy3
  have hn := pw_is n 0 1048576 (by omega)
  have hj3 : (j : Int) < 3 := by omega
  have hj0 : (0 : Int) ≤ j := by omega
  clear hx hy3 hw1
  obtain ⟨y, HY⟩ : ∃ y, Hid (bN k i x = y) := ⟨_, rfl⟩
  obtain ⟨p, HP⟩ : ∃ p, Hid (bP k x = p) := ⟨_, rfl⟩
  obtain ⟨p', HP'⟩ : ∃ p', Hid (bP (k + 1) x = p') := ⟨_, rfl⟩
  obtain ⟨q, HQ⟩ : ∃ q, Hid (bQ x = q) := ⟨_, rfl⟩
  rw [HY.out] at hy1 hy2 HY3
  rw [HP.out] at hp1 hp2
  rw [HP'.out] at hp2 hp3
  rw [HQ.out] at hq1 hq2 hq3
  go_enter Try.func5, Try.ntmps5
  go_wp2_with (first | (go_at_call 9; refine (withinD_w _ _ _ (by omega) (by omega) (by omega) _).mono ?_; rintro _ _ ⟨rfl, rfl⟩; first | rw [hkk.out] | rw [hii.out] | skip) | (go_at_call 10; refine (bNext_w _ _ _ (by omega) (by omega) _).mono ?_; rintro _ _ ⟨rfl, rfl⟩; rw [HY.out]) | (go_at_call 11; refine (bLeader_w _ _ (by omega) _).mono ?_; rintro _ _ ⟨rfl, rfl⟩))
  go_loop [11] (fun v => ∃ z : Int, (k < z ∧ z ≤ y) ∧ v = .int .i64 z) (fun v => (y - intOf v).toNat)
  case atStart => exact ⟨k + 1, by omega, rfl⟩
  case round =>
    obtain ⟨z, hz, rfl⟩ := hrel
    by_cases hlt : z < y
    · have hne : ¬ bL z x = i := HY3.out z hz.1 hlt
      go_wp2_with (go_at_call 11; refine (bLeader_w _ _ (by omega) _).mono ?_; rintro _ _ ⟨rfl, rfl⟩)
      go_round
      case rel => exact ⟨z + 1, by omega, by go_num⟩
      case measure => simp [intOf]; omega
    · go_wp2_with (first | (go_at_call 12; refine (bPatience_w _ _ (by omega) _).mono ?_; rintro _ _ ⟨rfl, rfl⟩; first | rw [HP.out] | rw [HP'.out]) | (go_at_call 13; refine (bQuorum_w _ _).mono ?_; rintro _ _ ⟨rfl, rfl⟩; rw [HQ.out]) | (go_at_call 8; refine (known15_w _).mono ?_; rintro _ _ ⟨rfl, rfl⟩))
      go_ret
      exact ⟨rfl, m1⟩

theorem ballotTurns_v (u0 u1 u2 : Value) (w : World) (h0 : IArg u0) (h1 : IArg u1) (h2 : IArg u2) : Calls Try.prog 5 #[u0, u1, u2] w fun e w' => e = .returned (.bool true) ∧ Moves [] w w' := by
  obtain ⟨a, rfl⟩ := h0; obtain ⟨b, rfl⟩ := h1; obtain ⟨c, rfl⟩ := h2
  exact ballotTurns_w a b c w
open Go.ChangeShapes Go.WideShapes
end Go.Proofs.Ytjeancijbogpbaa
