/-
  Bl1, Bl2: our texts of these names, laid into one.
-/
import Derived.Test.YtjeancijbogpbaaCBl0
import Derived.Test.YtjeancijbogpbaaRows
import Derived.ProofKit
import Derived.Deep.Slices
import Derived.ChangeShapes
/-
  Chapter 15's runs; the program's ballots are the document's; the walks of stage 15's four.
-/
namespace Go.Proofs.Ytjeancijbogpbaa
open Go.RowKit

def pw (n lo hi : Int) : Int := if lo ≤ n ∧ n ≤ hi then n else if n.tmod (hi - lo + 1) < 0 then lo + (n.tmod (hi - lo + 1) + hi - lo + 1) else lo + n.tmod (hi - lo + 1)
theorem pw_is (n lo hi : Int) (h1 : lo ≤ hi) : lo ≤ pw n lo hi ∧ pw n lo hi ≤ hi := by
  have h1 := Int.tmod_lt_of_pos n (show 0 < hi - lo + 1 by omega)
  have h2 := Int.tmod_lt_of_pos (-n) (show 0 < hi - lo + 1 by omega)
  rw [Int.neg_tmod] at h2
  unfold pw
  generalize n.tmod (hi - lo + 1) = m at *
  split
  · assumption
  · split <;> omega
set_option maxRecDepth 100000 in
theorem withinD_w (n lo hi : Int) (h0 : -1000 ≤ lo) (h1 : lo ≤ hi) (h2 : hi ≤ 1099511627776) (w : World) :
    Calls Try.prog 9 #[.int .i64 n, .int .i64 lo, .int .i64 hi] w fun e w' => e = .returned (.int .i64 (pw n lo hi)) ∧ w = w' := by
  obtain ⟨q, hq⟩ : ∃ q, Hid (pw n lo hi = q) := ⟨_, rfl⟩
  rw [hq.out]
  have hz : ¬ hi - lo + 1 = 0 := by omega
  have t : -(hi - lo + 1) < n.tmod (hi - lo + 1) ∧ n.tmod (hi - lo + 1) < hi - lo + 1 := by
    have h1 := Int.tmod_lt_of_pos n (show 0 < hi - lo + 1 by omega)
    have h2 := Int.tmod_lt_of_pos (-n) (show 0 < hi - lo + 1 by omega)
    rw [Int.neg_tmod] at h2
    omega
  have t1 := Int.emod_nonneg n (show hi - lo + 1 ≠ 0 by omega)
  have t2 := Int.emod_lt_of_pos n (show 0 < hi - lo + 1 by omega)
  by_cases hA : lo ≤ n
  · by_cases hB : n ≤ hi
    · go_enter Try.func9, Try.ntmps9
      go_wp2
      go_ret
      refine ⟨congrArg (fun z => Ending.returned (.int .i64 z)) ?_, rfl⟩
      have hy := hq.out
      unfold pw at hy
      rw [if_pos ⟨hA, hB⟩] at hy
      exact hy
    · go_enter Try.func9, Try.ntmps9
      go_wp2
      all_goals go_ret
      all_goals refine ⟨congrArg (fun z => Ending.returned (.int .i64 z)) ?_, rfl⟩
      all_goals have hy := hq.out
      all_goals unfold pw at hy
      all_goals rw [if_neg (by omega)] at hy
      all_goals have hte : 0 ≤ n → n.tmod (hi - lo + 1) = n % (hi - lo + 1) := Int.tmod_eq_emod_of_nonneg
      all_goals generalize n % (hi - lo + 1) = m at *
      all_goals generalize n.tmod (hi - lo + 1) = m' at *
      all_goals try unfold wrap64
      all_goals (split at hy <;> omega)
  · go_enter Try.func9, Try.ntmps9
    go_wp2
    all_goals go_ret
    all_goals refine ⟨congrArg (fun z => Ending.returned (.int .i64 z)) ?_, rfl⟩
    all_goals have hy := hq.out
    all_goals unfold pw at hy
    all_goals rw [if_neg (by omega)] at hy
    all_goals have hte : 0 ≤ n → n.tmod (hi - lo + 1) = n % (hi - lo + 1) := Int.tmod_eq_emod_of_nonneg
    all_goals generalize n % (hi - lo + 1) = m at *
    all_goals generalize n.tmod (hi - lo + 1) = m' at *
    all_goals try unfold wrap64
    all_goals (split at hy <;> omega)
theorem bN_a : bN 4 0 3 = 6 := by decide +kernel
theorem bN_b : bN (-1) 2 3 = 2 := by decide +kernel
theorem bP_a : bP 7 3 = 8 := by decide +kernel
theorem bR_a : bR 4 = false := by decide +kernel
theorem known15_w (w : World) : Calls Try.prog 8 #[] w fun e w' => e = .returned (.bool true) ∧ w = w' := by
  go_enter Try.func8, Try.ntmps8
  go_wp2_with (first | (go_at_call 15; refine (bRight_w _ _).mono ?_; rintro _ _ ⟨rfl, rfl⟩; rw [bR_a]) | (go_at_call 12; refine (bPatience_w _ _ (by omega) _).mono ?_; rintro _ _ ⟨rfl, rfl⟩; rw [bP_a]) | (go_at_call 10; refine (bNext_w _ _ _ (by omega) (by omega) _).mono ?_; rintro _ _ ⟨rfl, rfl⟩; first | rw [bN_a] | rw [bN_b]))
  go_ret
  exact ⟨rfl, rfl⟩
set_option maxRecDepth 100000 in
theorem same15_w (b me n : Int) (hb : -1000 ≤ b ∧ b ≤ 4294967296) (hm : -1000 ≤ me ∧ me ≤ 1000) (w : World) : Calls Try.prog 7 #[.int .i64 b, .int .i64 me, .int .i64 n] w fun e w' => e = .returned (.bool true) ∧ w = w' := by
  have h1 := bRight_w n w
  have h2 := rRight_w n w
  have h3 := bQuorum_w n w
  have h4 := bLeader_w b n hb w
  have h5 := rLeader_w b n hb w
  have h6 := bNext_w b me n hb hm w
  have h7 := rNext_w b me n hb hm w
  have h8 := bEpoch_w b n hb w
  have h9 := rEpoch_w b n hb w
  have hA := bPatience_w b n hb w
  have hB := rPatience_w b n hb w
  generalize bL b n = xl at *
  generalize bN b me n = xn at *
  generalize bE b n = xe at *
  generalize bP b n = xp at *
  cases hr : bR n with
  | true =>
    rw [hr] at h1 h2
    rw [show bQ n = n / 2 + 1 by simp [bQ, hr]] at h3
    rcases bR_true hr with rfl | rfl | rfl
    all_goals
      clear hr
      go_enter Try.func7, Try.ntmps7
      go_wp2_with (first | (go_at_call 15; refine h1.mono ?_; rintro _ _ ⟨rfl, rfl⟩) | (go_at_call 14; refine h2.mono ?_; rintro _ _ ⟨rfl, rfl⟩) | (go_at_call 13; refine h3.mono ?_; rintro _ _ ⟨rfl, rfl⟩) | (go_at_call 11; refine h4.mono ?_; rintro _ _ ⟨rfl, rfl⟩) | (go_at_call 16; refine h5.mono ?_; rintro _ _ ⟨rfl, rfl⟩) | (go_at_call 10; refine h6.mono ?_; rintro _ _ ⟨rfl, rfl⟩) | (go_at_call 17; refine h7.mono ?_; rintro _ _ ⟨rfl, rfl⟩) | (go_at_call 18; refine h8.mono ?_; rintro _ _ ⟨rfl, rfl⟩) | (go_at_call 19; refine h9.mono ?_; rintro _ _ ⟨rfl, rfl⟩) | (go_at_call 12; refine hA.mono ?_; rintro _ _ ⟨rfl, rfl⟩) | (go_at_call 20; refine hB.mono ?_; rintro _ _ ⟨rfl, rfl⟩))
      go_ret
      exact ⟨rfl, rfl⟩
  | false =>
    rw [hr] at h1 h2
    rw [show bQ n = -1 by simp [bQ, hr]] at h3
    clear hr
    go_enter Try.func7, Try.ntmps7
    go_wp2_with (first | (go_at_call 15; refine h1.mono ?_; rintro _ _ ⟨rfl, rfl⟩) | (go_at_call 14; refine h2.mono ?_; rintro _ _ ⟨rfl, rfl⟩) | (go_at_call 13; refine h3.mono ?_; rintro _ _ ⟨rfl, rfl⟩) | (go_at_call 11; refine h4.mono ?_; rintro _ _ ⟨rfl, rfl⟩) | (go_at_call 16; refine h5.mono ?_; rintro _ _ ⟨rfl, rfl⟩) | (go_at_call 10; refine h6.mono ?_; rintro _ _ ⟨rfl, rfl⟩) | (go_at_call 17; refine h7.mono ?_; rintro _ _ ⟨rfl, rfl⟩) | (go_at_call 18; refine h8.mono ?_; rintro _ _ ⟨rfl, rfl⟩) | (go_at_call 19; refine h9.mono ?_; rintro _ _ ⟨rfl, rfl⟩) | (go_at_call 12; refine hA.mono ?_; rintro _ _ ⟨rfl, rfl⟩) | (go_at_call 20; refine hB.mono ?_; rintro _ _ ⟨rfl, rfl⟩))
    go_ret
    exact ⟨rfl, rfl⟩
/-- One of 1, 3, 5, as the laws draw it. -/
theorem draw135 (w : World) (n : Int) : ∃ (j : Nat) (x : Int), (x = 1 ∨ x = 3 ∨ x = 5) ∧ j < 3 ∧ (pw n 0 1048576).tmod 3 = (j : Int) ∧ pw n 0 1048576 % 3 = (j : Int) ∧ (w.alloc (.cells #[.int .i64 1, .int .i64 3, .int .i64 5] 3)).cell? ⟨w.heap.size, j, none⟩ = some (.int .i64 x) := by
  have hr := pw_is n 0 1048576 (by omega)
  rw [Int.tmod_eq_emod_of_nonneg hr.1]
  generalize pw n 0 1048576 = r at *
  have h3 : r % 3 = 0 ∨ r % 3 = 1 ∨ r % 3 = 2 := by omega
  simp only [World.cell?, heap_alloc_new]
  rcases h3 with h | h | h
  · exact ⟨0, 1, .inl rfl, by omega, by simpa using h, by simpa using h, rfl⟩
  · exact ⟨1, 3, .inr (.inl rfl), by omega, by simpa using h, by simpa using h, rfl⟩
  · exact ⟨2, 5, .inr (.inr rfl), by omega, by simpa using h, by simpa using h, rfl⟩
set_option maxRecDepth 100000 in
set_option maxHeartbeats 4000000 in
theorem ballotTells_w (b me n : Int) (w : World) : Calls Try.prog 4 #[.int .i64 b, .int .i64 me, .int .i64 n] w fun e w' => e = .returned (.bool true) ∧ Moves [] w w' := by
  obtain ⟨j, x, hx, hj, hje, hje2, hcell⟩ := draw135 w n
  have m1 : Moves [] w (w.alloc (.cells #[.int .i64 1, .int .i64 3, .int .i64 5] 3)) := (Moves.refl _ _).alloc _
  have hx1 : 1 ≤ x ∧ x ≤ 5 := by omega
  have hk := pw_is b (-1) 536870912 (by omega)
  have hm := pw_is me (-2) 7 (by omega)
  have hm0 := pw_is me 0 (x - 1) (by omega)
  have hn9 := pw_is n (-2) 9 (by omega)
  have hn := pw_is n 0 1048576 (by omega)
  have hj3 : (j : Int) < 3 := by omega
  have hj0 : (0 : Int) ≤ j := by omega
  clear hx
  go_enter Try.func4, Try.ntmps4
  go_wp2_with (first | (go_at_call 9; refine (withinD_w _ _ _ (by omega) (by omega) (by omega) _).mono ?_; rintro _ _ ⟨rfl, rfl⟩) | (go_at_call 7; refine (same15_w _ _ _ (by omega) (by omega) _).mono ?_; rintro _ _ ⟨rfl, rfl⟩) | (go_at_call 8; refine (known15_w _).mono ?_; rintro _ _ ⟨rfl, rfl⟩))
  go_ret
  exact ⟨rfl, m1⟩
end Go.Proofs.Ytjeancijbogpbaa
/-
  The walks of BallotTurns and BallotQuorums.
-/
namespace Go.Proofs.Ytjeancijbogpbaa
open Go.RowKit

theorem ballotTells_v (u0 u1 u2 : Value) (w : World) (h0 : IArg u0) (h1 : IArg u1) (h2 : IArg u2) : Calls Try.prog 4 #[u0, u1, u2] w fun e w' => e = .returned (.bool true) ∧ Moves [] w w' := by
  obtain ⟨a, rfl⟩ := h0; obtain ⟨b, rfl⟩ := h1; obtain ⟨c, rfl⟩ := h2
  exact ballotTells_w a b c w
open Go.ChangeShapes Go.WideShapes
end Go.Proofs.Ytjeancijbogpbaa
