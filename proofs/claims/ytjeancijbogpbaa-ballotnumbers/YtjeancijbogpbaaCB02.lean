/-
  Bl1, Bl2: our texts of these names, laid into one.
-/
import Derived.Test.YtjeancijbogpbaaCBl0
import Derived.Test.YtjeancijbogpbaaRows
import Derived.ProofKit
import Derived.Deep.Slices
import Derived.ChangeShapes
/-
  Chapter 15's runs; the program's ballots are the document's; the walks of stage 15's four.
-/
namespace Go.Proofs.Ytjeancijbogpbaa
open Go.RowKit

theorem bN_a : bN 4 0 3 = 6 := by decide +kernel
theorem bN_b : bN (-1) 2 3 = 2 := by decide +kernel
theorem bP_a : bP 7 3 = 8 := by decide +kernel
theorem bR_a : bR 4 = false := by decide +kernel
theorem known15_w (w : World) : Calls Try.prog 8 #[] w fun e w' => e = .returned (.bool true) ∧ w = w' := by
  go_enter Try.func8, Try.ntmps8
  go_wp2_with (first | (go_at_call 15; refine (bRight_w _ _).mono ?_; rintro _ _ ⟨rfl, rfl⟩; rw [bR_a]) | (go_at_call 12; refine (bPatience_w _ _ (by omega) _).mono ?_; rintro _ _ ⟨rfl, rfl⟩; rw [bP_a]) | (go_at_call 10; refine (bNext_w _ _ _ (by omega) (by omega) _).mono ?_; rintro _ _ ⟨rfl, rfl⟩; first | rw [bN_a] | rw [bN_b]))
  go_ret
  exact ⟨rfl, rfl⟩
set_option maxRecDepth 100000 in
theorem same15_w (b me n : Int) (hb : -1000 ≤ b ∧ b ≤ 4294967296) (hm : -1000 ≤ me ∧ me ≤ 1000) (w : World) : Calls Try.prog 7 #[.int .i64 b, .int .i64 me, .int .i64 n] w fun e w' => e = .returned (.bool true) ∧ w = w' := by
  have h1 := bRight_w n w
  have h2 := rRight_w n w
  have h3 := bQuorum_w n w
  have h4 := bLeader_w b n hb w
  have h5 := rLeader_w b n hb w
  have h6 := bNext_w b me n hb hm w
  have h7 := rNext_w b me n hb hm w
  have h8 := bEpoch_w b n hb w
  have h9 := rEpoch_w b n hb w
  have hA := bPatience_w b n hb w
  have hB := rPatience_w b n hb w
  generalize bL b n = xl at *
  generalize bN b me n = xn at *
  generalize bE b n = xe at *
  generalize bP b n = xp at *
  cases hr : bR n with
  | true =>
    rw [hr] at h1 h2
    rw [show bQ n = n / 2 + 1 by simp [bQ, hr]] at h3
    rcases bR_true hr with rfl | rfl | rfl
    all_goals
      clear hr
      go_enter Try.func7, Try.ntmps7
      go_wp2_with (first | (go_at_call 15; refine h1.mono ?_; rintro _ _ ⟨rfl, rfl⟩) | (go_at_call 14; refine h2.mono ?_; rintro _ _ ⟨rfl, rfl⟩) | (go_at_call 13; refine h3.mono ?_; rintro _ _ ⟨rfl, rfl⟩) | (go_at_call 11; refine h4.mono ?_; rintro _ _ ⟨rfl, rfl⟩) | (go_at_call 16; refine h5.mono ?_; rintro _ _ ⟨rfl, rfl⟩) | (go_at_call 10; refine h6.mono ?_; rintro _ _ ⟨rfl, rfl⟩) | (go_at_call 17; refine h7.mono ?_; rintro _ _ ⟨rfl, rfl⟩) | (go_at_call 18; refine h8.mono ?_; rintro _ _ ⟨rfl, rfl⟩) | (go_at_call 19; refine h9.mono ?_; rintro _ _ ⟨rfl, rfl⟩) | (go_at_call 12; refine hA.mono ?_; rintro _ _ ⟨rfl, rfl⟩) | (go_at_call 20; refine hB.mono ?_; rintro _ _ ⟨rfl, rfl⟩))
      go_ret
      exact ⟨rfl, rfl⟩
  | false =>
    rw [hr] at h1 h2
    rw [show bQ n = -1 by simp [bQ, hr]] at h3
    clear hr
    go_enter Try.func7, Try.ntmps7
    go_wp2_with (first | (go_at_call 15; refine h1.mono ?_; rintro _ _ ⟨rfl, rfl⟩) | (go_at_call 14; refine h2.mono ?_; rintro _ _ ⟨rfl, rfl⟩) | (go_at_call 13; refine h3.mono ?_; rintro _ _ ⟨rfl, rfl⟩) | (go_at_call 11; refine h4.mono ?_; rintro _ _ ⟨rfl, rfl⟩) | (go_at_call 16; refine h5.mono ?_; rintro _ _ ⟨rfl, rfl⟩) | (go_at_call 10; refine h6.mono ?_; rintro _ _ ⟨rfl, rfl⟩) | (go_at_call 17; refine h7.mono ?_; rintro _ _ ⟨rfl, rfl⟩) | (go_at_call 18; refine h8.mono ?_; rintro _ _ ⟨rfl, rfl⟩) | (go_at_call 19; refine h9.mono ?_; rintro _ _ ⟨rfl, rfl⟩) | (go_at_call 12; refine hA.mono ?_; rintro _ _ ⟨rfl, rfl⟩) | (go_at_call 20; refine hB.mono ?_; rintro _ _ ⟨rfl, rfl⟩))
    go_ret
    exact ⟨rfl, rfl⟩
set_option maxRecDepth 100000 in
theorem ballotNumbers_w (w : World) : Calls Try.prog 3 #[] w fun e w' => e = .returned (.bool true) ∧ w = w' := by
  have hk := known15_w w
  have h9 := same15_w 1073741823 0 5 (by omega) (by omega) w
  go_enter Try.func3, Try.ntmps3
  go_wp2_with fail
  go_loop [1] (fun v => ∃ n : Int, (-1 ≤ n ∧ n ≤ 8) ∧ v = .int .i64 n) (fun v => (8 - intOf v).toNat)
  case atStart => exact ⟨-1, by omega, rfl⟩
  case round =>
    obtain ⟨n, hn, rfl⟩ := hrel
    by_cases hlt : n < 8
    · go_wp2_with fail
      go_loop [2] (fun v => ∃ b : Int, (-3 ≤ b ∧ b ≤ 40) ∧ v = .int .i64 b) (fun v => (40 - intOf v).toNat)
      case atStart => exact ⟨-3, by omega, rfl⟩
      case round =>
        obtain ⟨b, hb, rfl⟩ := hrel
        by_cases hlb : b < 40
        · go_wp2_with fail
          go_loop [3] (fun v => ∃ m : Int, (-1 ≤ m ∧ m ≤ 7) ∧ v = .int .i64 m) (fun v => (7 - intOf v).toNat)
          case atStart => exact ⟨-1, by omega, rfl⟩
          case round =>
            obtain ⟨m, hm, rfl⟩ := hrel
            by_cases hlm : m < 7
            · have hs := same15_w b m n (by omega) (by omega) w
              go_wp2_with (go_at_call 7; refine hs.mono ?_; rintro _ _ ⟨rfl, rfl⟩)
              go_round
              case rel => exact ⟨m + 1, by omega, by go_num⟩
              case measure => simp [intOf]; omega
            · go_wp2_with fail
              go_round
              case rel => exact ⟨b + 1, by omega, by go_num⟩
              case measure => simp [intOf]; omega
        · go_wp2_with fail
          go_round
          case rel => exact ⟨n + 1, by omega, by go_num⟩
          case measure => simp [intOf]; omega
    · go_wp2_with (first | (go_at_call 7; refine h9.mono ?_; rintro _ _ ⟨rfl, rfl⟩) | (go_at_call 8; refine hk.mono ?_; rintro _ _ ⟨rfl, rfl⟩))
      go_ret
      exact ⟨rfl, rfl⟩
end Go.Proofs.Ytjeancijbogpbaa
/-
  The walks of BallotTurns and BallotQuorums.
-/
namespace Go.Proofs.Ytjeancijbogpbaa
open Go.RowKit

theorem ballotNumbers_v (w : World) : Calls Try.prog 3 #[] w fun e w' => e = .returned (.bool true) ∧ Moves [] w w' :=
  (ballotNumbers_w w).mono fun _ _ h => ⟨h.1, h.2 ▸ Moves.refl _ _⟩
open Go.ChangeShapes Go.WideShapes
end Go.Proofs.Ytjeancijbogpbaa
