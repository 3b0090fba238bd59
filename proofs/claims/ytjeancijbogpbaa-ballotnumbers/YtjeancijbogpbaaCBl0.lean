/-
  Ballots as plain numbers: what package ballot and the document's own answer come to.
-/
import Derived.Test.YtjeancijbogpbaaCB00
import Derived.WalkLawsBesides
namespace Go.Proofs.Ytjeancijbogpbaa
open Go.RowKit

def bR (n : Int) : Bool := n == 1 || n == 3 || n == 5
def bQ (n : Int) : Int := if bR n then n / 2 + 1 else -1
def bL (b n : Int) : Int := if bR n = true ∧ 0 ≤ b then b % n else -1
def bF (b : Int) : Int := if b < -1 then 0 else b + 1
def bN (b me n : Int) : Int := if bR n = true ∧ 0 ≤ me ∧ me < n then bF b + (me - bF b) % n else -1
def b0 (b : Int) : Int := if b < 0 then 0 else b
def bE (b n : Int) : Int := if bR n then b0 b / n else -1
def bW (e : Int) : Int := if e ≤ 0 then 2 else if e = 1 then 4 else if e = 2 then 8 else 16
def bP (b n : Int) : Int := if bR n then bW (b0 b / n) else -1
theorem bR_true {n : Int} (h : bR n = true) : n = 1 ∨ n = 3 ∨ n = 5 := by
  simp only [bR, Bool.or_eq_true, beq_iff_eq] at h
  omega
theorem bF_is {b : Int} (hb : -1000 ≤ b ∧ b ≤ 4294967296) : 0 ≤ bF b ∧ bF b ≤ 4294967297 ∧ b < bF b := by unfold bF; split <;> omega
theorem b0_is {b : Int} (hb : -1000 ≤ b ∧ b ≤ 4294967296) : 0 ≤ b0 b ∧ b0 b ≤ 4294967296 := by unfold b0; split <;> omega

theorem bRight_w (n : Int) (w : World) : Calls Try.prog 15 #[.int .i64 n] w fun e w' => e = .returned (.bool (bR n)) ∧ w = w' := by
  obtain ⟨q, hq⟩ : ∃ q, Hid (bR n = q) := ⟨_, rfl⟩
  rw [hq.out]
  go_enter Try.func15, Try.ntmps15
  go_wp2
  all_goals go_ret
  all_goals refine ⟨congrArg (fun z => Ending.returned (.bool z)) ?_, rfl⟩
  all_goals (rw [← hq.out]; simp_all [bR])
set_option maxRecDepth 100000 in
theorem bQuorum_w (n : Int) (w : World) : Calls Try.prog 13 #[.int .i64 n] w fun e w' => e = .returned (.int .i64 (bQ n)) ∧ w = w' := by
  have H := bRight_w n w
  cases hr : bR n with
  | true =>
    rw [hr] at H
    rcases bR_true hr with rfl | rfl | rfl
    all_goals
      clear hr
      go_enter Try.func13, Try.ntmps13
      go_wp2_with (go_at_call 15; refine H.mono ?_; rintro _ _ ⟨rfl, rfl⟩)
      go_ret
      exact ⟨rfl, rfl⟩
  | false =>
    rw [hr] at H
    rw [show bQ n = -1 by simp [bQ, hr]]
    clear hr
    go_enter Try.func13, Try.ntmps13
    go_wp2_with (go_at_call 15; refine H.mono ?_; rintro _ _ ⟨rfl, rfl⟩)
    go_ret
    exact ⟨rfl, rfl⟩
set_option maxRecDepth 100000 in
theorem bLeader_w (b n : Int) (hb : -1000 ≤ b ∧ b ≤ 4294967296) (w : World) : Calls Try.prog 11 #[.int .i64 b, .int .i64 n] w fun e w' => e = .returned (.int .i64 (bL b n)) ∧ w = w' := by
  have H := bRight_w n w
  cases hr : bR n with
  | true =>
    rw [hr] at H
    by_cases h0 : b < 0
    · rw [show bL b n = -1 by unfold bL; rw [if_neg (by omega)]]
      clear hr
      go_enter Try.func11, Try.ntmps11
      go_wp2_with (go_at_call 15; refine H.mono ?_; rintro _ _ ⟨rfl, rfl⟩)
      go_ret
      exact ⟨rfl, rfl⟩
    · have h1 : 0 ≤ b := by omega
      rw [show bL b n = b % n by unfold bL; rw [if_pos ⟨hr, h1⟩]]
      rcases bR_true hr with rfl | rfl | rfl
      all_goals
        clear hr
        go_enter Try.func11, Try.ntmps11
        go_wp2_with (go_at_call 15; refine H.mono ?_; rintro _ _ ⟨rfl, rfl⟩)
        go_ret
        refine ⟨congrArg (fun z => Ending.returned (.int .i64 z)) ?_, rfl⟩
        first | rfl | omega
  | false =>
    rw [hr] at H
    rw [show bL b n = -1 by simp [bL, hr]]
    clear hr
    go_enter Try.func11, Try.ntmps11
    go_wp2_with (go_at_call 15; refine H.mono ?_; rintro _ _ ⟨rfl, rfl⟩)
    go_ret
    exact ⟨rfl, rfl⟩
set_option maxRecDepth 100000 in
theorem bEpoch_w (b n : Int) (hb : -1000 ≤ b ∧ b ≤ 4294967296) (w : World) : Calls Try.prog 18 #[.int .i64 b, .int .i64 n] w fun e w' => e = .returned (.int .i64 (bE b n)) ∧ w = w' := by
  have H := bRight_w n w
  cases hr : bR n with
  | true =>
    rw [hr] at H
    obtain ⟨x, hx⟩ : ∃ x, Hid (b0 b = x) := ⟨_, rfl⟩
    have hx0 := b0_is hb
    rw [show bE b n = b0 b / n by simp [bE, hr], hx.out]
    rw [hx.out] at hx0
    rcases bR_true hr with rfl | rfl | rfl
    all_goals
      clear hr
      go_enter Try.func18, Try.ntmps18
      go_wp2_with (go_at_call 15; refine H.mono ?_; rintro _ _ ⟨rfl, rfl⟩)
      all_goals go_ret
      all_goals refine ⟨congrArg (fun z => Ending.returned (.int .i64 z)) ?_, rfl⟩
      all_goals have hy := hx.out
      all_goals unfold b0 at hy
      all_goals (split at hy <;> first | rfl | omega)
  | false =>
    rw [hr] at H
    rw [show bE b n = -1 by simp [bE, hr]]
    clear hr
    go_enter Try.func18, Try.ntmps18
    go_wp2_with (go_at_call 15; refine H.mono ?_; rintro _ _ ⟨rfl, rfl⟩)
    go_ret
    exact ⟨rfl, rfl⟩
set_option maxRecDepth 100000 in
theorem bNext_w (b me n : Int) (hb : -1000 ≤ b ∧ b ≤ 4294967296) (hm : -1000 ≤ me ∧ me ≤ 1000) (w : World) : Calls Try.prog 10 #[.int .i64 b, .int .i64 me, .int .i64 n] w fun e w' => e = .returned (.int .i64 (bN b me n)) ∧ w = w' := by
  have H := bRight_w n w
  cases hr : bR n with
  | true =>
    rw [hr] at H
    by_cases h0 : me < 0
    · rw [show bN b me n = -1 by unfold bN; rw [if_neg (by omega)]]
      clear hr
      go_enter Try.func10, Try.ntmps10
      go_wp2_with (go_at_call 15; refine H.mono ?_; rintro _ _ ⟨rfl, rfl⟩)
      go_ret
      exact ⟨rfl, rfl⟩
    · by_cases h9 : n ≤ me
      · rw [show bN b me n = -1 by unfold bN; rw [if_neg (by omega)]]
        clear hr
        go_enter Try.func10, Try.ntmps10
        go_wp2_with (go_at_call 15; refine H.mono ?_; rintro _ _ ⟨rfl, rfl⟩)
        go_ret
        exact ⟨rfl, rfl⟩
      · obtain ⟨f, hf⟩ : ∃ f, Hid (bF b = f) := ⟨_, rfl⟩
        have hf0 := bF_is hb
        rw [hf.out] at hf0
        obtain ⟨hf0, hf1, hf2⟩ := hf0
        rw [show bN b me n = bF b + (me - bF b) % n by unfold bN; rw [if_pos ⟨hr, by omega, by omega⟩], hf.out]
        rcases bR_true hr with rfl | rfl | rfl
        all_goals
          clear hr
          go_enter Try.func10, Try.ntmps10
          go_wp2_with (go_at_call 15; refine H.mono ?_; rintro _ _ ⟨rfl, rfl⟩)
        all_goals
          go_ret
          refine ⟨congrArg (fun z => Ending.returned (.int .i64 z)) ?_, rfl⟩
          have hy := hf.out
          unfold bF at hy
          first | (rw [if_pos (by assumption)] at hy; simp only [if_pos (show b < -1 by assumption)] at *; omega) | (rw [if_neg (by omega)] at hy; simp only [if_neg (show ¬ b < -1 by omega)] at *; omega)
  | false =>
    rw [hr] at H
    rw [show bN b me n = -1 by simp [bN, hr]]
    clear hr
    go_enter Try.func10, Try.ntmps10
    go_wp2_with (go_at_call 15; refine H.mono ?_; rintro _ _ ⟨rfl, rfl⟩)
    go_ret
    exact ⟨rfl, rfl⟩
set_option maxRecDepth 100000 in
theorem bPatience_w (b n : Int) (hb : -1000 ≤ b ∧ b ≤ 4294967296) (w : World) : Calls Try.prog 12 #[.int .i64 b, .int .i64 n] w fun e w' => e = .returned (.int .i64 (bP b n)) ∧ w = w' := by
  have H := bRight_w n w
  have E := bEpoch_w b n hb w
  cases hr : bR n with
  | true =>
    rw [hr] at H
    rw [show bE b n = b0 b / n by simp [bE, hr]] at E
    rw [show bP b n = bW (b0 b / n) by simp [bP, hr]]
    have he : 0 ≤ b0 b / n := Int.ediv_nonneg (b0_is hb).1 (by have := bR_true hr; omega)
    have he2 : b0 b / n ≤ 4294967296 := Int.le_trans (Int.ediv_le_self _ (b0_is hb).1) (b0_is hb).2
    generalize b0 b / n = q at *
    obtain ⟨z, hz⟩ : ∃ z, Hid (bW q = z) := ⟨_, rfl⟩
    rw [hz.out]
    clear hr
    go_enter Try.func12, Try.ntmps12
    go_wp2_with (first | (go_at_call 15; refine H.mono ?_; rintro _ _ ⟨rfl, rfl⟩) | (go_at_call 18; refine E.mono ?_; rintro _ _ ⟨rfl, rfl⟩))
    all_goals go_ret
    all_goals refine ⟨congrArg (fun z => Ending.returned (.int .i64 z)) ?_, rfl⟩
    all_goals have hy := hz.out
    all_goals unfold bW at hy
    · rw [if_neg (by omega), if_neg (by omega), if_neg (by omega)] at hy
      rw [← hy]; decide +kernel
    · rcases (by omega : q = 0 ∨ q = 1 ∨ q = 2 ∨ q = 3) with rfl | rfl | rfl | rfl
      all_goals (rw [← hy]; decide +kernel)
  | false =>
    rw [hr] at H
    rw [show bP b n = -1 by simp [bP, hr]]
    clear hr E
    go_enter Try.func12, Try.ntmps12
    go_wp2_with (go_at_call 15; refine H.mono ?_; rintro _ _ ⟨rfl, rfl⟩)
    go_ret
    exact ⟨rfl, rfl⟩
theorem rRight_w (n : Int) (w : World) : Calls Try.prog 14 #[.int .i64 n] w fun e w' => e = .returned (.bool (bR n)) ∧ w = w' := by
  obtain ⟨q, hq⟩ : ∃ q, Hid (bR n = q) := ⟨_, rfl⟩
  rw [hq.out]
  go_enter Try.func14, Try.ntmps14
  go_wp2
  all_goals go_ret
  all_goals refine ⟨congrArg (fun z => Ending.returned (.bool z)) ?_, rfl⟩
  all_goals (rw [← hq.out]; simp_all [bR])
set_option maxRecDepth 100000 in
theorem rLeader_w (b n : Int) (hb : -1000 ≤ b ∧ b ≤ 4294967296) (w : World) : Calls Try.prog 16 #[.int .i64 b, .int .i64 n] w fun e w' => e = .returned (.int .i64 (bL b n)) ∧ w = w' := by
  have H := rRight_w n w
  cases hr : bR n with
  | true =>
    rw [hr] at H
    by_cases h0 : b < 0
    · rw [show bL b n = -1 by unfold bL; rw [if_neg (by omega)]]
      clear hr
      go_enter Try.func16, Try.ntmps16
      go_wp2_with (go_at_call 14; refine H.mono ?_; rintro _ _ ⟨rfl, rfl⟩)
      go_ret
      exact ⟨rfl, rfl⟩
    · have h1 : 0 ≤ b := by omega
      rw [show bL b n = b % n by unfold bL; rw [if_pos ⟨hr, h1⟩]]
      rcases bR_true hr with rfl | rfl | rfl
      all_goals
        clear hr
        go_enter Try.func16, Try.ntmps16
        go_wp2_with (go_at_call 14; refine H.mono ?_; rintro _ _ ⟨rfl, rfl⟩)
        go_ret
        refine ⟨congrArg (fun z => Ending.returned (.int .i64 z)) ?_, rfl⟩
        first | rfl | omega
  | false =>
    rw [hr] at H
    rw [show bL b n = -1 by simp [bL, hr]]
    clear hr
    go_enter Try.func16, Try.ntmps16
    go_wp2_with (go_at_call 14; refine H.mono ?_; rintro _ _ ⟨rfl, rfl⟩)
    go_ret
    exact ⟨rfl, rfl⟩
set_option maxRecDepth 100000 in
theorem rEpoch_w (b n : Int) (hb : -1000 ≤ b ∧ b ≤ 4294967296) (w : World) : Calls Try.prog 19 #[.int .i64 b, .int .i64 n] w fun e w' => e = .returned (.int .i64 (bE b n)) ∧ w = w' := by
  have H := rRight_w n w
  cases hr : bR n with
  | true =>
    rw [hr] at H
    obtain ⟨x, hx⟩ : ∃ x, Hid (b0 b = x) := ⟨_, rfl⟩
    have hx0 := b0_is hb
    rw [show bE b n = b0 b / n by simp [bE, hr], hx.out]
    rw [hx.out] at hx0
    rcases bR_true hr with rfl | rfl | rfl
    all_goals
      clear hr
      go_enter Try.func19, Try.ntmps19
      go_wp2_with (go_at_call 14; refine H.mono ?_; rintro _ _ ⟨rfl, rfl⟩)
      all_goals go_ret
      all_goals refine ⟨congrArg (fun z => Ending.returned (.int .i64 z)) ?_, rfl⟩
      all_goals have hy := hx.out
      all_goals unfold b0 at hy
      all_goals (split at hy <;> first | rfl | omega)
  | false =>
    rw [hr] at H
    rw [show bE b n = -1 by simp [bE, hr]]
    clear hr
    go_enter Try.func19, Try.ntmps19
    go_wp2_with (go_at_call 14; refine H.mono ?_; rintro _ _ ⟨rfl, rfl⟩)
    go_ret
    exact ⟨rfl, rfl⟩
set_option maxRecDepth 100000 in
theorem rNext_w (b me n : Int) (hb : -1000 ≤ b ∧ b ≤ 4294967296) (hm : -1000 ≤ me ∧ me ≤ 1000) (w : World) : Calls Try.prog 17 #[.int .i64 b, .int .i64 me, .int .i64 n] w fun e w' => e = .returned (.int .i64 (bN b me n)) ∧ w = w' := by
  have H := rRight_w n w
  cases hr : bR n with
  | true =>
    rw [hr] at H
    by_cases h0 : me < 0
    · rw [show bN b me n = -1 by unfold bN; rw [if_neg (by omega)]]
      clear hr
      go_enter Try.func17, Try.ntmps17
      go_wp2_with (go_at_call 14; refine H.mono ?_; rintro _ _ ⟨rfl, rfl⟩)
      go_ret
      exact ⟨rfl, rfl⟩
    · by_cases h9 : n ≤ me
      · rw [show bN b me n = -1 by unfold bN; rw [if_neg (by omega)]]
        clear hr
        go_enter Try.func17, Try.ntmps17
        go_wp2_with (go_at_call 14; refine H.mono ?_; rintro _ _ ⟨rfl, rfl⟩)
        go_ret
        exact ⟨rfl, rfl⟩
      · obtain ⟨f, hf⟩ : ∃ f, Hid (bF b = f) := ⟨_, rfl⟩
        have hf0 := bF_is hb
        rw [hf.out] at hf0
        obtain ⟨hf0, hf1, hf2⟩ := hf0
        rw [show bN b me n = bF b + (me - bF b) % n by unfold bN; rw [if_pos ⟨hr, by omega, by omega⟩], hf.out]
        rcases bR_true hr with rfl | rfl | rfl
        · skip
          clear hr
          go_enter Try.func17, Try.ntmps17
          go_wp2_with (go_at_call 14; refine H.mono ?_; rintro _ _ ⟨rfl, rfl⟩)
          all_goals
            go_loop [7] (fun v => ∃ x : Int, (f ≤ x ∧ x ≤ f + (me - f) % 1) ∧ v = .int .i64 x) (fun v => (f + (me - f) % 1 - intOf v).toNat)
            case atStart =>
              have hy := hf.out
              unfold bF at hy
              refine ⟨f, by omega, congrArg (fun z => Value.int .i64 z) ?_⟩
              split at hy <;> omega
            case round =>
              obtain ⟨x, hx, rfl⟩ := hrel
              by_cases hlt : x % 1 = me
              · go_wp2_with fail
                go_ret
                exact ⟨congrArg (fun z => Ending.returned (.int .i64 z)) (by omega), rfl⟩
              · exact absurd (by omega) hlt
        · skip
          clear hr
          go_enter Try.func17, Try.ntmps17
          go_wp2_with (go_at_call 14; refine H.mono ?_; rintro _ _ ⟨rfl, rfl⟩)
          all_goals
            go_loop [7] (fun v => ∃ x : Int, (f ≤ x ∧ x ≤ f + (me - f) % 3) ∧ v = .int .i64 x) (fun v => (f + (me - f) % 3 - intOf v).toNat)
            case atStart =>
              have hy := hf.out
              unfold bF at hy
              refine ⟨f, by omega, congrArg (fun z => Value.int .i64 z) ?_⟩
              split at hy <;> omega
            case round =>
              obtain ⟨x, hx, rfl⟩ := hrel
              by_cases hlt : x % 3 = me
              · go_wp2_with fail
                go_ret
                exact ⟨congrArg (fun z => Ending.returned (.int .i64 z)) (by omega), rfl⟩
              · go_wp2_with fail
                go_round
                case rel => exact ⟨x + 1, by omega, by go_num⟩
                case measure => simp [intOf]; omega
        · skip
          clear hr
          go_enter Try.func17, Try.ntmps17
          go_wp2_with (go_at_call 14; refine H.mono ?_; rintro _ _ ⟨rfl, rfl⟩)
          all_goals
            go_loop [7] (fun v => ∃ x : Int, (f ≤ x ∧ x ≤ f + (me - f) % 5) ∧ v = .int .i64 x) (fun v => (f + (me - f) % 5 - intOf v).toNat)
            case atStart =>
              have hy := hf.out
              unfold bF at hy
              refine ⟨f, by omega, congrArg (fun z => Value.int .i64 z) ?_⟩
              split at hy <;> omega
            case round =>
              obtain ⟨x, hx, rfl⟩ := hrel
              by_cases hlt : x % 5 = me
              · go_wp2_with fail
                go_ret
                exact ⟨congrArg (fun z => Ending.returned (.int .i64 z)) (by omega), rfl⟩
              · go_wp2_with fail
                go_round
                case rel => exact ⟨x + 1, by omega, by go_num⟩
                case measure => simp [intOf]; omega
  | false =>
    rw [hr] at H
    rw [show bN b me n = -1 by simp [bN, hr]]
    clear hr
    go_enter Try.func17, Try.ntmps17
    go_wp2_with (go_at_call 14; refine H.mono ?_; rintro _ _ ⟨rfl, rfl⟩)
    go_ret
    exact ⟨rfl, rfl⟩
set_option maxRecDepth 100000 in
theorem rPatience_w (b n : Int) (hb : -1000 ≤ b ∧ b ≤ 4294967296) (w : World) : Calls Try.prog 20 #[.int .i64 b, .int .i64 n] w fun e w' => e = .returned (.int .i64 (bP b n)) ∧ w = w' := by
  have H := rRight_w n w
  have E := rEpoch_w b n hb w
  cases hr : bR n with
  | true =>
    rw [hr] at H
    rw [show bE b n = b0 b / n by simp [bE, hr]] at E
    rw [show bP b n = bW (b0 b / n) by simp [bP, hr]]
    have he : 0 ≤ b0 b / n := Int.ediv_nonneg (b0_is hb).1 (by have := bR_true hr; omega)
    have he2 : b0 b / n ≤ 4294967296 := Int.le_trans (Int.ediv_le_self _ (b0_is hb).1) (b0_is hb).2
    generalize b0 b / n = q at *
    obtain ⟨z, hz⟩ : ∃ z, Hid (bW q = z) := ⟨_, rfl⟩
    rw [hz.out]
    clear hr
    go_enter Try.func20, Try.ntmps20
    go_wp2_with (first | (go_at_call 14; refine H.mono ?_; rintro _ _ ⟨rfl, rfl⟩) | (go_at_call 19; refine E.mono ?_; rintro _ _ ⟨rfl, rfl⟩))
    go_loop [5, 6] (fun p e => ∃ k m : Int, (k = 0 ∧ m = 2 ∨ k = 1 ∧ m = 4 ∨ k = 2 ∧ m = 8 ∨ k = 3 ∧ m = 16) ∧ k ≤ q ∧ p = .int .i64 m ∧ e = .int .i64 (q - k)) (fun _ e => (intOf e).toNat)
    case atStart => exact ⟨0, 2, .inl ⟨rfl, rfl⟩, he, rfl, by simp⟩
    case round =>
      obtain ⟨k, m, hk, hkq, rfl, rfl⟩ := hrel
      by_cases hlt : 0 < q - k
      · by_cases hm : m < 16
        · go_wp2_with fail
          go_round
          case rel => exact ⟨k + 1, 2 * m, by omega, by omega, by go_num, congrArg (fun z => Value.int .i64 z) (by omega)⟩
          case measure => simp [intOf]; omega
        · go_wp2_with fail
          go_ret
          have hy := hz.out
          unfold bW at hy
          rw [if_neg (by omega), if_neg (by omega), if_neg (by omega)] at hy
          exact ⟨congrArg (fun z => Ending.returned (.int .i64 z)) (by omega), rfl⟩
      · go_wp2_with fail
        go_ret
        have hy := hz.out
        unfold bW at hy
        refine ⟨congrArg (fun z => Ending.returned (.int .i64 z)) ?_, rfl⟩
        rcases hk with ⟨rfl, rfl⟩ | ⟨rfl, rfl⟩ | ⟨rfl, rfl⟩ | ⟨rfl, rfl⟩
        · rw [if_pos (by omega)] at hy; omega
        · rw [if_neg (by omega), if_pos (by omega)] at hy; omega
        · rw [if_neg (by omega), if_neg (by omega), if_pos (by omega)] at hy; omega
        · rw [if_neg (by omega), if_neg (by omega), if_neg (by omega)] at hy; omega
  | false =>
    rw [hr] at H
    rw [show bP b n = -1 by simp [bP, hr]]
    clear hr E
    go_enter Try.func20, Try.ntmps20
    go_wp2_with (go_at_call 14; refine H.mono ?_; rintro _ _ ⟨rfl, rfl⟩)
    go_ret
    exact ⟨rfl, rfl⟩
end Go.Proofs.Ytjeancijbogpbaa
