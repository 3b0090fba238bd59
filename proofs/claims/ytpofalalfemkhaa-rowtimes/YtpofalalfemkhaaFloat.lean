/-
  The drawn float: for every number and every word of 64 bits the call returns a word of 64 bits, and leaves memory as it was.
-/
import Derived.Test.YtpofalalfemkhaaCalls2
namespace Go.Proofs.Ytpofalalfemkhaa
open Go.RowKit

theorem tmod_bounds (n : Int) : -1048577 < n.tmod 1048577 ∧ n.tmod 1048577 < 1048577 := by
  rcases Int.le_total 0 n with h | h
  · rw [Int.tmod_eq_emod_of_nonneg h]; omega
  · have e : n.tmod 1048577 = -((-n).tmod 1048577) := by rw [Int.neg_tmod, Int.neg_neg]
    rw [e, Int.tmod_eq_emod_of_nonneg (by omega)]; omega

theorem within_w (n : Int) (w : World) :
    Calls Try.prog 83 #[.int .i64 n, .int .i64 0, .int .i64 1048576] w fun e w' => ∃ r : Int, (0 ≤ r ∧ r ≤ 1048576) ∧ e = .returned (.int .i64 r) ∧ w = w' := by
  go_enter Try.func83, Try.ntmps83
  go_wp2
  all_goals go_ret
  all_goals refine ⟨_, ?_, rfl, rfl⟩
  all_goals have t := tmod_bounds n
  all_goals generalize n.tmod 1048577 = m at *
  all_goals try unfold wrap64
  all_goals omega

theorem fits_of_int (n : Int) : Pl.Fits (floatOfInt .f64 n) := Pl.fits_of_wf (floatOfInt_wf .f64 n)
theorem fits_odd : Pl.Fits 18444492273895866659 := by unfold Pl.Fits; omega

theorem float_w (n : Int) (x : Nat) (hx : Pl.Fits x) (w : World) :
    Calls Try.prog 44 #[.int .i64 n, .float .f64 x] w fun e w' => ∃ c : Nat, Pl.Fits c ∧ e = .returned (.float .f64 c) ∧ w = w' := by
  go_enter Try.func44, Try.ntmps44
  go_wp2_with (first
    | (go_at_call 83; refine (within_w _ _).mono ?_; rintro _ _ ⟨r, hr, rfl, rfl⟩)
    | (go_at_call 84; refine (copysign_w _).mono ?_; rintro _ _ ⟨rfl, rfl⟩)
    | (go_at_call 85; refine (inf_w _ _).mono ?_; rintro _ _ ⟨rfl, rfl⟩)
    | (go_at_call 86; refine (nan_w _).mono ?_; rintro _ _ ⟨rfl, rfl⟩))
  all_goals go_ret
  all_goals refine ⟨_, ?_, rfl, rfl⟩
  all_goals first | exact hx | exact fits_zero | exact fits_top | exact fits_inf _ | exact fits_nan | exact fits_of_int _ | exact fits_odd

end Go.Proofs.Ytpofalalfemkhaa
