/-
  The walks of BallotTurns and BallotQuorums.
-/
import Derived.Test.YtjeancijbogpbaaCB01
import Derived.Deep.Slices
import Derived.ChangeShapes
namespace Go.Proofs.Ytjeancijbogpbaa
open Go.RowKit

theorem bQ_turns {n : Int} (hn : n = 1 ∨ n = 3 ∨ n = 5) : n < 2 * bQ n ∧ bQ n ≤ n ∧ 1 ≤ bQ n := by rcases hn with rfl | rfl | rfl <;> decide
/-- A list of bools. -/
def BoArgs (W : World) (v : Value) : Prop := ∃ ad len cap, v = .slice ad len cap ∧ ∀ k, k < len → ∃ b off x, ad = some ⟨b, off, none⟩ ∧ W.cell? ⟨b, off + k, none⟩ = some (.bool x)
set_option maxRecDepth 100000 in
set_option maxHeartbeats 4000000 in
theorem ballotQuorums_w (n : Int) (u v : Value) (w : World) (hu : BoArgs w u) (hv : BoArgs w v) : Calls Try.prog 6 #[.int .i64 n, u, v] w fun e w' => e = .returned (.bool true) ∧ Moves [] w w' := by
  obtain ⟨ad1, n1, c1, rfl, hu⟩ := hu
  obtain ⟨ad2, n2, c2, rfl, hv⟩ := hv
  obtain ⟨j, x, hx, hj, hje, hje2, hcell⟩ := draw135 w n
  obtain ⟨w1, hw1⟩ : ∃ w1, w1 = w.alloc (.cells #[.int .i64 1, .int .i64 3, .int .i64 5] 3) := ⟨_, rfl⟩
  have m1 : Moves [] w w1 := by rw [hw1]; exact (Moves.refl _ _).alloc _
  have hx1 : 1 ≤ x ∧ x ≤ 5 := by omega
  obtain ⟨hq1, hq2, hq3⟩ := bQ_turns hx
  have hn := pw_is n 0 1048576 (by omega)
  have hj3 : (j : Int) < 3 := by omega
  have hj0 : (0 : Int) ≤ j := by omega
  have HU : Hid (∀ k, k < n1 → ∃ b off x, ad1 = some ⟨b, off, none⟩ ∧ w.cell? ⟨b, off + k, none⟩ = some (.bool x)) := hu
  have HV : Hid (∀ k, k < n2 → ∃ b off x, ad2 = some ⟨b, off, none⟩ ∧ w.cell? ⟨b, off + k, none⟩ = some (.bool x)) := hv
  clear hx hu hv
  obtain ⟨q, HQ⟩ : ∃ q, Hid (bQ x = q) := ⟨_, rfl⟩
  rw [HQ.out] at hq1 hq2 hq3
  go_enter Try.func6, Try.ntmps6
  go_wp2_with (go_at_call 9; refine (withinD_w _ _ _ (by omega) (by omega) (by omega) _).mono ?_; rintro _ _ ⟨rfl, rfl⟩)
  rw [← hw1] at hcell ⊢
  clear hw1 hcell
  go_loopw [8, 9, 10, 11] (fun vc vd vb vi wr => ∃ c d z i : Nat, ((i : Int) ≤ x ∧ c + d ≤ z + i ∧ c ≤ i ∧ d ≤ i ∧ z ≤ i) ∧ vc = .int .i64 c ∧ vd = .int .i64 d ∧ vb = .int .i64 z ∧ vi = .int .i64 i ∧ Moves [] w wr) (fun _ _ _ vi _ => (x - intOf vi).toNat)
  case atStart => exact ⟨0, 0, 0, 0, by omega, rfl, rfl, rfl, rfl, m1⟩
  case round =>
    obtain ⟨c, d, z, i, hz, rfl, rfl, rfl, rfl, mr⟩ := hrel
    obtain ⟨wo, hwo⟩ : ∃ wo, wo = wr := ⟨_, rfl⟩
    subst hwo
    by_cases hlt : (i : Int) < x
    · by_cases h1 : i < n1
      · obtain ⟨b1, o1, x1, rfl, hc1⟩ := HU.out i h1
        have g1 := mr.cell hc1
        have i1 : (i : Int) < n1 := by omega
        by_cases h2 : i < n2
        · obtain ⟨b2, o2, x2, rfl, hc2⟩ := HV.out i h2
          have g2 := mr.cell hc2
          have i2 : (i : Int) < n2 := by omega
          clear HU HV hc1 hc2
          cases x1 <;> cases x2
          all_goals go_wp2_with fail
          all_goals have j1 : decide (i < n1) = true := decide_eq_true (by omega)
          all_goals have j2 : decide (i < n2) = true := decide_eq_true (by omega)
          all_goals go_region
          all_goals go_wp2_with fail
          all_goals go_round
          all_goals first
            | exact ⟨c, d, z, i + 1, by omega, rfl, rfl, rfl, by go_num, mr.drew⟩
            | exact ⟨c + 1, d, z, i + 1, by omega, by go_num, rfl, rfl, by go_num, mr.drew⟩
            | exact ⟨c, d + 1, z, i + 1, by omega, rfl, by go_num, rfl, by go_num, mr.drew⟩
            | exact ⟨c + 1, d + 1, z + 1, i + 1, by omega, by go_num, by go_num, by go_num, by go_num, mr.drew⟩
            | (simp [intOf]; omega)
        · have i2 : ¬ (i : Int) < n2 := by omega
          clear HU HV hc1 h2
          cases x1
          all_goals go_wp2_with fail
          all_goals have j1 : decide (i < n1) = true := decide_eq_true (by omega)
          all_goals have j2 : decide (i < n2) = false := decide_eq_false (by omega)
          all_goals go_region
          all_goals go_wp2_with fail
          all_goals go_round
          all_goals first
            | exact ⟨c, d, z, i + 1, by omega, rfl, rfl, rfl, by go_num, mr.drew⟩
            | exact ⟨c + 1, d, z, i + 1, by omega, by go_num, rfl, rfl, by go_num, mr.drew⟩
            | exact ⟨c, d + 1, z, i + 1, by omega, rfl, by go_num, rfl, by go_num, mr.drew⟩
            | exact ⟨c + 1, d + 1, z + 1, i + 1, by omega, by go_num, by go_num, by go_num, by go_num, mr.drew⟩
            | (simp [intOf]; omega)
      · have i1 : ¬ (i : Int) < n1 := by omega
        by_cases h2 : i < n2
        · obtain ⟨b2, o2, x2, rfl, hc2⟩ := HV.out i h2
          have g2 := mr.cell hc2
          have i2 : (i : Int) < n2 := by omega
          clear HU HV hc2 h1
          cases x2
          all_goals go_wp2_with fail
          all_goals have j1 : decide (i < n1) = false := decide_eq_false (by omega)
          all_goals have j2 : decide (i < n2) = true := decide_eq_true (by omega)
          all_goals go_region
          all_goals go_wp2_with fail
          all_goals go_round
          all_goals first
            | exact ⟨c, d, z, i + 1, by omega, rfl, rfl, rfl, by go_num, mr.drew⟩
            | exact ⟨c + 1, d, z, i + 1, by omega, by go_num, rfl, rfl, by go_num, mr.drew⟩
            | exact ⟨c, d + 1, z, i + 1, by omega, rfl, by go_num, rfl, by go_num, mr.drew⟩
            | exact ⟨c + 1, d + 1, z + 1, i + 1, by omega, by go_num, by go_num, by go_num, by go_num, mr.drew⟩
            | (simp [intOf]; omega)
        · have i2 : ¬ (i : Int) < n2 := by omega
          clear HU HV h1 h2
          all_goals go_wp2_with fail
          all_goals have j1 : decide (i < n1) = false := decide_eq_false (by omega)
          all_goals have j2 : decide (i < n2) = false := decide_eq_false (by omega)
          all_goals go_region
          all_goals go_wp2_with fail
          all_goals go_round
          all_goals first
            | exact ⟨c, d, z, i + 1, by omega, rfl, rfl, rfl, by go_num, mr.drew⟩
            | exact ⟨c + 1, d, z, i + 1, by omega, by go_num, rfl, rfl, by go_num, mr.drew⟩
            | exact ⟨c, d + 1, z, i + 1, by omega, rfl, by go_num, rfl, by go_num, mr.drew⟩
            | exact ⟨c + 1, d + 1, z + 1, i + 1, by omega, by go_num, by go_num, by go_num, by go_num, mr.drew⟩
            | (simp [intOf]; omega)
    · have hq : (q : Int) ≤ c → q ≤ d → (0 : Int) < z := by omega
      clear HU HV
      by_cases hc : (c : Int) < q
      · go_wp2_with (first | (go_at_call 13; refine (bQuorum_w _ _).mono ?_; rintro _ _ ⟨rfl, rfl⟩; rw [HQ.out]) | (go_at_call 8; refine (known15_w _).mono ?_; rintro _ _ ⟨rfl, rfl⟩))
        go_ret
        exact ⟨congrArg (fun z => Ending.returned (.bool z)) (by first | rfl | (simp only [Bool.or_eq_true, decide_eq_true_eq]; omega)), mr⟩
      · by_cases hd : (d : Int) < q
        · go_wp2_with (first | (go_at_call 13; refine (bQuorum_w _ _).mono ?_; rintro _ _ ⟨rfl, rfl⟩; rw [HQ.out]) | (go_at_call 8; refine (known15_w _).mono ?_; rintro _ _ ⟨rfl, rfl⟩))
          go_ret
          exact ⟨congrArg (fun z => Ending.returned (.bool z)) (by first | rfl | (simp only [Bool.or_eq_true, decide_eq_true_eq]; omega)), mr⟩
        · have hz0 : (0 : Int) < z := hq (by omega) (by omega)
          go_wp2_with (first | (go_at_call 13; refine (bQuorum_w _ _).mono ?_; rintro _ _ ⟨rfl, rfl⟩; rw [HQ.out]) | (go_at_call 8; refine (known15_w _).mono ?_; rintro _ _ ⟨rfl, rfl⟩))
          go_ret
          exact ⟨congrArg (fun z => Ending.returned (.bool z)) (by first | rfl | (simp only [Bool.or_eq_true, decide_eq_true_eq]; omega)), mr⟩
theorem ballotQuorums_v (u0 u1 u2 : Value) (w : World) (h0 : IArg u0) (h1 : BoArgs w u1) (h2 : BoArgs w u2) : Calls Try.prog 6 #[u0, u1, u2] w fun e w' => e = .returned (.bool true) ∧ Moves [] w w' := by
  obtain ⟨a, rfl⟩ := h0
  exact ballotQuorums_w a u1 u2 w h1 h2
open Go.ChangeShapes Go.WideShapes
theorem bool_of_trod {H : Type} {enc : TypeId × Value → H} {W : World} {base : Nat} {spare : Nat → Bool} {held : Bool} {fuel : Nat} {v : Value} {x : DataW H × List MemPlace}
    (h : DataW.trod enc Try.prog W base spare held fuel 4 [v] = some x) : ∃ s : Bool, v = .bool s := by
  cases fuel with
  | zero => simp [DataW.trod] at h
  | succ n =>
    simp only [DataW.trod, Try.underlying4] at h
    cases v <;> simp at h
    rename_i b
    exact ⟨b, rfl⟩
set_option maxRecDepth 100000 in
theorem boargs_of_raw {H : Type} {enc : TypeId × Value → H} {W : World} {base fuel : Nat} {spare : Nat → Bool} {held : Bool} {v : Value} {x : DataW H × List MemPlace}
    (h : DataW.trod enc Try.prog W base spare held fuel 28 [v] = some x) : BoArgs W v := by
  rcases Go.Deep.open_slice1 Try.underlying28 (by kernel_rfl) h with ⟨hcs, _⟩ | ⟨ad, len, cap, m, n, V, D, Pls, hcs, _, hl, hm, hmm, _, hx⟩
  · simp at hcs
    subst hcs
    exact ⟨none, 0, 0, rfl, fun k hk => absurd hk (by omega)⟩
  · simp at hcs
    subst hcs
    have hlm : len ≤ m := by rw [hmm]; split <;> omega
    refine ⟨_, _, _, rfl, fun k hk => ?_⟩
    obtain ⟨hc, hd⟩ := hx k (by omega)
    obtain ⟨z, hz⟩ := bool_of_trod hd
    have hsp := World.cell?_spot (hx 0 (by omega)).1
    obtain ⟨b, off, spot⟩ := ad
    obtain rfl : spot = none := by simpa [Addr.add] using hsp
    have e : (⟨b, off, none⟩ : Addr).add k = ⟨b, off + k, none⟩ := by unfold Addr.add; split <;> simp_all
    rw [e, hz] at hc
    exact ⟨b, off, z, rfl, hc⟩
set_option maxRecDepth 100000 in
theorem boargs_of_trod {H : Type} {enc : TypeId × Value → H} {W : World} {base b0 : Nat} {r : Reach} {spare : Nat → Bool} {held : Bool} {v : Value} {d : DataW H} {p : List MemPlace}
    (hv : Value.okWide Try.prog W r b0 28 v) (h : DataW.Trod enc Try.prog W base spare held 28 v d p) : BoArgs W v := by
  obtain ⟨a, len, cap, rfl⟩ := okWide_slice Try.underlying28 hv
  obtain ⟨fuel, hf⟩ := h
  exact boargs_of_raw (by simpa [Value.cells] using hf)
end Go.Proofs.Ytjeancijbogpbaa
