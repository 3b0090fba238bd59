/-
  Float, Ref, Floats, WpT: our texts of these names, laid into one.
-/
import Derived.Test.YtcamhlnkcoicpaaGreatCB00
import Derived.OrdersHeld
import Derived.Deep.RegionHeld
/-
  The drawn float: for every number and every word of 64 bits the call returns a word of 64 bits, and leaves memory as it was.
-/
namespace Go.Proofs.YtcamhlnkcoicpaaGreat
open Go.RowKit

theorem tmod_bounds (n : Int) : -1048577 < n.tmod 1048577 ∧ n.tmod 1048577 < 1048577 := by
  rcases Int.le_total 0 n with h | h
  · rw [Int.tmod_eq_emod_of_nonneg h]; omega
  · have e : n.tmod 1048577 = -((-n).tmod 1048577) := by rw [Int.neg_tmod, Int.neg_neg]
    rw [e, Int.tmod_eq_emod_of_nonneg (by omega)]; omega

theorem within_w (n : Int) (w : World) :
    Calls Tryz.prog 19 #[.int .i64 n, .int .i64 0, .int .i64 1048576] w fun e w' => ∃ r : Int, (0 ≤ r ∧ r ≤ 1048576) ∧ e = .returned (.int .i64 r) ∧ w = w' := by
  go_enter Tryz.func19, Tryz.ntmps19
  go_wp2
  all_goals go_ret
  all_goals refine ⟨_, ?_, rfl, rfl⟩
  all_goals have t := tmod_bounds n
  all_goals generalize n.tmod 1048577 = m at *
  all_goals try unfold wrap64
  all_goals omega

theorem fits_of_int (n : Int) : Pl.Fits (floatOfInt .f64 n) := Pl.fits_of_wf (floatOfInt_wf .f64 n)
theorem fits_odd : Pl.Fits 18444492273895866659 := by unfold Pl.Fits; omega

theorem float_w (n : Int) (x : Nat) (hx : Pl.Fits x) (w : World) :
    Calls Tryz.prog 84 #[.int .i64 n, .float .f64 x] w fun e w' => ∃ c : Nat, Pl.Fits c ∧ e = .returned (.float .f64 c) ∧ w = w' := by
  go_enter Tryz.func84, Tryz.ntmps84
  go_wp2_with (first
    | (go_at_call 19; refine (within_w _ _).mono ?_; rintro _ _ ⟨r, hr, rfl, rfl⟩)
    | (go_at_call 127; refine (copysign_w _).mono ?_; rintro _ _ ⟨rfl, rfl⟩)
    | (go_at_call 128; refine (inf_w _ _).mono ?_; rintro _ _ ⟨rfl, rfl⟩)
    | (go_at_call 129; refine (nan_w _).mono ?_; rintro _ _ ⟨rfl, rfl⟩))
  all_goals go_ret
  all_goals refine ⟨_, ?_, rfl, rfl⟩
  all_goals first | exact hx | exact fits_zero | exact fits_top | exact fits_inf _ | exact fits_nan | exact fits_of_int _ | exact fits_odd

end Go.Proofs.YtcamhlnkcoicpaaGreat
/-
  What the document's own answer (the reference of layer 1) does: for every word of 64 bits it returns what package num's functions are proved to return, and leaves memory as it was.
-/
namespace Go.Proofs.YtcamhlnkcoicpaaGreat
open Go.RowKit

namespace Pl
/-- A word's place in the document's order. -/
def place (a : Nat) : Nat := if isNan a then 18446744073709551615 else rank a

theorem rank_num_lt {a : Nat} (ha : Fits a) (hn : isNan a = false) : rank a ≤ 18442240474082181120 := by
  have hr := not_nan hn
  unfold rank
  rw [canon_num hn]
  unfold rg Fits at *
  split <;> omega

theorem cmp_place {a b : Nat} (ha : Fits a) (hb : Fits b) : cmp (place a) (place b) = ord a b := by
  unfold place ord
  cases na : isNan a <;> cases nb : isNan b
  · rfl
  · have h1 := rank_num_lt ha na
    have h2 : rank b = 18444492273895866369 := by unfold rank; rw [canon_nan nb]; rfl
    simp only [Bool.false_eq_true, if_false, if_true]
    unfold cmp
    rw [if_pos (by omega), if_pos (by omega)]
  · have h1 := rank_num_lt hb nb
    have h2 : rank a = 18444492273895866369 := by unfold rank; rw [canon_nan na]; rfl
    simp only [Bool.false_eq_true, if_false, if_true]
    unfold cmp
    rw [if_neg (by omega), if_pos (by omega), if_neg (by omega), if_pos (by omega)]
  · have h1 : rank a = 18444492273895866369 := by unfold rank; rw [canon_nan na]; rfl
    have h2 : rank b = 18444492273895866369 := by unfold rank; rw [canon_nan nb]; rfl
    rw [h1, h2]
    rfl

theorem exp_test {a : Nat} (h : Fits a) : (bits .and .u64 (a : Int) 9218868437227405312 == 9218868437227405312) = decide (9218868437227405312 ≤ rg a) := by
  rw [and_exp64 h]
  rw [Bool.eq_iff_iff]
  simp only [beq_iff_eq, decide_eq_true_eq]
  unfold rg Fits at *
  omega

theorem frac_test {a : Nat} (h : Fits a) : (bits .and .u64 (a : Int) 4503599627370495 != 0) = decide (rg a % 4503599627370496 ≠ 0) := by
  rw [and_frac64 h]
  rw [Bool.eq_iff_iff]
  simp only [bne_iff_ne, decide_eq_true_eq]
  unfold rg Fits at *
  omega

/-- The document's test of what is no number. -/
theorem nan_ways {a : Nat} (h : Fits a) :
    (canon a = 9221120237041090561 ∧ (bits .and .u64 (a : Int) 9218868437227405312 == 9218868437227405312) = true ∧ (bits .and .u64 (a : Int) 4503599627370495 != 0) = true)
    ∨ (canon a = a ∧ (bits .and .u64 (a : Int) 9218868437227405312 == 9218868437227405312) = true ∧ (bits .and .u64 (a : Int) 4503599627370495 != 0) = false)
    ∨ (canon a = a ∧ (bits .and .u64 (a : Int) 9218868437227405312 == 9218868437227405312) = false) := by
  rw [exp_test h, frac_test h]
  have hm : rg a < 9223372036854775808 := Nat.mod_lt _ (by decide)
  cases hn : isNan a
  · have hr := not_nan hn
    rw [canon_num hn]
    by_cases he : 9218868437227405312 ≤ rg a
    · right; left
      have : rg a = 9218868437227405312 := by omega
      rw [this]
      exact ⟨rfl, by decide, by decide⟩
    · right; right
      exact ⟨rfl, decide_eq_false he⟩
  · left
    have hi := (isNan_iff a).1 hn
    exact ⟨canon_nan hn, decide_eq_true (by omega), decide_eq_true (by omega)⟩

end Pl

theorem refBits_w (a : Nat) (ha : Pl.Fits a) (w : World) :
    Calls Tryz.prog 149 #[.float .f64 a] w fun e w' => e = .returned (.int .u64 (Pl.canon a)) ∧ w = w' := by
  rcases Pl.nan_ways ha with ⟨e, t1, t2⟩ | ⟨e, t1, t2⟩ | ⟨e, t1⟩
  all_goals rw [e]
  all_goals clear e
  all_goals go_enter Tryz.func149, Tryz.ntmps149
  all_goals go_wp2
  all_goals (go_ret; exact ⟨rfl, rfl⟩)

theorem isNan_of_canon {a : Nat} (h : Pl.canon a = 9221120237041090561) : Pl.isNan a = true := by
  have := Pl.isNan_canon a
  rw [h] at this
  rw [← this]; decide

theorem refPlace_w (a : Nat) (ha : Pl.Fits a) (w : World) :
    Calls Tryz.prog 177 #[.float .f64 a] w fun e w' => e = .returned (.int .u64 (Pl.place a)) ∧ w = w' := by
  have hc := Pl.fits_canon ha
  go_enter Tryz.func177, Tryz.ntmps177
  go_wp2_with (go_at_call 149; refine (refBits_w _ (by assumption) _).mono ?_; rintro _ _ ⟨rfl, rfl⟩)
  all_goals (go_ret; refine ⟨?_, rfl⟩)
  · have h1 : ((Pl.canon a : Int) == 9221120237041090561) = true := by assumption
    have h2 : Pl.canon a = 9221120237041090561 := by simp at h1; omega
    have e : Pl.place a = 18446744073709551615 := by unfold Pl.place; rw [if_pos (isNan_of_canon h2)]
    rw [e]; rfl
  · have h1 : ((Pl.canon a : Int) == 9221120237041090561) = false := by assumption
    have h3 : ((Pl.canon a : Int) / 9223372036854775808 == 1) = true := by assumption
    have h2 : ¬ Pl.canon a = 9221120237041090561 := by simp at h1; omega
    have h4 : 9223372036854775808 ≤ Pl.canon a := by simp at h3; omega
    have hn : ¬ Pl.isNan a = true := fun h => h2 (Pl.canon_nan h)
    have e : Pl.place a = 18446744073709551615 - Pl.canon a := by unfold Pl.place Pl.rank; rw [if_neg hn, if_pos h4]
    rw [e, ← Pl.xor_max hc]; rfl
  · have h1 : ((Pl.canon a : Int) == 9221120237041090561) = false := by assumption
    have h3 : ((Pl.canon a : Int) / 9223372036854775808 == 1) = false := by assumption
    have h2 : ¬ Pl.canon a = 9221120237041090561 := by simp at h1; omega
    have h4 : ¬ 9223372036854775808 ≤ Pl.canon a := by have := hc; unfold Pl.Fits at this; simp at h3; omega
    have hn : ¬ Pl.isNan a = true := fun h => h2 (Pl.canon_nan h)
    have e : Pl.place a = Pl.canon a + 9223372036854775808 := by unfold Pl.place Pl.rank; rw [if_neg hn, if_neg h4]
    rw [e, ← Pl.or_sign (by omega)]; rfl

theorem refOrder_w (a b : Nat) (ha : Pl.Fits a) (hb : Pl.Fits b) (w : World) :
    Calls Tryz.prog 169 #[.float .f64 a, .float .f64 b] w fun e w' => e = .returned (.int .i64 (Pl.ord a b)) ∧ w = w' := by
  rw [← Pl.cmp_place ha hb]
  go_enter Tryz.func169, Tryz.ntmps169
  go_wp2_with (go_at_call 177; refine (refPlace_w _ (by assumption) _).mono ?_; rintro _ _ ⟨rfl, rfl⟩)
  all_goals (go_ret; refine ⟨?_, rfl⟩)
  all_goals rcases Pl.cmp_cases (Pl.place a) (Pl.place b) with ⟨h, e, _⟩ | ⟨h, e, _⟩ | ⟨h, e, _⟩
  all_goals first | (rw [e]; rfl) | (exfalso; omega)

end Go.Proofs.YtcamhlnkcoicpaaGreat
/-
  What each function on floats that the layers above call does: one text to import.
-/
/-
  One operation of a drawn region that only reads, in few words.
-/
namespace Go.Proofs.YtcamhlnkcoicpaaGreat
open Go.RowKit

theorem sp1 {α : Type} {l : List α} {i : Nat} {a : α} : l.toArray.setIfInBounds i a = (l.set i a).toArray := List.setIfInBounds_toArray ..
theorem sp2 {α : Type} {x : α} {xs : List α} {a : α} : (x :: xs).set 0 a = a :: xs := List.set_cons_zero
theorem sp3 {α : Type} {x : α} {xs : List α} {i : Nat} {a : α} : (x :: xs).set (i + 1) a = x :: xs.set i a := List.set_cons_succ
theorem wpT {P : Program} {ops : Array Oper} {Q : Exit → Act → World → Prop} {md : Region.Mode} {S : World → Prop} (i : Nat) (oi : Oper) {v : Value} {fuel : Nat} {listed : Array Bool} {a a2 : Act} {w : World}
    (h : wpAnyH P md ops Q S fuel (listed.setIfInBounds i true) a2 w) (hi : ops[i]? = some oi := by rfl) (hs : Region.noSelect ops = true := by kernel_rfl) (hf : Region.free md ops listed i = true := by kernel_rfl) (hr : (Region.ready md ops listed).contains i = true := by kernel_rfl)
    (hQ : ∀ c a w, Q (.panic c) (a.put oi.dst v) w → Q (.panic c) a w := by exact fun _ _ _ h => h) (hw : Region.wanted oi (yielded ops a.tmps) = true := by rfl)
    (hy : ∀ w, S w → (execOp a.eval oi).run P w = .ok (.value v) w := by (intro w hSw; (try dsimp only at hSw); go_simp; try (with_reducible rfl))) (ha : a.put oi.dst v = a2 := by (first | (simp only [Act.put, sp1, sp2, sp3]; done) | (simp only [Act.put, sp1, sp2, sp3]; exact rfl) | exact rfl)) (hS : S w := by assumption) : wpAnyH P md ops Q S (fuel + 1) listed a w :=
  wpAnyH_take hi hs hf hr hQ (.inl ⟨hw, hy⟩) hS (ha ▸ h)
theorem wpU {P : Program} {ops : Array Oper} {Q : Exit → Act → World → Prop} {md : Region.Mode} {S : World → Prop} (i : Nat) (oi : Oper) {fuel : Nat} {listed : Array Bool} {a a2 : Act} {w : World}
    (h : wpAnyH P md ops Q S fuel (listed.setIfInBounds i true) a2 w) (hi : ops[i]? = some oi := by rfl) (hs : Region.noSelect ops = true := by kernel_rfl) (hf : Region.free md ops listed i = true := by kernel_rfl) (hr : (Region.ready md ops listed).contains i = true := by kernel_rfl)
    (hQ : ∀ c a w, Q (.panic c) (a.put oi.dst undef) w → Q (.panic c) a w := by exact fun _ _ _ h => h) (hw : Region.wanted oi (yielded ops a.tmps) = false := by rfl)
    (ha : a.put oi.dst undef = a2 := by (first | (simp only [Act.put, sp1, sp2, sp3]; done) | (simp only [Act.put, sp1, sp2, sp3]; exact rfl) | exact rfl)) (hS : S w := by assumption) : wpAnyH P md ops Q S (fuel + 1) listed a w :=
  wpAnyH_take hi hs hf hr hQ (.inr ⟨hw, rfl⟩) hS (ha ▸ h)
theorem wpR {P : Program} {ops : Array Oper} {Q : Exit → Act → World → Prop} {md : Region.Mode} {S : World → Prop} (i : Nat) (o : Oper) {fuel : Nat} {listed : Array Bool} {a : Act} {w : World}
    (h : ∀ K : Act → World → Prop, Shut (∀ a w, S w → (S w → wpAnyH P md ops Q S fuel (listed.setIfInBounds i true) a w) → K a w) → if Region.wanted o (yielded ops a.tmps) = true then Oper.wp P o a w K Q else K (a.put o.dst undef) w)
    (hr : Region.ready md ops listed = [i] := by kernel_rfl) (ho : ops[i]? = some o := by rfl) : wpAnyH P md ops Q S (fuel + 1) listed a w :=
  wpAnyH_ready hr (by simp) (AllReadyH.cons ho h AllReadyH.nil)
end Go.Proofs.YtcamhlnkcoicpaaGreat
