/-
  What the document's own answer (the reference of layer 1) does: for every word of 64 bits it returns what package num's functions are proved to return, and leaves memory as it was.
-/
import Derived.Test.YtpofalalfemkhaaFloat
import Derived.Test.YtpofalalfemkhaaPlain3
namespace Go.Proofs.Ytpofalalfemkhaa
open Go.RowKit

namespace Pl
/-- A word's place in the document's order. -/
def place (a : Nat) : Nat := if isNan a then 18446744073709551615 else rank a

theorem rank_num_lt {a : Nat} (ha : Fits a) (hn : isNan a = false) : rank a ≤ 18442240474082181120 := by
  have hr := not_nan hn
  unfold rank
  rw [canon_num hn]
  unfold rg Fits at *
  split <;> omega

theorem cmp_place {a b : Nat} (ha : Fits a) (hb : Fits b) : cmp (place a) (place b) = ord a b := by
  unfold place ord
  cases na : isNan a <;> cases nb : isNan b
  · rfl
  · have h1 := rank_num_lt ha na
    have h2 : rank b = 18444492273895866369 := by unfold rank; rw [canon_nan nb]; rfl
    simp only [Bool.false_eq_true, if_false, if_true]
    unfold cmp
    rw [if_pos (by omega), if_pos (by omega)]
  · have h1 := rank_num_lt hb nb
    have h2 : rank a = 18444492273895866369 := by unfold rank; rw [canon_nan na]; rfl
    simp only [Bool.false_eq_true, if_false, if_true]
    unfold cmp
    rw [if_neg (by omega), if_pos (by omega), if_neg (by omega), if_pos (by omega)]
  · have h1 : rank a = 18444492273895866369 := by unfold rank; rw [canon_nan na]; rfl
    have h2 : rank b = 18444492273895866369 := by unfold rank; rw [canon_nan nb]; rfl
    rw [h1, h2]
    rfl

theorem exp_test {a : Nat} (h : Fits a) : (bits .and .u64 (a : Int) 9218868437227405312 == 9218868437227405312) = decide (9218868437227405312 ≤ rg a) := by
  rw [and_exp64 h]
  rw [Bool.eq_iff_iff]
  simp only [beq_iff_eq, decide_eq_true_eq]
  unfold rg Fits at *
  omega

theorem frac_test {a : Nat} (h : Fits a) : (bits .and .u64 (a : Int) 4503599627370495 != 0) = decide (rg a % 4503599627370496 ≠ 0) := by
  rw [and_frac64 h]
  rw [Bool.eq_iff_iff]
  simp only [bne_iff_ne, decide_eq_true_eq]
  unfold rg Fits at *
  omega

/-- The document's test of what is no number. -/
theorem nan_ways {a : Nat} (h : Fits a) :
    (canon a = 9221120237041090561 ∧ (bits .and .u64 (a : Int) 9218868437227405312 == 9218868437227405312) = true ∧ (bits .and .u64 (a : Int) 4503599627370495 != 0) = true)
    ∨ (canon a = a ∧ (bits .and .u64 (a : Int) 9218868437227405312 == 9218868437227405312) = true ∧ (bits .and .u64 (a : Int) 4503599627370495 != 0) = false)
    ∨ (canon a = a ∧ (bits .and .u64 (a : Int) 9218868437227405312 == 9218868437227405312) = false) := by
  rw [exp_test h, frac_test h]
  have hm : rg a < 9223372036854775808 := Nat.mod_lt _ (by decide)
  cases hn : isNan a
  · have hr := not_nan hn
    rw [canon_num hn]
    by_cases he : 9218868437227405312 ≤ rg a
    · right; left
      have : rg a = 9218868437227405312 := by omega
      rw [this]
      exact ⟨rfl, by decide, by decide⟩
    · right; right
      exact ⟨rfl, decide_eq_false he⟩
  · left
    have hi := (isNan_iff a).1 hn
    exact ⟨canon_nan hn, decide_eq_true (by omega), decide_eq_true (by omega)⟩

theorem shift_top {a : Nat} : ((a : Int) / 9223372036854775808 == 1) = decide (a / 9223372036854775808 = 1) := by
  rw [Bool.eq_iff_iff]
  simp only [beq_iff_eq, decide_eq_true_eq]
  omega
end Pl

theorem refBits_w (a : Nat) (ha : Pl.Fits a) (w : World) :
    Calls Try.prog 95 #[.float .f64 a] w fun e w' => e = .returned (.int .u64 (Pl.canon a)) ∧ w = w' := by
  rcases Pl.nan_ways ha with ⟨e, t1, t2⟩ | ⟨e, t1, t2⟩ | ⟨e, t1⟩
  all_goals rw [e]
  all_goals clear e
  all_goals go_enter Try.func95, Try.ntmps95
  all_goals go_wp2
  all_goals (go_ret; exact ⟨rfl, rfl⟩)

theorem refFrom_w (a : Nat) (ha : Pl.Fits a) (w : World) :
    Calls Try.prog 94 #[.int .u64 a] w fun e w' => e = .returned (.float .f64 (Pl.canon a)) ∧ w = w' := by
  go_enter Try.func94, Try.ntmps94
  go_wp2_with (go_at_call 95; refine (refBits_w _ (by assumption) _).mono ?_; rintro _ _ ⟨rfl, rfl⟩)
  go_ret
  exact ⟨rfl, rfl⟩

theorem isNan_of_canon {a : Nat} (h : Pl.canon a = 9221120237041090561) : Pl.isNan a = true := by
  have := Pl.isNan_canon a
  rw [h] at this
  rw [← this]; decide

theorem refPlace_w (a : Nat) (ha : Pl.Fits a) (w : World) :
    Calls Try.prog 109 #[.float .f64 a] w fun e w' => e = .returned (.int .u64 (Pl.place a)) ∧ w = w' := by
  have hc := Pl.fits_canon ha
  go_enter Try.func109, Try.ntmps109
  go_wp2_with (go_at_call 95; refine (refBits_w _ (by assumption) _).mono ?_; rintro _ _ ⟨rfl, rfl⟩)
  all_goals (go_ret; refine ⟨?_, rfl⟩)
  · have h1 : ((Pl.canon a : Int) == 9221120237041090561) = true := by assumption
    have h2 : Pl.canon a = 9221120237041090561 := by simp at h1; omega
    have e : Pl.place a = 18446744073709551615 := by unfold Pl.place; rw [if_pos (isNan_of_canon h2)]
    rw [e]; rfl
  · have h1 : ((Pl.canon a : Int) == 9221120237041090561) = false := by assumption
    have h3 : ((Pl.canon a : Int) / 9223372036854775808 == 1) = true := by assumption
    have h2 : ¬ Pl.canon a = 9221120237041090561 := by simp at h1; omega
    have h4 : 9223372036854775808 ≤ Pl.canon a := by simp at h3; omega
    have hn : ¬ Pl.isNan a = true := fun h => h2 (Pl.canon_nan h)
    have e : Pl.place a = 18446744073709551615 - Pl.canon a := by unfold Pl.place Pl.rank; rw [if_neg hn, if_pos h4]
    rw [e, ← Pl.xor_max hc]; rfl
  · have h1 : ((Pl.canon a : Int) == 9221120237041090561) = false := by assumption
    have h3 : ((Pl.canon a : Int) / 9223372036854775808 == 1) = false := by assumption
    have h2 : ¬ Pl.canon a = 9221120237041090561 := by simp at h1; omega
    have h4 : ¬ 9223372036854775808 ≤ Pl.canon a := by have := hc; unfold Pl.Fits at this; simp at h3; omega
    have hn : ¬ Pl.isNan a = true := fun h => h2 (Pl.canon_nan h)
    have e : Pl.place a = Pl.canon a + 9223372036854775808 := by unfold Pl.place Pl.rank; rw [if_neg hn, if_neg h4]
    rw [e, ← Pl.or_sign (by omega)]; rfl

theorem refOrder_w (a b : Nat) (ha : Pl.Fits a) (hb : Pl.Fits b) (w : World) :
    Calls Try.prog 93 #[.float .f64 a, .float .f64 b] w fun e w' => e = .returned (.int .i64 (Pl.ord a b)) ∧ w = w' := by
  rw [← Pl.cmp_place ha hb]
  go_enter Try.func93, Try.ntmps93
  go_wp2_with (go_at_call 109; refine (refPlace_w _ (by assumption) _).mono ?_; rintro _ _ ⟨rfl, rfl⟩)
  all_goals (go_ret; refine ⟨?_, rfl⟩)
  all_goals rcases Pl.cmp_cases (Pl.place a) (Pl.place b) with ⟨h, e, _⟩ | ⟨h, e, _⟩ | ⟨h, e, _⟩
  all_goals first | (rw [e]; rfl) | (exfalso; omega)

theorem cls_canon (a : Nat) : Pl.cls a = if Pl.canon a = 0 then 2 else if Pl.canon a = 9223372036854775808 then 3 else if Pl.canon a = 9218868437227405312 then 4 else if Pl.canon a = 18442240474082181120 then 5 else if Pl.canon a = 9221120237041090561 then 6 else 1 := by
  cases hn : Pl.isNan a
  · rw [Pl.canon_num hn]
    unfold Pl.cls
    have ho : a ≠ 9221120237041090561 := by intro e; subst e; exact absurd hn (by decide)
    rw [if_neg (by rw [hn]; decide)]
    repeat' split
    all_goals first | rfl | omega
  · rw [Pl.canon_nan hn]
    unfold Pl.cls
    rw [if_pos hn]
    rfl

theorem beq_cast_t {c k : Nat} (h : ((c : Int) == (k : Int)) = true) : c = k := by simp at h; omega
theorem beq_cast_f {c k : Nat} (h : ((c : Int) == (k : Int)) = false) : ¬ c = k := by simp at h; omega

end Go.Proofs.Ytpofalalfemkhaa
