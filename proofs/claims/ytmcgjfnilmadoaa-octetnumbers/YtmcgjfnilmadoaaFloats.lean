/-
  What each function on floats that octet and the document's own answer call does, as plain arithmetic on words: for every word of 64 bits the call returns, and leaves memory as it was.
-/
import Derived.Test.YtmcgjfnilmadoaaRows
import Derived.Test.YtmcgjfnilmadoaaBits
import Derived.WalkKit
import Derived.WalkSpells
import Derived.WalkLawsBesides
import Derived.Deep.Draws
namespace Go.Proofs.Ytmcgjfnilmadoaa
open Go.RowKit

namespace Pl
theorem not_nan {a : Nat} (h : isNan a = false) : rg a ≤ 9218868437227405312 := by
  unfold isNan at h
  have := of_decide_eq_false h
  unfold rg; omega
theorem canon_num {a : Nat} (h : isNan a = false) : canon a = a := by simp [canon, h]
theorem canon_nan {a : Nat} (h : isNan a = true) : canon a = 9221120237041090561 := by simp [canon, h]
theorem isNan_canon (a : Nat) : isNan (canon a) = isNan a := by
  cases h : isNan a
  · rw [canon_num h, h]
  · rw [canon_nan h]; decide
theorem canon_canon (a : Nat) : canon (canon a) = canon a := by
  cases h : isNan a
  · rw [canon_num h, canon_num h]
  · rw [canon_nan h]; decide

theorem exp_test {a : Nat} (h : Fits a) : (bits .and .u64 (a : Int) 9218868437227405312 == 9218868437227405312) = decide (9218868437227405312 ≤ rg a) := by
  rw [and_exp64 h]
  rw [Bool.eq_iff_iff]
  simp only [beq_iff_eq, decide_eq_true_eq]
  unfold rg Fits at *
  omega

theorem frac_test {a : Nat} (h : Fits a) : (bits .and .u64 (a : Int) 4503599627370495 != 0) = decide (rg a % 4503599627370496 ≠ 0) := by
  rw [and_frac64 h]
  rw [Bool.eq_iff_iff]
  simp only [bne_iff_ne, decide_eq_true_eq]
  unfold rg Fits at *
  omega

theorem nan_ways {a : Nat} (h : Fits a) :
    (canon a = 9221120237041090561 ∧ (bits .and .u64 (a : Int) 9218868437227405312 == 9218868437227405312) = true ∧ (bits .and .u64 (a : Int) 4503599627370495 != 0) = true)
    ∨ (canon a = a ∧ (bits .and .u64 (a : Int) 9218868437227405312 == 9218868437227405312) = true ∧ (bits .and .u64 (a : Int) 4503599627370495 != 0) = false)
    ∨ (canon a = a ∧ (bits .and .u64 (a : Int) 9218868437227405312 == 9218868437227405312) = false) := by
  rw [exp_test h, frac_test h]
  have hm : rg a < 9223372036854775808 := Nat.mod_lt _ (by decide)
  cases hn : isNan a
  · have hr := not_nan hn
    rw [canon_num hn]
    by_cases he : 9218868437227405312 ≤ rg a
    · right; left
      have : rg a = 9218868437227405312 := by omega
      rw [this]
      exact ⟨rfl, by decide, by decide⟩
    · right; right
      exact ⟨rfl, decide_eq_false he⟩
  · left
    have hi := (isNan_iff a).1 hn
    exact ⟨canon_nan hn, decide_eq_true (by omega), decide_eq_true (by omega)⟩
end Pl

@[go_sem] theorem run_frombits (n : Int) (w : World) : (callFunc 58 #[.int .u64 n]).run Try.prog w = .ok (.value (.float .f64 n.toNat)) w := by kernel_rfl
@[go_sem] theorem run_tobits (n : Nat) (w : World) : (callFunc 55 #[.float .f64 n]).run Try.prog w = .ok (.value (.int .u64 n)) w := by kernel_rfl

theorem isNaN_w (a : Nat) (w : World) :
    Calls Try.prog 59 #[.float .f64 a] w fun e w' => e = .returned (.bool (Pl.isNan a)) ∧ w = w' := by
  go_enter Try.func59, Try.ntmps59
  go_wp2
  go_ret
  exact ⟨by rw [← Pl.order_self]; rfl, rfl⟩

theorem canon_w (a : Nat) (w : World) :
    Calls Try.prog 57 #[.float .f64 a] w fun e w' => e = .returned (.float .f64 (Pl.canon a)) ∧ w = w' := by
  cases h : Pl.isNan a
  · have e : Pl.canon a = a := by simp [Pl.canon, h]
    rw [e]
    go_enter Try.func57, Try.ntmps57
    go_wp2_with (go_at_call 59; refine (isNaN_w _ _).mono ?_; rintro _ _ ⟨rfl, rfl⟩)
    all_goals (go_ret; exact ⟨rfl, rfl⟩)
  · have e : Pl.canon a = 9221120237041090561 := by simp [Pl.canon, h]
    rw [e]
    clear e
    go_enter Try.func57, Try.ntmps57
    go_wp2_with (go_at_call 59; refine (isNaN_w _ _).mono ?_; rintro _ _ ⟨rfl, rfl⟩)
    all_goals (go_ret; exact ⟨rfl, rfl⟩)

theorem numBits_w (a : Nat) (w : World) :
    Calls Try.prog 50 #[.float .f64 a] w fun e w' => e = .returned (.int .u64 (Pl.canon a)) ∧ w = w' := by
  go_enter Try.func50, Try.ntmps50
  go_wp2_with (go_at_call 57; refine (canon_w _ _).mono ?_; rintro _ _ ⟨rfl, rfl⟩)
  go_ret
  exact ⟨rfl, rfl⟩

theorem numFrom_w (a : Nat) (w : World) :
    Calls Try.prog 49 #[.int .u64 a] w fun e w' => e = .returned (.float .f64 (Pl.canon a)) ∧ w = w' := by
  go_enter Try.func49, Try.ntmps49
  go_wp2_with (go_at_call 57; refine (canon_w _ _).mono ?_; rintro _ _ ⟨rfl, rfl⟩)
  go_ret
  exact ⟨rfl, rfl⟩

theorem refBits_w (a : Nat) (ha : Pl.Fits a) (w : World) :
    Calls Try.prog 35 #[.float .f64 a] w fun e w' => e = .returned (.int .u64 (Pl.canon a)) ∧ w = w' := by
  rcases Pl.nan_ways ha with ⟨e, t1, t2⟩ | ⟨e, t1, t2⟩ | ⟨e, t1⟩
  all_goals rw [e]
  all_goals clear e
  all_goals go_enter Try.func35, Try.ntmps35
  all_goals go_wp2
  all_goals (go_ret; exact ⟨rfl, rfl⟩)

theorem refFrom_w (a : Nat) (ha : Pl.Fits a) (w : World) :
    Calls Try.prog 56 #[.int .u64 a] w fun e w' => e = .returned (.float .f64 (Pl.canon a)) ∧ w = w' := by
  go_enter Try.func56, Try.ntmps56
  go_wp2_with (go_at_call 35; refine (refBits_w _ (by assumption) _).mono ?_; rintro _ _ ⟨rfl, rfl⟩)
  go_ret
  exact ⟨rfl, rfl⟩

theorem refSame_w (a b : Nat) (ha : Pl.Fits a) (hb : Pl.Fits b) (w : World) :
    Calls Try.prog 20 #[.float .f64 a, .float .f64 b] w fun e w' => e = .returned (.bool ((Pl.canon a : Int) == (Pl.canon b : Int))) ∧ w = w' := by
  go_enter Try.func20, Try.ntmps20
  go_wp2_with (go_at_call 35; refine (refBits_w _ (by assumption) _).mono ?_; rintro _ _ ⟨rfl, rfl⟩)
  go_ret
  exact ⟨rfl, rfl⟩

end Go.Proofs.Ytmcgjfnilmadoaa
