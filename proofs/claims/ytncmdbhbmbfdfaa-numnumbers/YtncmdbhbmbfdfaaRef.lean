/-
  What the document's own answer (the reference of layer 1) does: for every word of 64 bits it returns what package num's functions are proved to return, and leaves memory as it was.
-/
import Derived.Test.YtncmdbhbmbfdfaaLists
namespace Go.Proofs.Ytncmdbhbmbfdfaa
open Go.RowKit

namespace Pl
/-- A word's place in the document's order. -/
def place (a : Nat) : Nat := if isNan a then 18446744073709551615 else rank a

theorem rank_num_lt {a : Nat} (ha : Fits a) (hn : isNan a = false) : rank a ≤ 18442240474082181120 := by
  have hr := not_nan hn
  unfold rank
  rw [canon_num hn]
  unfold rg Fits at *
  split <;> omega

theorem cmp_place {a b : Nat} (ha : Fits a) (hb : Fits b) : cmp (place a) (place b) = ord a b := by
  unfold place ord
  cases na : isNan a <;> cases nb : isNan b
  · rfl
  · have h1 := rank_num_lt ha na
    have h2 : rank b = 18444492273895866369 := by unfold rank; rw [canon_nan nb]; rfl
    simp only [Bool.false_eq_true, if_false, if_true]
    unfold cmp
    rw [if_pos (by omega), if_pos (by omega)]
  · have h1 := rank_num_lt hb nb
    have h2 : rank a = 18444492273895866369 := by unfold rank; rw [canon_nan na]; rfl
    simp only [Bool.false_eq_true, if_false, if_true]
    unfold cmp
    rw [if_neg (by omega), if_pos (by omega), if_neg (by omega), if_pos (by omega)]
  · have h1 : rank a = 18444492273895866369 := by unfold rank; rw [canon_nan na]; rfl
    have h2 : rank b = 18444492273895866369 := by unfold rank; rw [canon_nan nb]; rfl
    rw [h1, h2]
    rfl

theorem exp_test {a : Nat} (h : Fits a) : (bits .and .u64 (a : Int) 9218868437227405312 == 9218868437227405312) = decide (9218868437227405312 ≤ rg a) := by
  rw [and_exp64 h]
  rw [Bool.eq_iff_iff]
  simp only [beq_iff_eq, decide_eq_true_eq]
  unfold rg Fits at *
  omega

theorem frac_test {a : Nat} (h : Fits a) : (bits .and .u64 (a : Int) 4503599627370495 != 0) = decide (rg a % 4503599627370496 ≠ 0) := by
  rw [and_frac64 h]
  rw [Bool.eq_iff_iff]
  simp only [bne_iff_ne, decide_eq_true_eq]
  unfold rg Fits at *
  omega

/-- The document's test of what is no number. -/
theorem nan_ways {a : Nat} (h : Fits a) :
    (canon a = 9221120237041090561 ∧ (bits .and .u64 (a : Int) 9218868437227405312 == 9218868437227405312) = true ∧ (bits .and .u64 (a : Int) 4503599627370495 != 0) = true)
    ∨ (canon a = a ∧ (bits .and .u64 (a : Int) 9218868437227405312 == 9218868437227405312) = true ∧ (bits .and .u64 (a : Int) 4503599627370495 != 0) = false)
    ∨ (canon a = a ∧ (bits .and .u64 (a : Int) 9218868437227405312 == 9218868437227405312) = false) := by
  rw [exp_test h, frac_test h]
  have hm : rg a < 9223372036854775808 := Nat.mod_lt _ (by decide)
  cases hn : isNan a
  · have hr := not_nan hn
    rw [canon_num hn]
    by_cases he : 9218868437227405312 ≤ rg a
    · right; left
      have : rg a = 9218868437227405312 := by omega
      rw [this]
      exact ⟨rfl, by decide, by decide⟩
    · right; right
      exact ⟨rfl, decide_eq_false he⟩
  · left
    have hi := (isNan_iff a).1 hn
    exact ⟨canon_nan hn, decide_eq_true (by omega), decide_eq_true (by omega)⟩

theorem shift_top {a : Nat} : ((a : Int) / 9223372036854775808 == 1) = decide (a / 9223372036854775808 = 1) := by
  rw [Bool.eq_iff_iff]
  simp only [beq_iff_eq, decide_eq_true_eq]
  omega
end Pl

theorem refBits_w (a : Nat) (ha : Pl.Fits a) (w : World) :
    Calls Try.prog 33 #[.float .f64 a] w fun e w' => e = .returned (.int .u64 (Pl.canon a)) ∧ w = w' := by
  rcases Pl.nan_ways ha with ⟨e, t1, t2⟩ | ⟨e, t1, t2⟩ | ⟨e, t1⟩
  all_goals rw [e]
  all_goals clear e
  all_goals go_enter Try.func33, Try.ntmps33
  all_goals go_wp2
  all_goals (go_ret; exact ⟨rfl, rfl⟩)

theorem refFrom_w (a : Nat) (ha : Pl.Fits a) (w : World) :
    Calls Try.prog 17 #[.int .u64 a] w fun e w' => e = .returned (.float .f64 (Pl.canon a)) ∧ w = w' := by
  go_enter Try.func17, Try.ntmps17
  go_wp2_with (go_at_call 33; refine (refBits_w _ (by assumption) _).mono ?_; rintro _ _ ⟨rfl, rfl⟩)
  go_ret
  exact ⟨rfl, rfl⟩

theorem isNan_of_canon {a : Nat} (h : Pl.canon a = 9221120237041090561) : Pl.isNan a = true := by
  have := Pl.isNan_canon a
  rw [h] at this
  rw [← this]; decide

theorem refPlace_w (a : Nat) (ha : Pl.Fits a) (w : World) :
    Calls Try.prog 44 #[.float .f64 a] w fun e w' => e = .returned (.int .u64 (Pl.place a)) ∧ w = w' := by
  have hc := Pl.fits_canon ha
  go_enter Try.func44, Try.ntmps44
  go_wp2_with (go_at_call 33; refine (refBits_w _ (by assumption) _).mono ?_; rintro _ _ ⟨rfl, rfl⟩)
  all_goals (go_ret; refine ⟨?_, rfl⟩)
  · have h1 : ((Pl.canon a : Int) == 9221120237041090561) = true := by assumption
    have h2 : Pl.canon a = 9221120237041090561 := by simp at h1; omega
    have e : Pl.place a = 18446744073709551615 := by unfold Pl.place; rw [if_pos (isNan_of_canon h2)]
    rw [e]; rfl
  · have h1 : ((Pl.canon a : Int) == 9221120237041090561) = false := by assumption
    have h3 : ((Pl.canon a : Int) / 9223372036854775808 == 1) = true := by assumption
    have h2 : ¬ Pl.canon a = 9221120237041090561 := by simp at h1; omega
    have h4 : 9223372036854775808 ≤ Pl.canon a := by simp at h3; omega
    have hn : ¬ Pl.isNan a = true := fun h => h2 (Pl.canon_nan h)
    have e : Pl.place a = 18446744073709551615 - Pl.canon a := by unfold Pl.place Pl.rank; rw [if_neg hn, if_pos h4]
    rw [e, ← Pl.xor_max hc]; rfl
  · have h1 : ((Pl.canon a : Int) == 9221120237041090561) = false := by assumption
    have h3 : ((Pl.canon a : Int) / 9223372036854775808 == 1) = false := by assumption
    have h2 : ¬ Pl.canon a = 9221120237041090561 := by simp at h1; omega
    have h4 : ¬ 9223372036854775808 ≤ Pl.canon a := by have := hc; unfold Pl.Fits at this; simp at h3; omega
    have hn : ¬ Pl.isNan a = true := fun h => h2 (Pl.canon_nan h)
    have e : Pl.place a = Pl.canon a + 9223372036854775808 := by unfold Pl.place Pl.rank; rw [if_neg hn, if_neg h4]
    rw [e, ← Pl.or_sign (by omega)]; rfl

theorem refOrder_w (a b : Nat) (ha : Pl.Fits a) (hb : Pl.Fits b) (w : World) :
    Calls Try.prog 30 #[.float .f64 a, .float .f64 b] w fun e w' => e = .returned (.int .i64 (Pl.ord a b)) ∧ w = w' := by
  rw [← Pl.cmp_place ha hb]
  go_enter Try.func30, Try.ntmps30
  go_wp2_with (go_at_call 44; refine (refPlace_w _ (by assumption) _).mono ?_; rintro _ _ ⟨rfl, rfl⟩)
  all_goals (go_ret; refine ⟨?_, rfl⟩)
  all_goals rcases Pl.cmp_cases (Pl.place a) (Pl.place b) with ⟨h, e, _⟩ | ⟨h, e, _⟩ | ⟨h, e, _⟩
  all_goals first | (rw [e]; rfl) | (exfalso; omega)

theorem refSame_w (a b : Nat) (ha : Pl.Fits a) (hb : Pl.Fits b) (w : World) :
    Calls Try.prog 31 #[.float .f64 a, .float .f64 b] w fun e w' => e = .returned (.bool (Pl.ord a b == 0)) ∧ w = w' := by
  have hz : (Pl.ord a b == 0) = ((Pl.canon a : Int) == (Pl.canon b : Int)) := by
    rw [Pl.ord_zero ha hb, Bool.eq_iff_iff]; simp; omega
  rw [hz]
  clear hz
  go_enter Try.func31, Try.ntmps31
  go_wp2_with (go_at_call 33; refine (refBits_w _ (by assumption) _).mono ?_; rintro _ _ ⟨rfl, rfl⟩)
  go_ret
  exact ⟨rfl, rfl⟩

theorem refSum_w (a b : Nat) (w : World) :
    Calls Try.prog 32 #[.float .f64 a, .float .f64 b] w fun e w' => e = .returned (.float .f64 (Pl.sum a b)) ∧ Still w w' := by
  cases h : Ieee.double.add a b with
  | none =>
    obtain ⟨r, hr, hfit, hrun⟩ := run_add_none a b h w
    have e : Pl.sum a b = Pl.canon r := by simp [Pl.sum, Pl.canon, h, hr]
    rw [e]
    clear e h hr
    go_enter Try.func32, Try.ntmps32
    go_wp2_with (go_at_call 17; refine (refFrom_w _ (by assumption) _).mono ?_; rintro _ _ ⟨rfl, rfl⟩)
    go_ret
    exact ⟨rfl, Still.drew _⟩
  | some r =>
    have hrun := run_float_arith (P := Try.prog) w .add 25 .f64 a b r h
    have hfit : Pl.Fits r := Ieee.Format.add_lt _ h
    have e : Pl.sum a b = Pl.canon r := by simp [Pl.sum, h]
    rw [e]
    clear e h
    go_enter Try.func32, Try.ntmps32
    go_wp2_with (go_at_call 17; refine (refFrom_w _ (by assumption) _).mono ?_; rintro _ _ ⟨rfl, rfl⟩)
    go_ret
    exact ⟨rfl, Still.refl _⟩

theorem cls_canon (a : Nat) : Pl.cls a = if Pl.canon a = 0 then 2 else if Pl.canon a = 9223372036854775808 then 3 else if Pl.canon a = 9218868437227405312 then 4 else if Pl.canon a = 18442240474082181120 then 5 else if Pl.canon a = 9221120237041090561 then 6 else 1 := by
  cases hn : Pl.isNan a
  · rw [Pl.canon_num hn]
    unfold Pl.cls
    have ho : a ≠ 9221120237041090561 := by intro e; subst e; exact absurd hn (by decide)
    rw [if_neg (by rw [hn]; decide)]
    repeat' split
    all_goals first | rfl | omega
  · rw [Pl.canon_nan hn]
    unfold Pl.cls
    rw [if_pos hn]
    rfl

theorem beq_cast_t {c k : Nat} (h : ((c : Int) == (k : Int)) = true) : c = k := by simp at h; omega
theorem beq_cast_f {c k : Nat} (h : ((c : Int) == (k : Int)) = false) : ¬ c = k := by simp at h; omega

theorem refClass_w (a : Nat) (ha : Pl.Fits a) (w : World) :
    Calls Try.prog 34 #[.float .f64 a] w fun e w' => e = .returned (.int .i64 (Pl.cls a)) ∧ w = w' := by
  go_enter Try.func34, Try.ntmps34
  go_wp2_with (go_at_call 33; refine (refBits_w _ (by assumption) _).mono ?_; rintro _ _ ⟨rfl, rfl⟩)
  all_goals (go_ret; refine ⟨?_, rfl⟩; rw [cls_canon])
  · rename_i h1
    rw [if_pos (beq_cast_t (k := 0) h1)]; rfl
  · rename_i h1 h2
    rw [if_neg (beq_cast_f (k := 0) h1), if_pos (beq_cast_t (k := 9223372036854775808) h2)]; rfl
  · rename_i h1 h2 h3
    rw [if_neg (beq_cast_f (k := 0) h1), if_neg (beq_cast_f (k := 9223372036854775808) h2), if_pos (beq_cast_t (k := 9218868437227405312) h3)]; rfl
  · rename_i h1 h2 h3 h4
    rw [if_neg (beq_cast_f (k := 0) h1), if_neg (beq_cast_f (k := 9223372036854775808) h2), if_neg (beq_cast_f (k := 9218868437227405312) h3), if_pos (beq_cast_t (k := 18442240474082181120) h4)]; rfl
  · rename_i h1 h2 h3 h4 h5
    rw [if_neg (beq_cast_f (k := 0) h1), if_neg (beq_cast_f (k := 9223372036854775808) h2), if_neg (beq_cast_f (k := 9218868437227405312) h3), if_neg (beq_cast_f (k := 18442240474082181120) h4), if_pos (beq_cast_t (k := 9221120237041090561) h5)]; rfl
  · rename_i h1 h2 h3 h4 h5
    rw [if_neg (beq_cast_f (k := 0) h1), if_neg (beq_cast_f (k := 9223372036854775808) h2), if_neg (beq_cast_f (k := 9218868437227405312) h3), if_neg (beq_cast_f (k := 18442240474082181120) h4), if_neg (beq_cast_f (k := 9221120237041090561) h5)]; rfl

theorem refTotal_none_w (a : Option Addr) (cap : Nat) (w : World) :
    Calls Try.prog 35 #[.slice a 0 cap] w fun e w' => e = .returned (.float .f64 0) ∧ w = w' := by
  go_enter Try.func35, Try.ntmps35
  go_wp2
  go_ret
  exact ⟨rfl, rfl⟩

theorem refTotal_w (b off len cap : Nat) (zs : List Nat) (w : World) (h1 : 1 ≤ len) (hm : len ≤ 9223372036854775807) (hcell : Floats w b off len zs) (hf : AllFit zs) :
    Calls Try.prog 35 #[.slice (some ⟨b, off, none⟩) len cap] w fun e w' => e = .returned (.float .f64 (tot zs (len - 1))) ∧ Still w w' := by
  have hne : ((len : Int) == 0) = false := by simp; omega
  have c0 : w.cell? ⟨b, off, none⟩ = some (.float .f64 (nth zs 0)) := by simpa using hcell 0 (by omega)
  have hpos : (0 : Int) < (len : Int) := by omega
  have f0 := hf 0
  go_enter Try.func35, Try.ntmps35
  go_wp2_with (first | (go_at_call 17; refine (refFrom_w _ (by assumption) _).mono ?_; rintro _ _ ⟨rfl, rfl⟩) | go_in)
  go_loopw [3, 4] (fun t i wr => ∃ k : Nat, k ≤ len - 1 ∧ t = .float .f64 (tot zs k) ∧ i = .int .i64 ((k + 1 : Nat) : Int) ∧ Still w wr) (fun _ i _ => len - (intOf i).toNat)
  case atStart => exact ⟨0, Nat.zero_le _, rfl, rfl, Still.refl _⟩
  case round =>
    obtain ⟨k, hk, rfl, rfl, hst⟩ := hrel
    have hck : (k : Int) + 1 < (len : Int) → wr.cell? ⟨b, off + (k + 1), none⟩ = some (.float .f64 (nth zs (k + 1))) := fun h => by
      have := hcell (k + 1) (by omega)
      rw [hst.cell]; exact this
    clear hcell c0 f0
    go_wp2_with (first | (go_at_call 32; refine (refSum_w _ _ _).mono ?_; rintro _ _ ⟨rfl, hs⟩) | go_in)
    · exact ⟨⟨k + 1, by omega, rfl, by go_num, hst.trans hs⟩, by simp [intOf]; omega⟩
    · have hk' : k = len - 1 := by omega
      subst hk'
      go_ret
      exact ⟨rfl, hst⟩

theorem two_w (a b : Nat) (ha : Pl.Fits a) (hb : Pl.Fits b) (w : World) :
    Calls Try.prog 10 #[.float .f64 a, .float .f64 b] w fun e w' => e = .returned (.bool true) ∧ Still w w' := by
  go_enter Try.func10, Try.ntmps10
  go_wp2_with (first
    | (go_at_call 18; refine (order_w _ _ (by assumption) (by assumption) _).mono ?_; rintro _ _ ⟨rfl, rfl⟩)
    | (go_at_call 30; refine (refOrder_w _ _ (by assumption) (by assumption) _).mono ?_; rintro _ _ ⟨rfl, rfl⟩)
    | (go_at_call 20; refine (same_w _ _ (by assumption) (by assumption) _).mono ?_; rintro _ _ ⟨rfl, rfl⟩)
    | (go_at_call 31; refine (refSame_w _ _ (by assumption) (by assumption) _).mono ?_; rintro _ _ ⟨rfl, rfl⟩)
    | (go_at_call 23; refine (sum_w _ _ _).mono ?_; rintro _ _ ⟨rfl, hs⟩)
    | (go_at_call 32; refine (refSum_w _ _ _).mono ?_; rintro _ _ ⟨rfl, hs⟩)
    | (go_at_call 15; refine (bits_w _ _).mono ?_; rintro _ _ ⟨rfl, rfl⟩)
    | (go_at_call 19; refine (numBits_w _ _).mono ?_; rintro _ _ ⟨rfl, rfl⟩)
    | (go_at_call 33; refine (refBits_w _ (by assumption) _).mono ?_; rintro _ _ ⟨rfl, rfl⟩)
    | (go_at_call 21; refine (canon_w _ _).mono ?_; rintro _ _ ⟨rfl, rfl⟩)
    | (go_at_call 16; refine (numFrom_w _ _).mono ?_; rintro _ _ ⟨rfl, rfl⟩)
    | (go_at_call 25; refine (cls_w _ (by assumption) _).mono ?_; rintro _ _ ⟨rfl, rfl⟩)
    | (go_at_call 34; refine (refClass_w _ (by assumption) _).mono ?_; rintro _ _ ⟨rfl, rfl⟩))
  all_goals (go_ret; exact ⟨rfl, by repeat (first | assumption | exact Still.refl _ | refine Still.trans ?_ (by assumption))⟩)
end Go.Proofs.Ytncmdbhbmbfdfaa
