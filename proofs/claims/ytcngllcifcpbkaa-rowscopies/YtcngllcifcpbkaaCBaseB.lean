/-
  Calls, Calls2, Float, Ref, Floats, WpT: our texts of these names, laid into one.
-/
import Derived.Test.YtcngllcifcpbkaaRows
import Derived.Test.YtcngllcifcpbkaaCBaseA
import Derived.WalkKit
import Derived.WalkSpells
import Derived.WalkLawsBesides
import Derived.Deep.Draws
import Derived.OrdersHeld
/-
  What each function of package num that takes floats alone does, as plain arithmetic on words: for every word of 64 bits the call returns, and leaves memory as it was.
-/
namespace Go.Proofs.Ytcngllcifcpbkaa
open Go.RowKit

@[go_sem] theorem run_frombits (n : Int) (w : World) : (callFunc 78 #[.int .u64 n]).run Try.prog w = .ok (.value (.float .f64 n.toNat)) w := by kernel_rfl
@[go_sem] theorem run_tobits (n : Nat) (w : World) : (callFunc 79 #[.float .f64 n]).run Try.prog w = .ok (.value (.int .u64 n)) w := by kernel_rfl
@[go_sem] theorem run_negfloat (n : Nat) (w : World) : (Op.unary .neg (.float .f64 n)).run Try.prog w = .ok (.float .f64 (n ^^^ 9223372036854775808)) w := rfl

/-- The world is as it was, but for how many answers the tape has given. -/
def Still (w w' : World) : Prop := ∃ m, w' = w.drewN m
theorem Still.refl (w : World) : Still w w := ⟨0, rfl⟩
theorem Still.trans {a b c : World} (h : Still a b) (k : Still b c) : Still a c := by
  obtain ⟨n, rfl⟩ := h; obtain ⟨m, rfl⟩ := k; exact ⟨n + m, World.drewN_drewN _ _ _⟩
theorem Still.drew (w : World) : Still w w.drew := ⟨1, rfl⟩
theorem Still.grown {w w' : World} (h : Still w w') : Grown w w' := by
  obtain ⟨n, rfl⟩ := h
  have k := World.keptBut_refl w (fun _ => False)
  exact ⟨k, fun _ => rfl, Nat.le_refl _⟩
theorem Still.cell {w w' : World} (h : Still w w') (a : Addr) : w'.cell? a = w.cell? a := by
  obtain ⟨n, rfl⟩ := h; rfl

theorem isNaN_w (a : Nat) (w : World) :
    Calls Try.prog 88 #[.float .f64 a] w fun e w' => e = .returned (.bool (Pl.isNan a)) ∧ w = w' := by
  go_enter Try.func88, Try.ntmps88
  go_wp2
  go_ret
  exact ⟨by rw [← Pl.order_self]; rfl, rfl⟩

theorem canon_w (a : Nat) (w : World) :
    Calls Try.prog 75 #[.float .f64 a] w fun e w' => e = .returned (.float .f64 (Pl.canon a)) ∧ w = w' := by
  cases h : Pl.isNan a
  · have e : Pl.canon a = a := by simp [Pl.canon, h]
    rw [e]
    go_enter Try.func75, Try.ntmps75
    go_wp2_with (go_at_call 88; refine (isNaN_w _ _).mono ?_; rintro _ _ ⟨rfl, rfl⟩)
    all_goals (go_ret; exact ⟨rfl, rfl⟩)
  · have e : Pl.canon a = 9221120237041090561 := by simp [Pl.canon, h]
    rw [e]
    clear e
    go_enter Try.func75, Try.ntmps75
    go_wp2_with (go_at_call 88; refine (isNaN_w _ _).mono ?_; rintro _ _ ⟨rfl, rfl⟩)
    all_goals (go_ret; exact ⟨rfl, rfl⟩)

theorem numBits_w (a : Nat) (w : World) :
    Calls Try.prog 102 #[.float .f64 a] w fun e w' => e = .returned (.int .u64 (Pl.canon a)) ∧ w = w' := by
  go_enter Try.func102, Try.ntmps102
  go_wp2_with (go_at_call 75; refine (canon_w _ _).mono ?_; rintro _ _ ⟨rfl, rfl⟩)
  go_ret
  exact ⟨rfl, rfl⟩

theorem rank_w (a : Nat) (ha : Pl.Fits a) (w : World) :
    Calls Try.prog 100 #[.float .f64 a] w fun e w' => e = .returned (.int .u64 (Pl.rank a)) ∧ w = w' := by
  have hc := Pl.fits_canon ha
  have e1 := Pl.and_sign hc
  have e2 := Pl.xor_max hc
  by_cases h : 9223372036854775808 ≤ Pl.canon a
  · have e3 : (bits BinOp.and IntKind.u64 (↑(Pl.canon a)) 9223372036854775808 != 0) = true := by rw [e1, if_pos h]; rfl
    have e4 : Pl.rank a = 18446744073709551615 - Pl.canon a := by simp only [Pl.rank, if_pos h]
    rw [e4, ← e2]
    clear e1 e2 e4 h
    go_enter Try.func100, Try.ntmps100
    go_wp2_with (go_at_call 102; refine (numBits_w _ _).mono ?_; rintro _ _ ⟨rfl, rfl⟩)
    go_ret
    exact ⟨rfl, rfl⟩
  · have e3 : (bits BinOp.and IntKind.u64 (↑(Pl.canon a)) 9223372036854775808 != 0) = false := by rw [e1, if_neg h]; rfl
    have e4 : Pl.rank a = Pl.canon a + 9223372036854775808 := by simp only [Pl.rank, if_neg h]
    rw [e4, ← Pl.or_sign (by omega)]
    clear e1 e2 e4 h
    go_enter Try.func100, Try.ntmps100
    go_wp2_with (go_at_call 102; refine (numBits_w _ _).mono ?_; rintro _ _ ⟨rfl, rfl⟩)
    go_ret
    exact ⟨rfl, rfl⟩

theorem compare_w (x y : Nat) (w : World) :
    Calls Try.prog 99 #[.int .u64 x, .int .u64 y] w fun e w' => e = .returned (.int .i64 (Pl.cmp x y)) ∧ w = w' := by
  unfold Pl.cmp
  by_cases h1 : x < y
  · rw [if_pos h1]
    go_enter Try.func99, Try.ntmps99
    go_wp2
    all_goals (go_ret; exact ⟨rfl, rfl⟩)
  · rw [if_neg h1]
    by_cases h2 : y < x
    · rw [if_pos h2]
      go_enter Try.func99, Try.ntmps99
      go_wp2
      all_goals (go_ret; exact ⟨rfl, rfl⟩)
    · rw [if_neg h2]
      go_enter Try.func99, Try.ntmps99
      go_wp2
      all_goals (go_ret; exact ⟨rfl, rfl⟩)

theorem order_w (a b : Nat) (ha : Pl.Fits a) (hb : Pl.Fits b) (w : World) :
    Calls Try.prog 96 #[.float .f64 a, .float .f64 b] w fun e w' => e = .returned (.int .i64 (Pl.ord a b)) ∧ w = w' := by
  go_enter Try.func96, Try.ntmps96
  go_wp2_with (first | (go_at_call 100; refine (rank_w _ (by assumption) _).mono ?_; rintro _ _ ⟨rfl, rfl⟩) | (go_at_call 99; refine (compare_w _ _ _).mono ?_; rintro _ _ ⟨rfl, rfl⟩))
  go_ret
  exact ⟨rfl, rfl⟩

theorem run_add_none (x y : Nat) (h : Ieee.double.add x y = none) (w : World) :
    ∃ r, Pl.isNan r = true ∧ Pl.Fits r ∧ (binOp .add 47 (.float .f64 x) (.float .f64 y)).run Try.prog w = .ok (.float .f64 r) w.drew := by
  refine ⟨Question.cut (.nanBits .f64 x y) (w.tape w.drawn (.nanBits .f64 x y)), ?_, ?_, ?_⟩
  · generalize w.tape w.drawn (.nanBits .f64 x y) = t
    rw [Pl.isNan_iff]
    show 9218868437227405312 < ((t % 2) * 2 ^ 63 + 0x7ff0000000000000 + 1 + (t / 2) % (2 ^ 52 - 1)) % 9223372036854775808
    have hu : (t / 2) % (2 ^ 52 - 1) < 2 ^ 52 - 1 := Nat.mod_lt _ (by decide)
    generalize (t / 2) % (2 ^ 52 - 1) = u at hu
    rcases Nat.mod_two_eq_zero_or_one t with h0 | h0 <;> rw [h0] <;> omega
  · generalize w.tape w.drawn (.nanBits .f64 x y) = t
    show ((t % 2) * 2 ^ 63 + 0x7ff0000000000000 + 1 + (t / 2) % (2 ^ 52 - 1)) < 18446744073709551616
    omega
  · have h' : FloatKind.f64.format.add x y = none := h
    simp [binOp, Op.floatArith, h', Question.forced]

end Go.Proofs.Ytcngllcifcpbkaa
/-
  What Class, math's constants, the law's own 'known' and the drawn float do: for every word of 64 bits the call returns, and leaves memory as it was.
-/
namespace Go.Proofs.Ytcngllcifcpbkaa
open Go.RowKit

theorem fits_sum (a b : Nat) : Pl.Fits (Pl.sum a b) := by
  unfold Pl.sum
  cases h : Ieee.double.add a b with
  | none => show (9221120237041090561 : Nat) < 18446744073709551616; omega
  | some r => exact Pl.fits_canon (Ieee.Format.add_lt _ h)

theorem c1 {a : Nat} (ha : Pl.Fits a) (hn : Pl.isNan a = false) : (FloatKind.f64.format.order a 9218868437227405311 == some .gt) = decide (a = 9218868437227405312) := Pl.order_maxf ha hn
theorem c2 {a : Nat} (ha : Pl.Fits a) (hn : Pl.isNan a = false) : (FloatKind.f64.format.order (a ^^^ 9223372036854775808) 9218868437227405311 == some .gt) = decide (a = 18442240474082181120) := by
  have e : (FloatKind.f64.format.order (a ^^^ 9223372036854775808) 9218868437227405311 == some .gt) = decide (a ^^^ 9223372036854775808 = 9218868437227405312) :=
    Pl.order_maxf (Pl.fits_neg ha) (by rw [Pl.isNan_neg ha]; exact hn)
  rw [e, Pl.neg_word ha]
  congr 1
  apply propext
  unfold Pl.Fits at ha
  split <;> omega
theorem c3 {a : Nat} (ha : Pl.Fits a) (hn : Pl.isNan a = false) : (FloatKind.f64.format.order a 0 != some .eq) = decide (a ≠ 0 ∧ a ≠ 9223372036854775808) := Pl.order_zero ha hn

theorem copysign_w (w : World) :
    Calls Try.prog 61 #[.float .f64 0, .float .f64 13830554455654793216] w fun e w' => e = .returned (.float .f64 9223372036854775808) ∧ w = w' := by
  go_enter Try.func61, Try.ntmps61
  go_wp2
  go_ret
  refine ⟨?_, rfl⟩
  show Ending.returned (Value.float .f64 (bits .or .u64 (bits .andNot .u64 0 9223372036854775808) (bits .and .u64 13830554455654793216 9223372036854775808)).toNat) = _
  congr 2

/-- The word of an infinity, by a sign. -/
def infOf (s : Int) : Nat := if 0 ≤ s then 9218868437227405312 else 18442240474082181120

theorem inf_w (s : Int) (w : World) :
    Calls Try.prog 83 #[.int .i64 s] w fun e w' => e = .returned (.float .f64 (infOf s)) ∧ w = w' := by
  unfold infOf
  by_cases h : 0 ≤ s
  · rw [if_pos h]
    go_enter Try.func83, Try.ntmps83
    go_wp2
    go_ret
    exact ⟨rfl, rfl⟩
  · rw [if_neg h]
    go_enter Try.func83, Try.ntmps83
    go_wp2
    go_ret
    exact ⟨rfl, rfl⟩

theorem nan_w (w : World) :
    Calls Try.prog 84 #[] w fun e w' => e = .returned (.float .f64 9221120237041090561) ∧ w = w' := by
  go_enter Try.func84, Try.ntmps84
  go_wp2
  go_ret
  exact ⟨rfl, rfl⟩

theorem fits_top : Pl.Fits 9223372036854775808 := by unfold Pl.Fits; omega
theorem fits_zero : Pl.Fits 0 := by unfold Pl.Fits; omega
theorem fits_inf (s : Int) : Pl.Fits (infOf s) := by unfold infOf Pl.Fits; split <;> omega
theorem fits_nan : Pl.Fits 9221120237041090561 := by unfold Pl.Fits; omega

theorem k1 : (Pl.ord 9223372036854775808 0 == -1) = true := by decide +kernel
theorem k2 : (Pl.ord (infOf 1) 9221120237041090561 == -1) = true := by decide +kernel
theorem k3 : (Pl.cls (Pl.sum (infOf 1) (infOf (-1))) == 6) = true := by decide +kernel
theorem k4 : (Pl.cls (Pl.sum 9223372036854775808 9223372036854775808) == 3) = true := by decide +kernel

end Go.Proofs.Ytcngllcifcpbkaa
/-
  The drawn float: for every number and every word of 64 bits the call returns a word of 64 bits, and leaves memory as it was.
-/
namespace Go.Proofs.Ytcngllcifcpbkaa
open Go.RowKit

theorem tmod_bounds (n : Int) : -1048577 < n.tmod 1048577 ∧ n.tmod 1048577 < 1048577 := by
  rcases Int.le_total 0 n with h | h
  · rw [Int.tmod_eq_emod_of_nonneg h]; omega
  · have e : n.tmod 1048577 = -((-n).tmod 1048577) := by rw [Int.neg_tmod, Int.neg_neg]
    rw [e, Int.tmod_eq_emod_of_nonneg (by omega)]; omega

theorem within_w (n : Int) (w : World) :
    Calls Try.prog 63 #[.int .i64 n, .int .i64 0, .int .i64 1048576] w fun e w' => ∃ r : Int, (0 ≤ r ∧ r ≤ 1048576) ∧ e = .returned (.int .i64 r) ∧ w = w' := by
  go_enter Try.func63, Try.ntmps63
  go_wp2
  all_goals go_ret
  all_goals refine ⟨_, ?_, rfl, rfl⟩
  all_goals have t := tmod_bounds n
  all_goals generalize n.tmod 1048577 = m at *
  all_goals try unfold wrap64
  all_goals omega

theorem fits_of_int (n : Int) : Pl.Fits (floatOfInt .f64 n) := Pl.fits_of_wf (floatOfInt_wf .f64 n)
theorem fits_odd : Pl.Fits 18444492273895866659 := by unfold Pl.Fits; omega

theorem float_w (n : Int) (x : Nat) (hx : Pl.Fits x) (w : World) :
    Calls Try.prog 66 #[.int .i64 n, .float .f64 x] w fun e w' => ∃ c : Nat, Pl.Fits c ∧ e = .returned (.float .f64 c) ∧ w = w' := by
  go_enter Try.func66, Try.ntmps66
  go_wp2_with (first
    | (go_at_call 63; refine (within_w _ _).mono ?_; rintro _ _ ⟨r, hr, rfl, rfl⟩)
    | (go_at_call 61; refine (copysign_w _).mono ?_; rintro _ _ ⟨rfl, rfl⟩)
    | (go_at_call 83; refine (inf_w _ _).mono ?_; rintro _ _ ⟨rfl, rfl⟩)
    | (go_at_call 84; refine (nan_w _).mono ?_; rintro _ _ ⟨rfl, rfl⟩))
  all_goals go_ret
  all_goals refine ⟨_, ?_, rfl, rfl⟩
  all_goals first | exact hx | exact fits_zero | exact fits_top | exact fits_inf _ | exact fits_nan | exact fits_of_int _ | exact fits_odd

end Go.Proofs.Ytcngllcifcpbkaa
/-
  What the document's own answer (the reference of layer 1) does: for every word of 64 bits it returns what package num's functions are proved to return, and leaves memory as it was.
-/
namespace Go.Proofs.Ytcngllcifcpbkaa
open Go.RowKit

namespace Pl
/-- A word's place in the document's order. -/
def place (a : Nat) : Nat := if isNan a then 18446744073709551615 else rank a

theorem rank_num_lt {a : Nat} (ha : Fits a) (hn : isNan a = false) : rank a ≤ 18442240474082181120 := by
  have hr := not_nan hn
  unfold rank
  rw [canon_num hn]
  unfold rg Fits at *
  split <;> omega

theorem cmp_place {a b : Nat} (ha : Fits a) (hb : Fits b) : cmp (place a) (place b) = ord a b := by
  unfold place ord
  cases na : isNan a <;> cases nb : isNan b
  · rfl
  · have h1 := rank_num_lt ha na
    have h2 : rank b = 18444492273895866369 := by unfold rank; rw [canon_nan nb]; rfl
    simp only [Bool.false_eq_true, if_false, if_true]
    unfold cmp
    rw [if_pos (by omega), if_pos (by omega)]
  · have h1 := rank_num_lt hb nb
    have h2 : rank a = 18444492273895866369 := by unfold rank; rw [canon_nan na]; rfl
    simp only [Bool.false_eq_true, if_false, if_true]
    unfold cmp
    rw [if_neg (by omega), if_pos (by omega), if_neg (by omega), if_pos (by omega)]
  · have h1 : rank a = 18444492273895866369 := by unfold rank; rw [canon_nan na]; rfl
    have h2 : rank b = 18444492273895866369 := by unfold rank; rw [canon_nan nb]; rfl
    rw [h1, h2]
    rfl

theorem exp_test {a : Nat} (h : Fits a) : (bits .and .u64 (a : Int) 9218868437227405312 == 9218868437227405312) = decide (9218868437227405312 ≤ rg a) := by
  rw [and_exp64 h]
  rw [Bool.eq_iff_iff]
  simp only [beq_iff_eq, decide_eq_true_eq]
  unfold rg Fits at *
  omega

theorem frac_test {a : Nat} (h : Fits a) : (bits .and .u64 (a : Int) 4503599627370495 != 0) = decide (rg a % 4503599627370496 ≠ 0) := by
  rw [and_frac64 h]
  rw [Bool.eq_iff_iff]
  simp only [bne_iff_ne, decide_eq_true_eq]
  unfold rg Fits at *
  omega

/-- The document's test of what is no number. -/
theorem nan_ways {a : Nat} (h : Fits a) :
    (canon a = 9221120237041090561 ∧ (bits .and .u64 (a : Int) 9218868437227405312 == 9218868437227405312) = true ∧ (bits .and .u64 (a : Int) 4503599627370495 != 0) = true)
    ∨ (canon a = a ∧ (bits .and .u64 (a : Int) 9218868437227405312 == 9218868437227405312) = true ∧ (bits .and .u64 (a : Int) 4503599627370495 != 0) = false)
    ∨ (canon a = a ∧ (bits .and .u64 (a : Int) 9218868437227405312 == 9218868437227405312) = false) := by
  rw [exp_test h, frac_test h]
  have hm : rg a < 9223372036854775808 := Nat.mod_lt _ (by decide)
  cases hn : isNan a
  · have hr := not_nan hn
    rw [canon_num hn]
    by_cases he : 9218868437227405312 ≤ rg a
    · right; left
      have : rg a = 9218868437227405312 := by omega
      rw [this]
      exact ⟨rfl, by decide, by decide⟩
    · right; right
      exact ⟨rfl, decide_eq_false he⟩
  · left
    have hi := (isNan_iff a).1 hn
    exact ⟨canon_nan hn, decide_eq_true (by omega), decide_eq_true (by omega)⟩

end Pl

theorem refBits_w (a : Nat) (ha : Pl.Fits a) (w : World) :
    Calls Try.prog 56 #[.float .f64 a] w fun e w' => e = .returned (.int .u64 (Pl.canon a)) ∧ w = w' := by
  rcases Pl.nan_ways ha with ⟨e, t1, t2⟩ | ⟨e, t1, t2⟩ | ⟨e, t1⟩
  all_goals rw [e]
  all_goals clear e
  all_goals go_enter Try.func56, Try.ntmps56
  all_goals go_wp2
  all_goals (go_ret; exact ⟨rfl, rfl⟩)

theorem refFrom_w (a : Nat) (ha : Pl.Fits a) (w : World) :
    Calls Try.prog 55 #[.int .u64 a] w fun e w' => e = .returned (.float .f64 (Pl.canon a)) ∧ w = w' := by
  go_enter Try.func55, Try.ntmps55
  go_wp2_with (go_at_call 56; refine (refBits_w _ (by assumption) _).mono ?_; rintro _ _ ⟨rfl, rfl⟩)
  go_ret
  exact ⟨rfl, rfl⟩

theorem isNan_of_canon {a : Nat} (h : Pl.canon a = 9221120237041090561) : Pl.isNan a = true := by
  have := Pl.isNan_canon a
  rw [h] at this
  rw [← this]; decide

theorem refPlace_w (a : Nat) (ha : Pl.Fits a) (w : World) :
    Calls Try.prog 91 #[.float .f64 a] w fun e w' => e = .returned (.int .u64 (Pl.place a)) ∧ w = w' := by
  have hc := Pl.fits_canon ha
  go_enter Try.func91, Try.ntmps91
  go_wp2_with (go_at_call 56; refine (refBits_w _ (by assumption) _).mono ?_; rintro _ _ ⟨rfl, rfl⟩)
  all_goals (go_ret; refine ⟨?_, rfl⟩)
  · have h1 : ((Pl.canon a : Int) == 9221120237041090561) = true := by assumption
    have h2 : Pl.canon a = 9221120237041090561 := by simp at h1; omega
    have e : Pl.place a = 18446744073709551615 := by unfold Pl.place; rw [if_pos (isNan_of_canon h2)]
    rw [e]; rfl
  · have h1 : ((Pl.canon a : Int) == 9221120237041090561) = false := by assumption
    have h3 : ((Pl.canon a : Int) / 9223372036854775808 == 1) = true := by assumption
    have h2 : ¬ Pl.canon a = 9221120237041090561 := by simp at h1; omega
    have h4 : 9223372036854775808 ≤ Pl.canon a := by simp at h3; omega
    have hn : ¬ Pl.isNan a = true := fun h => h2 (Pl.canon_nan h)
    have e : Pl.place a = 18446744073709551615 - Pl.canon a := by unfold Pl.place Pl.rank; rw [if_neg hn, if_pos h4]
    rw [e, ← Pl.xor_max hc]; rfl
  · have h1 : ((Pl.canon a : Int) == 9221120237041090561) = false := by assumption
    have h3 : ((Pl.canon a : Int) / 9223372036854775808 == 1) = false := by assumption
    have h2 : ¬ Pl.canon a = 9221120237041090561 := by simp at h1; omega
    have h4 : ¬ 9223372036854775808 ≤ Pl.canon a := by have := hc; unfold Pl.Fits at this; simp at h3; omega
    have hn : ¬ Pl.isNan a = true := fun h => h2 (Pl.canon_nan h)
    have e : Pl.place a = Pl.canon a + 9223372036854775808 := by unfold Pl.place Pl.rank; rw [if_neg hn, if_neg h4]
    rw [e, ← Pl.or_sign (by omega)]; rfl

theorem refOrder_w (a b : Nat) (ha : Pl.Fits a) (hb : Pl.Fits b) (w : World) :
    Calls Try.prog 86 #[.float .f64 a, .float .f64 b] w fun e w' => e = .returned (.int .i64 (Pl.ord a b)) ∧ w = w' := by
  rw [← Pl.cmp_place ha hb]
  go_enter Try.func86, Try.ntmps86
  go_wp2_with (go_at_call 91; refine (refPlace_w _ (by assumption) _).mono ?_; rintro _ _ ⟨rfl, rfl⟩)
  all_goals (go_ret; refine ⟨?_, rfl⟩)
  all_goals rcases Pl.cmp_cases (Pl.place a) (Pl.place b) with ⟨h, e, _⟩ | ⟨h, e, _⟩ | ⟨h, e, _⟩
  all_goals first | (rw [e]; rfl) | (exfalso; omega)

theorem refSum_w (a b : Nat) (w : World) :
    Calls Try.prog 81 #[.float .f64 a, .float .f64 b] w fun e w' => e = .returned (.float .f64 (Pl.sum a b)) ∧ Still w w' := by
  cases h : Ieee.double.add a b with
  | none =>
    obtain ⟨r, hr, hfit, hrun⟩ := run_add_none a b h w
    have e : Pl.sum a b = Pl.canon r := by simp [Pl.sum, Pl.canon, h, hr]
    rw [e]
    clear e h hr
    go_enter Try.func81, Try.ntmps81
    go_wp2_with (go_at_call 55; refine (refFrom_w _ (by assumption) _).mono ?_; rintro _ _ ⟨rfl, rfl⟩)
    go_ret
    exact ⟨rfl, Still.drew _⟩
  | some r =>
    have hrun := run_float_arith (P := Try.prog) w .add 47 .f64 a b r h
    have hfit : Pl.Fits r := Ieee.Format.add_lt _ h
    have e : Pl.sum a b = Pl.canon r := by simp [Pl.sum, h]
    rw [e]
    clear e h
    go_enter Try.func81, Try.ntmps81
    go_wp2_with (go_at_call 55; refine (refFrom_w _ (by assumption) _).mono ?_; rintro _ _ ⟨rfl, rfl⟩)
    go_ret
    exact ⟨rfl, Still.refl _⟩

end Go.Proofs.Ytcngllcifcpbkaa
/-
  What each function on floats that the layers above call does: one text to import.
-/
/-
  One operation of a drawn region that only reads, in few words.
-/
namespace Go.Proofs.Ytcngllcifcpbkaa
open Go.RowKit

theorem wpT {P : Program} {ops : Array Oper} {Q : Exit → Act → World → Prop} {md : Region.Mode} {S : World → Prop} (i : Nat) (oi : Oper) {v : Value} {fuel : Nat} {listed : Array Bool} {a : Act} {w : World}
    (h : wpAnyH P md ops Q S fuel (listed.setIfInBounds i true) (a.put oi.dst v) w) (hi : ops[i]? = some oi := by rfl) (hs : Region.noSelect ops = true := by kernel_rfl) (hf : Region.free md ops listed i = true := by kernel_rfl) (hr : (Region.ready md ops listed).contains i = true := by kernel_rfl)
    (hQ : ∀ c a w, Q (.panic c) (a.put oi.dst v) w → Q (.panic c) a w := by exact fun _ _ _ h => h) (hw : Region.wanted oi (yielded ops a.tmps) = true := by rfl)
    (hy : ∀ w, S w → (execOp a.eval oi).run P w = .ok (.value v) w := by (intro w hSw; (try dsimp only at hSw); go_simp; try (with_reducible rfl))) (hS : S w := by assumption) : wpAnyH P md ops Q S (fuel + 1) listed a w :=
  wpAnyH_take hi hs hf hr hQ (.inl ⟨hw, hy⟩) hS h
end Go.Proofs.Ytcngllcifcpbkaa
