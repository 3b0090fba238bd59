/-
  What each function of package num that takes floats alone does, as plain arithmetic on words: for every word of 64 bits the call returns, and leaves memory as it was.
-/
import Derived.Test.YtpofalalfemkhaaRows
import Derived.Test.YtpofalalfemkhaaBits
import Derived.WalkKit
import Derived.WalkSpells
import Derived.WalkLawsBesides
import Derived.Deep.Draws
namespace Go.Proofs.Ytpofalalfemkhaa
open Go.RowKit

@[go_sem] theorem run_frombits (n : Int) (w : World) : (callFunc 87 #[.int .u64 n]).run Try.prog w = .ok (.value (.float .f64 n.toNat)) w := by kernel_rfl
@[go_sem] theorem run_tobits (n : Nat) (w : World) : (callFunc 107 #[.float .f64 n]).run Try.prog w = .ok (.value (.int .u64 n)) w := by kernel_rfl
@[go_sem] theorem run_negfloat (n : Nat) (w : World) : (Op.unary .neg (.float .f64 n)).run Try.prog w = .ok (.float .f64 (n ^^^ 9223372036854775808)) w := rfl

/-- The world is as it was, but for how many answers the tape has given. -/
def Still (w w' : World) : Prop := ∃ m, w' = w.drewN m
theorem Still.refl (w : World) : Still w w := ⟨0, rfl⟩
theorem Still.trans {a b c : World} (h : Still a b) (k : Still b c) : Still a c := by
  obtain ⟨n, rfl⟩ := h; obtain ⟨m, rfl⟩ := k; exact ⟨n + m, World.drewN_drewN _ _ _⟩
theorem Still.drew (w : World) : Still w w.drew := ⟨1, rfl⟩
theorem Still.grown {w w' : World} (h : Still w w') : Grown w w' := by
  obtain ⟨n, rfl⟩ := h
  have k := World.keptBut_refl w (fun _ => False)
  exact ⟨k, fun _ => rfl, Nat.le_refl _⟩
theorem Still.cell {w w' : World} (h : Still w w') (a : Addr) : w'.cell? a = w.cell? a := by
  obtain ⟨n, rfl⟩ := h; rfl

theorem isNaN_w (a : Nat) (w : World) :
    Calls Try.prog 108 #[.float .f64 a] w fun e w' => e = .returned (.bool (Pl.isNan a)) ∧ w = w' := by
  go_enter Try.func108, Try.ntmps108
  go_wp2
  go_ret
  exact ⟨by rw [← Pl.order_self]; rfl, rfl⟩

theorem canon_w (a : Nat) (w : World) :
    Calls Try.prog 91 #[.float .f64 a] w fun e w' => e = .returned (.float .f64 (Pl.canon a)) ∧ w = w' := by
  cases h : Pl.isNan a
  · have e : Pl.canon a = a := by simp [Pl.canon, h]
    rw [e]
    go_enter Try.func91, Try.ntmps91
    go_wp2_with (go_at_call 108; refine (isNaN_w _ _).mono ?_; rintro _ _ ⟨rfl, rfl⟩)
    all_goals (go_ret; exact ⟨rfl, rfl⟩)
  · have e : Pl.canon a = 9221120237041090561 := by simp [Pl.canon, h]
    rw [e]
    clear e
    go_enter Try.func91, Try.ntmps91
    go_wp2_with (go_at_call 108; refine (isNaN_w _ _).mono ?_; rintro _ _ ⟨rfl, rfl⟩)
    all_goals (go_ret; exact ⟨rfl, rfl⟩)

theorem numBits_w (a : Nat) (w : World) :
    Calls Try.prog 120 #[.float .f64 a] w fun e w' => e = .returned (.int .u64 (Pl.canon a)) ∧ w = w' := by
  go_enter Try.func120, Try.ntmps120
  go_wp2_with (go_at_call 91; refine (canon_w _ _).mono ?_; rintro _ _ ⟨rfl, rfl⟩)
  go_ret
  exact ⟨rfl, rfl⟩

theorem numFrom_w (a : Nat) (w : World) :
    Calls Try.prog 121 #[.int .u64 a] w fun e w' => e = .returned (.float .f64 (Pl.canon a)) ∧ w = w' := by
  go_enter Try.func121, Try.ntmps121
  go_wp2_with (go_at_call 91; refine (canon_w _ _).mono ?_; rintro _ _ ⟨rfl, rfl⟩)
  go_ret
  exact ⟨rfl, rfl⟩

theorem rank_w (a : Nat) (ha : Pl.Fits a) (w : World) :
    Calls Try.prog 128 #[.float .f64 a] w fun e w' => e = .returned (.int .u64 (Pl.rank a)) ∧ w = w' := by
  have hc := Pl.fits_canon ha
  have e1 := Pl.and_sign hc
  have e2 := Pl.xor_max hc
  by_cases h : 9223372036854775808 ≤ Pl.canon a
  · have e3 : (bits BinOp.and IntKind.u64 (↑(Pl.canon a)) 9223372036854775808 != 0) = true := by rw [e1, if_pos h]; rfl
    have e4 : Pl.rank a = 18446744073709551615 - Pl.canon a := by simp only [Pl.rank, if_pos h]
    rw [e4, ← e2]
    clear e1 e2 e4 h
    go_enter Try.func128, Try.ntmps128
    go_wp2_with (go_at_call 120; refine (numBits_w _ _).mono ?_; rintro _ _ ⟨rfl, rfl⟩)
    go_ret
    exact ⟨rfl, rfl⟩
  · have e3 : (bits BinOp.and IntKind.u64 (↑(Pl.canon a)) 9223372036854775808 != 0) = false := by rw [e1, if_neg h]; rfl
    have e4 : Pl.rank a = Pl.canon a + 9223372036854775808 := by simp only [Pl.rank, if_neg h]
    rw [e4, ← Pl.or_sign (by omega)]
    clear e1 e2 e4 h
    go_enter Try.func128, Try.ntmps128
    go_wp2_with (go_at_call 120; refine (numBits_w _ _).mono ?_; rintro _ _ ⟨rfl, rfl⟩)
    go_ret
    exact ⟨rfl, rfl⟩

theorem compare_w (x y : Nat) (w : World) :
    Calls Try.prog 127 #[.int .u64 x, .int .u64 y] w fun e w' => e = .returned (.int .i64 (Pl.cmp x y)) ∧ w = w' := by
  unfold Pl.cmp
  by_cases h1 : x < y
  · rw [if_pos h1]
    go_enter Try.func127, Try.ntmps127
    go_wp2
    all_goals (go_ret; exact ⟨rfl, rfl⟩)
  · rw [if_neg h1]
    by_cases h2 : y < x
    · rw [if_pos h2]
      go_enter Try.func127, Try.ntmps127
      go_wp2
      all_goals (go_ret; exact ⟨rfl, rfl⟩)
    · rw [if_neg h2]
      go_enter Try.func127, Try.ntmps127
      go_wp2
      all_goals (go_ret; exact ⟨rfl, rfl⟩)

theorem order_w (a b : Nat) (ha : Pl.Fits a) (hb : Pl.Fits b) (w : World) :
    Calls Try.prog 124 #[.float .f64 a, .float .f64 b] w fun e w' => e = .returned (.int .i64 (Pl.ord a b)) ∧ w = w' := by
  go_enter Try.func124, Try.ntmps124
  go_wp2_with (first | (go_at_call 128; refine (rank_w _ (by assumption) _).mono ?_; rintro _ _ ⟨rfl, rfl⟩) | (go_at_call 127; refine (compare_w _ _ _).mono ?_; rintro _ _ ⟨rfl, rfl⟩))
  go_ret
  exact ⟨rfl, rfl⟩

theorem run_add_none (x y : Nat) (h : Ieee.double.add x y = none) (w : World) :
    ∃ r, Pl.isNan r = true ∧ Pl.Fits r ∧ (binOp .add 37 (.float .f64 x) (.float .f64 y)).run Try.prog w = .ok (.float .f64 r) w.drew := by
  refine ⟨Question.cut (.nanBits .f64 x y) (w.tape w.drawn (.nanBits .f64 x y)), ?_, ?_, ?_⟩
  · generalize w.tape w.drawn (.nanBits .f64 x y) = t
    rw [Pl.isNan_iff]
    show 9218868437227405312 < ((t % 2) * 2 ^ 63 + 0x7ff0000000000000 + 1 + (t / 2) % (2 ^ 52 - 1)) % 9223372036854775808
    have hu : (t / 2) % (2 ^ 52 - 1) < 2 ^ 52 - 1 := Nat.mod_lt _ (by decide)
    generalize (t / 2) % (2 ^ 52 - 1) = u at hu
    rcases Nat.mod_two_eq_zero_or_one t with h0 | h0 <;> rw [h0] <;> omega
  · generalize w.tape w.drawn (.nanBits .f64 x y) = t
    show ((t % 2) * 2 ^ 63 + 0x7ff0000000000000 + 1 + (t / 2) % (2 ^ 52 - 1)) < 18446744073709551616
    omega
  · have h' : FloatKind.f64.format.add x y = none := h
    simp [binOp, Op.floatArith, h', Question.forced]

end Go.Proofs.Ytpofalalfemkhaa
