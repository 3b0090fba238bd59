/- ours -/
import Derived.Test.YtcngllcifcpbkaaGreatRows
import Derived.Test.YtcngllcifcpbkaaGreatCBaseA
import Derived.WalkKit
import Derived.WalkSpells
import Derived.WalkLawsBesides
import Derived.Deep.Draws
import Derived.OrdersHeld
import Derived.Deep.RegionHeld
/-
 What each function of package num that takes floats alone does, as plain arithmetic on words: for every word of 64 bits the call returns, and leaves memory as it was.
-/
namespace Go.Proofs.YtcngllcifcpbkaaGreat
open Go.RowKit

@[go_sem] theorem run_frombits (n : Int) (w : World) : (callFunc 122 #[.int .u64 n]).run Tryz.prog w = .ok (.value (.float .f64 n.toNat)) w := by kernel_rfl
@[go_sem] theorem run_tobits (n : Nat) (w : World) : (callFunc 123 #[.float .f64 n]).run Tryz.prog w = .ok (.value (.int .u64 n)) w := by kernel_rfl
@[go_sem] theorem run_negfloat (n : Nat) (w : World) : (Op.unary .neg (.float .f64 n)).run Tryz.prog w = .ok (.float .f64 (n ^^^ 9223372036854775808)) w := rfl

def Still (w w' : World) : Prop := ∃ m, w' = w.drewN m
theorem Still.refl (w : World) : Still w w := ⟨0, rfl⟩
theorem Still.drew (w : World) : Still w w.drew := ⟨1, rfl⟩
theorem isNaN_w (a : Nat) (w : World) :
  Calls Tryz.prog 145 #[.float .f64 a] w fun e w' => e = .returned (.bool (Pl.isNan a)) ∧ w = w' := by
 go_enter Tryz.func145, Tryz.ntmps145
 go_wp2
 go_ret
 exact ⟨by rw [← Pl.order_self]; rfl, rfl⟩

theorem canon_w (a : Nat) (w : World) :
  Calls Tryz.prog 134 #[.float .f64 a] w fun e w' => e = .returned (.float .f64 (Pl.canon a)) ∧ w = w' := by
 cases h : Pl.isNan a
 ·have e : Pl.canon a = a := by simp [Pl.canon, h]
  rw [e]
  go_enter Tryz.func134, Tryz.ntmps134
  go_wp2_with (go_at_call 145; refine (isNaN_w _ _).mono ?_; rintro _ _ ⟨rfl, rfl⟩)
  all_goals (go_ret; exact ⟨rfl, rfl⟩)
 ·have e : Pl.canon a = 9221120237041090561 := by simp [Pl.canon, h]
  rw [e]
  clear e
  go_enter Tryz.func134, Tryz.ntmps134
  go_wp2_with (go_at_call 145; refine (isNaN_w _ _).mono ?_; rintro _ _ ⟨rfl, rfl⟩)
  all_goals (go_ret; exact ⟨rfl, rfl⟩)

theorem numBits_w (a : Nat) (w : World) :
  Calls Tryz.prog 149 #[.float .f64 a] w fun e w' => e = .returned (.int .u64 (Pl.canon a)) ∧ w = w' := by
 go_enter Tryz.func149, Tryz.ntmps149
 go_wp2_with (go_at_call 134; refine (canon_w _ _).mono ?_; rintro _ _ ⟨rfl, rfl⟩)
 go_ret
 exact ⟨rfl, rfl⟩

theorem numFrom_w (a : Nat) (w : World) :
  Calls Tryz.prog 154 #[.int .u64 a] w fun e w' => e = .returned (.float .f64 (Pl.canon a)) ∧ w = w' := by
 go_enter Tryz.func154, Tryz.ntmps154
 go_wp2_with (go_at_call 134; refine (canon_w _ _).mono ?_; rintro _ _ ⟨rfl, rfl⟩)
 go_ret
 exact ⟨rfl, rfl⟩

theorem run_add_none (x y : Nat) (h : Ieee.double.add x y = none) (w : World) :
  ∃ r, Pl.isNan r = true ∧ Pl.Fits r ∧ (binOp .add 97 (.float .f64 x) (.float .f64 y)).run Tryz.prog w = .ok (.float .f64 r) w.drew := by
 refine ⟨Question.cut (.nanBits .f64 x y) (w.tape w.drawn (.nanBits .f64 x y)), ?_, ?_, ?_⟩
 ·generalize w.tape w.drawn (.nanBits .f64 x y) = t
  rw [Pl.isNan_iff]
  show 9218868437227405312 < ((t % 2) * 2 ^ 63 + 0x7ff0000000000000 + 1 + (t / 2) % (2 ^ 52 - 1)) % 9223372036854775808
  have hu : (t / 2) % (2 ^ 52 - 1) < 2 ^ 52 - 1 := Nat.mod_lt _ (by decide)
  generalize (t / 2) % (2 ^ 52 - 1) = u at hu
  rcases Nat.mod_two_eq_zero_or_one t with h0 | h0 <;> rw [h0] <;> omega
 ·generalize w.tape w.drawn (.nanBits .f64 x y) = t
  show ((t % 2) * 2 ^ 63 + 0x7ff0000000000000 + 1 + (t / 2) % (2 ^ 52 - 1)) < 18446744073709551616
  omega
 ·have h' : FloatKind.f64.format.add x y = none := h
  simp [binOp, Op.floatArith, h', Question.forced]

end Go.Proofs.YtcngllcifcpbkaaGreat
/-
 What Class, math's constants, the law's own 'known' and the drawn float do: for every word of 64 bits the call returns, and leaves memory as it was.
-/
namespace Go.Proofs.YtcngllcifcpbkaaGreat
open Go.RowKit

theorem fits_sum (a b : Nat) : Pl.Fits (Pl.sum a b) := by
 unfold Pl.sum
 cases h : Ieee.double.add a b with
 | none => show (9221120237041090561 : Nat) < 18446744073709551616; omega
 | some r => exact Pl.fits_canon (Ieee.Format.add_lt _ h)

theorem copysign_w (w : World) :
  Calls Tryz.prog 91 #[.float .f64 0, .float .f64 13830554455654793216] w fun e w' => e = .returned (.float .f64 9223372036854775808) ∧ w = w' := by
 go_enter Tryz.func91, Tryz.ntmps91
 go_wp2
 go_ret
 refine ⟨?_, rfl⟩
 show Ending.returned (Value.float .f64 (bits .or .u64 (bits .andNot .u64 0 9223372036854775808) (bits .and .u64 13830554455654793216 9223372036854775808)).toNat) = _
 congr 2

def infOf (s : Int) : Nat := if 0 ≤ s then 9218868437227405312 else 18442240474082181120

theorem inf_w (s : Int) (w : World) :
  Calls Tryz.prog 125 #[.int .i64 s] w fun e w' => e = .returned (.float .f64 (infOf s)) ∧ w = w' := by
 unfold infOf
 by_cases h : 0 ≤ s
 ·rw [if_pos h]
  go_enter Tryz.func125, Tryz.ntmps125
  go_wp2
  go_ret
  exact ⟨rfl, rfl⟩
 ·rw [if_neg h]
  go_enter Tryz.func125, Tryz.ntmps125
  go_wp2
  go_ret
  exact ⟨rfl, rfl⟩

theorem nan_w (w : World) :
  Calls Tryz.prog 126 #[] w fun e w' => e = .returned (.float .f64 9221120237041090561) ∧ w = w' := by
 go_enter Tryz.func126, Tryz.ntmps126
 go_wp2
 go_ret
 exact ⟨rfl, rfl⟩

theorem fits_top : Pl.Fits 9223372036854775808 := by unfold Pl.Fits; omega
theorem fits_zero : Pl.Fits 0 := by unfold Pl.Fits; omega
theorem fits_inf (s : Int) : Pl.Fits (infOf s) := by unfold infOf Pl.Fits; split <;> omega
theorem fits_nan : Pl.Fits 9221120237041090561 := by unfold Pl.Fits; omega

end Go.Proofs.YtcngllcifcpbkaaGreat
/-
 The drawn float: for every number and every word of 64 bits the call returns a word of 64 bits, and leaves memory as it was.
-/
namespace Go.Proofs.YtcngllcifcpbkaaGreat
open Go.RowKit

theorem tmod_bounds (n : Int) : -1048577 < n.tmod 1048577 ∧ n.tmod 1048577 < 1048577 := by
 rcases Int.le_total 0 n with h | h
 ·rw [Int.tmod_eq_emod_of_nonneg h]; omega
 ·have e : n.tmod 1048577 = -((-n).tmod 1048577) := by rw [Int.neg_tmod, Int.neg_neg]
  rw [e, Int.tmod_eq_emod_of_nonneg (by omega)]; omega

theorem within_w (n : Int) (w : World) :
  Calls Tryz.prog 93 #[.int .i64 n, .int .i64 0, .int .i64 1048576] w fun e w' => ∃ r : Int, (0 ≤ r ∧ r ≤ 1048576) ∧ e = .returned (.int .i64 r) ∧ w = w' := by
 go_enter Tryz.func93, Tryz.ntmps93
 go_wp2
 all_goals go_ret
 all_goals refine ⟨_, ?_, rfl, rfl⟩
 all_goals have t := tmod_bounds n
 all_goals generalize n.tmod 1048577 = m at *
 all_goals try unfold wrap64
 all_goals omega

theorem fits_of_int (n : Int) : Pl.Fits (floatOfInt .f64 n) := Pl.fits_of_wf (floatOfInt_wf .f64 n)
theorem fits_odd : Pl.Fits 18444492273895866659 := by unfold Pl.Fits; omega

theorem float_w (n : Int) (x : Nat) (hx : Pl.Fits x) (w : World) :
  Calls Tryz.prog 96 #[.int .i64 n, .float .f64 x] w fun e w' => ∃ c : Nat, Pl.Fits c ∧ e = .returned (.float .f64 c) ∧ w = w' := by
 go_enter Tryz.func96, Tryz.ntmps96
 go_wp2_with (first
  | (go_at_call 93; refine (within_w _ _).mono ?_; rintro _ _ ⟨r, hr, rfl, rfl⟩)
  | (go_at_call 91; refine (copysign_w _).mono ?_; rintro _ _ ⟨rfl, rfl⟩)
  | (go_at_call 125; refine (inf_w _ _).mono ?_; rintro _ _ ⟨rfl, rfl⟩)
  | (go_at_call 126; refine (nan_w _).mono ?_; rintro _ _ ⟨rfl, rfl⟩))
 all_goals go_ret
 all_goals refine ⟨_, ?_, rfl, rfl⟩
 all_goals first | exact hx | exact fits_zero | exact fits_top | exact fits_inf _ | exact fits_nan | exact fits_of_int _ | exact fits_odd

end Go.Proofs.YtcngllcifcpbkaaGreat
/-
 What the document's own answer (the reference of layer 1) does: for every word of 64 bits it returns what package num's functions are proved to return, and leaves memory as it was.
-/
namespace Go.Proofs.YtcngllcifcpbkaaGreat
open Go.RowKit

namespace Pl
def place (a : Nat) : Nat := if isNan a then 18446744073709551615 else rank a

theorem rank_num_lt {a : Nat} (ha : Fits a) (hn : isNan a = false) : rank a ≤ 18442240474082181120 := by
 have hr := not_nan hn
 unfold rank
 rw [canon_num hn]
 unfold rg Fits at *
 split <;> omega

theorem cmp_place {a b : Nat} (ha : Fits a) (hb : Fits b) : cmp (place a) (place b) = ord a b := by
 unfold place ord
 cases na : isNan a <;> cases nb : isNan b
 ·rfl
 ·have h1 := rank_num_lt ha na
  have h2 : rank b = 18444492273895866369 := by unfold rank; rw [canon_nan nb]; rfl
  simp only [Bool.false_eq_true, if_false, if_true]
  unfold cmp
  rw [if_pos (by omega), if_pos (by omega)]
 ·have h1 := rank_num_lt hb nb
  have h2 : rank a = 18444492273895866369 := by unfold rank; rw [canon_nan na]; rfl
  simp only [Bool.false_eq_true, if_false, if_true]
  unfold cmp
  rw [if_neg (by omega), if_pos (by omega), if_neg (by omega), if_pos (by omega)]
 ·have h1 : rank a = 18444492273895866369 := by unfold rank; rw [canon_nan na]; rfl
  have h2 : rank b = 18444492273895866369 := by unfold rank; rw [canon_nan nb]; rfl
  rw [h1, h2]
  rfl

theorem exp_test {a : Nat} (h : Fits a) : (bits .and .u64 (a : Int) 9218868437227405312 == 9218868437227405312) = decide (9218868437227405312 ≤ rg a) := by
 rw [and_exp64 h]
 rw [Bool.eq_iff_iff]
 simp only [beq_iff_eq, decide_eq_true_eq]
 unfold rg Fits at *
 omega

theorem frac_test {a : Nat} (h : Fits a) : (bits .and .u64 (a : Int) 4503599627370495 != 0) = decide (rg a % 4503599627370496 ≠ 0) := by
 rw [and_frac64 h]
 rw [Bool.eq_iff_iff]
 simp only [bne_iff_ne, decide_eq_true_eq]
 unfold rg Fits at *
 omega

theorem nan_ways {a : Nat} (h : Fits a) :
  (canon a = 9221120237041090561 ∧ (bits .and .u64 (a : Int) 9218868437227405312 == 9218868437227405312) = true ∧ (bits .and .u64 (a : Int) 4503599627370495 != 0) = true)
  ∨ (canon a = a ∧ (bits .and .u64 (a : Int) 9218868437227405312 == 9218868437227405312) = true ∧ (bits .and .u64 (a : Int) 4503599627370495 != 0) = false)
  ∨ (canon a = a ∧ (bits .and .u64 (a : Int) 9218868437227405312 == 9218868437227405312) = false) := by
 rw [exp_test h, frac_test h]
 have hm : rg a < 9223372036854775808 := Nat.mod_lt _ (by decide)
 cases hn : isNan a
 ·have hr := not_nan hn
  rw [canon_num hn]
  by_cases he : 9218868437227405312 ≤ rg a
  ·right; left
   have : rg a = 9218868437227405312 := by omega
   rw [this]
   exact ⟨rfl, by decide, by decide⟩
  ·right; right
   exact ⟨rfl, decide_eq_false he⟩
 ·left
  have hi := (isNan_iff a).1 hn
  exact ⟨canon_nan hn, decide_eq_true (by omega), decide_eq_true (by omega)⟩

end Pl

theorem refBits_w (a : Nat) (ha : Pl.Fits a) (w : World) :
  Calls Tryz.prog 128 #[.float .f64 a] w fun e w' => e = .returned (.int .u64 (Pl.canon a)) ∧ w = w' := by
 rcases Pl.nan_ways ha with ⟨e, t1, t2⟩ | ⟨e, t1, t2⟩ | ⟨e, t1⟩
 all_goals rw [e]
 all_goals clear e
 all_goals go_enter Tryz.func128, Tryz.ntmps128
 all_goals go_wp2
 all_goals (go_ret; exact ⟨rfl, rfl⟩)

theorem refFrom_w (a : Nat) (ha : Pl.Fits a) (w : World) :
  Calls Tryz.prog 127 #[.int .u64 a] w fun e w' => e = .returned (.float .f64 (Pl.canon a)) ∧ w = w' := by
 go_enter Tryz.func127, Tryz.ntmps127
 go_wp2_with (go_at_call 128; refine (refBits_w _ (by assumption) _).mono ?_; rintro _ _ ⟨rfl, rfl⟩)
 go_ret
 exact ⟨rfl, rfl⟩

theorem isNan_of_canon {a : Nat} (h : Pl.canon a = 9221120237041090561) : Pl.isNan a = true := by
 have := Pl.isNan_canon a
 rw [h] at this
 rw [← this]; decide

theorem refPlace_w (a : Nat) (ha : Pl.Fits a) (w : World) :
  Calls Tryz.prog 147 #[.float .f64 a] w fun e w' => e = .returned (.int .u64 (Pl.place a)) ∧ w = w' := by
 have hc := Pl.fits_canon ha
 go_enter Tryz.func147, Tryz.ntmps147
 go_wp2_with (go_at_call 128; refine (refBits_w _ (by assumption) _).mono ?_; rintro _ _ ⟨rfl, rfl⟩)
 all_goals (go_ret; refine ⟨?_, rfl⟩)
 ·have h1 : ((Pl.canon a : Int) == 9221120237041090561) = true := by assumption
  have h2 : Pl.canon a = 9221120237041090561 := by simp at h1; omega
  have e : Pl.place a = 18446744073709551615 := by unfold Pl.place; rw [if_pos (isNan_of_canon h2)]
  rw [e]; rfl
 ·have h1 : ((Pl.canon a : Int) == 9221120237041090561) = false := by assumption
  have h3 : ((Pl.canon a : Int) / 9223372036854775808 == 1) = true := by assumption
  have h2 : ¬ Pl.canon a = 9221120237041090561 := by simp at h1; omega
  have h4 : 9223372036854775808 ≤ Pl.canon a := by simp at h3; omega
  have hn : ¬ Pl.isNan a = true := fun h => h2 (Pl.canon_nan h)
  have e : Pl.place a = 18446744073709551615 - Pl.canon a := by unfold Pl.place Pl.rank; rw [if_neg hn, if_pos h4]
  rw [e, ← Pl.xor_max hc]; rfl
 ·have h1 : ((Pl.canon a : Int) == 9221120237041090561) = false := by assumption
  have h3 : ((Pl.canon a : Int) / 9223372036854775808 == 1) = false := by assumption
  have h2 : ¬ Pl.canon a = 9221120237041090561 := by simp at h1; omega
  have h4 : ¬ 9223372036854775808 ≤ Pl.canon a := by have := hc; unfold Pl.Fits at this; simp at h3; omega
  have hn : ¬ Pl.isNan a = true := fun h => h2 (Pl.canon_nan h)
  have e : Pl.place a = Pl.canon a + 9223372036854775808 := by unfold Pl.place Pl.rank; rw [if_neg hn, if_neg h4]
  rw [e, ← Pl.or_sign (by omega)]; rfl

theorem refOrder_w (a b : Nat) (ha : Pl.Fits a) (hb : Pl.Fits b) (w : World) :
  Calls Tryz.prog 138 #[.float .f64 a, .float .f64 b] w fun e w' => e = .returned (.int .i64 (Pl.ord a b)) ∧ w = w' := by
 rw [← Pl.cmp_place ha hb]
 go_enter Tryz.func138, Tryz.ntmps138
 go_wp2_with (go_at_call 147; refine (refPlace_w _ (by assumption) _).mono ?_; rintro _ _ ⟨rfl, rfl⟩)
 all_goals (go_ret; refine ⟨?_, rfl⟩)
 all_goals rcases Pl.cmp_cases (Pl.place a) (Pl.place b) with ⟨h, e, _⟩ | ⟨h, e, _⟩ | ⟨h, e, _⟩
 all_goals first | (rw [e]; rfl) | (exfalso; omega)

theorem refSum_w (a b : Nat) (w : World) :
  Calls Tryz.prog 124 #[.float .f64 a, .float .f64 b] w fun e w' => e = .returned (.float .f64 (Pl.sum a b)) ∧ Still w w' := by
 cases h : Ieee.double.add a b with
 | none =>
  obtain ⟨r, hr, hfit, hrun⟩ := run_add_none a b h w
  have e : Pl.sum a b = Pl.canon r := by simp [Pl.sum, Pl.canon, h, hr]
  rw [e]
  clear e h hr
  go_enter Tryz.func124, Tryz.ntmps124
  go_wp2_with (go_at_call 127; refine (refFrom_w _ (by assumption) _).mono ?_; rintro _ _ ⟨rfl, rfl⟩)
  go_ret
  exact ⟨rfl, Still.drew _⟩
 | some r =>
  have hrun := run_float_arith (P := Tryz.prog) w .add 97 .f64 a b r h
  have hfit : Pl.Fits r := Ieee.Format.add_lt _ h
  have e : Pl.sum a b = Pl.canon r := by simp [Pl.sum, h]
  rw [e]
  clear e h
  go_enter Tryz.func124, Tryz.ntmps124
  go_wp2_with (go_at_call 127; refine (refFrom_w _ (by assumption) _).mono ?_; rintro _ _ ⟨rfl, rfl⟩)
  go_ret
  exact ⟨rfl, Still.refl _⟩

end Go.Proofs.YtcngllcifcpbkaaGreat
/-
 What each function on floats that the layers above call does: one text to import.
-/
/-
 One operation of a drawn region that only reads, in few words.
-/
namespace Go.Proofs.YtcngllcifcpbkaaGreat
open Go.RowKit

theorem sp1 {α : Type} {l : List α} {i : Nat} {a : α} : l.toArray.setIfInBounds i a = (l.set i a).toArray := List.setIfInBounds_toArray ..
theorem sp2 {α : Type} {x : α} {xs : List α} {a : α} : (x :: xs).set 0 a = a :: xs := List.set_cons_zero
theorem sp3 {α : Type} {x : α} {xs : List α} {i : Nat} {a : α} : (x :: xs).set (i + 1) a = x :: xs.set i a := List.set_cons_succ
theorem wpT {P : Program} {ops : Array Oper} {Q : Exit → Act → World → Prop} {md : Region.Mode} {S : World → Prop} (i : Nat) (oi : Oper) {v : Value} {fuel : Nat} {listed : Array Bool} {a a2 : Act} {w : World}
  (h : wpAnyH P md ops Q S fuel (listed.setIfInBounds i true) a2 w) (hi : ops[i]? = some oi := by rfl) (hs : Region.noSelect ops = true := by kernel_rfl) (hf : Region.free md ops listed i = true := by kernel_rfl) (hr : (Region.ready md ops listed).contains i = true := by kernel_rfl)
  (hQ : ∀ c a w, Q (.panic c) (a.put oi.dst v) w → Q (.panic c) a w := by exact fun _ _ _ h => h) (hw : Region.wanted oi (yielded ops a.tmps) = true := by rfl)
  (hy : ∀ w, S w → (execOp a.eval oi).run P w = .ok (.value v) w := by (intro w hSw; (try dsimp only at hSw); go_simp; try (with_reducible rfl))) (ha : a.put oi.dst v = a2 := by (first | (simp only [Act.put, sp1, sp2, sp3]; done) | (simp only [Act.put, sp1, sp2, sp3]; exact rfl) | exact rfl)) (hS : S w := by assumption) : wpAnyH P md ops Q S (fuel + 1) listed a w :=
 wpAnyH_take hi hs hf hr hQ (.inl ⟨hw, hy⟩) hS (ha ▸ h)
theorem wpU {P : Program} {ops : Array Oper} {Q : Exit → Act → World → Prop} {md : Region.Mode} {S : World → Prop} (i : Nat) (oi : Oper) {fuel : Nat} {listed : Array Bool} {a a2 : Act} {w : World}
  (h : wpAnyH P md ops Q S fuel (listed.setIfInBounds i true) a2 w) (hi : ops[i]? = some oi := by rfl) (hs : Region.noSelect ops = true := by kernel_rfl) (hf : Region.free md ops listed i = true := by kernel_rfl) (hr : (Region.ready md ops listed).contains i = true := by kernel_rfl)
  (hQ : ∀ c a w, Q (.panic c) (a.put oi.dst undef) w → Q (.panic c) a w := by exact fun _ _ _ h => h) (hw : Region.wanted oi (yielded ops a.tmps) = false := by rfl)
  (ha : a.put oi.dst undef = a2 := by (first | (simp only [Act.put, sp1, sp2, sp3]; done) | (simp only [Act.put, sp1, sp2, sp3]; exact rfl) | exact rfl)) (hS : S w := by assumption) : wpAnyH P md ops Q S (fuel + 1) listed a w :=
 wpAnyH_take hi hs hf hr hQ (.inr ⟨hw, rfl⟩) hS (ha ▸ h)
theorem wpR {P : Program} {ops : Array Oper} {Q : Exit → Act → World → Prop} {md : Region.Mode} {S : World → Prop} (i : Nat) (o : Oper) {fuel : Nat} {listed : Array Bool} {a : Act} {w : World}
  (h : ∀ K : Act → World → Prop, Shut (∀ a w, S w → (S w → wpAnyH P md ops Q S fuel (listed.setIfInBounds i true) a w) → K a w) → if Region.wanted o (yielded ops a.tmps) = true then Oper.wp P o a w K Q else K (a.put o.dst undef) w)
  (hr : Region.ready md ops listed = [i] := by kernel_rfl) (ho : ops[i]? = some o := by rfl) : wpAnyH P md ops Q S (fuel + 1) listed a w :=
 wpAnyH_ready hr (by simp) (AllReadyH.cons ho h AllReadyH.nil)
end Go.Proofs.YtcngllcifcpbkaaGreat
