/-
  Calls, Calls2, Float, Ref, Floats, WpT: our texts of these names, laid into one.
-/
import Derived.Test.YtfhdodopjgfedaaGreatRows
import Derived.Test.YtfhdodopjgfedaaGreatCBaseA
import Derived.WalkKit
import Derived.WalkSpells
import Derived.WalkLawsBesides
import Derived.Deep.Draws
import Derived.OrdersHeld
import Derived.Deep.RegionHeld
/-
  What each function of package num that takes floats alone does, as plain arithmetic on words: for every word of 64 bits the call returns, and leaves memory as it was.
-/
namespace Go.Proofs.YtfhdodopjgfedaaGreat
open Go.RowKit

@[go_sem] theorem run_frombits (n : Int) (w : World) : (callFunc 190 #[.int .u64 n]).run Tryz.prog w = .ok (.value (.float .f64 n.toNat)) w := by kernel_rfl
@[go_sem] theorem run_tobits (n : Nat) (w : World) : (callFunc 191 #[.float .f64 n]).run Tryz.prog w = .ok (.value (.int .u64 n)) w := by kernel_rfl
@[go_sem] theorem run_negfloat (n : Nat) (w : World) : (Op.unary .neg (.float .f64 n)).run Tryz.prog w = .ok (.float .f64 (n ^^^ 9223372036854775808)) w := rfl

theorem isNaN_w (a : Nat) (w : World) :
    Calls Tryz.prog 223 #[.float .f64 a] w fun e w' => e = .returned (.bool (Pl.isNan a)) ∧ w = w' := by
  go_enter Tryz.func223, Tryz.ntmps223
  go_wp2
  go_ret
  exact ⟨by rw [← Pl.order_self]; rfl, rfl⟩

theorem canon_w (a : Nat) (w : World) :
    Calls Tryz.prog 222 #[.float .f64 a] w fun e w' => e = .returned (.float .f64 (Pl.canon a)) ∧ w = w' := by
  cases h : Pl.isNan a
  · have e : Pl.canon a = a := by simp [Pl.canon, h]
    rw [e]
    go_enter Tryz.func222, Tryz.ntmps222
    go_wp2_with (go_at_call 223; refine (isNaN_w _ _).mono ?_; rintro _ _ ⟨rfl, rfl⟩)
    all_goals (go_ret; exact ⟨rfl, rfl⟩)
  · have e : Pl.canon a = 9221120237041090561 := by simp [Pl.canon, h]
    rw [e]
    clear e
    go_enter Tryz.func222, Tryz.ntmps222
    go_wp2_with (go_at_call 223; refine (isNaN_w _ _).mono ?_; rintro _ _ ⟨rfl, rfl⟩)
    all_goals (go_ret; exact ⟨rfl, rfl⟩)

theorem numBits_w (a : Nat) (w : World) :
    Calls Tryz.prog 217 #[.float .f64 a] w fun e w' => e = .returned (.int .u64 (Pl.canon a)) ∧ w = w' := by
  go_enter Tryz.func217, Tryz.ntmps217
  go_wp2_with (go_at_call 222; refine (canon_w _ _).mono ?_; rintro _ _ ⟨rfl, rfl⟩)
  go_ret
  exact ⟨rfl, rfl⟩

theorem numFrom_w (a : Nat) (w : World) :
    Calls Tryz.prog 216 #[.int .u64 a] w fun e w' => e = .returned (.float .f64 (Pl.canon a)) ∧ w = w' := by
  go_enter Tryz.func216, Tryz.ntmps216
  go_wp2_with (go_at_call 222; refine (canon_w _ _).mono ?_; rintro _ _ ⟨rfl, rfl⟩)
  go_ret
  exact ⟨rfl, rfl⟩

end Go.Proofs.YtfhdodopjgfedaaGreat
/-
  What Class, math's constants, the law's own 'known' and the drawn float do: for every word of 64 bits the call returns, and leaves memory as it was.
-/
namespace Go.Proofs.YtfhdodopjgfedaaGreat
open Go.RowKit

theorem fits_zero : Pl.Fits 0 := by unfold Pl.Fits; omega
end Go.Proofs.YtfhdodopjgfedaaGreat
/-
  The drawn float: for every number and every word of 64 bits the call returns a word of 64 bits, and leaves memory as it was.
-/
namespace Go.Proofs.YtfhdodopjgfedaaGreat
open Go.RowKit

theorem tmod_bounds (n : Int) : -1048577 < n.tmod 1048577 ∧ n.tmod 1048577 < 1048577 := by
  rcases Int.le_total 0 n with h | h
  · rw [Int.tmod_eq_emod_of_nonneg h]; omega
  · have e : n.tmod 1048577 = -((-n).tmod 1048577) := by rw [Int.neg_tmod, Int.neg_neg]
    rw [e, Int.tmod_eq_emod_of_nonneg (by omega)]; omega

end Go.Proofs.YtfhdodopjgfedaaGreat
/-
  What the document's own answer (the reference of layer 1) does: for every word of 64 bits it returns what package num's functions are proved to return, and leaves memory as it was.
-/
namespace Go.Proofs.YtfhdodopjgfedaaGreat
open Go.RowKit

namespace Pl
end Pl

end Go.Proofs.YtfhdodopjgfedaaGreat
/-
  What each function on floats that the layers above call does: one text to import.
-/
/-
  One operation of a drawn region that only reads, in few words.
-/
namespace Go.Proofs.YtfhdodopjgfedaaGreat
open Go.RowKit

theorem sp1 {α : Type} {l : List α} {i : Nat} {a : α} : l.toArray.setIfInBounds i a = (l.set i a).toArray := List.setIfInBounds_toArray ..
theorem sp2 {α : Type} {x : α} {xs : List α} {a : α} : (x :: xs).set 0 a = a :: xs := List.set_cons_zero
theorem sp3 {α : Type} {x : α} {xs : List α} {i : Nat} {a : α} : (x :: xs).set (i + 1) a = x :: xs.set i a := List.set_cons_succ
theorem wpT {P : Program} {ops : Array Oper} {Q : Exit → Act → World → Prop} {md : Region.Mode} {S : World → Prop} (i : Nat) (oi : Oper) {v : Value} {fuel : Nat} {listed : Array Bool} {a a2 : Act} {w : World}
    (h : wpAnyH P md ops Q S fuel (listed.setIfInBounds i true) a2 w) (hi : ops[i]? = some oi := by rfl) (hs : Region.noSelect ops = true := by kernel_rfl) (hf : Region.free md ops listed i = true := by kernel_rfl) (hr : (Region.ready md ops listed).contains i = true := by kernel_rfl)
    (hQ : ∀ c a w, Q (.panic c) (a.put oi.dst v) w → Q (.panic c) a w := by exact fun _ _ _ h => h) (hw : Region.wanted oi (yielded ops a.tmps) = true := by rfl)
    (hy : ∀ w, S w → (execOp a.eval oi).run P w = .ok (.value v) w := by (intro w hSw; (try dsimp only at hSw); go_simp; try (with_reducible rfl))) (ha : a.put oi.dst v = a2 := by (first | (simp only [Act.put, sp1, sp2, sp3]; done) | (simp only [Act.put, sp1, sp2, sp3]; exact rfl) | exact rfl)) (hS : S w := by assumption) : wpAnyH P md ops Q S (fuel + 1) listed a w :=
  wpAnyH_take hi hs hf hr hQ (.inl ⟨hw, hy⟩) hS (ha ▸ h)
theorem wpU {P : Program} {ops : Array Oper} {Q : Exit → Act → World → Prop} {md : Region.Mode} {S : World → Prop} (i : Nat) (oi : Oper) {fuel : Nat} {listed : Array Bool} {a a2 : Act} {w : World}
    (h : wpAnyH P md ops Q S fuel (listed.setIfInBounds i true) a2 w) (hi : ops[i]? = some oi := by rfl) (hs : Region.noSelect ops = true := by kernel_rfl) (hf : Region.free md ops listed i = true := by kernel_rfl) (hr : (Region.ready md ops listed).contains i = true := by kernel_rfl)
    (hQ : ∀ c a w, Q (.panic c) (a.put oi.dst undef) w → Q (.panic c) a w := by exact fun _ _ _ h => h) (hw : Region.wanted oi (yielded ops a.tmps) = false := by rfl)
    (ha : a.put oi.dst undef = a2 := by (first | (simp only [Act.put, sp1, sp2, sp3]; done) | (simp only [Act.put, sp1, sp2, sp3]; exact rfl) | exact rfl)) (hS : S w := by assumption) : wpAnyH P md ops Q S (fuel + 1) listed a w :=
  wpAnyH_take hi hs hf hr hQ (.inr ⟨hw, rfl⟩) hS (ha ▸ h)
theorem wpR {P : Program} {ops : Array Oper} {Q : Exit → Act → World → Prop} {md : Region.Mode} {S : World → Prop} (i : Nat) (o : Oper) {fuel : Nat} {listed : Array Bool} {a : Act} {w : World}
    (h : ∀ K : Act → World → Prop, Shut (∀ a w, S w → (S w → wpAnyH P md ops Q S fuel (listed.setIfInBounds i true) a w) → K a w) → if Region.wanted o (yielded ops a.tmps) = true then Oper.wp P o a w K Q else K (a.put o.dst undef) w)
    (hr : Region.ready md ops listed = [i] := by kernel_rfl) (ho : ops[i]? = some o := by rfl) : wpAnyH P md ops Q S (fuel + 1) listed a w :=
  wpAnyH_ready hr (by simp) (AllReadyH.cons ho h AllReadyH.nil)
end Go.Proofs.YtfhdodopjgfedaaGreat
