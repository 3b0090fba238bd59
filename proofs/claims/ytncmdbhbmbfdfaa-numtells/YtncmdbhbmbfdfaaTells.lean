/-
  Proved: NumTells returns true for every two words, every two floats, every two drawn numbers and every slice of floats, and its arguments read as before. No condition.
-/
import Derived.Test.YtncmdbhbmbfdfaaAppend
import Derived.ProofKit
import Derived.OpenShut
import Derived.ChangeOld
import Derived.Deep.Slices
namespace Go.Proofs.Ytncmdbhbmbfdfaa
open Go.RowKit

set_option maxHeartbeats 1000000 in
theorem tells_short_w (A B x y : Nat) (hA : Pl.Fits A) (hB : Pl.Fits B) (hx : Pl.Fits x) (hy : Pl.Fits y) (n m : Int) (a : Option Addr) (len cap : Nat) (zs : List Nat) (w : World) (hl : IsFl w a len cap zs) (hz : AllFit zs) (h12 : len ≤ 12) :
    Calls Try.prog 4 #[.int .u64 A, .int .u64 B, .float .f64 x, .float .f64 y, .int .i64 n, .int .i64 m, .slice a len cap] w fun e w' => e = .returned (.bool true) ∧ Below w.heap.size w w' := by
  have i12 : (len : Int) ≤ 12 := by omega
  have hbel : Below w.heap.size w w := Below.refl _ _
  go_enter Try.func4, Try.ntmps4
  go_wp2_with (first
    | (go_at_call 13; revert hp; intro hp; refine (float_w _ _ (by assumption) _).mono ?_; rintro _ _ ⟨q, hq, rfl, rfl⟩)
    | (go_at_call 13; refine (float_w _ _ (by assumption) _).mono ?_; rintro _ _ ⟨p, hp, rfl, rfl⟩)
    | (go_at_call 10; refine (two_w _ _ (by assumption) (by assumption) _).mono ?_; rintro _ _ ⟨rfl, hs⟩; replace hl := hl.still hs; replace hbel := hbel.trans (hs.below _); clear hs)
    | (go_at_call 11; refine (lists_any_w _ _ _ _ _ (by assumption)).mono ?_; rintro _ _ ⟨rfl, hs⟩; replace hl := hl.still hs; replace hbel := hbel.trans (hs.below _); clear hs)
    | (at_builtin; refine append_two _ _ rfl _ _ _ _ _ _ _ rfl rfl rfl hl h12 ?_; intro g c5 w5 hc5 hf5 hb5; replace hbel := hbel.trans (hb5.mono hbel.size); replace hl : IsFl w5 (some ⟨g, 0, none⟩) (2 + len) c5 (p :: q :: zs) := .inr (.inr ⟨g, 0, rfl, by omega, hc5, by omega, hf5, fits_cons hp hq hz⟩); clear hc5 hf5 hb5)
    | (go_at_call 16; refine (numFrom_w _ _).mono ?_; rintro _ _ ⟨rfl, rfl⟩)
    | (go_at_call 17; refine (refFrom_w _ (by assumption) _).mono ?_; rintro _ _ ⟨rfl, rfl⟩)
    | (go_at_call 15; refine (bits_w _ _).mono ?_; rintro _ _ ⟨rfl, rfl⟩)
    | (go_at_call 12; refine (known_w _).mono ?_; rintro _ _ ⟨rfl, hs⟩; replace hbel := hbel.trans (hs.below _)))
  go_ret
  exact ⟨rfl, hbel⟩

set_option maxHeartbeats 1000000 in
theorem tells_long_w (A B x y : Nat) (hA : Pl.Fits A) (hB : Pl.Fits B) (hx : Pl.Fits x) (hy : Pl.Fits y) (n m : Int) (b off len cap : Nat) (zs : List Nat) (w : World) (hl : IsFl w (some ⟨b, off, none⟩) 12 cap zs) (hz : AllFit zs) (hcap : len ≤ cap) (h12 : 12 < len) :
    Calls Try.prog 4 #[.int .u64 A, .int .u64 B, .float .f64 x, .float .f64 y, .int .i64 n, .int .i64 m, .slice (some ⟨b, off, none⟩) len cap] w fun e w' => e = .returned (.bool true) ∧ Below w.heap.size w w' := by
  have i12 : (12 : Int) < (len : Int) := by omega
  have c12 : 12 ≤ cap := by omega
  have l12 : (12 : Nat) ≤ 12 := by omega
  have hbel : Below w.heap.size w w := Below.refl _ _
  go_enter Try.func4, Try.ntmps4
  go_wp2_with (first
    | (go_at_call 13; revert hp; intro hp; refine (float_w _ _ (by assumption) _).mono ?_; rintro _ _ ⟨q, hq, rfl, rfl⟩)
    | (go_at_call 13; refine (float_w _ _ (by assumption) _).mono ?_; rintro _ _ ⟨p, hp, rfl, rfl⟩)
    | (go_at_call 10; refine (two_w _ _ (by assumption) (by assumption) _).mono ?_; rintro _ _ ⟨rfl, hs⟩; replace hl := hl.still hs; replace hbel := hbel.trans (hs.below _); clear hs)
    | (go_at_call 11; refine (lists_any_w _ _ _ _ _ (by assumption)).mono ?_; rintro _ _ ⟨rfl, hs⟩; replace hl := hl.still hs; replace hbel := hbel.trans (hs.below _); clear hs)
    | (at_builtin; refine append_two _ _ rfl _ _ _ _ _ _ _ rfl rfl rfl hl l12 ?_; intro g c5 w5 hc5 hf5 hb5; replace hbel := hbel.trans (hb5.mono hbel.size); replace hl : IsFl w5 (some ⟨g, 0, none⟩) (2 + 12) c5 (p :: q :: zs) := .inr (.inr ⟨g, 0, rfl, by omega, hc5, by omega, hf5, fits_cons hp hq hz⟩); clear hc5 hf5 hb5)
    | (go_at_call 16; refine (numFrom_w _ _).mono ?_; rintro _ _ ⟨rfl, rfl⟩)
    | (go_at_call 17; refine (refFrom_w _ (by assumption) _).mono ?_; rintro _ _ ⟨rfl, rfl⟩)
    | (go_at_call 15; refine (bits_w _ _).mono ?_; rintro _ _ ⟨rfl, rfl⟩)
    | (go_at_call 12; refine (known_w _).mono ?_; rintro _ _ ⟨rfl, hs⟩; replace hbel := hbel.trans (hs.below _)))
  go_ret
  exact ⟨rfl, hbel⟩

theorem tells_nat_w (A B x y : Nat) (hA : Pl.Fits A) (hB : Pl.Fits B) (hx : Pl.Fits x) (hy : Pl.Fits y) (n m : Int) (a : Option Addr) (len cap : Nat) (zs : List Nat) (w : World) (hl : IsFl w a len cap zs) (hz : AllFit zs) :
    Calls Try.prog 4 #[.int .u64 A, .int .u64 B, .float .f64 x, .float .f64 y, .int .i64 n, .int .i64 m, .slice a len cap] w fun e w' => e = .returned (.bool true) ∧ Below w.heap.size w w' := by
  by_cases h12 : len ≤ 12
  · exact tells_short_w A B x y hA hB hx hy n m a len cap zs w hl hz h12
  · rcases hl with ⟨_, h0, _⟩ | ⟨_, _, h0⟩ | ⟨b, off, rfl, h1, h2, h3, h4, h5⟩
    · omega
    · omega
    · exact tells_long_w A B x y hA hB hx hy n m b off len cap zs w (.inr (.inr ⟨b, off, rfl, by omega, by omega, by omega, fun i hi => h4 i (by omega), h5⟩)) hz h2 (by omega)

/-- What an argument that is a slice of floats is, read as data. -/
theorem isFl_of_trod {H : Type} {enc : TypeId × Value → H} {W : World} {base : Nat} {spare : Nat → Bool} {held : Bool} {fuel : Nat} {a : Option Addr} {len cap : Nat} {x : DataW H × List MemPlace}
    (h : DataW.trod enc Try.prog W base spare held fuel 22 [.slice a len cap] = some x) : ∃ zs, AllFit zs ∧ IsFl W a len cap zs := by
  have nofit : AllFit [] := fun i => by unfold nth Pl.Fits; simp
  rcases Go.Deep.open_slice1 Try.underlying22 (by kernel_rfl) h with ⟨hcs, _⟩ | ⟨ad, l, c, m, n, V, D, Pls, hcs, _, hl, hm, hmm, _, hx⟩
  · simp at hcs
    obtain ⟨rfl, rfl, rfl⟩ := hcs
    exact ⟨[], nofit, .inl ⟨rfl, rfl, rfl⟩⟩
  · simp at hcs
    obtain ⟨rfl, rfl, rfl⟩ := hcs
    by_cases h0 : len = 0
    · exact ⟨[], nofit, .inr (.inl ⟨ad, rfl, h0⟩)⟩
    · have hlm : len ≤ m := by rw [hmm]; split <;> omega
      have each : ∀ i, i < len → ∃ b : Nat, Pl.Fits b ∧ V i = .float .f64 b := by
        intro i hi
        obtain ⟨_, hd⟩ := hx i (by omega)
        cases n with
        | zero => simp [DataW.trod] at hd
        | succ n =>
          simp only [DataW.trod, Try.underlying25] at hd
          cases hv : V i <;> rw [hv] at hd <;> simp at hd
          rename_i k b
          obtain ⟨⟨rfl, hwf⟩, _⟩ := hd
          exact ⟨b, Pl.fits_of_wf hwf, rfl⟩
      obtain ⟨f, hfv⟩ := Go.Deep.choose_lt each
      have hnth : ∀ i, i < len → nth ((List.range len).map f) i = f i := fun i hi => by simp [nth, hi]
      have hfit : AllFit ((List.range len).map f) := fun i => by
        by_cases hi : i < len
        · rw [hnth i hi]; exact (hfv i hi).1
        · have : nth ((List.range len).map f) i = 0 := by simp [nth, hi]
          rw [this]; exact fits_zero
      have c0 := (hx 0 (by omega)).1
      obtain ⟨b, off, spot⟩ := ad
      have hspot : spot = none := by simpa [Addr.add] using World.cell?_spot c0
      subst hspot
      refine ⟨(List.range len).map f, hfit, .inr (.inr ⟨b, off, rfl, by omega, hl, by unfold maxLen at hm; omega, fun i hi => ?_, hfit⟩)⟩
      have ci := (hx i (by omega)).1
      have e : (⟨b, off, none⟩ : Addr).add i = ⟨b, off + i, none⟩ := by unfold Addr.add; split <;> simp_all
      rw [e, (hfv i hi).2] at ci
      rw [hnth i hi]
      exact ci

theorem word_of_u64 {a : Int} (h : (Lit.int .u64 a).wf = true) : ∃ A : Nat, a = (A : Int) ∧ Pl.Fits A := by
  have : 0 ≤ a ∧ a ≤ 18446744073709551615 := by simpa [Lit.wf, IntKind.min, IntKind.max, IntKind.signed, IntKind.bits] using h
  exact ⟨a.toNat, by omega, by unfold Pl.Fits; omega⟩

theorem tells_any (a0 a1 : Int) (x y : Nat) (n m : Int) (a : Option Addr) (len cap : Nat) (zs : List Nat) (w : World) (w0 : (Lit.int .u64 a0).wf = true) (w1 : (Lit.int .u64 a1).wf = true) (w2 : (Lit.float .f64 x).wf = true) (w3 : (Lit.float .f64 y).wf = true) (hl : IsFl w a len cap zs) (hz : AllFit zs) :
    Calls Try.prog 4 #[.int .u64 a0, .int .u64 a1, .float .f64 x, .float .f64 y, .int .i64 n, .int .i64 m, .slice a len cap] w fun e w' => e = .returned (.bool true) ∧ Below w.heap.size w w' := by
  obtain ⟨A, rfl, hA⟩ := word_of_u64 w0
  obtain ⟨B, rfl, hB⟩ := word_of_u64 w1
  exact tells_nat_w A B x y hA hB (Pl.fits_of_wf w2) (Pl.fits_of_wf w3) n m a len cap zs w hl hz

open Go.ChangeShapes Go.WideShapes Go.ChangeAt
set_option linter.unusedVariables false
theorem tells_own : ownKnob Try.prog.godebug = none := by kernel_rfl
theorem tells_laidOut : laidOutB Try.prog = true := by kernel_rfl

set_option maxRecDepth 100000 in
theorem tells_lifted (os : Os) (started : os.Started) (H : Type) (enc : TypeId × Value → H) :
    ReturnsInHanded {} Try.checked os 4 .any (Rows.numTellsSpec.pre6 enc Try.prog Try.f4 Rows.numTellsRow.domain false) (Rows.numTellsSpec.post enc Try.prog Try.f4 false true false false) := by
  refine returnsInHanded_of_change (C := Try.checked) tells_own started (by kernel_rfl) Try.func4
    (ChangeSpec.witness6 (enc := enc) (C := Try.checked) false ⟨#[], #[.int .u64 0, .int .u64 0, .float .f64 0, .float .f64 0, .int .i64 0, .int .i64 0, .slice none 0 0], []⟩ 8 (by kernel_rfl) (by kernel_rfl) (by kernel_rfl) (by kernel_rfl)) ?_
  intro W base args ds gs before hval0 hW hcnd _
  have hval : ∀ (j : Nat) t v, Try.f4.params[j]? = some t → args[j]? = some v → Value.okWide Try.prog W .any base t v := hval0
  have hW' := hW
  obtain ⟨p, q, hA0, hV, rfl, hfz, hnd⟩ := hW
  have hA : DataW.TrodAll enc Try.prog W 0 (fun _ => true) true Try.f4.params.toList args.toList ds p := hA0
  rw [Try.params4] at hA hval
  obtain ⟨v0, vs0, d0, ds0, p0, q0, hargs, rfl, rfl, h0, r0⟩ := trodAll_cons hA
  obtain ⟨v1, vs1, d1, ds1, p1, q1, rfl, rfl, rfl, h1, r1⟩ := trodAll_cons r0
  obtain ⟨v2, vs2, d2, ds2, p2, q2, rfl, rfl, rfl, h2, r2⟩ := trodAll_cons r1
  obtain ⟨v3, vs3, d3, ds3, p3, q3, rfl, rfl, rfl, h3, r3⟩ := trodAll_cons r2
  obtain ⟨v4, vs4, d4, ds4, p4, q4, rfl, rfl, rfl, h4, r4⟩ := trodAll_cons r3
  obtain ⟨v5, vs5, d5, ds5, p5, q5, rfl, rfl, rfl, h5, r5⟩ := trodAll_cons r4
  obtain ⟨v6, vs6, d6, ds6, p6, q6, rfl, rfl, rfl, h6, r6⟩ := trodAll_cons r5
  obtain ⟨rfl, rfl, rfl⟩ := trodAll_nil r6
  obtain rfl : args = #[v0, v1, v2, v3, v4, v5, v6] := by cases args; simp_all
  obtain ⟨rfl, rfl⟩ := trodVars_none hV
  obtain ⟨a0, rfl, rfl, rfl, w0⟩ := open_int Try.underlying28 (hval 0 28 v0 rfl rfl) h0
  obtain ⟨a1, rfl, rfl, rfl, w1⟩ := open_int Try.underlying28 (hval 1 28 v1 rfl rfl) h1
  obtain ⟨a2, rfl, rfl, rfl, w2⟩ := open_float Try.underlying25 (hval 2 25 v2 rfl rfl) h2
  obtain ⟨a3, rfl, rfl, rfl, w3⟩ := open_float Try.underlying25 (hval 3 25 v3 rfl rfl) h3
  obtain ⟨a4, rfl, rfl, rfl, w4⟩ := open_int Try.underlying3 (hval 4 3 v4 rfl rfl) h4
  obtain ⟨a5, rfl, rfl, rfl, w5⟩ := open_int Try.underlying3 (hval 5 3 v5 rfl rfl) h5
  obtain ⟨a6, len6, cap6, rfl⟩ := okWide_slice Try.underlying22 (hval 6 22 v6 rfl rfl)
  have k6 := h6
  have lt6 : ∀ x ∈ p6, x.block < W.heap.size := by obtain ⟨m, hm⟩ := k6; exact DataW.trod_lt m _ _ _ hm
  obtain ⟨z6, f6, w6⟩ : ∃ zs, AllFit zs ∧ IsFl W a6 len6 cap6 zs := by
    obtain ⟨fuel, hf⟩ := h6
    exact isFl_of_trod (by simpa [Value.cells] using hf)
  clear hA0 hval0
  refine (tells_any a0 a1 a2 a3 a4 a5 a6 len6 cap6 z6 W w0 w1 w2 w3 w6 f6).mono fun e W' ⟨he, bel⟩ => ?_
  subst he
  exact ⟨_, rfl, _, _, _, [], _, [], hW', trodAll_mk1 (shut_bool Try.underlying4 _), (trodAll_cons_mk (shut_int Try.underlying28 w0) (trodAll_cons_mk (shut_int Try.underlying28 w1) (trodAll_cons_mk (shut_float Try.underlying25 w2) (trodAll_cons_mk (shut_float Try.underlying25 w3) (trodAll_cons_mk (shut_int Try.underlying3 w4) (trodAll_cons_mk (shut_int Try.underlying3 w5) (trodAll_cons_mk (Below.trod tells_laidOut (by kernel_rfl) (of_decide_eq_true (by kernel_rfl)) k6 bel lt6) trodAll_mk0))))))), rfl, bel.frame _, fun h => by cases h⟩

theorem NumTells_holds : Rows.NumTellsSaid :=
  OpenClaim.holds_of_wide 4 Try.f4 rfl rfl rfl rfl rfl rfl rfl ⟨rfl, rfl, rfl, rfl, rfl⟩ rfl rfl rfl rfl rfl (by kernel_rfl) Try.func4 (by kernel_rfl)
    (of_decide_eq_true (by kernel_rfl)) (by unfold Func.isWrapper; first | (rw [if_pos (by decide +kernel)]; kernel_rfl) | (rw [if_neg (by decide +kernel)]; exact ⟨rfl, rfl⟩))
    (fun os started H enc _ => tells_lifted os started H enc)
#print axioms NumTells_holds

end Go.Proofs.Ytncmdbhbmbfdfaa
