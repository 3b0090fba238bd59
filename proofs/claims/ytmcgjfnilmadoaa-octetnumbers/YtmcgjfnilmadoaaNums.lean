/-
  OctetNumbers is true: chapter 2's runs, a row cut off at each place, texts at each bound.
-/
import Derived.Test.YtmcgjfnilmadoaaNums1
import Derived.ProofKit
import Derived.OpenShut
import Derived.ChangeOld
namespace Go.Proofs.Ytmcgjfnilmadoaa
open Go.RowKit
theorem lt_wr {wr w3 : World} {a : Option Nat} {bs : List Nat} (h : Wr w3 wr.heap.size a bs) : wr.heap.size < w3.heap.size := by
  obtain ⟨v, hp, _⟩ := h
  exact lt_of_block hp

theorem long_ok {w : World} {v : Value} {Z : List Nat} (h : Own w v ([] ++ be 4 Z.length ++ Z)) (hl : Z.length = 9) (ho : ∀ y ∈ Z, y < 256) : ∃ T, Own w v T ∧ (∀ y ∈ T, y < 256) ∧ T.length ≤ 1099511627776 := by
  refine ⟨_, h, fun y hy => ?_, ?_⟩
  · rw [List.nil_append] at hy
    rcases List.mem_append.1 hy with h1 | h1
    · exact mem_be h1
    · exact ho y h1
  · rw [List.length_append, List.length_append, be_length]
    simp
    omega

set_option maxRecDepth 100000 in
set_option maxHeartbeats 8000000 in
theorem numbers_w (w : World) : Calls Try.prog 3 #[] w fun e w' => e = .returned (.bool true) ∧ Moves [] w w' := by
  obtain ⟨wF, hcv, hab, MF⟩ := abc_run w
  have hA := asks_six w.heap.size wF hab
  have hoct := encs_oct hA.octs 15
  have hsm := encs_length (six w.heap.size) 15
  obtain ⟨L, hL⟩ : ∃ L, Hid (L = six w.heap.size) := ⟨_, rfl⟩
  rw [← hL.out] at hA hoct hsm
  obtain ⟨E, hE⟩ : ∃ E, Hid (E = encs L 15) := ⟨_, rfl⟩
  rw [← hE.out] at hoct hsm
  have hEl : E.length ≤ 1000 := by omega
  clear hsm
  have M0 := MF.alloc (.cells #[.int .i64 1, .int .i64 0, .int .u64 7, .float .f64 0, .slice none 0 0, .int .i64 2, .int .i64 0, .int .u64 2147483648, .float .f64 0, .slice none 0 0, .int .i64 3, .int .i64 0, .int .u64 18446744073709551615, .float .f64 0, .slice none 0 0, .int .i64 4, .int .i64 0, .int .u64 0, .float .f64 13826050856027422720, .slice none 0 0, .int .i64 5, .int .i64 3, .int .u64 0, .float .f64 0, .slice (some ⟨w.heap.size, 0, none⟩) 3 3, .int .i64 5, .int .i64 (-1), .int .u64 0, .float .f64 0, .slice none 0 0] 26)
  go_enter Try.func3, Try.ntmps3
  go_wp2_with (go_at_call 6; refine (written_w _ L _ hA).mono ?_; rintro _ w1 ⟨v1, v2, rfl, h1, h2, m1, f1, f2⟩; rw [← hE.out] at h1 h2; have hs1 := run_str h1.isB hoct; have hs2 := run_str h2.isB hoct; have hA1 := hA.moves m1; have M1 := M0.then m1; have h2B := h2.isB; obtain ⟨ad2, len2, cap2, rfl, hl2, hc2, _⟩ := h2B)
  have hx0 : Hid (Own w1 (.slice ad2 len2 cap2) E) := h2
  have hA2 : Hid (Asks w1 (.slice (some ⟨wF.heap.size, 0, none⟩) 6 6) L) := hA1
  have HM : Hid (Moves [] w w1) := M1
  clear hA hA1 M0 M1 m1 hs1 hs2 hcv h1 f1 h2
  go_loopw [5] (fun i wr => ∃ k : Nat, k ≤ len2 + 1 ∧ i = .int .i64 k ∧ Moves [] w1 wr) (fun i _ => len2 + 1 - (intOf i).toNat)
  case atStart => exact ⟨0, Nat.zero_le _, rfl, Moves.refl _ _⟩
  case round =>
    obtain ⟨k, hk, rfl, mr⟩ := hrel
    by_cases hlt : k ≤ len2
    · have hk3 : (k : Int) ≤ (len2 : Int) := by omega
      have hk4 : (k : Int) ≤ (cap2 : Int) := by omega
      have hAr := hA2.out.moves mr
      have hxr := hx0.out.moves mr (by simp)
      have hcut := isB_take hxr.isB k hlt
      have hco : ∀ y ∈ E.take k, y < 256 := fun y hy => hoct y (List.mem_of_mem_take hy)
      have hcl : (E.take k).length ≤ 1099511627776 := by rw [List.length_take]; omega
      obtain ⟨T, hT⟩ : ∃ T, Hid (T = E.take k) := ⟨_, rfl⟩
      rw [← hT.out] at hcut hco hcl
      have h0o : ∀ y ∈ E ++ [0], y < 256 := fun y hy => by rcases List.mem_append.1 hy with h | h; exact hoct y h; simp at h; omega
      have h0l : (E ++ [0]).length ≤ 1099511627776 := by rw [List.length_append]; simp; omega
      go_wp2_with (first | (go_at_call_of 7 vz; refine (reads_w _ _ _ (E ++ [0]) L _ hz.isB h0o h0l (hA4.out.moves Mz)).mono ?_; rintro _ w7 ⟨rfl, m7⟩) | (go_at_call 7; refine (reads_w _ _ _ T L _ hcut hco hcl hAr).mono ?_; rintro _ w3 ⟨rfl, m3⟩; have ma3 : Moves [] w3 (w3.alloc (.cells #[] 5)) := (Moves.refl _ _).alloc _; have hx3 := (hxr.moves m3 (by simp)).isB.moves ma3 (by simp); have hA4 : Hid (Asks w3 (.slice (some ⟨wF.heap.size, 0, none⟩) 6 6) L) := hAr.moves m3) | (at_builtin; refine append_law (.tmp 45) (.tmp 46) rfl _ _ [] E _ rfl rfl (by rfl) (own_empty w3) hx3 (by simp; omega) ?_; intro vy w4 hy m4 hat4; rw [List.nil_append] at hy; have hAp4 := appended ma3 (fresh_empty w3) m4 hat4; have hy5 := hy.moves ((Moves.refl [] _).alloc (.cells #[.int .u8 0] 5)) (by simp); have hn5 := has_new w4 0) | (at_builtin; refine append_law (.tmp 47) (.tmp 48) rfl _ _ E [0] _ rfl rfl (by rfl) hy5 hn5 (by simp; omega) ?_; intro vz w5 hz m5 hat5; have hAp5 := appended (hAp4.1.alloc (.cells #[.int .u8 0] 5)) hAp4.2 m5 hat5; have Mz := hAp5.1))
      go_roundw
      case rel => exact ⟨k + 1, by omega, by go_num, ((mr.then m3).then Mz).then m7⟩
      case measure => simp [intOf]; omega
    · have hk3 : ¬ (k : Int) ≤ (len2 : Int) := by omega
      have hbig : (1048576 : Int) < 1048577 := by omega
      go_wp2_with (first | (go_at_call 8; refine (new_w _).mono ?_; rintro _ w3 ⟨rfl, hW3, m3⟩) | (at_make; refine make_law (.const (.int .i64 1048577)) 1048577 _ rfl (by rfl) rfl (by rfl) (by omega) ?_; intro w4 Z4 hZ4 hZ4o hO4 m4; have hW4 := hW3.moves m4 (by simp) (by simp)) | (go_at_call 9; revert hO4; intro hO4; refine (wtext_long_w _ _ _ _ _ (by omega)).mono ?_; rintro _ _ ⟨rfl, rfl⟩) | (go_at_call 10; refine (done_w _ none [] _ hW4 (by simp)).mono ?_; rintro _ w5 ⟨v5, rfl, ho5, m5, f5⟩; have hi5 := ho5.isB; obtain ⟨ad5, n5, cap5, rfl, hn5, _⟩ := hi5; obtain rfl : n5 = 0 := hn5.symm; have hW5 := hW4.moves m5 (by simp) (by simp); have hlt3 : wr.heap.size < w3.heap.size := lt_wr hW3) | (at_make; refine make_law (.const (.int .i64 1048576)) 1048576 _ rfl (by rfl) rfl (by rfl) (by omega) ?_; intro w6 Z6 hZ6 hZ6o hO6 m6; have hW6 := hW5.moves m6 (by simp) (by simp)))
      have hg6 : w5.heap.size ∉ wr.heap.size :: (none : Option Nat).toList := by
        have h1 := m4.size
        have h2 := m5.size
        simp
        omega
      go_wp2_with (first | (go_at_call 9; refine (wtext_any _ none [] Z6 w5.heap.size _ _ hW6 (by simp) hO6.isB (by omega) hg6).mono ?_; rintro _ w7 ⟨rfl, a7, hw7⟩; have M7 := hw7.2.1; clear hw7 hO6 hW6 hW5 hW4 hO4) | (at_make; refine make_law (.const (.int .i64 9)) 9 _ rfl (by rfl) rfl (by rfl) (by omega) ?_; intro w8 Z8 hZ8 hZ8o hO8 m8) | (go_at_call 11; refine (rtext_w _ 0 [] _ _ Z8 _ (isB_nil _ _) hO8.isB (by simp) (by omega)).mono ?_; rintro _ w9 ⟨v9, rfl, ho9, m9, f9⟩; have hT9 := long_ok ho9 hZ8 hZ8o; obtain ⟨T, hT, hTo, hTl⟩ := hT9; have ma9 : Moves [] w9 (w9.alloc (.cells #[.int .i64 5, .int .i64 8, .int .u64 0, .float .f64 0, .slice none 0 0] 26)) := (Moves.refl _ _).alloc _))
      have hq1 := asks_bare w9 5 8
      have hq2 := (hT.moves ma9 (by simp)).isB
      have hc1 := reads_w v9 _ _ T _ _ hq2 hTo hTl hq1
      refine hc1.mono ?_
      clear hc1 hq1 hq2
      rintro _ w10 ⟨rfl, m10⟩
      have ma10 : Moves [] w10 (w10.alloc (.cells #[.int .i64 5, .int .i64 9, .int .u64 0, .float .f64 0, .slice none 0 0] 26)) := (Moves.refl _ _).alloc _
      have hq3 := asks_bare w10 5 9
      have hq4 := (hT.moves ((ma9.then m10).then ma10) (by simp)).isB
      have hc2 := reads_w v9 _ _ T _ _ hq4 hTo hTl hq3
      go_wp2_with fail
      refine hc2.mono ?_
      clear hc2 hq3 hq4
      rintro _ w11 ⟨rfl, m11⟩
      have ma11 : Moves [] w11 ((w11.alloc (.cells #[.int .u8 127, .int .u8 240, .int .u8 0, .int .u8 0, .int .u8 0, .int .u8 0, .int .u8 0, .int .u8 1] 5)).alloc (.cells #[.int .i64 4, .int .i64 0, .int .u64 0, .float .f64 0, .slice none 0 0] 26)) := ((Moves.refl _ _).alloc _).alloc _
      have hq5 := asks_bare (w11.alloc (.cells #[.int .u8 127, .int .u8 240, .int .u8 0, .int .u8 0, .int .u8 0, .int .u8 0, .int .u8 0, .int .u8 1] 5)) 4 0
      have e5 : (w11.alloc (.cells #[.int .u8 127, .int .u8 240, .int .u8 0, .int .u8 0, .int .u8 0, .int .u8 0, .int .u8 0, .int .u8 1] 5)).heap.size = w11.heap.size + 1 := by simp
      rw [e5] at hq5
      have hq6 := (has_eight w11).moves ((Moves.refl [] _).alloc (.cells #[.int .i64 4, .int .i64 0, .int .u64 0, .float .f64 0, .slice none 0 0] 26)) (by simp)
      have hc3 := reads_w _ _ _ [127, 240, 0, 0, 0, 0, 0, 1] _ _ hq6 (by decide) (by simp) hq5
      go_wp2_with fail
      refine hc3.mono ?_
      clear hc3 hq5 hq6
      rintro _ w12 ⟨rfl, m12⟩
      have ma12 : Moves [] w12 (w12.alloc (.cells #[.int .i64 6, .int .i64 0, .int .u64 0, .float .f64 0, .slice none 0 0] 26)) := (Moves.refl _ _).alloc _
      have hq7 := asks_bare w12 6 0
      have hc4 := reads_w (.slice none 0 0) _ 0 [] _ _ (isB_nil _ _) (by simp) (by simp) hq7
      go_wp2_with fail
      refine hc4.mono ?_
      clear hc4 hq7
      rintro _ w13 ⟨rfl, m13⟩
      go_wp2_with fail
      refine (read_nil _ 0 [] _ (isB_nil _ _)).mono ?_
      rintro _ _ ⟨rfl, rfl⟩
      go_wp2_with fail
      refine (read_nil _ _ [1] _ (has_new w13 1)).mono ?_
      rintro _ _ ⟨rfl, rfl⟩
      go_wp2_with fail
      refine (known_w _).mono ?_
      rintro _ w15 ⟨rfl, m15⟩
      go_wp2_with fail
      go_ret
      have hsz := Nat.le_trans HM.out.size mr.size
      have b1 := (((((HM.out.then mr).then m3).then m4).then m5).then m6).trans M7 (fun y hy => .inr (by simp at hy; omega))
      have b2 := (((((b1.then m8).then m9).then ma9).then m10).then ma10).then m11
      exact ⟨rfl, (((((b2.then ma11).then m12).then ma12).then m13).alloc _).then m15⟩

open Go.ChangeShapes Go.WideShapes Go.ChangeAt
set_option linter.unusedVariables false
theorem nums_own : ownKnob Try.prog.godebug = none := by kernel_rfl
theorem nums_laidOut : laidOutB Try.prog = true := by kernel_rfl

set_option maxRecDepth 100000 in
theorem nums_lifted (os : Os) (started : os.Started) (H : Type) (enc : TypeId × Value → H) :
    ReturnsInHanded {} Try.checked os 3 .any (Rows.octetNumbersSpec.pre6 enc Try.prog Try.f3 Rows.octetNumbersRow.domain false) (Rows.octetNumbersSpec.post enc Try.prog Try.f3 false true false false) := by
  refine returnsInHanded_of_change (C := Try.checked) nums_own started (by kernel_rfl) Try.func3
    (ChangeSpec.witness6 (enc := enc) (C := Try.checked) false ⟨#[], #[], []⟩ 8 (by kernel_rfl) (by kernel_rfl) (by kernel_rfl) (by kernel_rfl)) ?_
  intro W base args ds gs before hval0 hW hcnd _
  have hW' := hW
  obtain ⟨p, q, hA0, hV, rfl, hfz, hnd⟩ := hW
  have hA : DataW.TrodAll enc Try.prog W 0 (fun _ => true) true Try.f3.params.toList args.toList ds p := hA0
  rw [Try.params3] at hA
  obtain ⟨hargs, rfl, rfl⟩ := trodAll_nil hA
  obtain rfl : args = #[] := by cases args; simp_all
  obtain ⟨rfl, rfl⟩ := trodVars_none hV
  clear hA0 hval0
  refine (numbers_w W).mono fun e W' ⟨he, mv⟩ => ?_
  subst he
  have bel : Below W.heap.size W W' := mv.below (by simp) (Nat.le_refl _)
  exact ⟨_, rfl, _, _, _, [], _, [], hW', trodAll_mk1 (shut_bool Try.underlying4 _), trodAll_mk0, rfl, bel.frame _, fun h => by cases h⟩

theorem OctetNumbers_holds : Rows.OctetNumbersSaid :=
  OpenClaim.holds_of_wide 3 Try.f3 rfl rfl rfl rfl rfl rfl rfl ⟨rfl, rfl, rfl, rfl, rfl⟩ rfl rfl rfl rfl rfl (by kernel_rfl) Try.func3 (by kernel_rfl)
    (of_decide_eq_true (by kernel_rfl)) (by unfold Func.isWrapper; first | (rw [if_pos (by decide +kernel)]; kernel_rfl) | (rw [if_neg (by decide +kernel)]; exact ⟨rfl, rfl⟩))
    (fun os started H enc _ => nums_lifted os started H enc)

#print axioms OctetNumbers_holds
end Go.Proofs.Ytmcgjfnilmadoaa
