/-
  Package meta: Same of tables with the same tablets.
-/
import Derived.Test.YtbjbljkcodkebaaCMtg
namespace Go.Proofs.Ytbjbljkcodkebaa
open Go.RowKit

set_option maxRecDepth 100000 in
set_option maxHeartbeats 4000000 in
theorem mtEqual_yes (w : World) (g1 : Nat) (v1 : Value) (g2 : Nat) (v2 : Value) (xs : List Ptb) (h1 : TbL w g1 v1 xs) (h2 : TbL w g2 v2 xs) (hl : xs.length ≤ 1000) :
    Calls Try.prog 62 #[v1, v2] w fun e w' => e = .returned (.bool true) ∧ Moves [] w w' := by
  obtain ⟨ad1, n, cap1, rfl, hn, hc1, H1⟩ := h1.open
  obtain ⟨ad2, n2, cap2, rfl, hn2, hc2, H2⟩ := h2.open
  obtain rfl : n = n2 := hn.out.trans hn2.out.symm
  have HB : n ≤ 1000 := by rw [hn.out]; exact hl
  clear h1 h2 hn2
  go_enter Try.func62, Try.ntmps62
  go_wp2_with fail
  go_loopw [13] (fun vi wr => ∃ i : Nat, i ≤ n ∧ vi = .int .i64 (i : Nat) ∧ Moves [] w wr) (fun vi _ => n - (intOf vi).toNat)
  case atStart => exact ⟨0, Nat.zero_le _, rfl, Moves.refl _ _⟩
  case round =>
    obtain ⟨i, hin, rfl, mr⟩ := hrel
    by_cases hlt : i < n
    · have hk3 : (i : Int) < n := by omega
      obtain ⟨x, hx⟩ : ∃ x, xs[i]? = some x := ⟨_, List.getElem?_eq_getElem (by have := hn.out; omega)⟩
      obtain ⟨off1, rfl, x0, x1, x2, x3⟩ := H1.out.at hx
      obtain ⟨off2, rfl, y0, y1, y2, y3⟩ := H2.out.at hx
      replace x0 := mr.cell x0
      replace x1 := mr.cell x1
      replace x2 := mr.cell x2
      replace x3 := mr.cell x3
      replace y0 := mr.cell y0
      replace y1 := mr.cell y1
      replace y2 := mr.cell y2
      replace y3 := mr.cell y3
      clear hx
      go_wp2_with fail
      go_region_held3 (fun w' => w'.cell? ⟨g1, off1 + i * 4, none⟩ = some (.string x.lo) ∧ w'.cell? ⟨g1, off1 + i * 4 + 1, none⟩ = some (.string x.hi) ∧ w'.cell? ⟨g1, off1 + i * 4 + 2, none⟩ = some (.int .i64 x.g) ∧ w'.cell? ⟨g1, off1 + i * 4 + 3, none⟩ = some (.int .i64 x.n) ∧ w'.cell? ⟨g2, off2 + i * 4, none⟩ = some (.string x.lo) ∧ w'.cell? ⟨g2, off2 + i * 4 + 1, none⟩ = some (.string x.hi) ∧ w'.cell? ⟨g2, off2 + i * 4 + 2, none⟩ = some (.int .i64 x.g) ∧ w'.cell? ⟨g2, off2 + i * 4 + 3, none⟩ = some (.int .i64 x.n)) (first | (with_reducible exact ⟨x0, x1, x2, x3, y0, y1, y2, y3⟩) | (go_keep; done)) (fail)
      go_wp2_with fail
      go_roundw
      case rel => exact ⟨i + 1, by omega, by go_num, mr.drew⟩
      case measure => simp [intOf]; omega
    · obtain rfl : i = n := by omega
      have hk3 : ¬ (i : Int) < i := by omega
      go_wp2_with fail
      go_ret
      exact ⟨rfl, mr⟩

set_option maxRecDepth 100000 in
set_option maxHeartbeats 4000000 in
theorem mtSame_yes (w : World) (p q : Nat) (xs : List Ptb) (h1 : MtIs w p xs) (h2 : MtIs w q xs) (hne : xs ≠ []) (hl : xs.length ≤ 1000) :
    Calls Try.prog 34 #[.pointer (some ⟨p, 0, none⟩), .pointer (some ⟨q, 0, none⟩)] w fun e w' => e = .returned (.bool true) ∧ Moves [] w w' := by
  have hpe : ∀ w1 : World, (binOp .neq 28 (.pointer (some ⟨p, 0, none⟩)) (.pointer none)).run Try.prog w1 = .ok (.bool true) w1 := by intro w1; kernel_rfl
  have hqe : ∀ w1 : World, (binOp .neq 28 (.pointer (some ⟨q, 0, none⟩)) (.pointer none)).run Try.prog w1 = .ok (.bool true) w1 := by intro w1; kernel_rfl
  have ha := mtAll_w w p xs h1 hne hl
  have hb := fun w1 (m : Moves [] w w1) => mtAll_w w1 q xs (h2.moves0 m) hne hl
  clear h1 h2
  go_enter Try.func34, Try.ntmps34
  go_wp2_with fail
  refine ha.mono ?_
  rintro _ w1 ⟨v1, rfl, hO1, hF1, m1⟩
  obtain ⟨g1, hT1, hg1⟩ := hO1.ex hF1
  obtain ⟨ad1, n1, cap1, rfl, hn1, hc1, HT1⟩ := hT1.open
  clear hT1 hO1 hF1
  go_wp2_with fail
  refine (hb w1 m1).mono ?_
  rintro _ w2 ⟨v2, rfl, hO2, hF2, m2⟩
  obtain ⟨g2, hT2, hg2⟩ := hO2.ex hF2
  obtain ⟨ad2, n2, cap2, rfl, hn2, hc2, HT2⟩ := hT2.open
  clear hT2 hO2 hF2
  go_wp2_with fail
  refine (mtEqual_yes w2 g1 _ g2 _ xs (HT1.out.moves m2 (by simp)) HT2.out hl).mono ?_
  rintro _ w3 ⟨rfl, m3⟩
  go_wp2_with fail
  go_ret
  exact ⟨rfl, (m1.then m2).then m3⟩
end Go.Proofs.Ytbjbljkcodkebaa
