/-
  law11's tells: of a table of just these tablets it is true.
-/
import Derived.Test.YtfhdodopjgfedaaGreatCMte
namespace Go.Proofs.YtfhdodopjgfedaaGreat
open Go.RowKit

set_option maxRecDepth 100000 in
set_option maxHeartbeats 4000000 in
theorem bookSame_yes (w : World) (g1 : Nat) (v1 : Value) (g2 : Nat) (v2 : Value) (xs : List Ptb) (h1 : TbL w g1 v1 xs) (h2 : TbL w g2 v2 xs) (hl : xs.length ≤ 1000) :
    Calls Tryz.prog 16 #[v1, v2] w fun e w' => e = .returned (.bool true) ∧ Moves [] w w' := by
  obtain ⟨ad1, n, cap1, rfl, hn, hc1, H1⟩ := h1.open
  obtain ⟨ad2, n2, cap2, rfl, hn2, hc2, H2⟩ := h2.open
  obtain rfl : n = n2 := hn.out.trans hn2.out.symm
  have HB : n ≤ 1000 := by rw [hn.out]; exact hl
  clear h1 h2 hn2
  go_enter Tryz.func16, Tryz.ntmps16
  go_wp2_with fail
  go_loopw [5] (fun vi wr => ∃ i : Nat, i ≤ n ∧ vi = .int .i64 (i : Nat) ∧ Moves [] w wr) (fun vi _ => n - (intOf vi).toNat)
  case atStart => exact ⟨0, Nat.zero_le _, rfl, Moves.refl _ _⟩
  case round =>
    obtain ⟨i, hin, rfl, mr⟩ := hrel
    by_cases hlt : i < n
    · have hk3 : (i : Int) < n := by omega
      obtain ⟨x, hx⟩ : ∃ x, xs[i]? = some x := ⟨_, List.getElem?_eq_getElem (by have := hn.out; omega)⟩
      obtain ⟨off1, rfl, x0, x1, x2, x3⟩ := H1.out.at hx
      obtain ⟨off2, rfl, y0, y1, y2, y3⟩ := H2.out.at hx
      replace x0 := mr.cell x0
      replace x1 := mr.cell x1
      replace x2 := mr.cell x2
      replace x3 := mr.cell x3
      replace y0 := mr.cell y0
      replace y1 := mr.cell y1
      replace y2 := mr.cell y2
      replace y3 := mr.cell y3
      clear hx
      go_wp2_with fail
      go_region_held3 (fun w' => w'.cell? ⟨g1, off1 + i * 4, none⟩ = some (.string x.lo) ∧ w'.cell? ⟨g1, off1 + i * 4 + 1, none⟩ = some (.string x.hi) ∧ w'.cell? ⟨g1, off1 + i * 4 + 2, none⟩ = some (.int .i64 x.g) ∧ w'.cell? ⟨g1, off1 + i * 4 + 3, none⟩ = some (.int .i64 x.n) ∧ w'.cell? ⟨g2, off2 + i * 4, none⟩ = some (.string x.lo) ∧ w'.cell? ⟨g2, off2 + i * 4 + 1, none⟩ = some (.string x.hi) ∧ w'.cell? ⟨g2, off2 + i * 4 + 2, none⟩ = some (.int .i64 x.g) ∧ w'.cell? ⟨g2, off2 + i * 4 + 3, none⟩ = some (.int .i64 x.n)) (first | (with_reducible exact ⟨x0, x1, x2, x3, y0, y1, y2, y3⟩) | (go_keep; done)) (fail)
      go_wp2_with fail
      go_roundw
      case rel => exact ⟨i + 1, by omega, by go_num, mr.drew⟩
      case measure => simp [intOf]; omega
    · obtain rfl : i = n := by omega
      have hk3 : ¬ (i : Int) < i := by omega
      go_wp2_with fail
      go_ret
      exact ⟨rfl, mr⟩

end Go.Proofs.YtfhdodopjgfedaaGreat
