/-
  Open0, Kp0: our texts of these names, laid into one.
-/
import Derived.Test.YtfhdodopjgfedaaGreatCBaseC
import Derived.Deep.Slices
import Derived.Deep.Fields
import Derived.ChangeShapes
import Derived.Test.YtfhdodopjgfedaaGreatCBaseB
import Derived.WalkLawsBesides
/-
  Arguments opened: integers, lists of integers, strings, lists of strings.
-/
namespace Go.Proofs.YtfhdodopjgfedaaGreat
open Go.RowKit
open Go.ChangeShapes Go.WideShapes

end Go.Proofs.YtfhdodopjgfedaaGreat
/-
  keep's Head and Row, book's Within, as plain functions.
-/
namespace Go.Proofs.YtfhdodopjgfedaaGreat
open Go.RowKit

def pwithin (n : Int) : Int := if 0 ≤ n ∧ n ≤ 1048576 then n else if n.tmod 1048577 < 0 then n.tmod 1048577 + 1048577 else n.tmod 1048577
theorem pwithin_b (n : Int) : 0 ≤ pwithin n ∧ pwithin n ≤ 1048576 := by
  have t := tmod_bounds n
  unfold pwithin
  generalize n.tmod 1048577 = m at *
  split
  · assumption
  · split <;> omega
theorem within_d (n : Int) (w : World) : Calls Tryz.prog 23 #[.int .i64 n, .int .i64 0, .int .i64 1048576] w fun e w' => e = .returned (.int .i64 (pwithin n)) ∧ w = w' := by
  have t := tmod_bounds n
  obtain ⟨q, hq⟩ : ∃ q, Hid (pwithin n = q) := ⟨_, rfl⟩
  rw [hq.out]
  have hq' := hq.out
  unfold pwithin at hq'
  have HQ : Hid ((if 0 ≤ n ∧ n ≤ 1048576 then n else if n.tmod 1048577 < 0 then n.tmod 1048577 + 1048577 else n.tmod 1048577) = q) := hq'
  clear hq'
  go_enter Tryz.func23, Tryz.ntmps23
  go_wp2
  all_goals go_ret
  all_goals refine ⟨congrArg (fun z => Ending.returned (.int .i64 z)) ?_, rfl⟩
  all_goals have hz := HQ.out
  all_goals have hte : 0 ≤ n → n.tmod 1048577 = n % 1048577 := Int.tmod_eq_emod_of_nonneg
  all_goals generalize n.tmod 1048577 = m at *
  all_goals try unfold wrap64
  all_goals (split at hz)
  all_goals try (split at hz)
  all_goals omega
def rowNames : List ByteArray := [⟨#[97]⟩, ⟨#[98]⟩, ⟨#[109]⟩, ⟨#[110]⟩, ⟨#[122]⟩, ⟨#[109, 97]⟩, ⟨#[122, 122]⟩, ⟨#[48]⟩]
set_option maxRecDepth 100000 in
set_option maxHeartbeats 1000000 in
theorem row_ds (n : Int) : ∃ s, (1 ≤ s.size ∧ s.size ≤ 2) ∧ ∀ w, Calls Tryz.prog 24 #[.int .i64 n] w fun e w' => e = .returned (.string s) ∧ Moves [] w w' := by
  have hb := pwithin_b n
  obtain ⟨j, hj, hje⟩ : ∃ j : Nat, j < 8 ∧ (pwithin n).tmod 8 = (j : Int) := by
    refine ⟨((pwithin n).tmod 8).toNat, ?_, ?_⟩ <;> rw [Int.tmod_eq_emod_of_nonneg hb.1] <;> omega
  have hsz : ∀ s ∈ rowNames, 1 ≤ s.size ∧ s.size ≤ 2 := by decide
  refine ⟨rowNames[j]'(by simpa [rowNames] using hj), hsz _ (List.getElem_mem _), fun w => ?_⟩
  clear hsz
  have hcell : (w.alloc (.cells #[.string ⟨#[97]⟩, .string ⟨#[98]⟩, .string ⟨#[109]⟩, .string ⟨#[110]⟩, .string ⟨#[122]⟩, .string ⟨#[109, 97]⟩, .string ⟨#[122, 122]⟩, .string ⟨#[48]⟩] 9)).cell? ⟨w.heap.size, j, none⟩ = some (.string (rowNames[j]'(by simpa [rowNames] using hj))) := by
    simp only [World.cell?, heap_alloc_new]
    match j, hj with
    | 0, _ => rfl
    | 1, _ => rfl
    | 2, _ => rfl
    | 3, _ => rfl
    | 4, _ => rfl
    | 5, _ => rfl
    | 6, _ => rfl
    | 7, _ => rfl
  generalize rowNames[j]'(by simpa [rowNames] using hj) = s at hcell ⊢
  have m1 : Moves [] w (w.alloc (.cells #[.string ⟨#[97]⟩, .string ⟨#[98]⟩, .string ⟨#[109]⟩, .string ⟨#[110]⟩, .string ⟨#[122]⟩, .string ⟨#[109, 97]⟩, .string ⟨#[122, 122]⟩, .string ⟨#[48]⟩] 9)) := (Moves.refl _ _).alloc _
  have hj3 : (j : Int) < 8 := by omega
  have hj0 : (0 : Int) ≤ j := by omega
  have hpick : ∀ cap, Calls Tryz.prog 45 #[.slice (some ⟨w.heap.size, 0, none⟩) 8 cap, .int .i64 n] (w.alloc (.cells #[.string ⟨#[97]⟩, .string ⟨#[98]⟩, .string ⟨#[109]⟩, .string ⟨#[110]⟩, .string ⟨#[122]⟩, .string ⟨#[109, 97]⟩, .string ⟨#[122, 122]⟩, .string ⟨#[48]⟩] 9)) fun e w' => e = .returned (.string s) ∧ Moves [] w w' := by
    intro cap
    generalize w.alloc _ = w1 at hcell m1 ⊢
    go_enter Tryz.func45, Tryz.ntmps45
    go_wp2_with (go_at_call 23; refine (within_d _ _).mono ?_; rintro _ _ ⟨rfl, rfl⟩)
    go_ret
    exact ⟨rfl, m1⟩
  clear hcell m1
  go_enter Tryz.func24, Tryz.ntmps24
  go_wp2_with (go_at_call 45; refine (hpick _).mono ?_; rintro _ w2 ⟨rfl, m2⟩)
  go_ret
  exact ⟨rfl, m2⟩

end Go.Proofs.YtfhdodopjgfedaaGreat
