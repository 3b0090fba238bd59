/-
  Open0, Kp0: our texts of these names, laid into one.
-/
import Derived.Test.YtcngllcifcpbkaaCBaseC
import Derived.Deep.Slices
import Derived.Deep.Fields
import Derived.ChangeShapes
import Derived.Test.YtcngllcifcpbkaaCBaseB
import Derived.WalkLawsBesides
/-
  Arguments opened: integers, lists of integers, strings, lists of strings.
-/
namespace Go.Proofs.Ytcngllcifcpbkaa
open Go.RowKit
open Go.ChangeShapes Go.WideShapes

end Go.Proofs.Ytcngllcifcpbkaa
/-
  keep's Head and Row, book's Within, as plain functions.
-/
namespace Go.Proofs.Ytcngllcifcpbkaa
open Go.RowKit

def pwithin (n : Int) : Int := if 0 ≤ n ∧ n ≤ 1048576 then n else if n.tmod 1048577 < 0 then n.tmod 1048577 + 1048577 else n.tmod 1048577
theorem pwithin_b (n : Int) : 0 ≤ pwithin n ∧ pwithin n ≤ 1048576 := by
  have t := tmod_bounds n
  unfold pwithin
  generalize n.tmod 1048577 = m at *
  split
  · assumption
  · split <;> omega
theorem within_d (n : Int) (w : World) : Calls Try.prog 63 #[.int .i64 n, .int .i64 0, .int .i64 1048576] w fun e w' => e = .returned (.int .i64 (pwithin n)) ∧ w = w' := by
  have t := tmod_bounds n
  obtain ⟨q, hq⟩ : ∃ q, Hid (pwithin n = q) := ⟨_, rfl⟩
  rw [hq.out]
  have hq' := hq.out
  unfold pwithin at hq'
  have HQ : Hid ((if 0 ≤ n ∧ n ≤ 1048576 then n else if n.tmod 1048577 < 0 then n.tmod 1048577 + 1048577 else n.tmod 1048577) = q) := hq'
  clear hq'
  go_enter Try.func63, Try.ntmps63
  go_wp2
  all_goals go_ret
  all_goals refine ⟨congrArg (fun z => Ending.returned (.int .i64 z)) ?_, rfl⟩
  all_goals have hz := HQ.out
  all_goals have hte : 0 ≤ n → n.tmod 1048577 = n % 1048577 := Int.tmod_eq_emod_of_nonneg
  all_goals generalize n.tmod 1048577 = m at *
  all_goals try unfold wrap64
  all_goals (split at hz)
  all_goals try (split at hz)
  all_goals omega
def phead (s : ByteArray) (k : Nat) : ByteArray := if k < s.size then s.extract 0 k else s
set_option maxRecDepth 100000 in
theorem head_d (w : World) (s : ByteArray) (k : Nat) : Calls Try.prog 40 #[.string s, .int .i64 (k : Int)] w fun e w' => e = .returned (.string (phead s k)) ∧ w = w' := by
  unfold phead
  by_cases h : k < s.size
  · have h3 : (k : Int) < s.size := by omega
    have h4 : (k : Int) ≤ s.size := by omega
    rw [if_pos h]
    go_enter Try.func40, Try.ntmps40
    go_wp2_with fail
    go_ret
    exact ⟨rfl, rfl⟩
  · have h3 : ¬ (k : Int) < s.size := by omega
    rw [if_neg h]
    go_enter Try.func40, Try.ntmps40
    go_wp2_with fail
    go_ret
    exact ⟨rfl, rfl⟩
def rowNames : List ByteArray := [⟨#[97]⟩, ⟨#[98]⟩, ⟨#[109]⟩, ⟨#[110]⟩, ⟨#[122]⟩, ⟨#[109, 97]⟩, ⟨#[122, 122]⟩, ⟨#[48]⟩]
end Go.Proofs.Ytcngllcifcpbkaa
