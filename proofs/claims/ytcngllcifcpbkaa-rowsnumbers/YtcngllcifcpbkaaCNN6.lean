/-
  RowsNumbers: the names that are asked, and how many rows there are.
-/
import Derived.Test.YtcngllcifcpbkaaCPlay6
namespace Go.Proofs.Ytcngllcifcpbkaa
open Go.RowKit

set_option maxRecDepth 100000 in
set_option maxHeartbeats 1000000 in
theorem row_e (n : Int) (j : Nat) (hj : j < 8) (hje : (pwithin n).tmod 8 = (j : Int)) (w : World) : Calls Try.prog 41 #[.int .i64 n] w fun e w' => e = .returned (.string (rowNames[j]'(by simpa [rowNames] using hj))) ∧ Moves [] w w' := by
  have hb := pwithin_b n
  have hcell : (w.alloc (.cells #[.string ⟨#[97]⟩, .string ⟨#[98]⟩, .string ⟨#[109]⟩, .string ⟨#[110]⟩, .string ⟨#[122]⟩, .string ⟨#[109, 97]⟩, .string ⟨#[122, 122]⟩, .string ⟨#[48]⟩] 9)).cell? ⟨w.heap.size, j, none⟩ = some (.string (rowNames[j]'(by simpa [rowNames] using hj))) := by
    simp only [World.cell?, heap_alloc_new]
    match j, hj with
    | 0, _ => rfl
    | 1, _ => rfl
    | 2, _ => rfl
    | 3, _ => rfl
    | 4, _ => rfl
    | 5, _ => rfl
    | 6, _ => rfl
    | 7, _ => rfl
  generalize rowNames[j]'(by simpa [rowNames] using hj) = s at hcell ⊢
  have m1 : Moves [] w (w.alloc (.cells #[.string ⟨#[97]⟩, .string ⟨#[98]⟩, .string ⟨#[109]⟩, .string ⟨#[110]⟩, .string ⟨#[122]⟩, .string ⟨#[109, 97]⟩, .string ⟨#[122, 122]⟩, .string ⟨#[48]⟩] 9)) := (Moves.refl _ _).alloc _
  have hj3 : (j : Int) < 8 := by omega
  have hj0 : (0 : Int) ≤ j := by omega
  have hpick : ∀ cap, Calls Try.prog 67 #[.slice (some ⟨w.heap.size, 0, none⟩) 8 cap, .int .i64 n] (w.alloc (.cells #[.string ⟨#[97]⟩, .string ⟨#[98]⟩, .string ⟨#[109]⟩, .string ⟨#[110]⟩, .string ⟨#[122]⟩, .string ⟨#[109, 97]⟩, .string ⟨#[122, 122]⟩, .string ⟨#[48]⟩] 9)) fun e w' => e = .returned (.string s) ∧ Moves [] w w' := by
    intro cap
    generalize w.alloc _ = w1 at hcell m1 ⊢
    go_enter Try.func67, Try.ntmps67
    go_wp2_with (go_at_call 63; refine (within_d _ _).mono ?_; rintro _ _ ⟨rfl, rfl⟩)
    go_ret
    exact ⟨rfl, m1⟩
  clear hcell m1
  go_enter Try.func41, Try.ntmps41
  go_wp2_with (go_at_call 67; refine (hpick _).mono ?_; rintro _ w2 ⟨rfl, m2⟩)
  go_ret
  exact ⟨rfl, m2⟩


def nmOf (i : Nat) : ByteArray := if i * 7 % 45 % 11 = 10 then ⟨#[]⟩ else if i % 11 = 10 then rowNames.getD (i * 7 % 45 % 8) ⟨#[]⟩ else ⟨#[107]⟩ ++ Utf8.encode (97 + ((i * 7 % 45 : Nat) : Int))
theorem nat_tmod (a b : Nat) : ((a : Int).tmod (b : Int)) = ((a % b : Nat) : Int) := by rw [Int.tmod_eq_emod_of_nonneg (by omega)]; rfl

set_option maxRecDepth 100000 in
set_option maxHeartbeats 2000000 in
theorem name_e (i : Nat) (b : Bool) (hb : b = (i % 11 != 10)) (w : World) : Calls Try.prog 17 #[.agg #[.int .i64 1, .int .i64 ((i * 7 % 45 : Nat) : Int), .bool b, .string ⟨#[]⟩, .slice none 0 0]] w fun e w' => e = .returned (.string (nmOf i)) ∧ Moves [] w w' := by
  obtain ⟨r, hr⟩ : ∃ r, i * 7 % 45 = r := ⟨_, rfl⟩
  have hr45 : r < 45 := by omega
  rw [hr]
  have e11 : ((r : Int).tmod 11) = ((r % 11 : Nat) : Int) := nat_tmod r 11
  have m1 : Moves [] w (w.alloc (.cells #[.int .i64 1, .int .i64 (r : Int), .bool b, .string ⟨#[]⟩, .slice none 0 0] 25)) := (Moves.refl _ _).alloc _
  by_cases h1 : r % 11 = 10
  · have hn : nmOf i = phead ⟨#[]⟩ 20 := by unfold nmOf; rw [hr, if_pos h1]; rfl
    rw [hn]
    have h1' : (r : Int).tmod 11 = 10 := by rw [e11, h1]; rfl
    clear hb hn h1 e11 hr
    go_enter Try.func17, Try.ntmps17
    go_wp2_with (go_at_call 40; refine (head_d _ ⟨#[]⟩ 20).mono ?_; rintro _ _ ⟨rfl, rfl⟩)
    go_ret
    exact ⟨rfl, m1⟩
  · have h1' : ¬ (r : Int).tmod 11 = 10 := by rw [e11]; omega
    cases b with
    | false =>
      have h2 : i % 11 = 10 := by simpa using hb
      have hw : pwithin (r : Int) = (r : Int) := by unfold pwithin; rw [if_pos (by omega)]
      have hn : nmOf i = rowNames[r % 8]'(by simp [rowNames]; omega) := by unfold nmOf; rw [hr, if_neg h1, if_pos h2]; rw [List.getD_eq_getElem?_getD, List.getElem?_eq_getElem (by simp [rowNames]; omega)]; rfl
      have hrow := fun w1 => row_e (r : Int) (r % 8) (by omega) (by rw [hw]; exact nat_tmod r 8) w1
      rw [← hn] at hrow
      clear hb hn h1 h2 hw e11 hr hr45
      generalize (r : Int) = z at *
      go_enter Try.func17, Try.ntmps17
      go_wp2_with (go_at_call 41; refine (hrow _).mono ?_; rintro _ w2 ⟨rfl, m2⟩)
      go_ret
      exact ⟨rfl, m1.then m2⟩
    | true =>
      have h2 : ¬ i % 11 = 10 := by simpa using hb
      have e45 : wrap32 (wrap64 (97 + (wrap64 ((r : Int).tmod 45 + 45)).tmod 45)) = 97 + (r : Int) := by
        have e1 : ((r : Int).tmod 45) = (r : Int) := by rw [Int.tmod_eq_emod_of_nonneg (by omega)]; omega
        have e2 : wrap64 ((r : Int) + 45) = (r : Int) + 45 := by unfold wrap64; omega
        have e3 : ((r : Int) + 45).tmod 45 = (r : Int) := by rw [Int.tmod_eq_emod_of_nonneg (by omega)]; omega
        rw [e1, e2, e3]
        unfold wrap64 wrap32
        omega
      have hn : nmOf i = ⟨#[107]⟩ ++ Utf8.encode (wrap32 (wrap64 (97 + (wrap64 ((r : Int).tmod 45 + 45)).tmod 45))) := by unfold nmOf; rw [hr, if_neg h1, if_neg h2, e45]
      rw [hn]
      clear hb hn h1 h2 e45 e11 hr hr45
      generalize (r : Int) = z at *
      have hsz : ∀ i, ¬ 9223372036854775807 < 1 + (Utf8.encode i).size := fun i => by have := encode_size_le i; omega
      go_enter Try.func17, Try.ntmps17
      go_wp2_with fail
      go_ret
      exact ⟨rfl, m1⟩

def pf : Nat → List Pnam
  | 0 => []
  | k + 1 => psetN (pf k) (nmOf k) psome
theorem pf_inv (k : Nat) : InvN (pf k) := by
  induction k with
  | zero => exact InvN.nil
  | succ k ih => exact ih.set
def key (b : ByteArray) : List UInt8 := b.data.toList
def eset (L : List (List UInt8)) (k : List UInt8) : List (List UInt8) := if (decide (1 ≤ k.length) && decide (k.length ≤ 16)) = false then L else if (!L.any (fun x => x == k) && decide (32 ≤ L.length)) = true then L else L.filter (fun x => Op.bytesLess x k) ++ (k :: L.filter (fun x => Op.bytesLess k x))
def ef : Nat → List (List UInt8)
  | 0 => []
  | k + 1 => eset (ef k) (key (nmOf k))
theorem key_lt (a b : ByteArray) : nlt a b = Op.bytesLess (key a) (key b) := by unfold nlt key; rw [ByteArray.toList_eq, ByteArray.toList_eq]
theorem key_eq (a b : ByteArray) : neq a b = (key a == key b) := by unfold neq key; rw [ByteArray.toList_eq, ByteArray.toList_eq]
theorem key_name (s : ByteArray) : pname s = (decide (1 ≤ (key s).length) && decide ((key s).length ≤ 16)) := by
  have e : (key s).length = s.size := by unfold key; rw [Array.length_toList]; rfl
  rw [e]
  rfl
theorem psome_ne2 : (psome.map pcanonC).isEmpty = false := by
  cases h : psome with
  | nil => exact absurd h psome_nn
  | cons _ _ => rfl
theorem pf_key (k : Nat) : (pf k).map (fun x => key x.name) = ef k := by
  induction k with
  | zero => rfl
  | succ k ih =>
    unfold pf ef eset
    rw [← ih]
    have hany : ((pf k).map (fun x => key x.name)).any (fun x => x == key (nmOf k)) = phasN (pf k) (nmOf k) := by
      unfold phasN
      rw [List.any_map]
      congr 1
      funext x
      exact (key_eq _ _).symm
    have hlen : ((pf k).map (fun x => key x.name)).length = (pf k).length := List.length_map ..
    rw [hany, hlen, ← key_name]
    unfold psetN psetE
    rw [psome_right, psome_ne]
    cases hn : pname (nmOf k) with
    | false => simp
    | true =>
      simp only [Bool.and_self, Bool.true_eq_false, if_false, Bool.not_false, Bool.true_and]
      cases hf : (!phasN (pf k) (nmOf k) && decide (32 ≤ (pf k).length)) with
      | true => simp
      | false =>
        simp only [Bool.false_eq_true, if_false, if_true]
        unfold pputN
        rw [psome_ne2]
        simp only [Bool.false_eq_true, if_false, List.map_append, List.map_cons, List.map_nil, List.filter_map, Function.comp_def, key_lt]
        simp
theorem ef_full : (ef 45).length = 32 ∧ (ef 45).any (fun x => x == [111, 110, 101, 46, 109, 111, 114, 101]) = false := by decide +kernel
theorem pf_full' (k : Nat) (h1 : (ef k).length = 32) (h2 : (ef k).any (fun x => x == [111, 110, 101, 46, 109, 111, 114, 101]) = false) : (pf k).length = 32 ∧ phasN (pf k) ⟨#[111, 110, 101, 46, 109, 111, 114, 101]⟩ = false := by
  have h3 := congrArg List.length (pf_key k)
  rw [List.length_map] at h3
  refine ⟨h3.trans h1, ?_⟩
  rw [← pf_key k, List.any_map] at h2
  unfold phasN
  rw [← h2]
  congr 1
  funext x
  exact key_eq _ _
theorem pf_full : (pf 45).length = 32 ∧ phasN (pf 45) ⟨#[111, 110, 101, 46, 109, 111, 114, 101]⟩ = false := pf_full' 45 ef_full.1 ef_full.2
end Go.Proofs.Ytcngllcifcpbkaa
