/-
  The law's own 'lists': for every row of floats it returns true, and leaves memory as it was. Conditions: the words fit 64 bits, the row lies in memory.
-/
import Derived.Test.YtncmdbhbmbfdfaaRef
namespace Go.Proofs.Ytncmdbhbmbfdfaa
open Go.RowKit

theorem Floats.still {w w' : World} {b off n : Nat} {zs : List Nat} (h : Floats w b off n zs) (hs : Still w w') : Floats w' b off n zs :=
  fun i hi => by rw [hs.cell]; exact h i hi
theorem Floats.head {w : World} {b off n : Nat} {zs : List Nat} (h : Floats w b off n zs) (h1 : 1 ≤ n) : w.cell? ⟨b, off, none⟩ = some (.float .f64 (nth zs 0)) := by
  simpa using h 0 (by omega)

theorem ord_neg (a b : Nat) : Pl.ord a b < 0 ↔ (Pl.ord a b == -1) = true := by
  have := Pl.ord_bounds a b
  simp; omega
theorem ord_pos (a b : Nat) : 0 < Pl.ord a b ↔ (Pl.ord a b == 1) = true := by
  have := Pl.ord_bounds a b
  simp; omega

theorem far_low_hit {zs : List Nat} {k : Nat} (h : Pl.ord (nth zs (k + 1)) (far (-1) zs k) < 0) : far (-1) zs (k + 1) = nth zs (k + 1) := if_pos ((ord_neg _ _).1 h)
theorem far_low_miss {zs : List Nat} {k : Nat} (h : 0 ≤ Pl.ord (nth zs (k + 1)) (far (-1) zs k)) : far (-1) zs (k + 1) = far (-1) zs k := if_neg (fun e => by have := (ord_neg _ _).2 e; omega)
theorem far_top_hit {zs : List Nat} {k : Nat} (h : 0 < Pl.ord (nth zs (k + 1)) (far 1 zs k)) : far 1 zs (k + 1) = nth zs (k + 1) := if_pos ((ord_pos _ _).1 h)
theorem far_top_miss {zs : List Nat} {k : Nat} (h : Pl.ord (nth zs (k + 1)) (far 1 zs k) ≤ 0) : far 1 zs (k + 1) = far 1 zs k := if_neg (fun e => by have := (ord_pos _ _).2 e; omega)

theorem lists_none_w (a : Option Addr) (cap : Nat) (w : World) :
    Calls Try.prog 11 #[.slice a 0 cap] w fun e w' => e = .returned (.bool true) ∧ Still w w' := by
  have z : (FloatKind.f64.format.order 0 0 == some .eq) = true := by decide
  go_enter Try.func11, Try.ntmps11
  go_wp2_with (first
    | (go_at_call 28; refine (least_none_w _ _ _).mono ?_; rintro _ _ ⟨rfl, rfl⟩)
    | (go_at_call 29; refine (most_none_w _ _ _).mono ?_; rintro _ _ ⟨rfl, rfl⟩)
    | (go_at_call 27; refine (total_none_w _ _ _).mono ?_; rintro _ _ ⟨rfl, rfl⟩)
    | (go_at_call 35; refine (refTotal_none_w _ _ _).mono ?_; rintro _ _ ⟨rfl, rfl⟩)
    | (go_at_call 15; refine (bits_w _ _).mono ?_; rintro _ _ ⟨rfl, rfl⟩))
  go_ret
  exact ⟨rfl, Still.refl _⟩

set_option maxHeartbeats 1000000 in
theorem lists_w (b off len cap : Nat) (zs : List Nat) (w : World) (h1 : 1 ≤ len) (hc : len ≤ cap) (hm : len ≤ 9223372036854775807) (hcell : Floats w b off len zs) (hf : AllFit zs) :
    Calls Try.prog 11 #[.slice (some ⟨b, off, none⟩) len cap] w fun e w' => e = .returned (.bool true) ∧ Still w w' := by
  have hne : ((len : Int) == 0) = false := by simp; omega
  have hpos : (0 : Int) < (len : Int) := by omega
  go_enter Try.func11, Try.ntmps11
  go_wp2_with (first
    | (go_at_call 28; refine (least_w _ _ _ _ zs _ (by assumption) (by assumption) (by assumption) (by assumption) (by assumption)).mono ?_; rintro _ _ ⟨rfl, rfl⟩)
    | (go_at_call 29; refine (most_w _ _ _ _ zs _ (by assumption) (by assumption) (by assumption) (by assumption) (by assumption)).mono ?_; rintro _ _ ⟨rfl, rfl⟩)
    | (go_at_call 27; refine (total_w _ _ _ _ zs _ (by assumption) (by assumption) (by assumption) (by assumption)).mono ?_; rintro _ w1 ⟨rfl, hs1⟩; have hc1 := hcell.still hs1)
    | (go_at_call 35; refine (refTotal_w _ _ _ _ zs _ (by assumption) (by assumption) (by assumption) (by assumption)).mono ?_; rintro _ w2 ⟨rfl, hs2⟩; have hc2 := hc1.still hs2; have c0 := hc2.head h1)
    | (go_at_call 15; refine (bits_w _ _).mono ?_; rintro _ _ ⟨rfl, rfl⟩))
  go_region
  go_wp2
  go_loop [7, 8, 9] (fun lo hi i => ∃ k : Nat, k ≤ len - 1 ∧ lo = .float .f64 (far (-1) zs k) ∧ hi = .float .f64 (far 1 zs k) ∧ i = .int .i64 ((k + 1 : Nat) : Int)) (fun _ _ i => len - (intOf i).toNat)
  case atStart => exact ⟨0, Nat.zero_le _, rfl, rfl, rfl⟩
  case round =>
    obtain ⟨k, hk, rfl, rfl, rfl⟩ := hrel
    have hck : (k : Int) + 1 < (len : Int) → w2.cell? ⟨b, off + (k + 1), none⟩ = some (.float .f64 (nth zs (k + 1))) := fun h => hc2 (k + 1) (by omega)
    have f1 := hf (k + 1)
    have f2 := far_fits (way := -1) hf k
    have f3 := far_fits (way := 1) hf k
    have hst : Hid (Still w w2.drew) := (hs1.trans hs2).trans (Still.drew _)
    clear hcell c0 hc1 hc2 hs1 hs2
    go_wp2_with (first
      | (go_at_call 30; refine (refOrder_w _ _ (by assumption) (by assumption) _).mono ?_; rintro _ _ ⟨rfl, rfl⟩)
      | (go_at_call 33; refine (refBits_w _ (by assumption) _).mono ?_; rintro _ _ ⟨rfl, rfl⟩)
      | (go_at_call 15; refine (bits_w _ _).mono ?_; rintro _ _ ⟨rfl, rfl⟩))
    · refine ⟨⟨k + 1, by omega, ?_, ?_, by go_num⟩, by simp [intOf]; omega⟩
      · rw [far_low_hit (by assumption)]
      · rw [far_top_hit (by assumption)]
    · refine ⟨⟨k + 1, by omega, ?_, ?_, by go_num⟩, by simp [intOf]; omega⟩
      · rw [far_low_hit (by assumption)]
      · rw [far_top_miss (by assumption)]
    · refine ⟨⟨k + 1, by omega, ?_, ?_, by go_num⟩, by simp [intOf]; omega⟩
      · rw [far_low_miss (by assumption)]
      · rw [far_top_hit (by assumption)]
    · refine ⟨⟨k + 1, by omega, ?_, ?_, by go_num⟩, by simp [intOf]; omega⟩
      · rw [far_low_miss (by assumption)]
      · rw [far_top_miss (by assumption)]
    · have hk' : k = len - 1 := by omega
      subst hk'
      go_ret
      refine ⟨?_, hst.out⟩
      show Ending.returned (Value.bool (((Pl.canon (far 1 zs (len - 1)) : Nat) : Int) == ((Pl.canon (far 1 zs (len - 1)) : Nat) : Int))) = _
      rw [beq_self_eq_true]
    · have hk' : k = len - 1 := by omega
      subst hk'
      exfalso
      rename_i hno
      exact hno rfl
end Go.Proofs.Ytncmdbhbmbfdfaa
