/-
  What Least, Most and Total of package num, and the document's own Total, do with a row of floats: they return, leave memory as it was, and answer the plain functions of the row's words. Conditions: the words fit 64 bits.
-/
import Derived.Test.YtncmdbhbmbfdfaaFloat
import Derived.Test.YtncmdbhbmbfdfaaPlain3
namespace Go.Proofs.Ytncmdbhbmbfdfaa
open Go.RowKit

def nth (zs : List Nat) (i : Nat) : Nat := zs.getD i 0
/-- The cells of a row of floats. -/
def Floats (w : World) (b off n : Nat) (zs : List Nat) : Prop := ∀ i, i < n → w.cell? ⟨b, off + i, none⟩ = some (.float .f64 (nth zs i))
def AllFit (zs : List Nat) : Prop := ∀ i, Pl.Fits (nth zs i)

/-- The one that no other is ahead of, of the first n + 1. -/
def far (way : Int) (zs : List Nat) : Nat → Nat
  | 0 => nth zs 0
  | n + 1 => if (Pl.ord (nth zs (n + 1)) (far way zs n) == way) = true then nth zs (n + 1) else far way zs n

theorem far_fits {way : Int} {zs : List Nat} (h : AllFit zs) (n : Nat) : Pl.Fits (far way zs n) := by
  induction n with
  | zero => exact h 0
  | succ n ih => unfold far; split; exact h _; exact ih

/-- The total of the first n + 1. -/
def tot (zs : List Nat) : Nat → Nat
  | 0 => Pl.canon (nth zs 0)
  | n + 1 => Pl.sum (tot zs n) (nth zs (n + 1))

theorem furthest_w (b off len cap : Nat) (zs : List Nat) (way : Int) (w : World) (h1 : 1 ≤ len) (hc : len ≤ cap) (hm : len ≤ 9223372036854775807) (hcell : Floats w b off len zs) (hf : AllFit zs) :
    Calls Try.prog 43 #[.slice (some ⟨b, off, none⟩) len cap, .int .i64 way] w fun e w' => e = .returned (.tuple #[.float .f64 (Pl.canon (far way zs (len - 1))), .bool true]) ∧ w = w' := by
  have hne : ((len : Int) == 0) = false := by simp; omega
  have c0 : w.cell? ⟨b, off, none⟩ = some (.float .f64 (nth zs 0)) := by simpa using hcell 0 (by omega)
  have hpos : (0 : Int) < (len : Int) := by omega
  by_cases hcap : cap = 1
  · subst hcap
    have : len = 1 := by omega
    subst this
    go_enter Try.func43, Try.ntmps43
    go_wp2
    go_loop [6, 18] (fun t i => t = .float .f64 (nth zs 0) ∧ i = .int .i64 0) (fun _ _ => 0)
    case atStart => exact ⟨rfl, rfl⟩
    case round =>
      obtain ⟨rfl, rfl⟩ := hrel
      go_wp2_with (first | (go_at_call 21; refine (canon_w _ _).mono ?_; rintro _ _ ⟨rfl, rfl⟩) | go_in)
      go_ret2
      exact ⟨rfl, rfl⟩
  · go_enter Try.func43, Try.ntmps43
    go_wp2
    go_loop [6, 18] (fun t i => ∃ k : Nat, k ≤ len - 1 ∧ t = .float .f64 (far way zs k) ∧ i = .int .i64 k) (fun _ i => len - (intOf i).toNat)
    case atStart => exact ⟨0, Nat.zero_le _, rfl, rfl⟩
    case round =>
      obtain ⟨k, hk, rfl, rfl⟩ := hrel
      have hck : k < len - 1 → w.cell? ⟨b, off + 1 + k, none⟩ = some (.float .f64 (nth zs (k + 1))) := fun h => by
        have := hcell (k + 1) (by omega)
        rw [show off + 1 + k = off + (k + 1) by omega]; exact this
      have f1 := hf (k + 1)
      have f2 := far_fits (way := way) hf k
      clear hcell c0
      go_wp2_with (first
        | (go_at_call 18; refine (order_w _ _ (by assumption) (by assumption) _).mono ?_; rintro _ _ ⟨rfl, rfl⟩)
        | (go_at_call 21; refine (canon_w _ _).mono ?_; rintro _ _ ⟨rfl, rfl⟩) | go_in)
      · have hy : (Pl.ord (nth zs (k + 1)) (far way zs k) == way) = true := by assumption
        have e : far way zs (k + 1) = nth zs (k + 1) := if_pos hy
        exact ⟨⟨k + 1, by omega, by rw [e], by go_num⟩, by simp [intOf]; omega⟩
      · have hy : (Pl.ord (nth zs (k + 1)) (far way zs k) == way) = false := by assumption
        have e : far way zs (k + 1) = far way zs k := if_neg (by rw [hy]; decide)
        exact ⟨⟨k + 1, by omega, by rw [e], by go_num⟩, by simp [intOf]; omega⟩
      · have hk' : k = len - 1 := by omega
        subst hk'
        go_ret2
        exact ⟨rfl, rfl⟩

theorem furthest_none_w (a : Option Addr) (cap : Nat) (way : Int) (w : World) :
    Calls Try.prog 43 #[.slice a 0 cap, .int .i64 way] w fun e w' => e = .returned (.tuple #[.float .f64 0, .bool false]) ∧ w = w' := by
  go_enter Try.func43, Try.ntmps43
  go_wp2
  go_ret2
  exact ⟨rfl, rfl⟩

theorem least_w (b off len cap : Nat) (zs : List Nat) (w : World) (h1 : 1 ≤ len) (hc : len ≤ cap) (hm : len ≤ 9223372036854775807) (hcell : Floats w b off len zs) (hf : AllFit zs) :
    Calls Try.prog 28 #[.slice (some ⟨b, off, none⟩) len cap] w fun e w' => e = .returned (.tuple #[.float .f64 (Pl.canon (far (-1) zs (len - 1))), .bool true]) ∧ w = w' := by
  go_enter Try.func28, Try.ntmps28
  go_wp2_with (go_at_call 43; refine (furthest_w _ _ _ _ zs _ _ (by assumption) (by assumption) (by assumption) (by assumption) (by assumption)).mono ?_; rintro _ _ ⟨rfl, rfl⟩)
  go_ret2
  exact ⟨rfl, rfl⟩

theorem most_w (b off len cap : Nat) (zs : List Nat) (w : World) (h1 : 1 ≤ len) (hc : len ≤ cap) (hm : len ≤ 9223372036854775807) (hcell : Floats w b off len zs) (hf : AllFit zs) :
    Calls Try.prog 29 #[.slice (some ⟨b, off, none⟩) len cap] w fun e w' => e = .returned (.tuple #[.float .f64 (Pl.canon (far 1 zs (len - 1))), .bool true]) ∧ w = w' := by
  go_enter Try.func29, Try.ntmps29
  go_wp2_with (go_at_call 43; refine (furthest_w _ _ _ _ zs _ _ (by assumption) (by assumption) (by assumption) (by assumption) (by assumption)).mono ?_; rintro _ _ ⟨rfl, rfl⟩)
  go_ret2
  exact ⟨rfl, rfl⟩

theorem least_none_w (a : Option Addr) (cap : Nat) (w : World) :
    Calls Try.prog 28 #[.slice a 0 cap] w fun e w' => e = .returned (.tuple #[.float .f64 0, .bool false]) ∧ w = w' := by
  go_enter Try.func28, Try.ntmps28
  go_wp2_with (go_at_call 43; refine (furthest_none_w _ _ _ _).mono ?_; rintro _ _ ⟨rfl, rfl⟩)
  go_ret2
  exact ⟨rfl, rfl⟩

theorem most_none_w (a : Option Addr) (cap : Nat) (w : World) :
    Calls Try.prog 29 #[.slice a 0 cap] w fun e w' => e = .returned (.tuple #[.float .f64 0, .bool false]) ∧ w = w' := by
  go_enter Try.func29, Try.ntmps29
  go_wp2_with (go_at_call 43; refine (furthest_none_w _ _ _ _).mono ?_; rintro _ _ ⟨rfl, rfl⟩)
  go_ret2
  exact ⟨rfl, rfl⟩

theorem total_w (b off len cap : Nat) (zs : List Nat) (w : World) (h1 : 1 ≤ len) (hc : len ≤ cap) (hm : len ≤ 9223372036854775807) (hcell : Floats w b off len zs) :
    Calls Try.prog 27 #[.slice (some ⟨b, off, none⟩) len cap] w fun e w' => e = .returned (.float .f64 (tot zs (len - 1))) ∧ Still w w' := by
  have hne : ((len : Int) == 0) = false := by simp; omega
  have c0 : w.cell? ⟨b, off, none⟩ = some (.float .f64 (nth zs 0)) := by simpa using hcell 0 (by omega)
  have hpos : (0 : Int) < (len : Int) := by omega
  by_cases hcap : cap = 1
  · subst hcap
    have : len = 1 := by omega
    subst this
    go_enter Try.func27, Try.ntmps27
    go_wp2_with (first | (go_at_call 21; refine (canon_w _ _).mono ?_; rintro _ _ ⟨rfl, rfl⟩) | go_in)
    go_loop [3, 16] (fun t i => t = .float .f64 (Pl.canon (nth zs 0)) ∧ i = .int .i64 0) (fun _ _ => 0)
    case atStart => exact ⟨rfl, rfl⟩
    case round =>
      obtain ⟨rfl, rfl⟩ := hrel
      go_wp2
      go_ret
      exact ⟨rfl, Still.refl _⟩
  · go_enter Try.func27, Try.ntmps27
    go_wp2_with (first | (go_at_call 21; refine (canon_w _ _).mono ?_; rintro _ _ ⟨rfl, rfl⟩) | go_in)
    go_loopw [3, 16] (fun t i wr => ∃ k : Nat, k ≤ len - 1 ∧ t = .float .f64 (tot zs k) ∧ i = .int .i64 k ∧ Still w wr) (fun _ i _ => len - (intOf i).toNat)
    case atStart => exact ⟨0, Nat.zero_le _, rfl, rfl, Still.refl _⟩
    case round =>
      obtain ⟨k, hk, rfl, rfl, hst⟩ := hrel
      have hck : k < len - 1 → wr.cell? ⟨b, off + 1 + k, none⟩ = some (.float .f64 (nth zs (k + 1))) := fun h => by
        have := hcell (k + 1) (by omega)
        rw [hst.cell, show off + 1 + k = off + (k + 1) by omega]; exact this
      clear hcell c0
      go_wp2_with (first | (go_at_call 23; refine (sum_w _ _ _).mono ?_; rintro _ _ ⟨rfl, hs⟩) | go_in)
      · exact ⟨⟨k + 1, by omega, rfl, by go_num, hst.trans hs⟩, by simp [intOf]; omega⟩
      · have hk' : k = len - 1 := by omega
        subst hk'
        go_ret
        exact ⟨rfl, hst⟩

theorem total_none_w (a : Option Addr) (cap : Nat) (w : World) :
    Calls Try.prog 27 #[.slice a 0 cap] w fun e w' => e = .returned (.float .f64 0) ∧ w = w' := by
  go_enter Try.func27, Try.ntmps27
  go_wp2
  go_ret
  exact ⟨rfl, rfl⟩

end Go.Proofs.Ytncmdbhbmbfdfaa
