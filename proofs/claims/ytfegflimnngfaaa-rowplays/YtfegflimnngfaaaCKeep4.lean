/-
  Names of columns as they are drawn: pick, Col, Head, and the law's own col.
-/
import Derived.Test.YtfegflimnngfaaaCRow9
namespace Go.Proofs.Ytfegflimnngfaaa
open Go.RowKit

theorem tmod5 {r : Int} (h : 0 ≤ r ∧ r ≤ 1048576) : ∃ j : Nat, j < 5 ∧ r.tmod 5 = (j : Int) := by
  refine ⟨(r.tmod 5).toNat, ?_, ?_⟩ <;> rw [Int.tmod_eq_emod_of_nonneg h.1] <;> omega

set_option maxRecDepth 100000 in
set_option maxHeartbeats 1000000 in
theorem pick_w (w : World) (g cap : Nat) (n : Int) (P : ByteArray → Prop) (h : ∀ j : Nat, j < 5 → ∃ s, w.cell? ⟨g, j, none⟩ = some (.string s) ∧ P s) :
    Calls Try.prog 65 #[.slice (some ⟨g, 0, none⟩) 5 cap, .int .i64 n] w fun e w' => ∃ s, e = .returned (.string s) ∧ P s ∧ w = w' := by
  have HP : Hid (∀ j : Nat, j < 5 → ∃ s, w.cell? ⟨g, j, none⟩ = some (.string s) ∧ P s) := h
  clear h
  go_enter Try.func65, Try.ntmps65
  go_wp2_with (go_at_call 83; refine (within_w _ _).mono ?_; rintro _ _ ⟨r, hr, rfl, rfl⟩; obtain ⟨j, hj, hje⟩ := tmod5 hr; obtain ⟨s, hs, hPs⟩ := HP.out j hj; have hj3 : (j : Int) < 5 := (by omega); have hj0 : (0 : Int) ≤ j := (by omega))
  go_ret
  exact ⟨_, rfl, hPs, rfl⟩

def colNames : List ByteArray := [⟨#[120]⟩, ⟨#[121]⟩, ⟨#[119]⟩, ⟨#[118]⟩, ⟨#[108, 111, 110, 103, 46, 110, 97, 109, 101, 46, 49, 54, 46, 98, 121, 116]⟩]
set_option maxRecDepth 100000 in
set_option maxHeartbeats 1000000 in
theorem keepCol_w (w : World) (n : Int) :
    Calls Try.prog 31 #[.int .i64 n] w fun e w' => ∃ s, e = .returned (.string s) ∧ s ∈ colNames ∧ Moves [] w w' := by
  have hb := heap_alloc_new w (.cells #[.string ⟨#[120]⟩, .string ⟨#[121]⟩, .string ⟨#[119]⟩, .string ⟨#[118]⟩, .string ⟨#[108, 111, 110, 103, 46, 110, 97, 109, 101, 46, 49, 54, 46, 98, 121, 116]⟩] 9)
  have m1 : Moves [] w (w.alloc (.cells #[.string ⟨#[120]⟩, .string ⟨#[121]⟩, .string ⟨#[119]⟩, .string ⟨#[118]⟩, .string ⟨#[108, 111, 110, 103, 46, 110, 97, 109, 101, 46, 49, 54, 46, 98, 121, 116]⟩] 9)) := (Moves.refl _ _).alloc _
  have HP : ∀ j : Nat, j < 5 → ∃ s, (w.alloc (.cells #[.string ⟨#[120]⟩, .string ⟨#[121]⟩, .string ⟨#[119]⟩, .string ⟨#[118]⟩, .string ⟨#[108, 111, 110, 103, 46, 110, 97, 109, 101, 46, 49, 54, 46, 98, 121, 116]⟩] 9)).cell? ⟨w.heap.size, j, none⟩ = some (.string s) ∧ s ∈ colNames := by
    intro j hj
    simp only [World.cell?, hb]
    match j, hj with
    | 0, _ => exact ⟨_, rfl, by simp [colNames]⟩
    | 1, _ => exact ⟨_, rfl, by simp [colNames]⟩
    | 2, _ => exact ⟨_, rfl, by simp [colNames]⟩
    | 3, _ => exact ⟨_, rfl, by simp [colNames]⟩
    | 4, _ => exact ⟨_, rfl, by simp [colNames]⟩
  have hp := fun cap => pick_w _ w.heap.size cap n _ HP
  clear HP hb
  go_enter Try.func31, Try.ntmps31
  go_wp2_with (go_at_call 65; refine (hp _).mono ?_; rintro _ _ ⟨s, rfl, hs, rfl⟩)
  go_ret
  exact ⟨_, rfl, hs, m1⟩

set_option maxRecDepth 100000 in
set_option maxHeartbeats 1000000 in
theorem keepHead_w (w : World) (s : ByteArray) :
    Calls Try.prog 56 #[.string s, .int .i64 20] w fun e w' => ∃ s', e = .returned (.string s') ∧ w = w' := by
  by_cases h : 20 < s.size
  · have h3 : (20 : Int) < s.size := by omega
    go_enter Try.func56, Try.ntmps56
    go_wp2_with fail
    go_ret
    refine ⟨s.extract 0 20, ?_, ?_⟩
    · rfl
    · rfl
  · have h3 : ¬ (20 : Int) < s.size := by omega
    go_enter Try.func56, Try.ntmps56
    go_wp2_with fail
    go_ret
    exact ⟨⟨_, rfl⟩, rfl⟩

set_option maxRecDepth 100000 in
set_option maxHeartbeats 1000000 in
theorem col4_w (w : World) (kind col : Int) (name : ByteArray) (time : Int) (t : Bool) (n : Int) (x : Nat) (a : Option Addr) (l c : Nat) :
    Calls Try.prog 24 #[.agg #[.int .i64 kind, .int .i64 col, .string name, .int .i64 time, .bool t, .int .i64 n, .float .f64 x, .slice a l c]] w fun e w' => ∃ s, e = .returned (.string s) ∧ Moves [] w w' := by
  obtain ⟨q0, q1⟩ : (w.alloc (.cells #[.int .i64 kind, .int .i64 col, .string name, .int .i64 time, .bool t, .int .i64 n, .float .f64 x, .slice a l c] 61)).cell? ⟨w.heap.size, 1, none⟩ = some (.int .i64 col) ∧ (w.alloc (.cells #[.int .i64 kind, .int .i64 col, .string name, .int .i64 time, .bool t, .int .i64 n, .float .f64 x, .slice a l c] 61)).cell? ⟨w.heap.size, 2, none⟩ = some (.string name) := by
    have hb := heap_alloc_new w (.cells #[.int .i64 kind, .int .i64 col, .string name, .int .i64 time, .bool t, .int .i64 n, .float .f64 x, .slice a l c] 61)
    simp only [World.cell?, hb]
    exact ⟨rfl, rfl⟩
  have m1 : Moves [] w (w.alloc (.cells #[.int .i64 kind, .int .i64 col, .string name, .int .i64 time, .bool t, .int .i64 n, .float .f64 x, .slice a l c] 61)) := (Moves.refl _ _).alloc _
  by_cases h : col.tmod 7 = 6
  · go_enter Try.func24, Try.ntmps24
    go_wp2_with (go_at_call 56; refine (keepHead_w _ _).mono ?_; rintro _ _ ⟨s', rfl, rfl⟩)
    go_ret
    exact ⟨_, rfl, m1⟩
  · go_enter Try.func24, Try.ntmps24
    go_wp2_with (go_at_call 31; refine (keepCol_w _ _).mono ?_; rintro _ w2 ⟨s', rfl, _, m2⟩)
    go_ret
    exact ⟨_, rfl, m1.then m2⟩
end Go.Proofs.Ytfegflimnngfaaa
