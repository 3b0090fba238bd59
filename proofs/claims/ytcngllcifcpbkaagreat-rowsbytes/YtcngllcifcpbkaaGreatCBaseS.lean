/- ours -/
import Derived.Test.YtcngllcifcpbkaaGreatCBaseJ
import Derived.Test.YtcngllcifcpbkaaGreatCRow12
import Derived.Test.YtcngllcifcpbkaaGreatCBaseY
/-
 Names of columns as they are drawn: pick, Col, Head, and the law's own col.
-/
namespace Go.Proofs.YtcngllcifcpbkaaGreat
open Go.RowKit

theorem tmod5 {r : Int} (h : 0 ≤ r ∧ r ≤ 1048576) : ∃ j : Nat, j < 5 ∧ r.tmod 5 = (j : Int) := by
 refine ⟨(r.tmod 5).toNat, ?_, ?_⟩ <;> rw [Int.tmod_eq_emod_of_nonneg h.1] <;> omega

set_option maxRecDepth 100000 in
set_option maxHeartbeats 1000000 in
theorem pick_w (w : World) (g cap : Nat) (n : Int) (P : ByteArray → Prop) (h : ∀ j : Nat, j < 5 → ∃ s, w.cell? ⟨g, j, none⟩ = some (.string s) ∧ P s) :
  Calls Tryz.prog 104 #[.slice (some ⟨g, 0, none⟩) 5 cap, .int .i64 n] w fun e w' => ∃ s, e = .returned (.string s) ∧ P s ∧ w = w' := by
 have HP : Hid (∀ j : Nat, j < 5 → ∃ s, w.cell? ⟨g, j, none⟩ = some (.string s) ∧ P s) := h
 clear h
 go_enter Tryz.func104, Tryz.ntmps104
 go_wp2_with (go_at_call 93; refine (within_w _ _).mono ?_; rintro _ _ ⟨r, hr, rfl, rfl⟩; obtain ⟨j, hj, hje⟩ := tmod5 hr; obtain ⟨s, hs, hPs⟩ := HP.out j hj; have hj3 : (j : Int) < 5 := (by omega); have hj0 : (0 : Int) ≤ j := (by omega))
 go_ret
 exact ⟨_, rfl, hPs, rfl⟩

def colNames : List ByteArray := [⟨#[120]⟩, ⟨#[121]⟩, ⟨#[119]⟩, ⟨#[118]⟩, ⟨#[108, 111, 110, 103, 46, 110, 97, 109, 101, 46, 49, 54, 46, 98, 121, 116]⟩]
set_option maxRecDepth 100000 in
set_option maxHeartbeats 1000000 in
theorem keepCol_w (w : World) (n : Int) :
  Calls Tryz.prog 94 #[.int .i64 n] w fun e w' => ∃ s, e = .returned (.string s) ∧ s ∈ colNames ∧ Moves [] w w' := by
 have hb := heap_alloc_new w (.cells #[.string ⟨#[120]⟩, .string ⟨#[121]⟩, .string ⟨#[119]⟩, .string ⟨#[118]⟩, .string ⟨#[108, 111, 110, 103, 46, 110, 97, 109, 101, 46, 49, 54, 46, 98, 121, 116]⟩] 9)
 have m1 : Moves [] w (w.alloc (.cells #[.string ⟨#[120]⟩, .string ⟨#[121]⟩, .string ⟨#[119]⟩, .string ⟨#[118]⟩, .string ⟨#[108, 111, 110, 103, 46, 110, 97, 109, 101, 46, 49, 54, 46, 98, 121, 116]⟩] 9)) := (Moves.refl _ _).alloc _
 have HP : ∀ j : Nat, j < 5 → ∃ s, (w.alloc (.cells #[.string ⟨#[120]⟩, .string ⟨#[121]⟩, .string ⟨#[119]⟩, .string ⟨#[118]⟩, .string ⟨#[108, 111, 110, 103, 46, 110, 97, 109, 101, 46, 49, 54, 46, 98, 121, 116]⟩] 9)).cell? ⟨w.heap.size, j, none⟩ = some (.string s) ∧ s ∈ colNames := by
  intro j hj
  simp only [World.cell?, hb]
  match j, hj with
  | 0, _ => exact ⟨_, rfl, by simp [colNames]⟩
  | 1, _ => exact ⟨_, rfl, by simp [colNames]⟩
  | 2, _ => exact ⟨_, rfl, by simp [colNames]⟩
  | 3, _ => exact ⟨_, rfl, by simp [colNames]⟩
  | 4, _ => exact ⟨_, rfl, by simp [colNames]⟩
 have hp := fun cap => pick_w _ w.heap.size cap n _ HP
 clear HP hb
 go_enter Tryz.func94, Tryz.ntmps94
 go_wp2_with (go_at_call 104; refine (hp _).mono ?_; rintro _ _ ⟨s, rfl, hs, rfl⟩)
 go_ret
 exact ⟨_, rfl, hs, m1⟩

end Go.Proofs.YtcngllcifcpbkaaGreat
/-
 The law's own made: a row by the document's own puts: one that may be, with few names.
-/
namespace Go.Proofs.YtcngllcifcpbkaaGreat
open Go.RowKit

theorem refPut_p (W w : World) (v : Value) (R : List Pcol) (s : ByteArray) (t : Int) (kv : Int) (adv : Option Addr) (nv cv xv : Nat) (p : Pv) (h : RowAt W v R) (hv : VA W [.int .i64 kv, .slice adv nv cv, .float .f64 xv] p) (m : Moves [] W w) (hr : pright R = true) :
  Calls Tryz.prog 50 #[v, .string s, .int .i64 t, .agg #[.int .i64 kv, .slice adv nv cv, .float .f64 xv]] w fun e w' => ∃ ad n cap, e = .returned (.tuple #[.agg #[.slice ad n cap], .int .i64 (pPutE R s t p)]) ∧ ColsAt w' (.slice ad n cap) (pPut R s t p) ∧ Moves [] w w' := by
 obtain ⟨e1, e2⟩ := rPut_eq hr s t p
 have h1 := refPut_yes W w v R s t kv adv nv cv xv p h hv m hr
 rw [e1, e2] at h1
 exact h1

theorem pright_nil : pright [] = true := by decide

end Go.Proofs.YtcngllcifcpbkaaGreat
