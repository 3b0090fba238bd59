/-
  What law9's known does; its calls, opened; Within.
-/
import Derived.Test.YtoijkdknjbgebaaCOn5
import Derived.Test.YtoijkdknjbgebaaCBaseD
import Derived.Test.YtoijkdknjbgebaaCOpen0
namespace Go.Proofs.Ytoijkdknjbgebaa
open Go.RowKit
open Go.ChangeShapes Go.WideShapes

def k9 : List Pt := [⟨1, 5, ⟨#[120]⟩⟩]
theorem k9_rise : RiseT k9 := List.pairwise_singleton _ _
theorem k9_keep : (if mayK 1 5 [120].length then keepT [] ⟨1, 5, strOf [120]⟩ else []) = k9 := rfl
theorem k9_same : (if mayK 1 4 ([] : List Nat).length then keepT k9 ⟨1, 4, strOf []⟩ else k9) = k9 := rfl

/-- What a cache of the law's own leaves. -/
theorem ca_moves {W w0 w1 w2 : World} {p : Nat} {a a2 : Option Nat} {xs ys : List Pt} (h : CaIs W w1 p a xs) (hp : w0.heap.size ≤ p) (hW : w0.heap.size ≤ W.heap.size) (M : Moves [] w0 w1) (m : CaTo W w1 p a w2 a2 ys) : Moves [] w0 w2 :=
  M.trans m.2.1 (fun x hx => .inr (by
    rcases List.mem_cons.1 hx with rfl | hx
    · exact hp
    · have := (h.lta (Option.mem_toList.1 hx)).2
      omega))

set_option maxRecDepth 100000 in
set_option maxHeartbeats 4000000 in
theorem known9_w (w : World) : Calls Try.prog 21 #[] w fun e w' => e = .returned (.bool true) ∧ Moves [] w w' := by
  go_enter Try.func21, Try.ntmps21
  go_wp2_with fail
  refine (onew_w w).mono ?_
  rintro _ w1 ⟨rfl, h1, m1⟩
  obtain ⟨P, hP⟩ : ∃ P, w.heap.size = P := ⟨_, rfl⟩
  rw [hP] at h1
  have hb2 := heap_alloc_new w1 (.cells #[.int .u8 120] 5)
  have m2 : Moves [] w1 (w1.alloc (.cells #[.int .u8 120] 5)) := (Moves.refl _ _).alloc _
  obtain ⟨w3, hcv, hB3, m3, _⟩ := conv_exact (W := w1) (c := [120]) (Nat.le_refl _) m2 hb2
  have hcv' : (convert 26 26 (.slice (some ⟨w1.heap.size, 0, none⟩) 1 1)).run Try.prog (w1.alloc (.cells #[.int .u8 120] 5)) = .ok (.slice (some ⟨w1.heap.size, 0, none⟩) 1 1) w3 := hcv
  have hc3 := h1.moves0 m3
  have hk := okeep_w w w3 P none [] 1 5 _ _ [120] hc3 List.Pairwise.nil (by simp) hB3 (by simp) (m1.then m3).size
  rw [k9_keep] at hk
  have e1 : (mayK 1 5 [120].length && decide ((ofT [] 1).s < 5)) = true := rfl
  rw [e1] at hk
  clear hcv e1 hb2 hB3
  go_wp2_with fail
  refine hk.mono ?_
  rintro _ w4 ⟨rfl, a4, hT4⟩
  have hk2 := okeep_w w w4 P a4 k9 1 4 (.slice none 0 0) 0 [] hT4.1 k9_rise (by decide) ⟨_, _, _, rfl, rfl, Nat.le_refl _, fun _ => rfl, .inl rfl⟩ (by simp) (by have := (m1.then m3).size; have := hT4.2.1.size; omega)
  rw [k9_same] at hk2
  have e2 : (mayK 1 4 ([] : List Nat).length && decide ((ofT k9 1).s < 4)) = false := rfl
  rw [e2] at hk2
  clear e2 hk
  go_wp2_with fail
  refine hk2.mono ?_
  rintro _ w5 ⟨rfl, a5, hT5⟩
  clear hk2
  have M5 : Moves [] w w5 := ca_moves hT4.1 (by omega) (Nat.le_refl _) (ca_moves hc3 (by omega) (Nat.le_refl _) (m1.then m3) hT4) hT5
  go_wp2_with fail
  refine (olook_w w w5 P a5 k9 1 5 hT5.1 k9_rise (by decide)).mono ?_
  rintro _ w6 ⟨v6, g6, rfl, hB6, m6, -⟩
  have e3 : lookT (ofT k9 1) 5 = 2 := rfl
  have e4 : sayT (ofT k9 1) 5 = zbs ⟨#[120]⟩ := rfl
  rw [e3]
  rw [e4] at hB6
  have hc6 := hT5.1.moves0 m6
  clear e3 e4
  go_wp2_with fail
  refine (olook_w w w6 P a5 k9 1 4 hc6 k9_rise (by decide)).mono ?_
  rintro _ w7 ⟨v7, g7, rfl, -, m7, -⟩
  have e3 : lookT (ofT k9 1) 4 = 3 := rfl
  rw [e3]
  clear e3
  have hc7 := hc6.moves0 m7
  go_wp2_with fail
  refine (olook_w w w7 P a5 k9 1 6 hc7 k9_rise (by decide)).mono ?_
  rintro _ w8 ⟨v8, g8, rfl, -, m8, -⟩
  have e3 : lookT (ofT k9 1) 6 = 1 := rfl
  rw [e3]
  clear e3
  have hc8 := hc7.moves0 m8
  have hrun := run_str (hB6.moves (m7.then m8) (by simp)) (zbs_oct _)
  rw [zbs_back] at hrun
  go_wp2_with fail
  refine (olen_w w w8 P a5 k9 hc8).mono ?_
  rintro _ _ ⟨rfl, rfl⟩
  have e3 : ((k9.length : Nat) : Int) = 1 := rfl
  rw [e3]
  go_wp2_with fail
  go_ret
  exact ⟨rfl, ((M5.then m6).then m7).then m8⟩
end Go.Proofs.Ytoijkdknjbgebaa
