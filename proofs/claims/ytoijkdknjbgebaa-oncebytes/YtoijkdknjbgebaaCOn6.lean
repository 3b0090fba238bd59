/-
  What law9's known does; its calls, opened; Within.
-/
import Derived.Test.YtoijkdknjbgebaaCOn5
import Derived.Test.YtoijkdknjbgebaaCBaseD
import Derived.Test.YtoijkdknjbgebaaCOpen0
namespace Go.Proofs.Ytoijkdknjbgebaa
open Go.RowKit
open Go.ChangeShapes Go.WideShapes

theorem tmod_any (n m : Int) (hm : 0 < m) : -m < n.tmod m ∧ n.tmod m < m := by
  have h1 := Int.tmod_lt_of_pos n hm
  have h2 := Int.tmod_lt_of_pos (-n) hm
  rw [Int.neg_tmod] at h2
  omega
theorem withinA_w (n lo hi : Int) (h0 : 0 ≤ lo) (h1 : lo ≤ hi) (h2 : hi ≤ 1099511627776) (w : World) :
    Calls Try.prog 27 #[.int .i64 n, .int .i64 lo, .int .i64 hi] w fun e w' => ∃ r : Int, (lo ≤ r ∧ r ≤ hi) ∧ e = .returned (.int .i64 r) ∧ w = w' := by
  have hz : ¬ hi - lo + 1 = 0 := by omega
  have t := tmod_any n (hi - lo + 1) (by omega)
  by_cases hA : lo ≤ n
  · by_cases hB : n ≤ hi
    · go_enter Try.func27, Try.ntmps27
      go_wp2
      go_ret
      exact ⟨n, ⟨hA, hB⟩, rfl, rfl⟩
    · have t1 := Int.emod_nonneg n (show hi - lo + 1 ≠ 0 by omega)
      have t2 := Int.emod_lt_of_pos n (show 0 < hi - lo + 1 by omega)
      clear t
      go_enter Try.func27, Try.ntmps27
      go_wp2
      all_goals go_ret
      all_goals refine ⟨_, ?_, rfl, rfl⟩
      all_goals generalize n % (hi - lo + 1) = m at *
      all_goals try unfold wrap64
      all_goals omega
  · go_enter Try.func27, Try.ntmps27
    go_wp2
    all_goals go_ret
    all_goals refine ⟨_, ?_, rfl, rfl⟩
    all_goals generalize n.tmod (hi - lo + 1) = m at *
    all_goals try unfold wrap64
    all_goals omega

/-- A list of calls that was handed in. -/
def OArgs (W : World) (v : Value) : Prop := ∃ ad len cap, v = .slice ad len cap ∧ len ≤ cap ∧ ∀ k, k < len → ∃ b off z0 z1 z2 a3 l3 c3 g bs, ad = some ⟨b, off, none⟩ ∧ W.cell? ⟨b, off + k * 4, none⟩ = some (.int .i64 z0) ∧ W.cell? ⟨b, off + k * 4 + 1, none⟩ = some (.int .i64 z1) ∧ W.cell? ⟨b, off + k * 4 + 2, none⟩ = some (.int .i64 z2) ∧ W.cell? ⟨b, off + k * 4 + 3, none⟩ = some (.slice a3 l3 c3) ∧ IsB W g (.slice a3 l3 c3) bs ∧ ∀ z ∈ bs, z < 256
set_option maxRecDepth 100000 in
theorem oargs_of_raw {H : Type} {enc : TypeId × Value → H} {W : World} {base fuel : Nat} {spare : Nat → Bool} {held : Bool} {v : Value} {x : DataW H × List MemPlace}
    (h : DataW.trod enc Try.prog W base spare held fuel 42 [v] = some x) : OArgs W v := by
  have c4 : Try.prog.cellsOf 57 = 4 := by kernel_rfl
  rcases Go.Deep.open_slice Try.underlying42 h with ⟨hcs, _⟩ | ⟨ad, len, cap, m, n, D, Pls, hcs, _, hl, hm, hmm, _, hx⟩
  · simp at hcs
    subst hcs
    exact ⟨none, 0, 0, rfl, Nat.le_refl _, fun k hk => absurd hk (by omega)⟩
  · simp at hcs
    subst hcs
    have hlm : len ≤ m := by rw [hmm]; split <;> omega
    refine ⟨_, _, _, rfl, hl, fun k hk => ?_⟩
    obtain ⟨cs', h1, h2⟩ := hx k (by omega)
    obtain ⟨cs0, h01, _⟩ := hx 0 (by omega)
    rw [c4] at h1 h01
    obtain ⟨b, off, rfl, hlen, hcell⟩ := struct_cells (by omega) h01 h1
    obtain ⟨xs, q, hk, hxy, _, hxl, hf⟩ := DataW.trod_struct Try.underlying57 h2
    have c3 : Try.prog.cellsOf 3 = 1 := by kernel_rfl
    have cB : Try.prog.cellsOf 26 = 1 := by kernel_rfl
    match xs, hxl, cs', hlen with
    | [y0, y1, y2, y3], _, [v0, v1, v2, v3], _ =>
      have g0 := hf 0 _ rfl
      have g1 := hf 1 _ rfl
      have g2 := hf 2 _ rfl
      have g3 := hf 3 _ rfl
      simp [c3, cB] at g0 g1 g2 g3
      obtain ⟨z0, hz0, _, _⟩ := DataW.trod_int Try.underlying3 g0
      obtain ⟨z1, hz1, _, _⟩ := DataW.trod_int Try.underlying3 g1
      obtain ⟨z2, hz2, _, _⟩ := DataW.trod_int Try.underlying3 g2
      obtain ⟨g, bs, hB, ho⟩ := isB_of_trod g3
      have hB' := hB
      obtain ⟨a3, l3, cc3, rfl, _⟩ := hB'
      simp at hz0 hz1 hz2
      subst hz0 hz1 hz2
      exact ⟨b, off, z0, z1, z2, a3, l3, cc3, g, bs, rfl, hcell 0 _ rfl, hcell 1 _ rfl, hcell 2 _ rfl, hcell 3 _ rfl, hB, ho⟩
set_option maxRecDepth 100000 in
theorem oargs_of_trod {H : Type} {enc : TypeId × Value → H} {W : World} {base b0 : Nat} {r : Reach} {spare : Nat → Bool} {held : Bool} {v : Value} {d : DataW H} {p : List MemPlace}
    (hv : Value.okWide Try.prog W r b0 42 v) (h : DataW.Trod enc Try.prog W base spare held 42 v d p) : OArgs W v := by
  obtain ⟨a, len, cap, rfl⟩ := okWide_slice Try.underlying42 hv
  obtain ⟨fuel, hf⟩ := h
  exact oargs_of_raw (by simpa [Value.cells] using hf)

def k9 : List Pt := [⟨1, 5, ⟨#[120]⟩⟩]
theorem k9_rise : RiseT k9 := List.pairwise_singleton _ _
theorem k9_keep : (if mayK 1 5 [120].length then keepT [] ⟨1, 5, strOf [120]⟩ else []) = k9 := rfl
theorem k9_same : (if mayK 1 4 ([] : List Nat).length then keepT k9 ⟨1, 4, strOf []⟩ else k9) = k9 := rfl

/-- What a cache of the law's own leaves. -/
theorem ca_moves {W w0 w1 w2 : World} {p : Nat} {a a2 : Option Nat} {xs ys : List Pt} (h : CaIs W w1 p a xs) (hp : w0.heap.size ≤ p) (hW : w0.heap.size ≤ W.heap.size) (M : Moves [] w0 w1) (m : CaTo W w1 p a w2 a2 ys) : Moves [] w0 w2 :=
  M.trans m.2.1 (fun x hx => .inr (by
    rcases List.mem_cons.1 hx with rfl | hx
    · exact hp
    · have := (h.lta (Option.mem_toList.1 hx)).2
      omega))

set_option maxRecDepth 100000 in
set_option maxHeartbeats 4000000 in
theorem known9_w (w : World) : Calls Try.prog 21 #[] w fun e w' => e = .returned (.bool true) ∧ Moves [] w w' := by
  go_enter Try.func21, Try.ntmps21
  go_wp2_with fail
  refine (onew_w w).mono ?_
  rintro _ w1 ⟨rfl, h1, m1⟩
  obtain ⟨P, hP⟩ : ∃ P, w.heap.size = P := ⟨_, rfl⟩
  rw [hP] at h1
  have hb2 := heap_alloc_new w1 (.cells #[.int .u8 120] 5)
  have m2 : Moves [] w1 (w1.alloc (.cells #[.int .u8 120] 5)) := (Moves.refl _ _).alloc _
  obtain ⟨w3, hcv, hB3, m3, _⟩ := conv_exact (W := w1) (c := [120]) (Nat.le_refl _) m2 hb2
  have hcv' : (convert 26 26 (.slice (some ⟨w1.heap.size, 0, none⟩) 1 1)).run Try.prog (w1.alloc (.cells #[.int .u8 120] 5)) = .ok (.slice (some ⟨w1.heap.size, 0, none⟩) 1 1) w3 := hcv
  have hc3 := h1.moves0 m3
  have hk := okeep_w w w3 P none [] 1 5 _ _ [120] hc3 List.Pairwise.nil (by simp) hB3 (by simp) (m1.then m3).size
  rw [k9_keep] at hk
  have e1 : (mayK 1 5 [120].length && decide ((ofT [] 1).s < 5)) = true := rfl
  rw [e1] at hk
  clear hcv e1 hb2 hB3
  go_wp2_with fail
  refine hk.mono ?_
  rintro _ w4 ⟨rfl, a4, hT4⟩
  have hk2 := okeep_w w w4 P a4 k9 1 4 (.slice none 0 0) 0 [] hT4.1 k9_rise (by decide) ⟨_, _, _, rfl, rfl, Nat.le_refl _, fun _ => rfl, .inl rfl⟩ (by simp) (by have := (m1.then m3).size; have := hT4.2.1.size; omega)
  rw [k9_same] at hk2
  have e2 : (mayK 1 4 ([] : List Nat).length && decide ((ofT k9 1).s < 4)) = false := rfl
  rw [e2] at hk2
  clear e2 hk
  go_wp2_with fail
  refine hk2.mono ?_
  rintro _ w5 ⟨rfl, a5, hT5⟩
  clear hk2
  have M5 : Moves [] w w5 := ca_moves hT4.1 (by omega) (Nat.le_refl _) (ca_moves hc3 (by omega) (Nat.le_refl _) (m1.then m3) hT4) hT5
  go_wp2_with fail
  refine (olook_w w w5 P a5 k9 1 5 hT5.1 k9_rise (by decide)).mono ?_
  rintro _ w6 ⟨v6, g6, rfl, hB6, m6, -⟩
  have e3 : lookT (ofT k9 1) 5 = 2 := rfl
  have e4 : sayT (ofT k9 1) 5 = zbs ⟨#[120]⟩ := rfl
  rw [e3]
  rw [e4] at hB6
  have hc6 := hT5.1.moves0 m6
  clear e3 e4
  go_wp2_with fail
  refine (olook_w w w6 P a5 k9 1 4 hc6 k9_rise (by decide)).mono ?_
  rintro _ w7 ⟨v7, g7, rfl, -, m7, -⟩
  have e3 : lookT (ofT k9 1) 4 = 3 := rfl
  rw [e3]
  clear e3
  have hc7 := hc6.moves0 m7
  go_wp2_with fail
  refine (olook_w w w7 P a5 k9 1 6 hc7 k9_rise (by decide)).mono ?_
  rintro _ w8 ⟨v8, g8, rfl, -, m8, -⟩
  have e3 : lookT (ofT k9 1) 6 = 1 := rfl
  rw [e3]
  clear e3
  have hc8 := hc7.moves0 m8
  have hrun := run_str (hB6.moves (m7.then m8) (by simp)) (zbs_oct _)
  rw [zbs_back] at hrun
  go_wp2_with fail
  refine (olen_w w w8 P a5 k9 hc8).mono ?_
  rintro _ _ ⟨rfl, rfl⟩
  have e3 : ((k9.length : Nat) : Int) = 1 := rfl
  rw [e3]
  go_wp2_with fail
  go_ret
  exact ⟨rfl, ((M5.then m6).then m7).then m8⟩
end Go.Proofs.Ytoijkdknjbgebaa
