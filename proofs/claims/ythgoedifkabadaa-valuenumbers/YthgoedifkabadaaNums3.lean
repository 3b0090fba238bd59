/-
  ValueNumbers' walk: sixteen values against each other, their bytes cut off at each place, one byte more.
-/
import Derived.Test.YthgoedifkabadaaSome3
import Derived.Test.YthgoedifkabadaaTwo3
import Derived.Test.YthgoedifkabadaaLaw3
import Derived.Test.YthgoedifkabadaaVal5
import Derived.Deep.RegionHeld3
namespace Go.Proofs.Ythgoedifkabadaa
open Go.RowKit

/-- Element k of the list. -/
theorem LGood.at {W w : World} {g n cap : Nat} {ad : Option Addr} (h : LGood W n w (.slice ad n cap)) {k : Nat} (hk : k < n) (hg : ad.map (·.block) = some g) :
    ∃ (A : Vm) (x : Option Addr) (l c : Nat), VIs w (.agg #[.int .i64 A.kind, .slice x l c, .float .f64 A.n]) A ∧ A.bs.length ≤ 17 ∧ w.cell? ⟨g, k * 3, none⟩ = some (.int .i64 A.kind) ∧ w.cell? ⟨g, k * 3 + 1, none⟩ = some (.slice x l c) ∧ w.cell? ⟨g, k * 3 + 2, none⟩ = some (.float .f64 A.n) := by
  obtain ⟨css, hl, hO, hG, _⟩ := h
  have hk' : k < css.length := by omega
  have hc : css[k]? = some css[k] := List.getElem?_eq_getElem hk'
  obtain ⟨g', cap', h1, _, h2⟩ := hO.cell hc
  simp at h1
  obtain ⟨rfl, _⟩ := h1
  simp at hg
  subst hg
  obtain ⟨A, hV, hlen, _⟩ := hG css[k] (List.getElem_mem hk')
  obtain ⟨x, l, c, _, hv⟩ := hV.open
  have hcs : css[k] = [.int .i64 A.kind, .slice x l c, .float .f64 A.n] := by
    simpa using hv
  rw [hv] at hV
  refine ⟨A, x, l, c, hV, hlen, ?_, ?_, ?_⟩
  · exact h2 0 _ (by rw [hcs]; rfl)
  · exact h2 1 _ (by rw [hcs]; rfl)
  · exact h2 2 _ (by rw [hcs]; rfl)
theorem LGood.block {W w : World} {n cap : Nat} {ad : Option Addr} (h : LGood W n w (.slice ad n cap)) (hn : 0 < n) : ∃ g, ad = some ⟨g, 0, none⟩ := by
  obtain ⟨css, hl, hO, _, _⟩ := h
  rcases hO.2.2 with ⟨h0, h1⟩ | ⟨g, cap', cur, h0, _⟩
  · simp at h0; omega
  · simp at h0
    exact ⟨g, h0.1⟩
theorem LGood.slice {W w : World} {n : Nat} {v : Value} (h : LGood W n w v) : ∃ ad cap, v = .slice ad n cap ∧ n ≤ cap := by
  obtain ⟨css, hl, hO, _, _⟩ := h
  obtain ⟨ad, cap, h1, h2⟩ := hO.slice
  exact ⟨ad, cap, by rw [h1, hl], by omega⟩

set_option maxRecDepth 100000 in
set_option maxHeartbeats 8000000 in
theorem vnumbers_w (w : World) : Calls Try.prog 3 #[] w fun e w' => e = .returned (.bool true) ∧ Moves [] w w' := by
  go_enter Try.func3, Try.ntmps3
  go_wp2_with (go_at_call 7; refine (some_w _).mono ?_; rintro _ w1 ⟨v1, rfl, hL, m1⟩; obtain ⟨ad, cap, rfl, hcap⟩ := hL.slice; obtain ⟨g, rfl⟩ := hL.block (by omega); have HL : Hid (LGood w 16 w1 (.slice (some ⟨g, 0, none⟩) 16 cap)) := hL; clear hL)
  go_loopw [2] (fun i wr => ∃ k : Nat, k ≤ 16 ∧ i = .int .i64 k ∧ Moves [] w1 wr) (fun i _ => 16 - (intOf i).toNat)
  case atStart => exact ⟨0, Nat.zero_le _, rfl, Moves.refl _ _⟩
  case round =>
    obtain ⟨k, hk, rfl, mr⟩ := hrel
    by_cases hlt : k < 16
    · have hk3 : (k : Int) < 16 := by omega
      obtain ⟨A, xA, lA, cA, hA, hAl, a0, a1, a2⟩ := HL.out.at hlt rfl
      go_wp2_with fail
      go_loopw [3] (fun i wr2 => ∃ m : Nat, m ≤ 16 ∧ i = .int .i64 m ∧ Moves [] w1 wr2) (fun i _ => 16 - (intOf i).toNat)
      case atStart => exact ⟨0, Nat.zero_le _, rfl, mr⟩
      case round =>
        obtain ⟨m, hm, rfl, mq⟩ := hrel
        by_cases hlt2 : m < 16
        · have hm3 : (m : Int) < 16 := by omega
          obtain ⟨B, xB, lB, cB, hB, hBl, b0, b1, b2⟩ := HL.out.at hlt2 rfl
          have d0 := mq.cell a0
          have d1 := mq.cell a1
          have d2 := mq.cell a2
          have e0 := mq.cell b0
          have e1 := mq.cell b1
          have e2 := mq.cell b2
          go_wp2_with fail
          go_region_held3 (fun w' => Moves [] w1 w' ∧ w'.cell? ⟨g, k * 3, none⟩ = some (.int .i64 A.kind) ∧ w'.cell? ⟨g, k * 3 + 1, none⟩ = some (.slice xA lA cA) ∧ w'.cell? ⟨g, k * 3 + 2, none⟩ = some (.float .f64 A.n) ∧ w'.cell? ⟨g, m * 3, none⟩ = some (.int .i64 B.kind) ∧ w'.cell? ⟨g, m * 3 + 1, none⟩ = some (.slice xB lB cB) ∧ w'.cell? ⟨g, m * 3 + 2, none⟩ = some (.float .f64 B.n)) (first | (go_keep; done) | exact ⟨mq, d0, d1, d2, e0, e1, e2⟩ | exact ⟨mq.drew.then m5, m5.cell d0, m5.cell d1, m5.cell d2, m5.cell e0, m5.cell e1, m5.cell e2⟩ | exact ⟨mq.drew, d0, d1, d2, e0, e1, e2⟩) ((go_at_call 8; refine (two_w _ _ A B _ (hA.moves mq.drew) (hB.moves mq.drew) (by omega)).mono ?_; rintro _ w5 ⟨rfl, m5⟩))
          go_wp2_with fail
          go_roundw
          case rel => exact ⟨m + 1, by omega, by go_num, mq.drew.then m5⟩
          case measure => simp [intOf]; omega
        · have hm3 : ¬ (m : Int) < 16 := by omega
          have d0 := mq.cell a0
          have d1 := mq.cell a1
          have d2 := mq.cell a2
          have hval := hA.val
          have hoct := venc_oct hA.isIn.oct
          have hven := venc_length A
          obtain ⟨E, hE⟩ : ∃ E, Hid (venc A = E) := ⟨_, rfl⟩
          rw [hE.out] at hoct hven
          have hEl : E.length ≤ 26 := by omega
          clear hven
          have hn0 : ([] : List Nat).length + 2000010 ≤ 1099511627776 := by rw [List.length_nil]; omega
          have hn1 : A.bs.length ≤ 1048576 := by omega
          have hn2 : [] ++ venc A = E := by rw [List.nil_append]; exact hE.out
          have hput := rPut_v (.slice none 0 0) 0 [] E _ A wr hval (isB_nil _ _) (hA.isIn.moves mq (by simp)) hn0 hn1 hn2
          clear hn0 hn2
          clear hval
          go_wp2_with (go_at_call 9; refine hput.mono ?_; clear hput; rintro _ w6 ⟨v6, rfl, hO6, m6, f6⟩; have h6B := hO6.isB; obtain ⟨ad6, n6, cap6, rfl, hl6, hc6, _⟩ := h6B)
          have HO : Hid (Own w6 (.slice ad6 n6 cap6) E) := hO6
          have M6 := mq.then m6
          have HM : Hid (Moves [] w1 w6) := M6
          have HF : Hid (Fresh w1 (.slice ad6 n6 cap6)) := fun b hb => Nat.le_trans mq.size (f6 b hb)
          have HA : Hid (VIs w1 (.agg #[.int .i64 A.kind, .slice xA lA cA, .float .f64 A.n]) A) := hA
          clear hO6 M6 m6 f6 hA d0 d1 d2
          go_loopw [5] (fun i wr3 => ∃ q : Nat, q ≤ n6 + 1 ∧ i = .int .i64 q ∧ Moves [] w6 wr3) (fun i _ => n6 + 1 - (intOf i).toNat)
          case atStart => exact ⟨0, Nat.zero_le _, rfl, Moves.refl _ _⟩
          case round =>
            obtain ⟨q, hq, rfl, m7⟩ := hrel
            have hxr := HO.out.moves m7 (by simp)
            by_cases hle : q ≤ n6
            · have hq3 : (q : Int) ≤ (n6 : Int) := by omega
              have hq4 : (q : Int) ≤ (cap6 : Int) := by omega
              have hcut := isB_take hxr.isB q hle
              have hco : ∀ y ∈ E.take q, y < 256 := fun y hy => hoct y (List.mem_of_mem_take hy)
              have hcl : (E.take q).length ≤ 1099511627776 := by rw [List.length_take]; omega
              obtain ⟨T, hT⟩ : ∃ T, Hid (T = E.take q) := ⟨_, rfl⟩
              rw [← hT.out] at hcut hco hcl
              go_wp2_with (go_at_call 10; refine (reads_w _ _ T _ hcut hco hcl).mono ?_; rintro _ w8 ⟨rfl, m8⟩)
              go_roundw
              case rel => exact ⟨q + 1, by omega, by go_num, m7.then m8⟩
              case measure => simp [intOf]; omega
            · have hq3 : ¬ (q : Int) ≤ (n6 : Int) := by omega
              have M7 := HM.out.then m7
              have d0 := M7.cell a0
              have d1 := M7.cell a1
              have d2 := M7.cell a2
              have h0o : ∀ y ∈ E ++ [0], y < 256 := fun y hy => by rcases List.mem_append.1 hy with h | h; exact hoct y h; simp at h; omega
              have h0l : (E ++ [0]).length ≤ 1099511627776 := by rw [List.length_append]; simp; omega
              have hEb : E.length + [0].length ≤ 1099511627776 := by simp; omega
              have hw8 := HA.out.moves M7
              go_wp2_with (first | (go_at_call 11; refine (writes_w _ A _ hw8 hn1).mono ?_; rintro _ w8 ⟨rfl, m8⟩; have hx8 := hxr.moves m8 (by simp); have ma8 : Moves [] w8 (w8.alloc (.cells #[.int .u8 0] 5)) := (Moves.refl _ _).alloc _; have hy8 := hx8.moves ma8 (by simp); have hn8 := has_new w8 0) | (at_builtin; refine append_law (.tmp 52) (.tmp 53) rfl (.slice ad6 n6 cap6) _ E [0] _ rfl rfl (by rfl) hy8 hn8 hEb ?_; intro v9 w9 hz m9 hat9; have hzB := hz.isB) | (go_at_call 10; refine (reads_w _ _ (E ++ [0]) _ hzB h0o h0l).mono ?_; rintro _ w10 ⟨rfl, m10⟩))
              go_roundw
              case rel => exact ⟨k + 1, by omega, by go_num, (appended ((M7.then m8).then ma8) HF.out m9 hat9).1.then m10⟩
              case measure => simp [intOf]; omega
    · have hk3 : ¬ (k : Int) < 16 := by omega
      go_wp2_with (go_at_call 12; refine (vknown_w _).mono ?_; rintro _ w8 ⟨rfl, m8⟩)
      go_ret
      exact ⟨rfl, (m1.then mr).then m8⟩
end Go.Proofs.Ythgoedifkabadaa
