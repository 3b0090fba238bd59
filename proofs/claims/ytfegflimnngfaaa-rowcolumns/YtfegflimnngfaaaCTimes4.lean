/-
  RowTimes' walk.
-/
import Derived.Test.YtfegflimnngfaaaCRow11
namespace Go.Proofs.Ytfegflimnngfaaa
open Go.RowKit

def sC : ByteArray := ⟨#[99]⟩

theorem tmod20 (s : Int) : 0 ≤ (wrap64 (s.tmod 20 + 20)).tmod 20 ∧ (wrap64 (s.tmod 20 + 20)).tmod 20 < 20 := by
  have h1 : -20 < s.tmod 20 := Int.lt_tmod_of_pos s (by decide)
  have h2 : s.tmod 20 < 20 := Int.tmod_lt_of_pos s (by decide)
  rw [IntWalk.wrap64_in _ (by omega)]
  exact ⟨Int.tmod_nonneg _ (by omega), Int.tmod_lt_of_pos _ (by decide)⟩

/-- What stands in the row, by times. -/
theorem times_plain {x y : Int} (hx : 0 ≤ x ∧ x < 20) (hy : 21 ≤ y ∧ y < 41) {p q : Pv} (hp : pvr p = true) (hq : pvr q = true) :
    ∃ R1 R2 R3, (pPutE [] sC y q = 0 ∧ pPut [] sC y q = R1) ∧ (pPutE R1 sC x p = 0 ∧ pPut R1 sC x p = R2) ∧ (∀ i, i < x → pAt R2 sC i = none) ∧ (∀ i, x ≤ i → i < y → pAt R2 sC i = some (pcanon p)) ∧ (∀ i, y ≤ i → pAt R2 sC i = some (pcanon q)) ∧ pDrop R2 sC y = R3 ∧ pAt R3 sC 1099511627776 = some (pcanon p) := by
  have hn : pname sC = true := by decide
  have tx : ptime x = true := by unfold ptime; simp; omega
  have ty : ptime y = true := by unfold ptime; simp; omega
  have l1 : prightV [⟨y, pcanon q⟩] = true := by rw [prightV_one]; simp [ty, pvr_canon, hq]
  have l2 : prightV [⟨y, pcanon q⟩, ⟨x, pcanon p⟩] = true := by rw [prightV_pair]; simp [tx, ty, pvr_canon, hp, hq]; omega
  have l3 : prightV [⟨x, pcanon p⟩] = true := by rw [prightV_one]; simp [tx, pvr_canon, hp]
  refine ⟨[⟨sC, [⟨y, pcanon q⟩]⟩], [⟨sC, [⟨y, pcanon q⟩, ⟨x, pcanon p⟩]⟩], [⟨sC, [⟨x, pcanon p⟩]⟩], pPut_first hn ty hq, ?_, ?_, ?_, ?_, ?_, ?_⟩
  · obtain ⟨e1, e2⟩ := pPut_single (l := [⟨y, pcanon q⟩]) hn tx hp l1
    refine ⟨e1, e2.trans ?_⟩
    have : x < y := by omega
    simp [pput, pcanonV, pcanon_pcanon, this, show ¬ y < x by omega]
  · intro i hi
    rw [pAt_single hn l2]
    simp [show ¬ y ≤ i by omega, show ¬ x ≤ i by omega]
  · intro i h1 h2
    rw [pAt_single hn l2]
    simp [show ¬ y ≤ i by omega, h1, pcanon_pcanon]
  · intro i h1
    rw [pAt_single hn l2]
    simp [h1, pcanon_pcanon]
  · unfold pDrop
    rw [pcopy_single hn l2, pvers_single]
    simp only [List.map_cons, List.map_nil, pcanonV, pcanon_pcanon, pdrop]
    rw [show ([(⟨y, pcanon q⟩ : Pver), ⟨x, pcanon p⟩].filter (fun z => z.t != y)) = [⟨x, pcanon p⟩] from by simp; omega]
    exact pwith_single _ _ _ (by simp)
  · rw [pAt_single hn l3]
    simp [show x ≤ 1099511627776 by omega, pcanon_pcanon]

set_option maxRecDepth 100000 in
set_option maxHeartbeats 8000000 in
theorem times_w (u0 u1 : Value) (s t : Int) (w : World) (h0 : KArg w u0) (h1 : KArg w u1) :
    Calls Try.prog 6 #[u0, u1, .int .i64 s, .int .i64 t] w fun e w' => e = .returned (.bool true) ∧ Moves [] w w' := by
  have k0 := h0
  have k1 := h1
  obtain ⟨t0, n0, x0, ad0, len0, cap0, _, _, rfl, _⟩ := h0.out
  obtain ⟨t1, n1, x1, ad1, len1, cap1, _, _, rfl, _⟩ := h1.out
  clear h0 h1
  obtain ⟨p0, p1, m0⟩ := boxes (Moves.refl [] ((w.alloc (.cells #[.bool t0, .int .i64 n0, .float .f64 x0, .slice ad0 len0 cap0] 42)).alloc (.cells #[.bool t1, .int .i64 n1, .float .f64 x1, .slice ad1 len1 cap1] 42)))
  go_enter Try.func6, Try.ntmps6
  go_wp2
  replace k0 := k0.moves m0
  replace k1 := k1.moves m0
  generalize ((w.alloc (.cells #[.bool t0, .int .i64 n0, .float .f64 x0, .slice ad0 len0 cap0] 42)).alloc (.cells #[.bool t1, .int .i64 n1, .float .f64 x1, .slice ad1 len1 cap1] 42)) = W1 at *
  refine par2_wp (by kernel_rfl) (F := fun _ => 15) (S := fun j => 4 + j) (L := fun j => 30 + 2 * j) (C := fun j => 31 + 2 * j) (D := fun j => 11 + j) (tv := 42) (T := 39) (Z := #[.int .i64 0, .slice none 0 0, .float .f64 0]) (B := fun j => w.heap.size + j)
    (scs := fun j => match j with | 0 => #[.bool t0, .int .i64 n0, .float .f64 x0, .slice ad0 len0 cap0] | _ => #[.bool t1, .int .i64 n1, .float .f64 x1, .slice ad1 len1 cap1]) (R := fun _ => Drew W1) (W := W1) ?_ (Moves.refl _ _) ?_
  · refine ⟨rfl, by kernel_rfl, by kernel_rfl, ?_, ?_, ?_, ?_, ?_, ?_, ?_, ?_, ?_, ⟨_, Try.underlying42⟩, fun _ _ _ _ => rfl, fun _ => rfl, by kernel_rfl, ?_⟩
    · intro j hj; simp; omega
    · intro j k hj hk; omega
    · intro j k hj hk hne; omega
    · intro j k hj hk; omega
    · intro j hj; match j, hj with | 0, _ => exact ⟨_, rfl, rfl, rfl, rfl⟩ | 1, _ => exact ⟨_, rfl, rfl, rfl, rfl⟩
    · intro j hj; match j, hj with | 0, _ => exact ⟨_, _, rfl, rfl, rfl, rfl⟩ | 1, _ => exact ⟨_, _, rfl, rfl, rfl, rfl⟩
    · intro j hj; match j, hj with | 0, _ => exact ⟨_, rfl, rfl, rfl, rfl⟩ | 1, _ => exact ⟨_, rfl, rfl, rfl, rfl⟩
    · intro j hj; match j, hj with | 0, _ => exact ⟨_, rfl, rfl, rfl, rfl⟩ | 1, _ => exact ⟨_, rfl, rfl, rfl, rfl⟩
    · intro j hj; match j, hj with | 0, _ => exact ⟨rfl, p0, by kernel_rfl⟩ | 1, _ => exact ⟨rfl, p1, by kernel_rfl⟩
    · intro j hj w' _; match j, hj with | 0, _ => exact drew_b W1 w' _ k0 | 1, _ => exact drew_b W1 w' _ k1
  clear k0 k1 p0 p1
  rintro l0 c0 l1 c1 q0 q1 cs0 cs1 w2 m2 ⟨A, adA, lenA, capA, rfl, hA, yA⟩ z0 b0 ⟨B, adB, lenB, capB, rfl, hB, yB⟩ z1 b1
  have HA : Hid (VA w2 [.int .i64 A.kind, .slice adA lenA capA, .float .f64 A.n] A.pv) := (hA.va (by have := yA.len16; omega)).moves m2
  have HB : Hid (VA w2 [.int .i64 B.kind, .slice adB lenB capB, .float .f64 B.n] B.pv) := (hB.va (by have := yB.len16; omega)).moves m2
  have ra := yA.right
  have rb := yB.right
  have M := m0.then m2
  simp only [List.setIfInBounds_toArray, List.set_cons_zero, List.set_cons_succ]
  have bx := tmod20 s
  have by' := tmod20 t
  have hy1 : wrap64 ((wrap64 (t.tmod 20 + 20)).tmod 20 + 21) = (wrap64 (t.tmod 20 + 20)).tmod 20 + 21 := IntWalk.wrap64_in _ (by omega)
  rw [hy1]
  clear hy1
  obtain ⟨y, hy⟩ : ∃ y, (wrap64 (t.tmod 20 + 20)).tmod 20 + 21 = y := ⟨_, rfl⟩
  have hyb : 21 ≤ y ∧ y < 41 := by omega
  rw [hy]
  generalize (wrap64 (s.tmod 20 + 20)).tmod 20 = x at bx
  generalize (wrap64 (t.tmod 20 + 20)).tmod 20 = y0
  generalize wrap64 (s.tmod 20 + 20) = x1
  generalize wrap64 (t.tmod 20 + 20) = y1
  generalize s.tmod 20 = x2
  generalize t.tmod 20 = y2
  obtain ⟨R1, R2, R3, ⟨e1, e2⟩, ⟨e3, e4⟩, a1, a2, a3, d1, n1⟩ := times_plain bx hyb ra rb
  have hP1 := putK e1 e2
  have hP2 := putK e3 e4
  have hD := dropK d1
  have hN := newestK n1
  have sA := psame_canon A.pv
  have sB := psame_canon B.pv
  have HSA : Hid (psame (pcanon A.pv) A.pv = true) := sA
  have HSB : Hid (psame (pcanon B.pv) B.pv = true) := sB
  have A1 : Hid (∀ i, i < x → pAt R2 sC i = none) := a1
  have A2 : Hid (∀ i, x ≤ i → i < y → pAt R2 sC i = some (pcanon A.pv)) := a2
  have A3 : Hid (∀ i, y ≤ i → pAt R2 sC i = some (pcanon B.pv)) := a3
  obtain ⟨c00, c01, c02, _, _, _⟩ := three_cells b0
  obtain ⟨c10, c11, c12, _, _, _⟩ := three_cells b1
  clear e1 e2 e3 e4 a1 a2 a3 d1 n1 sA sB hA hB yA yB ra rb z0 z1 m0 m2 by' hy
  go_wp2_with (first | (go_at_call_of 16 (Value.int IntKind.i64 y); refine (hP1 _ _ _ _ _ _ _ (RowAt.nil _) HB.out).mono ?_; rintro _ w3 ⟨ad3, n3, cap3, rfl, hr3, m3⟩; have HR3 : Hid (RowAt w3 (.agg #[.slice ad3 n3 cap3]) R1) := hr3; clear hr3; obtain ⟨d00, d01, d02, _, _, _⟩ := three_cells (((Moves.refl [] w2).then m3).at b0 (by simp)); have q3 := heap_alloc_new w3 (.cells #[.slice ad3 n3 cap3] 28); have ma : Moves [] w3 (w3.alloc (.cells #[.slice ad3 n3 cap3] 28)) := (Moves.refl _ _).alloc _; have dd0 := ma.cell d00; have dd1 := ma.cell d01; have dd2 := ma.cell d02; have hA4 := HA.out.moves (m3.then ma)) | (go_at_call 16; refine (hP2 _ _ _ _ _ _ _ (HR3.out.moves ma) hA4).mono ?_; rintro _ w4 ⟨ad4, n4, cap4, rfl, hr4, m4⟩; have HR4 : Hid (RowAt w4 (.agg #[.slice ad4 n4 cap4]) R2) := hr4; clear hr4; have q4 := m4.at q3 (by simp); obtain ⟨f0, f1⟩ := one_cell q4))
  obtain ⟨ws, hws⟩ : ∃ ws, w4.setCell ⟨w3.heap.size, 0, none⟩ (.slice ad4 n4 cap4) = ws := ⟨_, rfl⟩
  have qs : ws.heap[w3.heap.size]? = some (.cells #[.slice ad4 n4 cap4] 28 (0, 0)) := by rw [← hws]; exact set_one q4 _
  have HRs : Hid (RowAt ws (.agg #[.slice ad4 n4 cap4]) R2) := by rw [← hws]; exact HR4.out.setRow q4 _
  have Ms : Moves [] w2 ws := by
    rw [← hws]
    exact ((m3.then ma).then m4).setCell (.inr (by show _ ≤ _; exact m3.size)) _
  rw [hws]
  clear hws q4 q3 f0 f1 HR4 HR3 hA4 dd0 dd1 dd2 d00 d01 d02 hP1 hP2 m3 m4 ma
  have MW : Hid (Moves [] w ws) := M.then Ms
  have HAs : Hid (VA ws [.int .i64 A.kind, .slice adA lenA capA, .float .f64 A.n] A.pv) := HA.out.moves Ms
  have HBs : Hid (VA ws [.int .i64 B.kind, .slice adB lenB capB, .float .f64 B.n] B.pv) := HB.out.moves Ms
  have b0s := Ms.at b0 (by simp)
  have b1s := Ms.at b1 (by simp)
  clear HA HB b0 b1 c00 c01 c02 c10 c11 c12 M Ms
  go_loopw [16] (fun i wr => ∃ k : Nat, k ≤ 45 ∧ i = .int .i64 k ∧ Moves [] ws wr) (fun i _ => 45 - (intOf i).toNat)
  case atStart => exact ⟨0, Nat.zero_le _, rfl, Moves.refl _ _⟩
  case round =>
    obtain ⟨k, hk, rfl, mr⟩ := hrel
    have HRr : Hid (RowAt wr (.agg #[.slice ad4 n4 cap4]) R2) := HRs.out.moves mr
    have HAr : Hid (VA wr [.int .i64 A.kind, .slice adA lenA capA, .float .f64 A.n] A.pv) := HAs.out.moves mr
    have HBr : Hid (VA wr [.int .i64 B.kind, .slice adB lenB capB, .float .f64 B.n] B.pv) := HBs.out.moves mr
    have b0r := mr.at b0s (by simp)
    have b1r := mr.at b1s (by simp)
    obtain ⟨r0, _⟩ := one_cell (mr.at qs (by simp))
    by_cases hlt : k < 45
    · have hk3 : (k : Int) < 45 := by omega
      by_cases hkx : (k : Int) < x
      · have hAt := atK (A1.out (k : Int) hkx)
        go_wp2_with (go_at_call 21; refine (hAt _ _ HRr.out).mono ?_; rintro _ w5 ⟨k5, ad5, n5, cap5, x5, rfl, hV5, m5⟩; clear hV5)
        go_roundw
        case rel => exact ⟨k + 1, by omega, by go_num, mr.then (m5.alloc _)⟩
        case measure => simp [intOf]; omega
      by_cases hky : (k : Int) < y
      · have hAt := atK (A2.out (k : Int) (by omega) hky)
        go_wp2_with (first | (go_at_call 21; refine (hAt _ _ HRr.out).mono ?_; rintro _ w5 ⟨k5, ad5, n5, cap5, x5, rfl, hV5, m5⟩; have HV5 : Hid (VC w5 [.int .i64 k5, .slice ad5 n5 cap5, .float .f64 x5] (pcanon A.pv)) := hV5; clear hV5; have mx : Moves [] w5 (w5.alloc (.cells #[.int .i64 k5, .slice ad5 n5 cap5, .float .f64 x5] 39)) := (Moves.refl _ _).alloc _; obtain ⟨x00, x01, x02, _, _, _⟩ := three_cells ((m5.then mx).at b0r (by simp))) | (go_at_call 18; refine (rsame_p _ _ _ _ _ _ _ _ _ _ _ _ _ _ (HV5.out.va.moves mx) (HAr.out.moves (m5.then mx)) (Moves.refl _ _)).mono ?_; rintro _ w6 ⟨rfl, m6⟩; rw [HSA.out]))
        go_roundw
        case rel => exact ⟨k + 1, by omega, by go_num, mr.then ((m5.then mx).then m6)⟩
        case measure => simp [intOf]; omega
      · have hAt := atK (A3.out (k : Int) (by omega))
        go_wp2_with (first | (go_at_call 21; refine (hAt _ _ HRr.out).mono ?_; rintro _ w5 ⟨k5, ad5, n5, cap5, x5, rfl, hV5, m5⟩; have HV5 : Hid (VC w5 [.int .i64 k5, .slice ad5 n5 cap5, .float .f64 x5] (pcanon B.pv)) := hV5; clear hV5; have mx : Moves [] w5 (w5.alloc (.cells #[.int .i64 k5, .slice ad5 n5 cap5, .float .f64 x5] 39)) := (Moves.refl _ _).alloc _; obtain ⟨x00, x01, x02, _, _, _⟩ := three_cells ((m5.then mx).at b1r (by simp))) | (go_at_call 18; refine (rsame_p _ _ _ _ _ _ _ _ _ _ _ _ _ _ (HV5.out.va.moves mx) (HBr.out.moves (m5.then mx)) (Moves.refl _ _)).mono ?_; rintro _ w6 ⟨rfl, m6⟩; rw [HSB.out]))
        go_roundw
        case rel => exact ⟨k + 1, by omega, by go_num, mr.then ((m5.then mx).then m6)⟩
        case measure => simp [intOf]; omega
    · have hk3 : ¬ (k : Int) < 45 := by omega
      go_wp2_with (first | (go_at_call 22; refine (hD _ _ HRr.out).mono ?_; rintro _ w5 ⟨ad5, n5, cap5, rfl, hr5, m5⟩; have HR5 : Hid (RowAt w5 (.agg #[.slice ad5 n5 cap5]) R3) := hr5; clear hr5) | (go_at_call 17; refine (hN _ _ HR5.out).mono ?_; rintro _ w6 ⟨k6, ad6, n6, cap6, x6, rfl, hV6, m6⟩; have HV6 : Hid (VC w6 [.int .i64 k6, .slice ad6 n6 cap6, .float .f64 x6] (pcanon A.pv)) := hV6; clear hV6; have mx : Moves [] w6 (w6.alloc (.cells #[.int .i64 k6, .slice ad6 n6 cap6, .float .f64 x6] 39)) := (Moves.refl _ _).alloc _; obtain ⟨x00, x01, x02, _, _, _⟩ := three_cells (((m5.then m6).then mx).at b0r (by simp))) | (go_at_call 18; refine (rsame_p _ _ _ _ _ _ _ _ _ _ _ _ _ _ (HV6.out.va.moves mx) (HAr.out.moves ((m5.then m6).then mx)) (Moves.refl _ _)).mono ?_; rintro _ w7 ⟨rfl, m7⟩; rw [HSA.out]) | (go_at_call 9; refine (known_w _).mono ?_; rintro _ w8 ⟨rfl, m8⟩))
      go_ret
      exact ⟨rfl, (((MW.out.then mr).then ((m5.then m6).then mx)).then m7).then m8⟩
end Go.Proofs.Ytfegflimnngfaaa
