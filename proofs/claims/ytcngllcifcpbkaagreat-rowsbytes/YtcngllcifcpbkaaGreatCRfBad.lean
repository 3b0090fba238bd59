/- ours -/
import Derived.Test.YtcngllcifcpbkaaGreatCBaseY
namespace Go.Proofs.YtcngllcifcpbkaaGreat
open Go.RowKit

def longJunk (bs : List Nat) (bad : Bool) : Nat := if bad = true ∨ bs.length < 4 then 0 else val (bs.take 4) * 4294967296

set_option maxHeartbeats 1000000 in
theorem rfLong_fail_v (q g : Nat) (bs : List Nat) (bad : Bool) (w : World) (h : RfIs w q g bs bad) (hn : bad = true ∨ bs.length < 8) (hb : bs.length ≤ 1099511627776) (ho : ∀ b ∈ bs, b < 256) :
  Calls Tryz.prog 119 #[.pointer (some ⟨q, 0, none⟩)] w fun e w' => e = .returned (.int .u64 (longJunk bs bad : Int)) ∧ RfIs w' q g [] true ∧ Moves [q] w w' := by
 have e0 : val [0, 0, 0, 0] = 0 := by decide
 by_cases hc : bad = true ∨ bs.length < 4
 ·have H0 : Hid (val [0, 0, 0, 0] = 0) := e0
  go_enter Tryz.func119, Tryz.ntmps119
  go_wp2_with (first | (go_at_call 83; refine (rfNum_fail_w q g [] true _ hr1 (.inl rfl)).mono ?_; rintro _ w2 ⟨rfl, hr2, m2⟩; rw [H0.out]) | (go_at_call 83; refine (rfNum_fail_w q g bs bad _ h hc).mono ?_; rintro _ w1 ⟨rfl, hr1, m1⟩; rw [H0.out]))
  go_ret
  exact ⟨by unfold longJunk; rw [if_pos hc]; first | rfl | decide, hr2, m1.then m2⟩
 ·obtain rfl : bad = false := by cases bad <;> simp_all
  have h4 : 4 ≤ bs.length := by omega
  have h8 : bs.length < 8 := by rcases hn with h | h; simp at h; exact h
  have H0 : Hid (val [0, 0, 0, 0] = 0) := e0
  have hA := val_lt ho 4
  generalize hVA : val (bs.take 4) = A at hA
  have HA : Hid (val (bs.take 4) = A) := hVA
  have hA1 : A < 4294967296 := by omega
  have hA2 : (A : Int) < 4294967296 := by omega
  have hor := or_two hA1 (B := 0) (by omega)
  have hd4 : (bs.drop 4).length < 4 := by rw [List.length_drop]; omega
  have HJ : Hid (longJunk bs false = A * 4294967296 + 0) := by unfold Hid longJunk; rw [if_neg hc, hVA, Nat.add_zero]
  clear hVA hA hc hn
  go_enter Tryz.func119, Tryz.ntmps119
  go_wp2_with (first | (go_at_call 83; refine (rfNum_fail_w q g (bs.drop 4) false _ hr1 (.inr hd4)).mono ?_; rintro _ w2 ⟨rfl, hr2, m2⟩; rw [H0.out]) | (go_at_call 83; refine (rfNum_w q g bs _ h h4 hb ho).mono ?_; rintro _ w1 ⟨rfl, hr1, m1⟩; rw [HA.out]))
  go_ret
  exact ⟨by rw [HJ.out, ← hor]; rfl, hr2, m1.then m2⟩

set_option maxHeartbeats 1000000 in
theorem rfFloat_fail_t (q g : Nat) (bs : List Nat) (w : World) (h : RfIs w q g bs false) (hb : bs.length ≤ 1099511627776) (ho : ∀ b ∈ bs, b < 256) (hc : ¬ (8 ≤ bs.length ∧ Pl.canon (val (bs.take 8)) = val (bs.take 8))) :
  Calls Tryz.prog 144 #[.pointer (some ⟨q, 0, none⟩)] w fun e w' => ∃ x : Nat, e = .returned (.float .f64 x) ∧ Pl.Fits x ∧ RfIs w' q g [] true ∧ Moves [q] w w' := by
 by_cases hn : 8 ≤ bs.length
 ·have hc' : ¬ Pl.canon (val (bs.take 8)) = val (bs.take 8) := fun e => hc ⟨hn, e⟩
  clear hc
  have hV8 := val_lt ho 8
  generalize hV : val (bs.take 8) = V at hc' hV8
  have HV : Hid (val (bs.take 8) = V) := hV
  have hfit : Pl.Fits V := by unfold Pl.Fits; omega
  have hfitc := Pl.fits_canon hfit
  have ht : ((Pl.canon (Pl.canon V) : Int) != (V : Int)) = true := by rw [Pl.canon_canon]; simp; omega
  clear hV hc' hV8
  go_enter Tryz.func144, Tryz.ntmps144
  go_wp2_with (first | (go_at_call 119; refine (rfLong_w _ g bs _ h hn hb ho).mono ?_; rintro _ w2 ⟨rfl, hr2, m2⟩; rw [HV.out]) | (go_at_call 127; refine (refFrom_w _ hfit _).mono ?_; rintro _ _ ⟨rfl, rfl⟩) | (go_at_call 128; refine (refBits_w _ hfitc _).mono ?_; rintro _ _ ⟨rfl, rfl⟩) | (go_at_call 84; refine (rfFail_w _ g _ _ _ hr2).mono ?_; rintro _ w3 ⟨rfl, hr3, m3⟩))
  go_ret
  exact ⟨0, rfl, fits_zero, hr3, m2.then m3⟩
 ·have hn' : bs.length < 8 := by omega
  go_enter Tryz.func144, Tryz.ntmps144
  go_wp2_with (first | (go_at_call 119; refine (rfLong_fail_w _ g bs false _ h (.inr hn') hb ho).mono ?_; rintro _ w2 ⟨n2, rfl, hfit, hr2, m2⟩; have hfitc := Pl.fits_canon hfit) | (go_at_call 127; refine (refFrom_w _ hfit _).mono ?_; rintro _ _ ⟨rfl, rfl⟩) | (go_at_call 128; refine (refBits_w _ hfitc _).mono ?_; rintro _ _ ⟨rfl, rfl⟩) | (go_at_call 84; refine (rfFail_w _ g _ _ _ hr2).mono ?_; rintro _ w3 ⟨rfl, hr3, m3⟩))
  ·go_ret
   exact ⟨0, rfl, fits_zero, hr3, m2.then m3⟩
  ·go_ret
   exact ⟨_, rfl, hfitc, hr2, m2⟩

set_option maxHeartbeats 2000000 in
theorem rfText_fail_t (q g : Nat) (bs : List Nat) (most : Int) (w : World) (h : RfIs w q g bs false) (hb : bs.length ≤ 1099511627776) (ho : ∀ b ∈ bs, b < 256) (hok : ¬ textOk bs most) :
  Calls Tryz.prog 85 #[.pointer (some ⟨q, 0, none⟩), .int .i64 most] w fun e w' => e = .returned (.slice none 0 0) ∧ RfIs w' q g [] true ∧ Moves [q] w w' := by
 by_cases k1 : 4 ≤ bs.length
 ·have hok' : ¬ (val (bs.take 4) ≤ 1048576 ∧ (0 ≤ most → (val (bs.take 4) : Int) ≤ most) ∧ val (bs.take 4) ≤ (bs.drop 4).length) := fun e => hok ⟨k1, e⟩
  clear hok
  have hv4 := val_lt ho 4
  generalize hV : val (bs.take 4) = V at hok' hv4
  have HV : Hid (val (bs.take 4) = V) := hV
  have HV5 : Hid ((V : Int) < 4294967296) := by
   show (V : Int) < 4294967296
   omega
  clear hV hv4
  by_cases k2 : V ≤ 1048576
  ·have t1 : ¬ (1048576 : Int) < (V : Int) := by omega
   by_cases hm : 0 ≤ most
   ·by_cases k3 : most < (V : Int)
    ·clear hok'
     go_enter Tryz.func85, Tryz.ntmps85
     go_wp2_with (first | (go_at_call 83; refine (rfNum_w _ g bs _ h k1 hb ho).mono ?_; rintro _ w2 ⟨rfl, hr2, m2⟩; rw [HV.out]; have hr2' := hr2; obtain ⟨v2, hp2, hv2, hg2⟩ := hr2'; obtain ⟨e0, e1, ef0, ef1⟩ := two_cells hp2; obtain ⟨ad2, len2, cap2, rfl, hl2, _⟩ := hv2) | (go_at_call 84; refine (rfFail_w _ g _ _ _ hr2).mono ?_; rintro _ w3 ⟨rfl, hr3, m3⟩))
     go_ret
     exact ⟨rfl, hr3, m2.then m3⟩
    ·have k4 : ¬ V ≤ (bs.drop 4).length := fun e => hok' ⟨k2, fun _ => by omega, e⟩
     clear hok'
     go_enter Tryz.func85, Tryz.ntmps85
     go_wp2_with (first | (go_at_call 83; refine (rfNum_w _ g bs _ h k1 hb ho).mono ?_; rintro _ w2 ⟨rfl, hr2, m2⟩; rw [HV.out]; have hr2' := hr2; obtain ⟨v2, hp2, hv2, hg2⟩ := hr2'; obtain ⟨e0, e1, ef0, ef1⟩ := two_cells hp2; obtain ⟨ad2, len2, cap2, rfl, hl2, _⟩ := hv2; have t3 : (len2 : Int) < (V : Int) := (by omega)) | (go_at_call 84; refine (rfFail_w _ g _ _ _ hr2).mono ?_; rintro _ w3 ⟨rfl, hr3, m3⟩))
     go_ret
     exact ⟨rfl, hr3, m2.then m3⟩
   ·have k4 : ¬ V ≤ (bs.drop 4).length := fun e => hok' ⟨k2, fun e => absurd e hm, e⟩
    have HK4 : Hid (¬ V ≤ (bs.drop 4).length) := k4
    have t2 : decide (0 ≤ most) = false := decide_eq_false hm
    clear hok' hm k2 k4
    go_enter Tryz.func85, Tryz.ntmps85
    go_wp2_with (first | (go_at_call 83; refine (rfNum_w _ g bs _ h k1 hb ho).mono ?_; rintro _ w2 ⟨rfl, hr2, m2⟩; rw [HV.out]; have hr2' := hr2; obtain ⟨v2, hp2, hv2, hg2⟩ := hr2'; obtain ⟨e0, e1, ef0, ef1⟩ := two_cells hp2; obtain ⟨ad2, len2, cap2, rfl, hl2, _⟩ := hv2; have k4 := HK4.out; have t3 : (len2 : Int) < (V : Int) := (by omega); clear k4) | (go_at_call 84; refine (rfFail_w _ g _ _ _ hr2).mono ?_; rintro _ w3 ⟨rfl, hr3, m3⟩))
    go_ret
    exact ⟨rfl, hr3, m2.then m3⟩
  ·have t1 : (1048576 : Int) < (V : Int) := by omega
   have hv5 := HV5.out
   clear hok'
   go_enter Tryz.func85, Tryz.ntmps85
   go_wp2_with (first | (go_at_call 83; refine (rfNum_w _ g bs _ h k1 hb ho).mono ?_; rintro _ w2 ⟨rfl, hr2, m2⟩; rw [HV.out]; have hr2' := hr2; obtain ⟨v2, hp2, hv2, hg2⟩ := hr2'; obtain ⟨e0, e1, ef0, ef1⟩ := two_cells hp2; obtain ⟨ad2, len2, cap2, rfl, hl2, _⟩ := hv2) | (go_at_call 84; refine (rfFail_w _ g _ _ _ hr2).mono ?_; rintro _ w3 ⟨rfl, hr3, m3⟩))
   go_ret
   exact ⟨rfl, hr3, m2.then m3⟩
 ·have e0 : val [0, 0, 0, 0] = 0 := by decide
  have H0 : Hid (val [0, 0, 0, 0] = 0) := e0
  clear e0
  go_enter Tryz.func85, Tryz.ntmps85
  go_wp2_with (first | (go_at_call 83; refine (rfNum_fail_w _ g bs false _ h (.inr (by omega))).mono ?_; rintro _ w2 ⟨rfl, hr2, m2⟩; rw [H0.out]; have hr2' := hr2; obtain ⟨v2, hp2, hv2, hg2⟩ := hr2'; obtain ⟨e0, e1, ef0, ef1⟩ := two_cells hp2) | (go_at_call 84; refine (rfFail_w _ g _ _ _ hr2).mono ?_; rintro _ w3 ⟨rfl, hr3, m3⟩))
  go_ret
  exact ⟨rfl, hr3, m2.then m3⟩

set_option maxHeartbeats 2000000 in
theorem rGet_fail_t (q g : Nat) (bs : List Nat) (w : World) (h : RfIs w q g bs false) (hb : bs.length ≤ 1099511627776) (ho : ∀ b ∈ bs, b < 256) (hd : ¬ ∃ k tx n rest, VDec bs k tx n rest) :
  Calls Tryz.prog 120 #[.pointer (some ⟨q, 0, none⟩)] w fun e w' => ∃ (k : Int) (x : Nat), e = .returned (.agg #[.int .i64 k, .slice none 0 0, .float .f64 x]) ∧ Pl.Fits x ∧ RfIs w' q g [] true ∧ Moves [q] w w' := by
 have hm0 : Moves [] w (w.alloc (.cells #[.int .i64 0, .slice none 0 0, .float .f64 0] 99)) := (Moves.refl _ _).alloc _
 have hr0 := h.moves hm0 (by simp) (by simp)
 have hm1 : Moves [q] w (w.alloc (.cells #[.int .i64 0, .slice none 0 0, .float .f64 0] 99)) := hm0.mono (by simp)
 have hp := h.ltq
 have hbx : w.heap.size ∉ [q] := by simp; omega
 have q0 : (w.alloc (.cells #[.int .i64 0, .slice none 0 0, .float .f64 0] 99)).heap[w.heap.size]? = some (.cells #[.int .i64 0, .slice none 0 0, .float .f64 0] 99 (0, 0)) := heap_alloc_new _ _
 have fin : ∀ (w3 : World) (x y z : Value), w3.heap[w.heap.size]? = some (.cells #[.int .i64 0, .slice none 0 0, .float .f64 0] 99 (0, 0)) → Moves [q] w w3 → RfIs w3 q g [] true → (((w3.setCell ⟨w.heap.size, 0, none⟩ x).setCell ⟨w.heap.size, 1, none⟩ y).setCell ⟨w.heap.size, 2, none⟩ z).heap[w.heap.size]? = some (.cells #[x, y, z] 99 (0, 0)) ∧ RfIs (((w3.setCell ⟨w.heap.size, 0, none⟩ x).setCell ⟨w.heap.size, 1, none⟩ y).setCell ⟨w.heap.size, 2, none⟩ z) q g [] true ∧ Moves [q] w (((w3.setCell ⟨w.heap.size, 0, none⟩ x).setCell ⟨w.heap.size, 1, none⟩ y).setCell ⟨w.heap.size, 2, none⟩ z) := by
  intro w3 x y z hq m hr
  have s3 : Moves [w.heap.size] w3 (((w3.setCell ⟨w.heap.size, 0, none⟩ x).setCell ⟨w.heap.size, 1, none⟩ y).setCell ⟨w.heap.size, 2, none⟩ z) := ((moves_set _ _ _ _).then (moves_set _ _ _ _)).then (moves_set _ _ _ _)
  exact ⟨heap_set (i := 2) (heap_set (i := 1) (heap_set (i := 0) hq x) y) z, hr.moves0 s3 (by simp; omega), m.trans s3 (fun x hx => .inr (by simp at hx; omega))⟩
 by_cases h1 : bs.length < 1
 ·go_enter Tryz.func120, Tryz.ntmps120
  go_wp2_with (first | (go_at_call 118; refine (rfByte_fail_w _ g bs false _ hr0 (.inr h1)).mono ?_; rintro _ w2 ⟨rfl, hr2, m2⟩) | (go_at_call 84; refine (rfFail_w _ g _ _ _ hr2).mono ?_; rintro _ w3 ⟨rfl, hr3, m3⟩; have q3 := m3.at (m2.at q0 hbx) hbx; obtain ⟨d0, d1, d2, e0, e1, e2⟩ := three_cells q3))
  try simp only [Exit.inBlock, Exit.then]
  obtain ⟨s1, s2, s3⟩ := fin w3 (.int .i64 0) (.slice none 0 0) (.float .f64 0) q3 ((hm1.then m2).then m3) hr3
  exact bodyPost_ret (ret_val rfl _ _ _ _ _ _ rfl s1) rfl ⟨_, _, rfl, (by first | exact hx3 | exact fits_zero), s2, s3⟩
 ·have h1' : 1 ≤ bs.length := by omega
  have ho' : ∀ b ∈ bs.drop 1, b < 256 := fun b hb => ho b (List.mem_of_mem_drop hb)
  have hb' : (bs.drop 1).length ≤ 1099511627776 := by rw [List.length_drop]; omega
  clear h1
  by_cases c1 : val (bs.take 1) = 1
  ·have hok : ¬ textOk (bs.drop 1) 16 := fun e => hd ⟨_, _, _, _, h1', .inl ⟨c1, e, rfl, rfl, rfl, rfl⟩⟩
   have HV : Hid ((val (bs.take 1) : Int) = 1) := by
    show (val (bs.take 1) : Int) = 1
    omega
   clear c1 hd
   go_enter Tryz.func120, Tryz.ntmps120
   go_wp2_with (first | (go_at_call 118; refine (rfByte_w _ g bs _ hr0 h1' hb).mono ?_; rintro _ w2 ⟨rfl, hr2, m2⟩; rw [HV.out]) | (go_at_call 85; refine (rfText_fail_t _ g (bs.drop 1) 16 _ hr2 hb' ho' hok).mono ?_; rintro _ w3 ⟨rfl, hr3, m3⟩; have q3 := m3.at (m2.at q0 hbx) hbx; obtain ⟨d0, d1, d2, e0, e1, e2⟩ := three_cells q3))
   try simp only [Exit.inBlock, Exit.then]
   obtain ⟨s1, s2, s3⟩ := fin w3 (.int .i64 1) (.slice none 0 0) (.float .f64 0) q3 ((hm1.then m2).then m3) hr3
   exact bodyPost_ret (ret_val rfl _ _ _ _ _ _ rfl s1) rfl ⟨_, _, rfl, (by first | exact hx3 | exact fits_zero), s2, s3⟩
  ·by_cases c2 : val (bs.take 1) = 2
   ·have hok : ¬ (8 ≤ (bs.drop 1).length ∧ Pl.canon (val ((bs.drop 1).take 8)) = val ((bs.drop 1).take 8)) := fun e => hd ⟨_, _, _, _, h1', .inr ⟨c2, e, rfl, rfl, rfl, rfl⟩⟩
    have HV : Hid ((val (bs.take 1) : Int) = 2) := by
     show (val (bs.take 1) : Int) = 2
     omega
    clear c1 c2 hd
    go_enter Tryz.func120, Tryz.ntmps120
    go_wp2_with (first | (go_at_call 118; refine (rfByte_w _ g bs _ hr0 h1' hb).mono ?_; rintro _ w2 ⟨rfl, hr2, m2⟩; rw [HV.out]) | (go_at_call 144; refine (rfFloat_fail_t _ g (bs.drop 1) _ hr2 hb' ho' hok).mono ?_; rintro _ w3 ⟨x3, rfl, hx3, hr3, m3⟩; have q3 := m3.at (m2.at q0 hbx) hbx; obtain ⟨d0, d1, d2, e0, e1, e2⟩ := three_cells q3))
    try simp only [Exit.inBlock, Exit.then]
    obtain ⟨s1, s2, s3⟩ := fin w3 (.int .i64 2) (.slice none 0 0) (.float .f64 x3) q3 ((hm1.then m2).then m3) hr3
    exact bodyPost_ret (ret_val rfl _ _ _ _ _ _ rfl s1) rfl ⟨_, _, rfl, (by first | exact hx3 | exact fits_zero), s2, s3⟩
   ·obtain ⟨V, hV⟩ : ∃ V : Int, (val (bs.take 1) : Int) = V := ⟨_, rfl⟩
    have HV : Hid ((val (bs.take 1) : Int) = V) := hV
    have t1 : (V == 1) = false := by simp; omega
    have t2 : (V == 2) = false := by simp; omega
    clear c1 c2 hd hV
    go_enter Tryz.func120, Tryz.ntmps120
    go_wp2_with (first | (go_at_call 118; refine (rfByte_w _ g bs _ hr0 h1' hb).mono ?_; rintro _ w2 ⟨rfl, hr2, m2⟩; rw [HV.out]) | (go_at_call 84; refine (rfFail_w _ g _ _ _ hr2).mono ?_; rintro _ w3 ⟨rfl, hr3, m3⟩; have q3 := m3.at (m2.at q0 hbx) hbx; obtain ⟨d0, d1, d2, e0, e1, e2⟩ := three_cells q3))
    try simp only [Exit.inBlock, Exit.then]
    obtain ⟨s1, s2, s3⟩ := fin w3 (.int .i64 0) (.slice none 0 0) (.float .f64 0) q3 ((hm1.then m2).then m3) hr3
    exact bodyPost_ret (ret_val rfl _ _ _ _ _ _ rfl s1) rfl ⟨_, _, rfl, (by first | exact hx3 | exact fits_zero), s2, s3⟩

theorem longJunk_lt {bs : List Nat} (ho : ∀ b ∈ bs, b < 256) (bad : Bool) : longJunk bs bad < 18446744073709551616 := by
 have := val_lt ho 4
 unfold longJunk
 split <;> omega

set_option maxHeartbeats 2000000 in
theorem rGet_bad (q g : Nat) (w : World) (h : RfIs w q g [] true) :
  Calls Tryz.prog 120 #[.pointer (some ⟨q, 0, none⟩)] w fun e w' => e = .returned (.agg #[.int .i64 0, .slice none 0 0, .float .f64 0]) ∧ RfIs w' q g [] true ∧ Moves [q] w w' := by
 have hm0 : Moves [] w (w.alloc (.cells #[.int .i64 0, .slice none 0 0, .float .f64 0] 99)) := (Moves.refl _ _).alloc _
 have hr0 := h.moves hm0 (by simp) (by simp)
 have hm1 : Moves [q] w (w.alloc (.cells #[.int .i64 0, .slice none 0 0, .float .f64 0] 99)) := hm0.mono (by simp)
 have hp := h.ltq
 have hbx : w.heap.size ∉ [q] := by simp; omega
 have q0 : (w.alloc (.cells #[.int .i64 0, .slice none 0 0, .float .f64 0] 99)).heap[w.heap.size]? = some (.cells #[.int .i64 0, .slice none 0 0, .float .f64 0] 99 (0, 0)) := heap_alloc_new _ _
 go_enter Tryz.func120, Tryz.ntmps120
 go_wp2_with (first | (go_at_call 118; refine (rfByte_fail_w _ g [] true _ hr0 (.inl rfl)).mono ?_; rintro _ w2 ⟨rfl, hr2, m2⟩) | (go_at_call 84; refine (rfFail_w _ g _ _ _ hr2).mono ?_; rintro _ w3 ⟨rfl, hr3, m3⟩; have q3 := m3.at (m2.at q0 hbx) hbx; obtain ⟨d0, d1, d2, e0, e1, e2⟩ := three_cells q3))
 try simp only [Exit.inBlock, Exit.then]
 have s3 : Moves [w.heap.size] w3 (((w3.setCell ⟨w.heap.size, 0, none⟩ (.int .i64 0)).setCell ⟨w.heap.size, 1, none⟩ (.slice none 0 0)).setCell ⟨w.heap.size, 2, none⟩ (.float .f64 0)) := ((moves_set _ _ _ _).then (moves_set _ _ _ _)).then (moves_set _ _ _ _)
 have s1 := heap_set (i := 2) (heap_set (i := 1) (heap_set (i := 0) q3 (.int .i64 0)) (.slice none 0 0)) (.float .f64 0)
 exact bodyPost_ret (ret_val rfl _ _ _ _ _ _ rfl s1) rfl ⟨rfl, hr3.moves0 s3 (by simp; omega), ((hm1.then m2).then m3).trans s3 (fun x hx => .inr (by simp at hx; omega))⟩

theorem VC_nil (w : World) (k : Int) (x : Nat) (hx : Pl.Fits x) : VC w [.int .i64 k, .slice none 0 0, .float .f64 x] ⟨k, [], x⟩ := ⟨none, 0, 0, 0, rfl, isB_nil _ _, hx, by simp, by simp, .inl rfl⟩

theorem rGet_any (N : Nat) (hN : N ≤ 1099511627776) (q g : Nat) (bs : List Nat) (bad : Bool) (w : World) (h : RfIs w q g bs bad) (ho : OctN N bs) (hb0 : bad = true → bs = []) :
  Calls Tryz.prog 120 #[.pointer (some ⟨q, 0, none⟩)] w fun e w' => ∃ (p : Pv) (ad : Option Addr) (len cap : Nat), e = .returned (.agg #[.int .i64 p.kind, .slice ad len cap, .float .f64 p.n]) ∧ VC w' [.int .i64 p.kind, .slice ad len cap, .float .f64 p.n] p ∧ Moves [q] w w' ∧ ((bad = false ∧ ∃ rest, dVal bs = some (p, rest) ∧ RfIs w' q g rest false) ∨ ((bad = true ∨ dVal bs = none) ∧ RfIs w' q g [] true)) := by
 cases bad with
 | true =>
  rw [hb0 rfl] at h
  refine (rGet_bad q g w h).mono ?_
  rintro _ w' ⟨rfl, hr, m⟩
  exact ⟨⟨0, [], 0⟩, none, 0, 0, rfl, VC_nil _ _ _ fits_zero, m, .inr ⟨.inl rfl, hr⟩⟩
 | false =>
  have hbl : bs.length ≤ 1099511627776 := Nat.le_trans ho.1 hN
  cases hd : dVal bs with
  | none =>
   refine (rGet_fail_t q g bs w h hbl ho.2 (dVal_no hd)).mono ?_
   rintro _ w' ⟨k, x, rfl, hx, hr, m⟩
   exact ⟨⟨k, [], x⟩, none, 0, 0, rfl, VC_nil _ _ _ hx, m, .inr ⟨.inr rfl, hr⟩⟩
  | some z =>
   obtain ⟨p, rest⟩ := z
   have hdv := dVal_yes hd
   have hpl : p.bs.length ≤ 16 := by
    rcases hdv.2 with ⟨_, hok, _, htx, _⟩ | ⟨_, _, _, htx, _⟩
    ·rw [htx, List.length_take]
     have := hok.2.2.1 (by omega)
     omega
    ·rw [htx]; simp
   refine (rGet_ok q g bs _ _ _ _ w h hbl ho.2 hdv).mono ?_
   rintro _ w' ⟨c, rfl, hc⟩
   obtain ⟨k4, v4, g4, b4, n4⟩ := c
   obtain ⟨h1, h2, h3, ho4, hf4, hi4, hr4, m4⟩ := hc
   simp only at h1 h2 h3
   subst h1 h2 h3
   obtain ⟨ad4, len4, cap4, rfl, _⟩ := ho4.isB
   refine ⟨p, ad4, len4, cap4, rfl, ⟨ad4, len4, cap4, _, rfl, ho4.isB, hi4.fits, hi4.oct, by omega, ?_⟩, m4, .inl ⟨rfl, rest, rfl, hr4⟩⟩
   rcases ho4.2 with ⟨_, h0⟩ | ⟨g', c', cur, h1, _, h3, _⟩
   ·exact .inl (List.eq_nil_of_length_eq_zero h0)
   ·rw [h1]
    exact .inr ⟨_, _, h3⟩
end Go.Proofs.YtcngllcifcpbkaaGreat
