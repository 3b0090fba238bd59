/-
  What the document's own Get of a value does: it takes a value where the document lets it, and else marks its Reader as bad; no other memory is written.
-/
import Derived.Test.YtfegflimnngfaaaCRf3c
namespace Go.Proofs.Ytfegflimnngfaaa
open Go.RowKit

theorem rfFloat_fail_s (q g : Nat) (bs : List Nat) (w : World) (h : RfIs w q g bs false) (hb : bs.length ≤ 1099511627776) (ho : ∀ b ∈ bs, b < 256) (hc : ¬ (8 ≤ bs.length ∧ Pl.canon (val (bs.take 8)) = val (bs.take 8))) :
    Calls Try.prog 106 #[.pointer (some ⟨q, 0, none⟩)] w fun e w' => ∃ x : Nat, e = .returned (.float .f64 x) ∧ RfIs w' q g [] true ∧ Moves [q] w w' := by
  by_cases hn : 8 ≤ bs.length
  · have hc' : ¬ Pl.canon (val (bs.take 8)) = val (bs.take 8) := fun e => hc ⟨hn, e⟩
    clear hc
    have hV8 := val_lt ho 8
    generalize hV : val (bs.take 8) = V at hc' hV8
    have HV : Hid (val (bs.take 8) = V) := hV
    have hfit : Pl.Fits V := by unfold Pl.Fits; omega
    have hfitc := Pl.fits_canon hfit
    have ht : ((Pl.canon (Pl.canon V) : Int) != (V : Int)) = true := by rw [Pl.canon_canon]; simp; omega
    clear hV hc' hV8
    go_enter Try.func106, Try.ntmps106
    go_wp2_with (first | (go_at_call 80; refine (rfLong_w _ g bs _ h hn hb ho).mono ?_; rintro _ w2 ⟨rfl, hr2, m2⟩; rw [HV.out]) | (go_at_call 94; refine (refFrom_w _ hfit _).mono ?_; rintro _ _ ⟨rfl, rfl⟩) | (go_at_call 95; refine (refBits_w _ hfitc _).mono ?_; rintro _ _ ⟨rfl, rfl⟩) | (go_at_call 81; refine (rfFail_w _ g _ _ _ hr2).mono ?_; rintro _ w3 ⟨rfl, hr3, m3⟩))
    go_ret
    exact ⟨_, rfl, hr3, m2.then m3⟩
  · have hn' : bs.length < 8 := by omega
    go_enter Try.func106, Try.ntmps106
    go_wp2_with (first | (go_at_call 80; refine (rfLong_fail_w _ g bs false _ h (.inr hn') hb ho).mono ?_; rintro _ w2 ⟨n2, rfl, hfit, hr2, m2⟩; have hfitc := Pl.fits_canon hfit) | (go_at_call 94; refine (refFrom_w _ hfit _).mono ?_; rintro _ _ ⟨rfl, rfl⟩) | (go_at_call 95; refine (refBits_w _ hfitc _).mono ?_; rintro _ _ ⟨rfl, rfl⟩) | (go_at_call 81; refine (rfFail_w _ g _ _ _ hr2).mono ?_; rintro _ w3 ⟨rfl, hr3, m3⟩))
    · go_ret
      exact ⟨_, rfl, hr3, m2.then m3⟩
    · go_ret
      exact ⟨_, rfl, hr2, m2⟩
set_option maxHeartbeats 2000000 in
theorem rfText_fail_s (q g : Nat) (bs : List Nat) (most : Int) (w : World) (h : RfIs w q g bs false) (hb : bs.length ≤ 1099511627776) (ho : ∀ b ∈ bs, b < 256) (hok : ¬ textOk bs most) :
    Calls Try.prog 79 #[.pointer (some ⟨q, 0, none⟩), .int .i64 most] w fun e w' => ∃ ad len cap, e = .returned (.slice ad len cap) ∧ RfIs w' q g [] true ∧ Moves [q] w w' := by
  by_cases k1 : 4 ≤ bs.length
  · have hok' : ¬ (val (bs.take 4) ≤ 1048576 ∧ (0 ≤ most → (val (bs.take 4) : Int) ≤ most) ∧ val (bs.take 4) ≤ (bs.drop 4).length) := fun e => hok ⟨k1, e⟩
    clear hok
    have hv4 := val_lt ho 4
    generalize hV : val (bs.take 4) = V at hok' hv4
    have HV : Hid (val (bs.take 4) = V) := hV
    have HV5 : Hid ((V : Int) < 4294967296) := by
      show (V : Int) < 4294967296
      omega
    clear hV hv4
    by_cases k2 : V ≤ 1048576
    · have t1 : ¬ (1048576 : Int) < (V : Int) := by omega
      by_cases hm : 0 ≤ most
      · by_cases k3 : most < (V : Int)
        · clear hok'
          go_enter Try.func79, Try.ntmps79
          go_wp2_with (first | (go_at_call 105; refine (rfNum_w _ g bs _ h k1 hb ho).mono ?_; rintro _ w2 ⟨rfl, hr2, m2⟩; rw [HV.out]; have hr2' := hr2; obtain ⟨v2, hp2, hv2, hg2⟩ := hr2'; obtain ⟨e0, e1, ef0, ef1⟩ := two_cells hp2; obtain ⟨ad2, len2, cap2, rfl, hl2, _⟩ := hv2) | (go_at_call 81; refine (rfFail_w _ g _ _ _ hr2).mono ?_; rintro _ w3 ⟨rfl, hr3, m3⟩))
          go_ret
          exact ⟨_, _, _, rfl, hr3, m2.then m3⟩
        · have k4 : ¬ V ≤ (bs.drop 4).length := fun e => hok' ⟨k2, fun _ => by omega, e⟩
          clear hok'
          go_enter Try.func79, Try.ntmps79
          go_wp2_with (first | (go_at_call 105; refine (rfNum_w _ g bs _ h k1 hb ho).mono ?_; rintro _ w2 ⟨rfl, hr2, m2⟩; rw [HV.out]; have hr2' := hr2; obtain ⟨v2, hp2, hv2, hg2⟩ := hr2'; obtain ⟨e0, e1, ef0, ef1⟩ := two_cells hp2; obtain ⟨ad2, len2, cap2, rfl, hl2, _⟩ := hv2; have t3 : (len2 : Int) < (V : Int) := (by omega)) | (go_at_call 81; refine (rfFail_w _ g _ _ _ hr2).mono ?_; rintro _ w3 ⟨rfl, hr3, m3⟩))
          go_ret
          exact ⟨_, _, _, rfl, hr3, m2.then m3⟩
      · have k4 : ¬ V ≤ (bs.drop 4).length := fun e => hok' ⟨k2, fun e => absurd e hm, e⟩
        have HK4 : Hid (¬ V ≤ (bs.drop 4).length) := k4
        have t2 : decide (0 ≤ most) = false := decide_eq_false hm
        clear hok' hm k2 k4
        go_enter Try.func79, Try.ntmps79
        go_wp2_with (first | (go_at_call 105; refine (rfNum_w _ g bs _ h k1 hb ho).mono ?_; rintro _ w2 ⟨rfl, hr2, m2⟩; rw [HV.out]; have hr2' := hr2; obtain ⟨v2, hp2, hv2, hg2⟩ := hr2'; obtain ⟨e0, e1, ef0, ef1⟩ := two_cells hp2; obtain ⟨ad2, len2, cap2, rfl, hl2, _⟩ := hv2; have k4 := HK4.out; have t3 : (len2 : Int) < (V : Int) := (by omega); clear k4) | (go_at_call 81; refine (rfFail_w _ g _ _ _ hr2).mono ?_; rintro _ w3 ⟨rfl, hr3, m3⟩))
        go_ret
        exact ⟨_, _, _, rfl, hr3, m2.then m3⟩
    · have t1 : (1048576 : Int) < (V : Int) := by omega
      have hv5 := HV5.out
      clear hok'
      go_enter Try.func79, Try.ntmps79
      go_wp2_with (first | (go_at_call 105; refine (rfNum_w _ g bs _ h k1 hb ho).mono ?_; rintro _ w2 ⟨rfl, hr2, m2⟩; rw [HV.out]; have hr2' := hr2; obtain ⟨v2, hp2, hv2, hg2⟩ := hr2'; obtain ⟨e0, e1, ef0, ef1⟩ := two_cells hp2; obtain ⟨ad2, len2, cap2, rfl, hl2, _⟩ := hv2) | (go_at_call 81; refine (rfFail_w _ g _ _ _ hr2).mono ?_; rintro _ w3 ⟨rfl, hr3, m3⟩))
      go_ret
      exact ⟨_, _, _, rfl, hr3, m2.then m3⟩
  · have e0 : val [0, 0, 0, 0] = 0 := by decide
    have H0 : Hid (val [0, 0, 0, 0] = 0) := e0
    clear e0
    go_enter Try.func79, Try.ntmps79
    go_wp2_with (first | (go_at_call 105; refine (rfNum_fail_w _ g bs false _ h (.inr (by omega))).mono ?_; rintro _ w2 ⟨rfl, hr2, m2⟩; rw [H0.out]; have hr2' := hr2; obtain ⟨v2, hp2, hv2, hg2⟩ := hr2'; obtain ⟨e0, e1, ef0, ef1⟩ := two_cells hp2) | (go_at_call 81; refine (rfFail_w _ g _ _ _ hr2).mono ?_; rintro _ w3 ⟨rfl, hr3, m3⟩))
    go_ret
    exact ⟨_, _, _, rfl, hr3, m2.then m3⟩


/-- What the document's Get hands back. -/
structure RGot (w w' : World) (q g : Nat) (k : Int) (tx : List Nat) (n : Nat) (rest : List Nat) (c : Vm) : Prop where
  kind : c.kind = k
  bs : c.bs = tx
  n : c.n = n
  own : Own w' c.bv tx
  fresh : Fresh w c.bv
  isIn : c.In w'
  rd : RfIs w' q g rest false
  moves : Moves [q] w w'

theorem RfIs.ltq {w : World} {q g : Nat} {bs : List Nat} {fl : Bool} (h : RfIs w q g bs fl) : q < w.heap.size := by
  obtain ⟨v, hp, _⟩ := h
  exact lt_of_block hp
theorem RfIs.ltg {w : World} {q g : Nat} {bs : List Nat} {fl : Bool} (h : RfIs w q g bs fl) (hn : 1 ≤ bs.length) : g < w.heap.size := by
  obtain ⟨v, _, hb, _⟩ := h
  exact hb.lt (by intro e; rw [e] at hn; simp at hn)
theorem RfIs.moves0 {w w' : World} {q g : Nat} {fl : Bool} {S : List Nat} (h : RfIs w q g [] fl) (m : Moves S w w') (hq : q ∉ S) : RfIs w' q g [] fl := by
  obtain ⟨v, h1, ⟨ad, n, cap, k1, k2, k3, k4, _⟩, h3⟩ := h
  exact ⟨v, m.at h1 hq, ⟨ad, n, cap, k1, k2, k3, k4, .inl rfl⟩, h3⟩

set_option maxHeartbeats 2000000 in
theorem rGet_ok (q g : Nat) (bs : List Nat) (k : Int) (tx : List Nat) (n : Nat) (rest : List Nat) (w : World) (h : RfIs w q g bs false) (hb : bs.length ≤ 1099511627776) (ho : ∀ b ∈ bs, b < 256) (hd : VDec bs k tx n rest) :
    Calls Try.prog 82 #[.pointer (some ⟨q, 0, none⟩)] w fun e w' => ∃ c : Vm, e = .returned c.val ∧ RGot w w' q g k tx n rest c := by
  obtain ⟨h1, hd⟩ := hd
  have hp := h.ltq
  have hg := h.ltg h1
  have ho' : ∀ b ∈ bs.drop 1, b < 256 := fun b hb => ho b (List.mem_of_mem_drop hb)
  have hb' : (bs.drop 1).length ≤ 1099511627776 := by rw [List.length_drop]; omega
  have hm0 : Moves [] w (w.alloc (.cells #[.int .i64 0, .slice none 0 0, .float .f64 0] 39)) := (Moves.refl _ _).alloc _
  have hr0 := h.moves hm0 (by simp) (by simp)
  have hbx : w.heap.size ∉ [q] := by simp; omega
  have q0 : (w.alloc (.cells #[.int .i64 0, .slice none 0 0, .float .f64 0] 39)).heap[w.heap.size]? = some (.cells #[.int .i64 0, .slice none 0 0, .float .f64 0] 39 (0, 0)) := heap_alloc_new _ _
  rcases hd with ⟨hv, hok, rfl, htx, rfl, hrest⟩ | ⟨hv, ⟨hc1, hc2⟩, rfl, rfl, hn, hrest⟩
  · have HV : Hid ((val (bs.take 1) : Int) = 1) := by
      show (val (bs.take 1) : Int) = 1
      omega
    have HT : Hid (tx = ((bs.drop 1).drop 4).take (val ((bs.drop 1).take 4))) := htx
    have HR : Hid (rest = ((bs.drop 1).drop 4).drop (val ((bs.drop 1).take 4))) := hrest
    clear hv htx hrest
    go_enter Try.func82, Try.ntmps82
    go_wp2_with (first | (go_at_call 78; refine (rfByte_w _ g bs _ hr0 h1 hb).mono ?_; rintro _ w2 ⟨rfl, hr2, m2⟩; rw [HV.out]; have q2 := m2.at q0 hbx) | (go_at_call 79; refine (rfText_w _ g (bs.drop 1) 16 _ hr2 hb' ho' hok).mono ?_; rintro _ w3 ⟨v3, rfl, ho3, hr3, m3, f3⟩; rw [← HT.out] at ho3; rw [← HR.out] at hr3; have q3 := m3.at q2 hbx; have hi3 := ho3.isB; obtain ⟨ad3, n3, cap3, rfl, _⟩ := hi3; obtain ⟨d0, d1, d2, e0, e1, e2⟩ := three_cells q3))
    try simp only [Exit.inBlock, Exit.then]
    have M4 : Moves [q] w w3 := ((hm0.mono (by simp)).then m2).then m3
    have s3 : Moves [w.heap.size] w3 (((w3.setCell ⟨w.heap.size, 0, none⟩ (.int .i64 1)).setCell ⟨w.heap.size, 1, none⟩ (.slice ad3 n3 cap3)).setCell ⟨w.heap.size, 2, none⟩ (.float .f64 0)) := ((moves_set _ _ _ _).then (moves_set _ _ _ _)).then (moves_set _ _ _ _)
    have s1 := heap_set (i := 2) (heap_set (i := 1) (heap_set (i := 0) q3 (.int .i64 1)) (.slice ad3 n3 cap3)) (.float .f64 0)
    have hsz : w.heap.size < w2.heap.size := lt_of_block q2
    have hO := ho3.moves s3 (fun k hk => by have := f3 k hk; simp; omega)
    have hox : ∀ z ∈ tx, z < 256 := fun z hz => by rw [HT.out] at hz; exact ho' z (List.mem_of_mem_drop (List.mem_of_mem_take hz))
    refine bodyPost_ret (ret_val rfl _ _ _ _ _ _ rfl s1) rfl ⟨⟨1, .slice ad3 n3 cap3, (Value.slice ad3 n3 cap3).ownBlock.getD 0, tx, 0⟩, rfl, ⟨rfl, rfl, rfl, hO, fun k hk => by have := f3 k hk; omega, ⟨hO.isB, fits_zero, hox⟩, ?_, M4.trans s3 (fun x hx => .inr (by simp at hx; omega))⟩⟩
    exact hr3.moves s3 (by simp; omega) (by simp; omega)
  · have HV : Hid ((val (bs.take 1) : Int) = 2) := by
      show (val (bs.take 1) : Int) = 2
      omega
    have HN : Hid (n = val ((bs.drop 1).take 8)) := hn
    have HR : Hid (rest = (bs.drop 1).drop 8) := hrest
    have HF : Hid (Pl.Fits n) := by rw [hn]; exact val_lt8 ho'
    clear hv hn hrest
    go_enter Try.func82, Try.ntmps82
    go_wp2_with (first | (go_at_call 78; refine (rfByte_w _ g bs _ hr0 h1 hb).mono ?_; rintro _ w2 ⟨rfl, hr2, m2⟩; rw [HV.out]; have q2 := m2.at q0 hbx) | (go_at_call 106; refine (rfFloat_w _ g (bs.drop 1) _ hr2 hc1 hb' ho' hc2).mono ?_; rintro _ w3 ⟨rfl, hr3, m3⟩; rw [← HN.out]; rw [← HR.out] at hr3; have q3 := m3.at q2 hbx; obtain ⟨d0, d1, d2, e0, e1, e2⟩ := three_cells q3))
    try simp only [Exit.inBlock, Exit.then]
    have M4 : Moves [q] w w3 := ((hm0.mono (by simp)).then m2).then m3
    have s3 : Moves [w.heap.size] w3 (((w3.setCell ⟨w.heap.size, 0, none⟩ (.int .i64 2)).setCell ⟨w.heap.size, 1, none⟩ (.slice none 0 0)).setCell ⟨w.heap.size, 2, none⟩ (.float .f64 n)) := ((moves_set _ _ _ _).then (moves_set _ _ _ _)).then (moves_set _ _ _ _)
    have s1 := heap_set (i := 2) (heap_set (i := 1) (heap_set (i := 0) q3 (.int .i64 2)) (.slice none 0 0)) (.float .f64 n)
    refine bodyPost_ret (ret_val rfl _ _ _ _ _ _ rfl s1) rfl ⟨⟨2, .slice none 0 0, 0, [], n⟩, rfl, ⟨rfl, rfl, rfl, Own.nil _, Fresh.nil _, ⟨isB_nil _ _, HF.out, by simp⟩, ?_, M4.trans s3 (fun x hx => .inr (by simp at hx; omega))⟩⟩
    exact hr3.moves s3 (by simp; omega) (by simp; omega)

set_option maxHeartbeats 2000000 in
theorem rGet_fail (q g : Nat) (bs : List Nat) (w : World) (h : RfIs w q g bs false) (hb : bs.length ≤ 1099511627776) (ho : ∀ b ∈ bs, b < 256) (hd : ¬ ∃ k tx n rest, VDec bs k tx n rest) :
    Calls Try.prog 82 #[.pointer (some ⟨q, 0, none⟩)] w fun e w' => ∃ (k : Int) (ad : Option Addr) (len cap x : Nat), e = .returned (.agg #[.int .i64 k, .slice ad len cap, .float .f64 x]) ∧ RfIs w' q g [] true ∧ Moves [q] w w' := by
  have hm0 : Moves [] w (w.alloc (.cells #[.int .i64 0, .slice none 0 0, .float .f64 0] 39)) := (Moves.refl _ _).alloc _
  have hr0 := h.moves hm0 (by simp) (by simp)
  have hm1 : Moves [q] w (w.alloc (.cells #[.int .i64 0, .slice none 0 0, .float .f64 0] 39)) := hm0.mono (by simp)
  have hp := h.ltq
  have hbx : w.heap.size ∉ [q] := by simp; omega
  have q0 : (w.alloc (.cells #[.int .i64 0, .slice none 0 0, .float .f64 0] 39)).heap[w.heap.size]? = some (.cells #[.int .i64 0, .slice none 0 0, .float .f64 0] 39 (0, 0)) := heap_alloc_new _ _
  have fin : ∀ (w3 : World) (x y z : Value), w3.heap[w.heap.size]? = some (.cells #[.int .i64 0, .slice none 0 0, .float .f64 0] 39 (0, 0)) → Moves [q] w w3 → RfIs w3 q g [] true → (((w3.setCell ⟨w.heap.size, 0, none⟩ x).setCell ⟨w.heap.size, 1, none⟩ y).setCell ⟨w.heap.size, 2, none⟩ z).heap[w.heap.size]? = some (.cells #[x, y, z] 39 (0, 0)) ∧ RfIs (((w3.setCell ⟨w.heap.size, 0, none⟩ x).setCell ⟨w.heap.size, 1, none⟩ y).setCell ⟨w.heap.size, 2, none⟩ z) q g [] true ∧ Moves [q] w (((w3.setCell ⟨w.heap.size, 0, none⟩ x).setCell ⟨w.heap.size, 1, none⟩ y).setCell ⟨w.heap.size, 2, none⟩ z) := by
    intro w3 x y z hq m hr
    have s3 : Moves [w.heap.size] w3 (((w3.setCell ⟨w.heap.size, 0, none⟩ x).setCell ⟨w.heap.size, 1, none⟩ y).setCell ⟨w.heap.size, 2, none⟩ z) := ((moves_set _ _ _ _).then (moves_set _ _ _ _)).then (moves_set _ _ _ _)
    exact ⟨heap_set (i := 2) (heap_set (i := 1) (heap_set (i := 0) hq x) y) z, hr.moves0 s3 (by simp; omega), m.trans s3 (fun x hx => .inr (by simp at hx; omega))⟩
  by_cases h1 : bs.length < 1
  · go_enter Try.func82, Try.ntmps82
    go_wp2_with (first | (go_at_call 78; refine (rfByte_fail_w _ g bs false _ hr0 (.inr h1)).mono ?_; rintro _ w2 ⟨rfl, hr2, m2⟩) | (go_at_call 81; refine (rfFail_w _ g _ _ _ hr2).mono ?_; rintro _ w3 ⟨rfl, hr3, m3⟩; have q3 := m3.at (m2.at q0 hbx) hbx; obtain ⟨d0, d1, d2, e0, e1, e2⟩ := three_cells q3))
    try simp only [Exit.inBlock, Exit.then]
    obtain ⟨s1, s2, s3⟩ := fin w3 (.int .i64 0) (.slice none 0 0) (.float .f64 0) q3 ((hm1.then m2).then m3) hr3
    exact bodyPost_ret (ret_val rfl _ _ _ _ _ _ rfl s1) rfl ⟨_, _, _, _, _, rfl, s2, s3⟩
  · have h1' : 1 ≤ bs.length := by omega
    have ho' : ∀ b ∈ bs.drop 1, b < 256 := fun b hb => ho b (List.mem_of_mem_drop hb)
    have hb' : (bs.drop 1).length ≤ 1099511627776 := by rw [List.length_drop]; omega
    clear h1
    by_cases c1 : val (bs.take 1) = 1
    · have hok : ¬ textOk (bs.drop 1) 16 := fun e => hd ⟨_, _, _, _, h1', .inl ⟨c1, e, rfl, rfl, rfl, rfl⟩⟩
      have HV : Hid ((val (bs.take 1) : Int) = 1) := by
        show (val (bs.take 1) : Int) = 1
        omega
      clear c1 hd
      go_enter Try.func82, Try.ntmps82
      go_wp2_with (first | (go_at_call 78; refine (rfByte_w _ g bs _ hr0 h1' hb).mono ?_; rintro _ w2 ⟨rfl, hr2, m2⟩; rw [HV.out]) | (go_at_call 79; refine (rfText_fail_s _ g (bs.drop 1) 16 _ hr2 hb' ho' hok).mono ?_; rintro _ w3 ⟨ad3, n3, cap3, rfl, hr3, m3⟩; have q3 := m3.at (m2.at q0 hbx) hbx; obtain ⟨d0, d1, d2, e0, e1, e2⟩ := three_cells q3))
      try simp only [Exit.inBlock, Exit.then]
      obtain ⟨s1, s2, s3⟩ := fin w3 (.int .i64 1) (.slice ad3 n3 cap3) (.float .f64 0) q3 ((hm1.then m2).then m3) hr3
      exact bodyPost_ret (ret_val rfl _ _ _ _ _ _ rfl s1) rfl ⟨_, _, _, _, _, rfl, s2, s3⟩
    · by_cases c2 : val (bs.take 1) = 2
      · have hok : ¬ (8 ≤ (bs.drop 1).length ∧ Pl.canon (val ((bs.drop 1).take 8)) = val ((bs.drop 1).take 8)) := fun e => hd ⟨_, _, _, _, h1', .inr ⟨c2, e, rfl, rfl, rfl, rfl⟩⟩
        have HV : Hid ((val (bs.take 1) : Int) = 2) := by
          show (val (bs.take 1) : Int) = 2
          omega
        clear c1 c2 hd
        go_enter Try.func82, Try.ntmps82
        go_wp2_with (first | (go_at_call 78; refine (rfByte_w _ g bs _ hr0 h1' hb).mono ?_; rintro _ w2 ⟨rfl, hr2, m2⟩; rw [HV.out]) | (go_at_call 106; refine (rfFloat_fail_s _ g (bs.drop 1) _ hr2 hb' ho' hok).mono ?_; rintro _ w3 ⟨x3, rfl, hr3, m3⟩; have q3 := m3.at (m2.at q0 hbx) hbx; obtain ⟨d0, d1, d2, e0, e1, e2⟩ := three_cells q3))
        try simp only [Exit.inBlock, Exit.then]
        obtain ⟨s1, s2, s3⟩ := fin w3 (.int .i64 2) (.slice none 0 0) (.float .f64 x3) q3 ((hm1.then m2).then m3) hr3
        exact bodyPost_ret (ret_val rfl _ _ _ _ _ _ rfl s1) rfl ⟨_, _, _, _, _, rfl, s2, s3⟩
      · obtain ⟨V, hV⟩ : ∃ V : Int, (val (bs.take 1) : Int) = V := ⟨_, rfl⟩
        have HV : Hid ((val (bs.take 1) : Int) = V) := hV
        have t1 : (V == 1) = false := by simp; omega
        have t2 : (V == 2) = false := by simp; omega
        clear c1 c2 hd hV
        go_enter Try.func82, Try.ntmps82
        go_wp2_with (first | (go_at_call 78; refine (rfByte_w _ g bs _ hr0 h1' hb).mono ?_; rintro _ w2 ⟨rfl, hr2, m2⟩; rw [HV.out]) | (go_at_call 81; refine (rfFail_w _ g _ _ _ hr2).mono ?_; rintro _ w3 ⟨rfl, hr3, m3⟩; have q3 := m3.at (m2.at q0 hbx) hbx; obtain ⟨d0, d1, d2, e0, e1, e2⟩ := three_cells q3))
        try simp only [Exit.inBlock, Exit.then]
        obtain ⟨s1, s2, s3⟩ := fin w3 (.int .i64 0) (.slice none 0 0) (.float .f64 0) q3 ((hm1.then m2).then m3) hr3
        exact bodyPost_ret (ret_val rfl _ _ _ _ _ _ rfl s1) rfl ⟨_, _, _, _, _, rfl, s2, s3⟩
end Go.Proofs.Ytfegflimnngfaaa
