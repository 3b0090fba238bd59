/-
  What the document's own reading of a Text does, and what 'rest' does where nothing can be read: it marks the document's Reader as bad.
-/
import Derived.Test.YtpofalalfemkhaaRefR
namespace Go.Proofs.Ytpofalalfemkhaa
open Go.RowKit

/-- What is known of the row behind a Text's length. -/
theorem rfText_pre {w : World} {q g : Nat} {bs : List Nat} (h : RfIs w q g bs false) (V : Nat) (hV : V ≤ bs.length) :
    ∃ ad len cap, w.heap[q]? = some (.cells #[.slice ad len cap, .bool false] 83 (0, 0)) ∧ g ≠ q ∧ bs.length = len ∧ len ≤ cap ∧ IsB w g (.slice ad V cap) (bs.take V) ∧ Hid (IsB w g (.slice (if cap = V then ad else ad.map (·.add V)) (len - V) (cap - V)) (bs.drop V)) := by
  obtain ⟨v, hp, hv, hg⟩ := h
  have hv0 := hv
  obtain ⟨ad, len, cap, rfl, hl, hc, _⟩ := hv
  exact ⟨ad, len, cap, hp, hg, hl, hc, isB_take hv0 V (by omega), isB_drop hv0 V⟩

set_option maxRecDepth 20000 in
set_option maxHeartbeats 2000000 in
theorem rfText_w (q g : Nat) (bs : List Nat) (most : Int) (w : World) (h : RfIs w q g bs false) (hb : bs.length ≤ 1099511627776) (ho : ∀ b ∈ bs, b < 256) (hok : textOk bs most) :
    Calls Try.prog 79 #[.pointer (some ⟨q, 0, none⟩), .int .i64 most] w fun e w' => ∃ v', e = .returned v' ∧ Own w' v' ((bs.drop 4).take (val (bs.take 4))) ∧ RfIs w' q g ((bs.drop 4).drop (val (bs.take 4))) false ∧ Moves [q] w w' ∧ Fresh w v' := by
  obtain ⟨k1, k2, k3, k4⟩ := hok
  generalize hV : val (bs.take 4) = V at k2 k3 k4
  have HV : Hid (val (bs.take 4) = V) := hV
  have t1 : ¬ (1048576 : Int) < (V : Int) := by omega
  have hl1 : ([] : List Nat).length + ((bs.drop 4).take V).length ≤ 1099511627776 := by rw [List.length_take]; simp; omega
  clear hV
  by_cases hm : 0 ≤ most
  · have t2 : ¬ most < (V : Int) := by have := k3 hm; omega
    clear k3
    go_enter Try.func79, Try.ntmps79
    go_wp2_with (first | (go_at_call 105; refine (rfNum_w _ g bs _ h k1 hb ho).mono ?_; rintro _ w2 ⟨rfl, hr2, m2⟩; rw [HV.out]; have hT := rfText_pre hr2 V k4; obtain ⟨ad2, len2, cap2, hp2, hg2, hl2, hc2, hv2, hd2⟩ := hT; obtain ⟨e0, e1, ef0, ef1⟩ := two_cells hp2; have t3 : ¬ (len2 : Int) < (V : Int)   := (by omega); have t4 : (V : Int) ≤ (cap2 : Int)   := (by omega); have t5 : (V : Int) ≤ (len2 : Int)   := (by omega); have hm0 : Moves [] w2 (w2.alloc (.cells #[] 5)) := (Moves.refl _ _).alloc _; have ca0 := hm0.cell e0; have ho0 := own_empty w2; have hf0 := fresh_empty w2; have ht0 := hv2.moves hm0 (by simp)) | (at_builtin; refine append_law (.tmp 38) (.tmp 44) rfl _ _ [] ((bs.drop 4).take V) g rfl rfl rfl ho0 ht0 hl1 ?_; intro v3 w3 ho3 m3 hat3; rw [List.nil_append] at ho3; have hA3 := appended hm0 hf0 m3 hat3; have hp3 := hA3.1.at hp2 (by simp); obtain ⟨k0, k1', kf0, kf1⟩ := two_cells hp3))
    · go_ret
      have h : cap2 = V := by assumption
      have hd := hd2.out
      rw [if_pos h, h, Nat.sub_self] at hd
      have hd1 := hd.moves hA3.1 (by simp)
      simp only [List.drop_drop] at hd1
      exact ⟨_, rfl, ho3.moves (moves_set _ _ _ _) (fun k hk => by have h5 := ho3.ne hp3 (by decide); simp; intro e; subst e; exact h5 hk), rf_set0 hp3 hd1 hg2, m2.then ((hA3.1.mono (by simp)).then (moves_set _ _ _ _)), fun k hk => Nat.le_trans m2.size (hA3.2 k hk)⟩
    · go_ret
      have h : ¬ cap2 = V := by assumption
      have hd := hd2.out
      rw [if_neg h] at hd
      have hd1 := hd.moves hA3.1 (by simp)
      simp only [List.drop_drop] at hd1
      exact ⟨_, rfl, ho3.moves (moves_set _ _ _ _) (fun k hk => by have h5 := ho3.ne hp3 (by decide); simp; intro e; subst e; exact h5 hk), rf_set0 hp3 hd1 hg2, m2.then ((hA3.1.mono (by simp)).then (moves_set _ _ _ _)), fun k hk => Nat.le_trans m2.size (hA3.2 k hk)⟩
  · have t2 : ¬ 0 ≤ most := hm
    clear k3
    go_enter Try.func79, Try.ntmps79
    go_wp2_with (first | (go_at_call 105; refine (rfNum_w _ g bs _ h k1 hb ho).mono ?_; rintro _ w2 ⟨rfl, hr2, m2⟩; rw [HV.out]; have hT := rfText_pre hr2 V k4; obtain ⟨ad2, len2, cap2, hp2, hg2, hl2, hc2, hv2, hd2⟩ := hT; obtain ⟨e0, e1, ef0, ef1⟩ := two_cells hp2; have t3 : ¬ (len2 : Int) < (V : Int)   := (by omega); have t4 : (V : Int) ≤ (cap2 : Int)   := (by omega); have t5 : (V : Int) ≤ (len2 : Int)   := (by omega); have hm0 : Moves [] w2 (w2.alloc (.cells #[] 5)) := (Moves.refl _ _).alloc _; have ca0 := hm0.cell e0; have ho0 := own_empty w2; have hf0 := fresh_empty w2; have ht0 := hv2.moves hm0 (by simp)) | (at_builtin; refine append_law (.tmp 38) (.tmp 44) rfl _ _ [] ((bs.drop 4).take V) g rfl rfl rfl ho0 ht0 hl1 ?_; intro v3 w3 ho3 m3 hat3; rw [List.nil_append] at ho3; have hA3 := appended hm0 hf0 m3 hat3; have hp3 := hA3.1.at hp2 (by simp); obtain ⟨k0, k1', kf0, kf1⟩ := two_cells hp3))
    · go_ret
      have h : cap2 = V := by assumption
      have hd := hd2.out
      rw [if_pos h, h, Nat.sub_self] at hd
      have hd1 := hd.moves hA3.1 (by simp)
      simp only [List.drop_drop] at hd1
      exact ⟨_, rfl, ho3.moves (moves_set _ _ _ _) (fun k hk => by have h5 := ho3.ne hp3 (by decide); simp; intro e; subst e; exact h5 hk), rf_set0 hp3 hd1 hg2, m2.then ((hA3.1.mono (by simp)).then (moves_set _ _ _ _)), fun k hk => Nat.le_trans m2.size (hA3.2 k hk)⟩
    · go_ret
      have h : ¬ cap2 = V := by assumption
      have hd := hd2.out
      rw [if_neg h] at hd
      have hd1 := hd.moves hA3.1 (by simp)
      simp only [List.drop_drop] at hd1
      exact ⟨_, rfl, ho3.moves (moves_set _ _ _ _) (fun k hk => by have h5 := ho3.ne hp3 (by decide); simp; intro e; subst e; exact h5 hk), rf_set0 hp3 hd1 hg2, m2.then ((hA3.1.mono (by simp)).then (moves_set _ _ _ _)), fun k hk => Nat.le_trans m2.size (hA3.2 k hk)⟩

set_option maxRecDepth 20000 in
set_option maxHeartbeats 2000000 in
theorem rfText_fail_w (q g : Nat) (bs : List Nat) (most : Int) (w : World) (h : RfIs w q g bs false) (hb : bs.length ≤ 1099511627776) (ho : ∀ b ∈ bs, b < 256) (hok : ¬ textOk bs most) :
    Calls Try.prog 79 #[.pointer (some ⟨q, 0, none⟩), .int .i64 most] w fun e w' => ∃ v', e = .returned v' ∧ RfIs w' q g [] true ∧ Moves [q] w w' := by
  by_cases k1 : 4 ≤ bs.length
  · have hok' : ¬ (val (bs.take 4) ≤ 1048576 ∧ (0 ≤ most → (val (bs.take 4) : Int) ≤ most) ∧ val (bs.take 4) ≤ (bs.drop 4).length) := fun e => hok ⟨k1, e⟩
    clear hok
    have hv4 := val_lt ho 4
    generalize hV : val (bs.take 4) = V at hok' hv4
    have HV : Hid (val (bs.take 4) = V) := hV
    have HV5 : Hid ((V : Int) < 4294967296) := by
      show (V : Int) < 4294967296
      omega
    clear hV hv4
    by_cases k2 : V ≤ 1048576
    · have t1 : ¬ (1048576 : Int) < (V : Int) := by omega
      by_cases hm : 0 ≤ most
      · by_cases k3 : most < (V : Int)
        · clear hok'
          go_enter Try.func79, Try.ntmps79
          go_wp2_with (first | (go_at_call 105; refine (rfNum_w _ g bs _ h k1 hb ho).mono ?_; rintro _ w2 ⟨rfl, hr2, m2⟩; rw [HV.out]; have hr2' := hr2; obtain ⟨v2, hp2, hv2, hg2⟩ := hr2'; obtain ⟨e0, e1, ef0, ef1⟩ := two_cells hp2; obtain ⟨ad2, len2, cap2, rfl, hl2, _⟩ := hv2) | (go_at_call 81; refine (rfFail_w _ g _ _ _ hr2).mono ?_; rintro _ w3 ⟨rfl, hr3, m3⟩))
          go_ret
          exact ⟨_, rfl, hr3, m2.then m3⟩
        · have k4 : ¬ V ≤ (bs.drop 4).length := fun e => hok' ⟨k2, fun _ => by omega, e⟩
          clear hok'
          go_enter Try.func79, Try.ntmps79
          go_wp2_with (first | (go_at_call 105; refine (rfNum_w _ g bs _ h k1 hb ho).mono ?_; rintro _ w2 ⟨rfl, hr2, m2⟩; rw [HV.out]; have hr2' := hr2; obtain ⟨v2, hp2, hv2, hg2⟩ := hr2'; obtain ⟨e0, e1, ef0, ef1⟩ := two_cells hp2; obtain ⟨ad2, len2, cap2, rfl, hl2, _⟩ := hv2; have t3 : (len2 : Int) < (V : Int) := (by omega)) | (go_at_call 81; refine (rfFail_w _ g _ _ _ hr2).mono ?_; rintro _ w3 ⟨rfl, hr3, m3⟩))
          go_ret
          exact ⟨_, rfl, hr3, m2.then m3⟩
      · have k4 : ¬ V ≤ (bs.drop 4).length := fun e => hok' ⟨k2, fun e => absurd e hm, e⟩
        have HK4 : Hid (¬ V ≤ (bs.drop 4).length) := k4
        have t2 : decide (0 ≤ most) = false := decide_eq_false hm
        clear hok' hm k2 k4
        go_enter Try.func79, Try.ntmps79
        go_wp2_with (first | (go_at_call 105; refine (rfNum_w _ g bs _ h k1 hb ho).mono ?_; rintro _ w2 ⟨rfl, hr2, m2⟩; rw [HV.out]; have hr2' := hr2; obtain ⟨v2, hp2, hv2, hg2⟩ := hr2'; obtain ⟨e0, e1, ef0, ef1⟩ := two_cells hp2; obtain ⟨ad2, len2, cap2, rfl, hl2, _⟩ := hv2; have k4 := HK4.out; have t3 : (len2 : Int) < (V : Int) := (by omega); clear k4) | (go_at_call 81; refine (rfFail_w _ g _ _ _ hr2).mono ?_; rintro _ w3 ⟨rfl, hr3, m3⟩))
        go_ret
        exact ⟨_, rfl, hr3, m2.then m3⟩
    · have t1 : (1048576 : Int) < (V : Int) := by omega
      have hv5 := HV5.out
      clear hok'
      go_enter Try.func79, Try.ntmps79
      go_wp2_with (first | (go_at_call 105; refine (rfNum_w _ g bs _ h k1 hb ho).mono ?_; rintro _ w2 ⟨rfl, hr2, m2⟩; rw [HV.out]; have hr2' := hr2; obtain ⟨v2, hp2, hv2, hg2⟩ := hr2'; obtain ⟨e0, e1, ef0, ef1⟩ := two_cells hp2; obtain ⟨ad2, len2, cap2, rfl, hl2, _⟩ := hv2) | (go_at_call 81; refine (rfFail_w _ g _ _ _ hr2).mono ?_; rintro _ w3 ⟨rfl, hr3, m3⟩))
      go_ret
      exact ⟨_, rfl, hr3, m2.then m3⟩
  · have e0 : val [0, 0, 0, 0] = 0 := by decide
    have H0 : Hid (val [0, 0, 0, 0] = 0) := e0
    clear e0
    go_enter Try.func79, Try.ntmps79
    go_wp2_with (first | (go_at_call 105; refine (rfNum_fail_w _ g bs false _ h (.inr (by omega))).mono ?_; rintro _ w2 ⟨rfl, hr2, m2⟩; rw [H0.out]; have hr2' := hr2; obtain ⟨v2, hp2, hv2, hg2⟩ := hr2'; obtain ⟨e0, e1, ef0, ef1⟩ := two_cells hp2) | (go_at_call 81; refine (rfFail_w _ g _ _ _ hr2).mono ?_; rintro _ w3 ⟨rfl, hr3, m3⟩))
    go_ret
    exact ⟨_, rfl, hr3, m2.then m3⟩

end Go.Proofs.Ytpofalalfemkhaa
