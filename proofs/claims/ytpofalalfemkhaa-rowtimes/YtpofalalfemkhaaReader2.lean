/-
  What octet's Reader does with a Float and a Text while its Read runs: it takes them where the document lets it, and else leaves by its own panic with all bytes still left; no other memory is written.
-/
import Derived.Test.YtpofalalfemkhaaReader
namespace Go.Proofs.Ytpofalalfemkhaa
open Go.RowKit

theorem RdIs.moves {w w' : World} {p g : Nat} {bs : List Nat} {fl : Bool} {S : List Nat} (h : RdIs w p g bs fl) (m : Moves S w w') (hp : p ∉ S) (hg : g ∉ S) : RdIs w' p g bs fl := by
  obtain ⟨v, h1, h2, h3⟩ := h
  exact ⟨v, m.at h1 hp, h2.moves m hg, h3⟩

theorem rfloat_ok_w (p g : Nat) (bs : List Nat) (w : World) (h : RdIs w p g bs false) (hn : 8 ≤ bs.length) (ho : ∀ b ∈ bs, b < 256) (hc : Pl.canon (val (bs.take 8)) = val (bs.take 8)) :
    Calls Try.prog 118 #[.pointer (some ⟨p, 0, none⟩)] w fun e w' => e = .returned (.float .f64 (val (bs.take 8))) ∧ RdIs w' p g (bs.drop 8) false ∧ Moves [p] w w' := by
  have h0 := h
  obtain ⟨v, hp, hv, hg⟩ := h
  obtain ⟨c0, c1, c2, f0, f1, f2⟩ := three_cells hp
  generalize hV : val (bs.take 8) = V at hc
  have HV : Hid (val (bs.take 8) = V) := hV
  have HC : Hid (Pl.canon V = V) := hc
  have ht : ((Pl.canon (Pl.canon V) : Int) != (V : Int)) = false := by rw [hc, hc]; simp
  have ht2 : ((V : Int) != (V : Int)) = false := by simp
  obtain ⟨ad, len, cap, rfl, _⟩ := hv
  clear hV
  go_enter Try.func118, Try.ntmps118
  go_wp2_with (first | (go_at_call 102; refine (rlongr_w _ g bs _ h0 hn ho).mono ?_; rintro _ w2 ⟨rfl, hr2, m2⟩; rw [HV.out]) | (go_at_call 121; refine (numFrom_w _ _).mono ?_; rintro _ _ ⟨rfl, rfl⟩) | (go_at_call 120; refine (numBits_w _ _).mono ?_; rintro _ _ ⟨rfl, rfl⟩))
  go_ret
  exact ⟨by first | rfl | (rw [HC.out]; rfl), hr2, m2⟩

theorem rfloat_fail_w (p g : Nat) (bs : List Nat) (w : World) (h : RdIs w p g bs false) (ho : ∀ b ∈ bs, b < 256) (hc : ¬ (8 ≤ bs.length ∧ Pl.canon (val (bs.take 8)) = val (bs.take 8))) :
    Calls Try.prog 118 #[.pointer (some ⟨p, 0, none⟩)] w fun e w' => e = .panicked (stop p) ∧ RdIs w' p g bs true ∧ Moves [p] w w' := by
  have h0 := h
  obtain ⟨v, hp, hv, hg⟩ := h
  obtain ⟨c0, c1, c2, f0, f1, f2⟩ := three_cells hp
  have hv0 := hv
  have hgS : g ∉ [p] := by simpa using hg
  obtain ⟨ad, len, cap, rfl, _⟩ := hv
  by_cases hn : 8 ≤ bs.length
  · have hc' : ¬ Pl.canon (val (bs.take 8)) = val (bs.take 8) := fun e => hc ⟨hn, e⟩
    clear hc
    generalize hV : val (bs.take 8) = V at hc'
    have HV : Hid (val (bs.take 8) = V) := hV
    have ht : ((Pl.canon (Pl.canon V) : Int) != (V : Int)) = true := by rw [Pl.canon_canon]; simp; omega
    clear hV hc'
    go_enter Try.func118, Try.ntmps118
    go_wp2_with (first | (go_at_call 102; refine (rlongr_w _ g bs _ h0 hn ho).mono ?_; rintro _ w2 ⟨rfl, hr2, m2⟩; rw [HV.out]; have hv2 := hv0.moves m2 hgS) | (go_at_call 121; refine (numFrom_w _ _).mono ?_; rintro _ _ ⟨rfl, rfl⟩) | (go_at_call 120; refine (numBits_w _ _).mono ?_; rintro _ _ ⟨rfl, rfl⟩) | (go_at_call 117; refine (failAt_w _ g _ _ bs _ hr2 hv2).mono ?_; rintro _ w3 ⟨rfl, hr3, m3⟩))
    exact ⟨rfl, rfl, hr3, m2.then m3⟩
  · go_enter Try.func118, Try.ntmps118
    go_wp2_with (go_at_call 102; refine (rlongr_fail_w _ g bs _ h0 (by omega)).mono ?_; rintro _ w2 ⟨rfl, hr2, m2⟩)
    exact ⟨rfl, rfl, hr2, m2⟩

/-- May a Text of that length be read there? -/
def textOk (bs : List Nat) (most : Int) : Prop :=
  4 ≤ bs.length ∧ val (bs.take 4) ≤ 1048576 ∧ (0 ≤ most → (val (bs.take 4) : Int) ≤ most) ∧ val (bs.take 4) ≤ (bs.drop 4).length

set_option maxHeartbeats 2000000 in
theorem rtextr_w (p g : Nat) (bs : List Nat) (most : Int) (w : World) (h : RdIs w p g bs false) (ho : ∀ b ∈ bs, b < 256) (hok : textOk bs most) :
    Calls Try.prog 101 #[.pointer (some ⟨p, 0, none⟩), .int .i64 most] w fun e w' => ∃ v', e = .returned v' ∧ Own w' v' ((bs.drop 4).take (val (bs.take 4))) ∧ RdIs w' p g ((bs.drop 4).drop (val (bs.take 4))) false ∧ Moves [p] w w' ∧ Fresh w v' := by
  have h0 := h
  obtain ⟨v, hp, hv, hg⟩ := h
  obtain ⟨c0, c1, c2, f0, f1, f2⟩ := three_cells hp
  obtain ⟨ad, len, cap, rfl, _⟩ := hv
  obtain ⟨k1, k2, k3, k4⟩ := hok
  generalize hV : val (bs.take 4) = V at k2 k3 k4
  have HV : Hid (val (bs.take 4) = V) := hV
  have t1 : ¬ (1048576 : Int) < (V : Int) := by omega
  have hl1 : ((bs.drop 4).take V).length ≤ 1099511627776 := by rw [List.length_take]; omega
  clear hV
  by_cases hm : 0 ≤ most
  · have t2 : ¬ most < (V : Int) := by have := k3 hm; omega
    clear k3
    go_enter Try.func101, Try.ntmps101
    go_wp2_with (first | (go_at_call 116; refine (rnumr_w _ g bs _ h0 k1 ho).mono ?_; rintro _ w2 ⟨rfl, hr2, m2⟩; rw [HV.out]; have hr2' := hr2; obtain ⟨v2, hp2, hv2, hg2⟩ := hr2'; obtain ⟨e0, e1, e2, ef0, ef1, ef2⟩ := three_cells hp2; obtain ⟨ad2, len2, cap2, rfl, hl2, _⟩ := hv2; have t3 : ¬ (len2 : Int) < (V : Int) := by omega) | (go_at_call 115; refine (rtake_w _ g (bs.drop 4) V _ rfl _ hr2 k4).mono ?_; rintro _ w3 ⟨v3, rfl, hv3, hr3, m3⟩) | (go_at_call 70; refine (fresh_w _ g _ _ hv3 hl1).mono ?_; rintro _ w4 ⟨v4, rfl, ho4, m4, f4⟩))
    go_ret
    exact ⟨_, rfl, ho4, hr3.moves m4 (by simp) (by simp), (m2.then m3).then (m4.mono (by simp)), fun k hk => Nat.le_trans m2.size (Nat.le_trans m3.size (f4 k hk))⟩
  · have t2 : ¬ 0 ≤ most := hm
    clear k3
    go_enter Try.func101, Try.ntmps101
    go_wp2_with (first | (go_at_call 116; refine (rnumr_w _ g bs _ h0 k1 ho).mono ?_; rintro _ w2 ⟨rfl, hr2, m2⟩; rw [HV.out]; have hr2' := hr2; obtain ⟨v2, hp2, hv2, hg2⟩ := hr2'; obtain ⟨e0, e1, e2, ef0, ef1, ef2⟩ := three_cells hp2; obtain ⟨ad2, len2, cap2, rfl, hl2, _⟩ := hv2; have t3 : ¬ (len2 : Int) < (V : Int) := by omega) | (go_at_call 115; refine (rtake_w _ g (bs.drop 4) V _ rfl _ hr2 k4).mono ?_; rintro _ w3 ⟨v3, rfl, hv3, hr3, m3⟩) | (go_at_call 70; refine (fresh_w _ g _ _ hv3 hl1).mono ?_; rintro _ w4 ⟨v4, rfl, ho4, m4, f4⟩))
    go_ret
    exact ⟨_, rfl, ho4, hr3.moves m4 (by simp) (by simp), (m2.then m3).then (m4.mono (by simp)), fun k hk => Nat.le_trans m2.size (Nat.le_trans m3.size (f4 k hk))⟩

set_option maxHeartbeats 2000000 in
theorem rtextr_fail_w (p g : Nat) (bs : List Nat) (most : Int) (w : World) (h : RdIs w p g bs false) (ho : ∀ b ∈ bs, b < 256) (hok : ¬ textOk bs most) :
    Calls Try.prog 101 #[.pointer (some ⟨p, 0, none⟩), .int .i64 most] w fun e w' => e = .panicked (stop p) ∧ RdIs w' p g bs true ∧ Moves [p] w w' := by
  have h0 := h
  obtain ⟨v, hp, hv, hg⟩ := h
  obtain ⟨c0, c1, c2, f0, f1, f2⟩ := three_cells hp
  have hv0 := hv
  have hgS : g ∉ [p] := by simpa using hg
  obtain ⟨ad, len, cap, rfl, _⟩ := hv
  by_cases k1 : 4 ≤ bs.length
  · have hok' : ¬ (val (bs.take 4) ≤ 1048576 ∧ (0 ≤ most → (val (bs.take 4) : Int) ≤ most) ∧ val (bs.take 4) ≤ (bs.drop 4).length) := fun e => hok ⟨k1, e⟩
    clear hok
    generalize hV : val (bs.take 4) = V at hok'
    have HV : Hid (val (bs.take 4) = V) := hV
    clear hV
    by_cases k2 : V ≤ 1048576
    · have t1 : ¬ (1048576 : Int) < (V : Int) := by omega
      by_cases hm : 0 ≤ most
      · by_cases k3 : most < (V : Int)
        · clear hok'
          go_enter Try.func101, Try.ntmps101
          go_wp2_with (first | (go_at_call 116; refine (rnumr_w _ g bs _ h0 k1 ho).mono ?_; rintro _ w2 ⟨rfl, hr2, m2⟩; rw [HV.out]; have hr2' := hr2; obtain ⟨v2, hp2, hv2, hg2⟩ := hr2'; obtain ⟨e0, e1, e2, ef0, ef1, ef2⟩ := three_cells hp2; obtain ⟨ad2, len2, cap2, rfl, hl2, _⟩ := hv2; have hvm := hv0.moves m2 hgS) | (go_at_call 117; refine (failAt_w _ g _ _ bs _ hr2 hvm).mono ?_; rintro _ w3 ⟨rfl, hr3, m3⟩))
          exact ⟨rfl, rfl, hr3, m2.then m3⟩
        · have k4 : ¬ V ≤ (bs.drop 4).length := fun e => hok' ⟨k2, fun _ => by omega, e⟩
          clear hok'
          go_enter Try.func101, Try.ntmps101
          go_wp2_with (first | (go_at_call 116; refine (rnumr_w _ g bs _ h0 k1 ho).mono ?_; rintro _ w2 ⟨rfl, hr2, m2⟩; rw [HV.out]; have hr2' := hr2; obtain ⟨v2, hp2, hv2, hg2⟩ := hr2'; obtain ⟨e0, e1, e2, ef0, ef1, ef2⟩ := three_cells hp2; obtain ⟨ad2, len2, cap2, rfl, hl2, _⟩ := hv2; have hvm := hv0.moves m2 hgS; have t3 : (len2 : Int) < (V : Int) := by omega) | (go_at_call 117; refine (failAt_w _ g _ _ bs _ hr2 hvm).mono ?_; rintro _ w3 ⟨rfl, hr3, m3⟩))
          exact ⟨rfl, rfl, hr3, m2.then m3⟩
      · have k4 : ¬ V ≤ (bs.drop 4).length := fun e => hok' ⟨k2, fun e => absurd e hm, e⟩
        clear hok'
        go_enter Try.func101, Try.ntmps101
        go_wp2_with (first | (go_at_call 116; refine (rnumr_w _ g bs _ h0 k1 ho).mono ?_; rintro _ w2 ⟨rfl, hr2, m2⟩; rw [HV.out]; have hr2' := hr2; obtain ⟨v2, hp2, hv2, hg2⟩ := hr2'; obtain ⟨e0, e1, e2, ef0, ef1, ef2⟩ := three_cells hp2; obtain ⟨ad2, len2, cap2, rfl, hl2, _⟩ := hv2; have hvm := hv0.moves m2 hgS; have t3 : (len2 : Int) < (V : Int) := by omega) | (go_at_call 117; refine (failAt_w _ g _ _ bs _ hr2 hvm).mono ?_; rintro _ w3 ⟨rfl, hr3, m3⟩))
        exact ⟨rfl, rfl, hr3, m2.then m3⟩
    · have t1 : (1048576 : Int) < (V : Int) := by omega
      clear hok'
      go_enter Try.func101, Try.ntmps101
      go_wp2_with (first | (go_at_call 116; refine (rnumr_w _ g bs _ h0 k1 ho).mono ?_; rintro _ w2 ⟨rfl, hr2, m2⟩; rw [HV.out]; have hr2' := hr2; obtain ⟨v2, hp2, hv2, hg2⟩ := hr2'; obtain ⟨e0, e1, e2, ef0, ef1, ef2⟩ := three_cells hp2; obtain ⟨ad2, len2, cap2, rfl, hl2, _⟩ := hv2; have hvm := hv0.moves m2 hgS) | (go_at_call 117; refine (failAt_w _ g _ _ bs _ hr2 hvm).mono ?_; rintro _ w3 ⟨rfl, hr3, m3⟩))
      exact ⟨rfl, rfl, hr3, m2.then m3⟩
  · go_enter Try.func101, Try.ntmps101
    go_wp2_with (go_at_call 116; refine (rnumr_fail_w _ g bs _ h0 (by omega)).mono ?_; rintro _ w2 ⟨rfl, hr2, m2⟩)
    exact ⟨rfl, rfl, hr2, m2⟩

end Go.Proofs.Ytpofalalfemkhaa
