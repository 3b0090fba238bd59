/-
  Msc, Msd, Msf: our texts of these names, laid into one.
-/
import Derived.Test.YtfhdodopjgfedaaGreatCMsb
import Derived.Test.YtfhdodopjgfedaaGreatCB08
import Derived.Deep.Grids
/-
  law12's known.
-/
namespace Go.Proofs.YtfhdodopjgfedaaGreat
open Go.RowKit

set_option maxRecDepth 100000 in
set_option maxHeartbeats 16000000 in
theorem known12_w (w : World) : Calls Tryz.prog 13 #[] w fun e w' => e = .returned (.bool true) ∧ Moves [] w w' := by
  go_enter Tryz.func13, Tryz.ntmps13
  go_wp2_with fail
  refine (mnew_w 2 (by omega) (by omega) w).mono ?_
  rintro _ w1 ⟨p, q, c, rfl, hI, m1⟩
  have hnp := nilPtr p
  have ok0 := m0_ok 2 (by omega) (by omega)
  have hdo := mdoPlan_w w w1 p q c none (m0 2) hI ok0 m1.size 1 1 (plC 2 ⟨#[109]⟩ 0) none 0 0 none 0 0 none 0 0 (plC_c w1 _ _ _) rfl (plC_r (by omega) (by omega) (by decide) (by omega) (by omega)) (by show (0 : Int) ≤ 2; omega) (by show (2 : Int) ≤ 3; omega) (by decide)
  have hok1 := mPlan_ok (m0 2) ok0 1 1 2 ⟨#[109]⟩ 0 (by omega) (by omega) (by decide)
  obtain ⟨kp1, kp2, kp3, kp4⟩ := known_plan
  obtain ⟨R, hR⟩ : ∃ R, mPlan (m0 2) 1 1 2 ⟨#[109]⟩ 0 = R := ⟨_, rfl⟩
  have hdo' : Calls Tryz.prog 10 #[.pointer (some ⟨p, 0, none⟩), .int .i64 1, .int .i64 1, .agg (plV 2 ⟨#[109]⟩ 0)] w1 fun e w' => ∃ cs a', e = .returned (.agg cs.toArray) ∧ AnsC w' cs R.1 ∧ MrG w w1 p q c none (m0 2) w' a' R.2 := by rw [← hR]; exact hdo
  rw [hR] at hok1 kp1 kp2 kp3 kp4
  have HOK : Hid (OkM R.2) := hok1
  have HK : Hid (R.1.code = 0 ∧ R.1.gen = 2 ∧ R.2.last = 2 ∧ R.2.xs = k11) := ⟨kp1, kp2, kp3, kp4⟩
  have HM1 : Hid (Moves [] w w1) := m1
  have HI1 : Hid (MrIs w w1 p q c none (m0 2)) := hI
  clear hdo hok1 kp1 kp2 kp3 kp4 hR ok0 hI m1
  unfold plV at hdo'
  go_wp2_with fail
  refine hdo'.mono ?_
  rintro _ w2 ⟨cs, a2, rfl, hA, hG⟩
  obtain ⟨ar, nr, cr, sa, ns, csn, gs, rfl, -⟩ := hA
  have HG : Hid (MrG w w1 p q c none (m0 2) w2 a2 R.2) := hG
  clear hdo' hG
  go_wp2_with (with_reducible refine stopA _ _ rfl ?_)
  unfold Hid
  have hz := heap_alloc_new w2 (.cells #[.int .i64 0, .slice none 0 0, .string ⟨#[]⟩, .string ⟨#[]⟩, .int .i64 0, .int .i64 0, .int .i64 0, .int .i64 0, .int .i64 0, .string ⟨#[]⟩, .slice none 0 0] 48)
  have mz : Moves [] w2 (w2.alloc (.cells #[.int .i64 0, .slice none 0 0, .string ⟨#[]⟩, .string ⟨#[]⟩, .int .i64 0, .int .i64 0, .int .i64 0, .int .i64 0, .int .i64 0, .string ⟨#[]⟩, .slice none 0 0] 48)) := (Moves.refl _ _).alloc _
  refine wpList_storeAns rfl _ _ rfl w2.heap.size [.int .i64 R.1.code, .slice ar nr cr, .string R.1.lo, .string R.1.hi, .int .i64 R.1.grp, .int .i64 R.1.gen, .int .i64 R.1.old, .int .i64 R.1.to, .int .i64 R.1.act, .string R.1.at', .slice sa ns csn] rfl rfl rfl (by simp [Value.oneCell']) hz rfl ?_
  intro w3 hh mm
  have Mw3 : Moves [] w2 w3 := mz.trans mm (fun x hx => .inr (by simp at hx; omega))
  clear hz mz mm
  have hI3 := HG.out.is.moves0 Mw3
  have HBX : Hid (BoxB w3 w2.heap.size _ _ p q c a2) := ⟨hh, HG.out.is.notin (Nat.le_refl _)⟩
  have hpu := mdoPub_w w w3 p q c a2 R.2 hI3 HOK.out 1 2 (pubC 9 0) none 0 0 none 0 0 none 0 0 (pubC_c w3 _ _) rfl (pubC_r (by omega) (by omega) (.inl rfl)) (by show (1 : Int) ≤ 9; omega)
  have ep : mPub R.2 (pubC 9 0).gen (pubC 9 0).to = (pTold 22, R.2) := by
    unfold mPub
    rw [if_pos (by rw [HK.out.2.2.1]; show (2 : Int) < 9; omega)]
  rw [ep] at hpu
  have hpu' : Calls Tryz.prog 10 #[.pointer (some ⟨p, 0, none⟩), .int .i64 1, .int .i64 2, .agg (pubV 9 0)] w3 fun e w' => e = .returned (.agg (ansV (pTold 22))) ∧ MrG w w3 p q c a2 R.2 w' a2 R.2 := hpu
  have HI3 : Hid (MrIs w w3 p q c a2 R.2) := hI3
  have HM3 : Hid (Moves [] w2 w3) := Mw3
  clear hpu ep hI3 hh Mw3
  unfold pubV at hpu'
  go_wp2_with fail
  refine hpu'.mono ?_
  rintro _ w4 ⟨rfl, hG4⟩
  have HG4 : Hid (MrG w w3 p q c a2 R.2 w4 a2 R.2) := hG4
  clear hpu' hG4
  go_wp2_with (with_reducible refine stopA _ _ rfl ?_)
  unfold Hid
  have hz := heap_alloc_new w4 (.cells #[.int .i64 0, .slice none 0 0, .string ⟨#[]⟩, .string ⟨#[]⟩, .int .i64 0, .int .i64 0, .int .i64 0, .int .i64 0, .int .i64 0, .string ⟨#[]⟩, .slice none 0 0] 48)
  have mz : Moves [] w4 (w4.alloc (.cells #[.int .i64 0, .slice none 0 0, .string ⟨#[]⟩, .string ⟨#[]⟩, .int .i64 0, .int .i64 0, .int .i64 0, .int .i64 0, .int .i64 0, .string ⟨#[]⟩, .slice none 0 0] 48)) := (Moves.refl _ _).alloc _
  refine wpList_storeAns rfl _ _ rfl w4.heap.size (ansV (pTold 22)).toList rfl rfl rfl (ansV_one _) hz rfl ?_
  intro w5 hh mm
  have Mw5 : Moves [] w4 w5 := mz.trans mm (fun x hx => .inr (by simp at hx; omega))
  clear hz mz mm
  have hb5 := ((HBX.out.step HG4.out).moves0 Mw5).at'
  obtain ⟨B2, hB2⟩ : ∃ B2, w2.heap.size = B2 := ⟨_, rfl⟩
  rw [hB2] at hb5 ⊢
  obtain ⟨x0, _, _, _, _, x5, _⟩ := eleven_cells hb5
  rw [HK.out.1] at x0
  rw [HK.out.2.1] at x5
  have z0 := (eleven_cells hh).1
  have hal := mall_w w w5 p q c a2 R.2 (HG4.out.is.moves0 Mw5) HOK.out
  have HM5 : Hid (Moves [] w4 w5) := Mw5
  have hM : Hid (Moves [] w w5) := (((HG.out.old HM1.out (by simp)).then HM3.out).then (by
    have := HG4.out.old ((HG.out.old HM1.out (by simp)).then HM3.out) (fun k hk => HI3.out.young hk)
    exact Moves.refl [] w3)).trans (HG4.out.mv.then (HM5.out.mono (by simp))) (fun k hk => .inr (by
      simp only [List.mem_cons] at hk
      rcases hk with rfl | rfl | rfl | hk
      · exact HI3.out.hp
      · exact HI3.out.hq
      · exact HI3.out.hc
      · exact HI3.out.young (Option.mem_toList.1 hk)))
  clear hb5 hh hB2 HBX Mw5
  go_wp2_with fail
  refine hal.mono ?_
  rintro _ w6 ⟨v6, rfl, hO, hF, m6⟩
  obtain ⟨ad, n, cap, rfl, hn⟩ := hO.open
  have hn1 : n = 1 := by rw [hn.out, HK.out.2.2.2]; rfl
  subst hn1
  have HM6 : Hid (Moves [] w5 w6) := m6
  clear hal hO hF m6 hn
  go_wp2_with fail
  refine (mnew0_w _).mono ?_
  rintro _ _ ⟨rfl, rfl⟩
  go_wp2_with fail
  go_ret
  exact ⟨rfl, hM.out.then HM6.out⟩
end Go.Proofs.YtfhdodopjgfedaaGreat
/-
  MasterOnce's walk.
-/
namespace Go.Proofs.YtfhdodopjgfedaaGreat
open Go.RowKit

theorem doPlan_w (W w : World) (p q c : Nat) (a : Option Nat) (S : Pms) (h : MrIs W w p q c a S) (ok : OkM S) (hW : W.heap.size ≤ w.heap.size) (cl sq act : Int) (s : ByteArray) (to : Int) (hb : (1 ≤ act ∧ act ≤ 3) ∧ (1 ≤ to ∧ to ≤ 3) ∧ s.size ≤ 16) :
    Calls Tryz.prog 10 #[.pointer (some ⟨p, 0, none⟩), .int .i64 cl, .int .i64 sq, .agg (plV act s to)] w fun e w' => ∃ cs a', e = .returned (.agg cs.toArray) ∧ AnsC w' cs (mPlan S cl sq act s to).1 ∧ MrG W w p q c a S w' a' (mPlan S cl sq act s to).2 :=
  mdoPlan_w W w p q c a S h ok hW cl sq (plC act s to) none 0 0 none 0 0 none 0 0 (plC_c w _ _ _) rfl (plC_r hb.1.1 hb.1.2 hb.2.2 (by omega) (by omega)) (by show 0 ≤ act; omega) (by show act ≤ 3; omega) hb.2.2
theorem doPub_w (W w : World) (p q c : Nat) (a : Option Nat) (S : Pms) (h : MrIs W w p q c a S) (ok : OkM S) (cl sq gen to : Int) (h1 : 1 ≤ gen) (h2 : gen ≤ 1073741824) (h3 : to = 0 ∨ to = -1) :
    Calls Tryz.prog 10 #[.pointer (some ⟨p, 0, none⟩), .int .i64 cl, .int .i64 sq, .agg (pubV gen to)] w fun e w' => e = .returned (.agg (ansV (pTold (mPub S gen to).1.code))) ∧ MrG W w p q c a S w' a (mPub S gen to).2 :=
  mdoPub_w W w p q c a S h ok cl sq (pubC gen to) none 0 0 none 0 0 none 0 0 (pubC_c w _ _) rfl (pubC_r h1 h2 h3) h1
structure Fresh1 (S : Pms) (c q : Int) (R : Pans × Pms) : Prop where
  bare : Bare R.1
  r : rAns R.1 = true
  ok : OkM R.2
  xs : R.2.xs = S.xs
  pe : R.1.code = 0 → R.1.gen = S.last + 1 ∧ R.2.pend = R.1 ∧ R.2.last = R.1.gen
  le : R.1.gen ≤ R.2.last
  ll : S.last ≤ R.2.last
  ca : ofT R.2.ca c = ⟨c, q, strOf (encA R.1)⟩
  ge : 0 ≤ R.1.gen
theorem fresh1 (S : Pms) (ok : OkM S) (c q act : Int) (s : ByteArray) (to : Int) (h : (ofT S.ca c).s < q) (hq : 1 ≤ q) (h0 : 0 ≤ c) (h1 : c ≤ 255) (h2 : q ≤ 1073741824) (hb : (1 ≤ act ∧ act ≤ 3) ∧ (1 ≤ to ∧ to ≤ 3) ∧ s.size ≤ 16) : Fresh1 S c q (mPlan S c q act s to) := by
  have hok := mPlan_ok S ok c q act s to (by omega) (by omega) hb.2.2
  have he := plan_fresh S c q act s to h hq h0 h1 h2 (by omega)
  rw [he] at hok ⊢
  obtain ⟨k1, k2, k3, k4, k5, k6⟩ := mBegin_is S ok act s to hb.1.1 hb.1.2 hb.2.2
  obtain ⟨g1, g2, g3⟩ := begin_gen S ok act s to hb.1.1 hb.1.2 hb.2.2
  refine ⟨k3, k4, hok, k5, fun hc => ?_, g1, g2, ?_, (wi_iff.1 (rAns_iff.1 k4).2.2.2.2.2.2.1).1⟩
  · rcases k6 with ⟨e, _⟩ | ⟨_, e2, e3, e4, _⟩
    · exact absurd hc e
    · exact ⟨e2, e4, by rw [e2]; exact e3⟩
  · show ofT (keepT S.ca ⟨c, q, strOf (encA (mBegin S act s to).1)⟩) c = _
    rw [ofT_keep ok.ri, if_pos ⟨rfl, h⟩]
theorem pub_ok (S : Pms) (ok : OkM S) (to : Int) (hp : S.pend.gen = S.last) : (mPub S S.pend.gen to).1.code = 0 ∧ OkM (mPub S S.pend.gen to).2 ∧ (mPub S S.pend.gen to).2.ca = S.ca ∧ (mPub S S.pend.gen to).2.last = S.last := by
  have l0 := ok.l0
  have hok := (mPub_ok S ok S.pend.gen to (by omega)).1
  refine ⟨?_, hok, ?_, ?_⟩
  all_goals
    unfold mPub
    rw [if_neg (by omega), if_neg (by omega)]
  all_goals rfl
end Go.Proofs.YtfhdodopjgfedaaGreat
/-
  Arguments opened: drawn plans, lists of them, lists of bools.
-/
namespace Go.Proofs.YtfhdodopjgfedaaGreat
open Go.RowKit
open Go.ChangeShapes Go.WideShapes

end Go.Proofs.YtfhdodopjgfedaaGreat
