/- ours -/
import Derived.Test.YtfhdodopjgfedaaGreatCMsd
import Derived.Test.YtfhdodopjgfedaaGreatCB49
namespace Go.Proofs.YtfhdodopjgfedaaGreat
open Go.RowKit

set_option maxRecDepth 100000 in
set_option maxHeartbeats 16000000 in
theorem mpending_w (W w : World) (p q c : Nat) (a : Option Nat) (S : Pms) (h : MrIs W w p q c a S) (hp : S.pend = pTold 0) : Calls Tryz.prog 18 #[.pointer (some ⟨p, 0, none⟩)] w fun e w' => e = .returned (.tuple #[.agg (ansV (pTold 0)), .bool false]) ∧ Moves [] w w' := by
  have b := heap_alloc_new w (.cells #[.int .i64 0, .slice none 0 0, .string ⟨#[]⟩, .string ⟨#[]⟩, .int .i64 0, .int .i64 0, .int .i64 0, .int .i64 0, .int .i64 0, .string ⟨#[]⟩, .slice none 0 0] 48)
  have m : Moves [] w (w.alloc (.cells #[.int .i64 0, .slice none 0 0, .string ⟨#[]⟩, .string ⟨#[]⟩, .int .i64 0, .int .i64 0, .int .i64 0, .int .i64 0, .int .i64 0, .string ⟨#[]⟩, .slice none 0 0] 48)) := (Moves.refl _ _).alloc _
  obtain ⟨w1, hw1⟩ : ∃ w1, w.alloc (.cells #[.int .i64 0, .slice none 0 0, .string ⟨#[]⟩, .string ⟨#[]⟩, .int .i64 0, .int .i64 0, .int .i64 0, .int .i64 0, .int .i64 0, .string ⟨#[]⟩, .slice none 0 0] 48) = w1 := ⟨_, rfl⟩
  rw [hw1] at b m
  have hn := mnone_w W w1 p q c a S (h.moves0 m)
  have hb := mbusy_w W w1 p q c a S (h.moves0 m)
  rw [decide_eq_false (by rw [hp]; simp [pTold])] at hb
  have HB : Hid _ := b
  have HM : Hid _ := m
  clear b m h hp
  go_enter Tryz.func18, Tryz.ntmps18
  go_wp2_with fail
  try rw [hw1]
  refine hn.mono ?_
  rintro _ _ ⟨rfl, rfl⟩
  go_wp2_with fail
  refine hb.mono ?_
  rintro _ _ ⟨rfl, rfl⟩
  go_wp2_with (with_reducible refine stopA _ _ rfl ?_)
  unfold Hid
  refine wpList_storeAns rfl _ _ rfl w.heap.size (ansV (pTold 0)).toList rfl rfl rfl (ansV_one _) HB.out rfl ?_
  intro w2 h2 m2
  go_wp2_with fail
  try simp only [Exit.inBlock, Exit.then]
  refine bodyPost_ret (ret_ans1 rfl _ _ _ _ _ _ _ _ _ _ _ _ _ _ rfl h2) rfl ⟨rfl, HM.out.trans m2 (fun x hx => .inr (by simp at hx; omega))⟩

structure GivSt (w wX : World) (p q c : Nat) (a : Option Nat) (S : Pms) (i : Nat) : Prop where
  is : MrIs w wX p q c a S
  ok : OkM S
  ca : (ofT S.ca 7).s ≤ i
  pe : S.pend = pTold 0
  mv : Moves [] w wX
theorem plan_pend (S : Pms) (ok : OkM S) (c q act : Int) (s : ByteArray) (to : Int) (h : (ofT S.ca c).s < q) (hq : 1 ≤ q) (h0 : 0 ≤ c) (h1 : c ≤ 255) (h2 : q ≤ 1073741824) (hb : (1 ≤ act ∧ act ≤ 3) ∧ (1 ≤ to ∧ to ≤ 3) ∧ s.size ≤ 16) :
    ((mPlan S c q act s to).1.code ≠ 0 → (mPlan S c q act s to).2.pend = S.pend) ∧ ((mPlan S c q act s to).1.code = 0 → PlanOf S.xs S.grps (mPlan S c q act s to).1) ∧ (mPlan S c q act s to).2.grps = S.grps := by
  have hf := fresh1 S ok c q act s to h hq h0 h1 h2 hb
  have he := plan_fresh S c q act s to h hq h0 h1 h2 (by omega)
  obtain ⟨k1, k2, k3, k4, k5, k6⟩ := mBegin_is S ok act s to hb.1.1 hb.1.2 hb.2.2
  have hg : (mPlan S c q act s to).2.grps = S.grps := by
    rw [he]
    show (mBegin S act s to).2.grps = S.grps
    unfold mBegin
    split
    · rfl
    · split
      · rfl
      · split <;> rfl
  refine ⟨?_, ?_, hg⟩
  · intro hc
    rw [he] at hc ⊢
    rcases k6 with ⟨_, e⟩ | ⟨e, _⟩
    · show (mBegin S act s to).2.pend = S.pend
      rw [e]
    · exact absurd e hc
  · intro hc
    obtain ⟨e1, e2, e3⟩ := hf.pe hc
    have l0 := ok.l0
    rcases hf.ok.pe with e | ⟨hP, _⟩
    · rw [e2] at e
      rw [e] at e1
      have : (pTold 0).gen = 0 := rfl
      omega
    · rw [e2, hf.xs, hg] at hP
      exact hP
theorem pub_keeps (S S1 : Pms) (A : Pans) (ok : OkM S) (ok1 : OkM S1) (hx : S1.xs = S.xs) (hp : S1.pend = A) (hg : A.gen = S1.last) (hP : PlanOf S.xs S.grps A) (to : Int) :
    (∀ x ∈ S.xs, spM x.sp ⟨A.lo, A.hi⟩ = true ∨ x ∈ (mPub S1 A.gen to).2.xs) ∧ (to = -1 → (mPub S1 A.gen to).2.xs = S.xs) ∧ (mPub S1 A.gen to).2.pend = pTold 0 := by
  have l0 := ok1.l0
  have l1 := ok1.l1
  have hu : (mPub S1 A.gen to).2 = { S1 with xs := if to ≠ -1 then lpTo S1.xs (mMade S1.pend) else S1.xs, pend := pTold 0 } := by
    unfold mPub
    rw [if_neg (by omega), if_neg (by rw [hp]; simp)]
  rw [hu]
  refine ⟨?_, ?_, rfl⟩
  · intro x hxx
    show _ ∨ x ∈ (if to ≠ -1 then lpTo S1.xs (mMade S1.pend) else S1.xs)
    split
    · obtain ⟨P, B, D, e1, ⟨_, e3, _⟩, _, e6, _⟩ := plan_next hP ok.may ok.g1 (fun x hx => (ok.ins x hx).1) (by omega) (by omega)
      rw [hp, hx, e3]
      rw [e1] at hxx
      simp only [List.mem_append] at hxx ⊢
      rcases hxx with (h | h) | h
      · right; left; left; exact h
      · left; exact e6 x h
      · right; right; exact h
    · right; rw [hx]; exact hxx
  · intro ht
    show (if to ≠ -1 then lpTo S1.xs (mMade S1.pend) else S1.xs) = S.xs
    rw [if_neg (by simp [ht]), hx]
def PArgs (W : World) (v : Value) : Prop := ∃ ad len cap, v = .slice ad len cap ∧ len ≤ cap ∧ ∀ k, k < len → ∃ b off z0 z1 z2, ad = some ⟨b, off, none⟩ ∧ W.cell? ⟨b, off + k * 3, none⟩ = some (.int .i64 z0) ∧ W.cell? ⟨b, off + k * 3 + 1, none⟩ = some (.int .i64 z1) ∧ W.cell? ⟨b, off + k * 3 + 2, none⟩ = some (.int .i64 z2)
def BArgs (W : World) (v : Value) : Prop := ∃ ad len cap, v = .slice ad len cap ∧ len ≤ cap ∧ ∀ k, k < len → ∃ b off z, ad = some ⟨b, off, none⟩ ∧ W.cell? ⟨b, off + k, none⟩ = some (.bool z)
set_option maxRecDepth 100000 in
set_option maxHeartbeats 16000000 in
theorem masterGives_w (v0 v1 : Value) (w : World) (h0 : PArgs w v0) (h1 : BArgs w v1) : Calls Tryz.prog 5 #[v0, v1] w fun e w' => e = .returned (.bool true) ∧ Moves [] w w' := by
  obtain ⟨ad1, n1, cap1, rfl, hc1, hP⟩ := h0
  obtain ⟨ad2, n2, cap2, rfl, hc2, hB⟩ := h1
  have HP : Hid _ := hP
  have HB : Hid _ := hB
  clear hP hB
  go_enter Tryz.func5, Tryz.ntmps5
  go_wp2_with fail
  refine (mnew_w 3 (by omega) (by omega) w).mono ?_
  rintro _ w3 ⟨p, q, c, rfl, hI, m3⟩
  have hnp := nilPtr p
  have HG0 : Hid (GivSt w w3 p q c none (m0 3) 0) := ⟨hI, m0_ok 3 (by omega) (by omega), by show (0 : Int) ≤ 0; omega, rfl, m3⟩
  clear hI m3
  go_wp2_with fail
  go_loopw [6] (fun vi wr => ∃ (i : Nat) (a : Option Nat) (S : Pms), i ≤ n1 ∧ i ≤ 20 ∧ vi = .int .i64 (i : Nat) ∧ Hid (GivSt w wr p q c a S i)) (fun vi _ => 20 - (intOf vi).toNat)
  case atStart => exact ⟨0, none, m0 3, Nat.zero_le _, by omega, rfl, HG0.out⟩
  case round =>
    obtain ⟨i, a, S, hin, hi20, rfl, HG⟩ := hrel
    by_cases hlt : i < n1 ∧ i < 20
    · obtain ⟨hl1, hl2⟩ := hlt
      have hk1 : (i : Int) < n1 := by omega
      have hk2 : (i : Int) < 20 := by omega
      obtain ⟨bP, offP, d, ip, t, rfl, z0, z1, z2⟩ := HP.out i hl1
      obtain ⟨act, s, to, hb, hkp⟩ := keepPlan_w d ip t
      obtain ⟨i1, hi1⟩ : ∃ i1, i + 1 = i1 := ⟨_, rfl⟩
      have hwi : IntKind.i64.wrap ((i : Int) + 1) = (i1 : Int) := by rw [IntKind.wrap_i64]; omega
      have HBD : Hid ((1 ≤ act ∧ act ≤ 3) ∧ (1 ≤ to ∧ to ≤ 3) ∧ s.size ≤ 16) := hb
      have HI1 : Hid (i + 1 = i1 ∧ i < 20) := ⟨hi1, hl2⟩
      have hca : (ofT S.ca 7).s < (i1 : Int) := by have := HG.out.ca; omega
      have hF := fresh1 S HG.out.ok 7 (i1 : Int) act s to hca (by omega) (by omega) (by omega) (by omega) hb
      have hPP := plan_pend S HG.out.ok 7 (i1 : Int) act s to hca (by omega) (by omega) (by omega) (by omega) hb
      obtain ⟨R, hR⟩ : ∃ R, mPlan S 7 (i1 : Int) act s to = R := ⟨_, rfl⟩
      have hdo : ∀ wA, Moves [] wr wA → Calls Tryz.prog 10 #[.pointer (some ⟨p, 0, none⟩), .int .i64 7, .int .i64 (i1 : Int), .agg (plV act s to)] wA fun e w' => ∃ cs a', e = .returned (.agg cs.toArray) ∧ AnsC w' cs R.1 ∧ MrG w wA p q c a S w' a' R.2 := by
        intro wA mA
        rw [← hR]
        exact doPlan_w w wA p q c a S (HG.out.is.moves0 mA) HG.out.ok (HG.out.mv.then mA).size 7 (i1 : Int) act s to HBD.out
      rw [hR] at hF hPP
      have HF : Hid (Fresh1 S 7 (i1 : Int) R) := hF
      have HPP : Hid ((R.1.code ≠ 0 → R.2.pend = S.pend) ∧ (R.1.code = 0 → PlanOf S.xs S.grps R.1) ∧ R.2.grps = S.grps) := hPP
      clear hR hF hPP hca hi1 hb hl1 hl2
      go_wp2_with fail
      refine (mall_w w wr p q c a S HG.out.is HG.out.ok).mono ?_
      rintro _ wa ⟨va, rfl, hO, hF, ma⟩
      have HTB : Hid (TabB wa va S.xs p q c a) := ⟨hO, fun k hk => HG.out.is.notin (hF k hk)⟩
      have HMa : Hid (Moves [] wr wa) := ma
      have y0 := (HG.out.mv.then ma).cell z0
      have y1 := (HG.out.mv.then ma).cell z1
      have y2 := (HG.out.mv.then ma).cell z2
      obtain ⟨ada, na, capa, rfl, hna⟩ := hO.open
      clear hO hF ma z0 z1 z2
      go_wp2_with fail
      refine (hkp _).mono ?_
      rintro _ wb ⟨rfl, mb⟩
      have hd := hdo wb (HMa.out.then mb)
      have HMb : Hid (Moves [] wr wb) := HMa.out.then mb
      have HTBb : Hid (TabB wb (.slice ada na capa) S.xs p q c a) := HTB.out.moves0 mb
      unfold plV at hd ⊢
      clear y0 y1 y2 hdo mb HTB HMa hkp
      go_wp2_with fail
      refine hd.mono ?_
      rintro _ wc ⟨cs, a3, rfl, hA, hG⟩
      have HLc : Hid (cs.length = 11 ∧ ∀ u ∈ cs, u.oneCell' = true) := hA.len
      have HAC : Hid (AnsC wc cs R.1) := hA
      have HGc : Hid (MrG w wb p q c a S wc a3 R.2) := hG
      clear hd hA hG hwi
      go_wp2_with (with_reducible refine stopA _ _ rfl ?_)
      unfold Hid
      have hz := heap_alloc_new wc (.cells #[.int .i64 0, .slice none 0 0, .string ⟨#[]⟩, .string ⟨#[]⟩, .int .i64 0, .int .i64 0, .int .i64 0, .int .i64 0, .int .i64 0, .string ⟨#[]⟩, .slice none 0 0] 48)
      have mz : Moves [] wc (wc.alloc (.cells #[.int .i64 0, .slice none 0 0, .string ⟨#[]⟩, .string ⟨#[]⟩, .int .i64 0, .int .i64 0, .int .i64 0, .int .i64 0, .int .i64 0, .string ⟨#[]⟩, .slice none 0 0] 48)) := (Moves.refl _ _).alloc _
      refine wpList_storeAns rfl _ _ rfl wc.heap.size cs rfl rfl HLc.out.1 HLc.out.2 hz rfl ?_
      intro wd hh mm
      have Mwd : Moves [] wc wd := mz.trans mm (fun x hx => .inr (by simp at hx; omega))
      clear hz mz mm
      have HTBd : Hid (TabB wd (.slice ada na capa) S.xs p q c a3) := (HTBb.out.step HGc.out).moves0 Mwd
      have HBA : Hid (BoxB wd wc.heap.size cs.toArray 48 p q c a3) := ⟨hh, HGc.out.is.notin (Nat.le_refl _)⟩
      have HId : Hid (MrIs w wd p q c a3 R.2) := HGc.out.is.moves0 Mwd
      have HVd : Hid (Moves [] w wd) := (HGc.out.old (HG.out.mv.then HMb.out) (fun _ hk => HG.out.is.young hk)).then Mwd
      have HPS : Hid (S.pend = pTold 0 ∧ OkM S) := ⟨HG.out.pe, HG.out.ok⟩
      obtain ⟨BA, hBA⟩ : ∃ BA, wc.heap.size = BA := ⟨_, rfl⟩
      rw [hBA] at HBA ⊢
      clear hh Mwd HGc HMb HTBb HG hBA HLc
      obtain ⟨c1, c2, c3, c4, c5, c6, c7, rfl, -⟩ := HAC.out
      obtain ⟨u0, -, u2, u3, -, u5, -⟩ := eleven_cells HBA.out.at'
      clear HAC
      have hfd : ∀ w1 : World, (Instr.field 48 (.agg (ansV (pTold 0))) 0).run Tryz.prog w1 = .ok (.int .i64 0) w1 := by intro w1; kernel_rfl
      by_cases hc : R.1.code = 0
      · have hc' : (R.1.code == 0) = true := beq_iff_eq.2 hc
        have hpe := HF.out.pe hc
        by_cases hg : i < n2
        · have hg3 : (i : Int) < n2 := by omega
          obtain ⟨bG, offG, z, rfl, zc⟩ := HB.out i hg
          replace zc := HVd.out.cell zc
          clear hg
          cases z with
          | false =>
            have hpo := pub_ok R.2 HF.out.ok 0 (by rw [hpe.2.1]; exact hpe.2.2.symm)
            rw [hpe.2.1] at hpo
            have hpb := doPub_w w wd p q c a3 R.2 HId.out HF.out.ok 7 1 R.1.gen 0 (by rw [hpe.1]; have := HPS.out.2.l0; omega) (by have := HF.out.ok.l1; rw [hpe.2.2] at this; exact this) (.inl rfl)
            rw [hpo.1] at hpb
            have hpk := pub_keeps S R.2 R.1 HPS.out.2 HF.out.ok HF.out.xs hpe.2.1 hpe.2.2.symm (HPP.out.2.1 hc) 0
            obtain ⟨S2, hS2⟩ : ∃ S2, (mPub R.2 R.1.gen 0).2 = S2 := ⟨_, rfl⟩
            rw [hS2] at hpb hpo hpk
            have HOK2 : Hid (OkM S2) := hpo.2.1
            have HCA2 : Hid ((ofT S2.ca 7).s ≤ (i1 : Nat)) := by unfold Hid; rw [hpo.2.2.1, HF.out.ca]; exact Int.le_refl _
            have HKP : Hid (∀ x ∈ S.xs, spM x.sp ⟨R.1.lo, R.1.hi⟩ = true ∨ x ∈ S2.xs) := hpk.1
            have HKX1 : Hid ((0 : Int) = -1 → S2.xs = S.xs) := hpk.2.1
            have HKP2 : Hid (S2.pend = pTold 0) := hpk.2.2
            unfold pubV at hpb
            clear hpo hS2 hpe hc hpk
            go_wp2_with fail
            refine hpb.mono ?_
            rintro _ we ⟨rfl, hG⟩
            have HTWe : Hid (TabB we (.slice ada na capa) S.xs p q c a3) := HTBd.out.step hG
            have HBWe : Hid (BoxB we BA _ 48 p q c a3) := HBA.out.step hG
            have HIe : Hid (MrIs w we p q c a3 S2) := hG.is
            have HVe : Hid (Moves [] w we) := hG.old HVd.out (fun _ hk => HId.out.young hk)
            clear hpb hG HTBd HBA HId HVd u0 u5 u2 u3
            go_wp2_with fail
            refine (mall_w w we p q c a3 S2 HIe.out HOK2.out).mono ?_
            rintro _ wg ⟨vb, rfl, hO, hF, mg⟩
            have HTN0 : Hid (TabB wg vb S2.xs p q c a3) := ⟨hO, fun k hk => HIe.out.notin (hF k hk)⟩
            obtain ⟨adb, nb, capb, rfl, -⟩ := hO.open
            have HMg : Hid (Moves [] we wg) := mg
            clear hO hF mg
            have HTW : Hid (TabB wg (.slice ada na capa) S.xs p q c a3) := HTWe.out.moves0 HMg.out
            have HTN : Hid (TabB wg (.slice adb nb capb) S2.xs p q c a3) := HTN0.out
            have HBW : Hid (BoxB wg BA _ 48 p q c a3) := HBWe.out.moves0 HMg.out
            have HIW : Hid (MrIs w wg p q c a3 S2) := HIe.out.moves0 HMg.out
            have HVW : Hid (Moves [] w wg) := HVe.out.then HMg.out
            clear HTWe HBWe HIe HVe HMg HTN0 HKX1
            go_wp2_with fail
            -- each tablet that was there
            have hmeetA : ∀ x ∈ S.xs, spM x.sp ⟨R.1.lo, R.1.hi⟩ = true ∨ x ∈ S2.xs := HKP.out
            obtain ⟨ga, hTa⟩ := HTW.out.tbl
            obtain ⟨gb, hTb⟩ := HTN.out.tbl
            have HTA : Hid (TbL wg ga (.slice ada na capa) S.xs) := hTa
            have HTBB : Hid (TbL wg gb (.slice adb nb capb) S2.xs) := hTb
            have HNA : Hid (na = S.xs.length) := hTa.len.1
            have HNB : Hid (nb = S2.xs.length) := hTb.len.1
            have HBX : Hid _ := HBW.out.at'
            have hna20 : na ≤ 16 := by have := HNA.out; have := HPS.out.2.few; omega
            have hnb20 : nb ≤ 16 := by have := HNB.out; have := HOK2.out.few; omega
            clear hTa hTb
            go_loopw [11] (fun vj w5 => ∃ j : Nat, j ≤ na ∧ vj = .int .i64 (j : Nat) ∧ Moves [] wg w5) (fun vj _ => na - (intOf vj).toNat)
            case atStart => exact ⟨0, Nat.zero_le _, rfl, Moves.refl _ _⟩
            case round =>
              obtain ⟨j, hjn, rfl, mj⟩ := hrel
              obtain ⟨w5, hw5⟩ : ∃ w5, w5 = wr := ⟨_, rfl⟩
              subst hw5
              by_cases hj : j < na
              · have hj3 : (j : Int) < na := by omega
                have hj16 : j < 16 := by omega
                obtain ⟨x, hx⟩ : ∃ x, S.xs[j]? = some x := ⟨_, List.getElem?_eq_getElem (by have := HNA.out; omega)⟩
                obtain ⟨oa, ea, x0, x1, x2, x3⟩ := HTA.out.at hx
                subst ea
                have HKX : Hid (spM x.sp ⟨R.1.lo, R.1.hi⟩ = true ∨ x ∈ S2.xs) := hmeetA x (List.mem_of_getElem? hx)
                have b2 : wg.cell? ⟨BA, 2, none⟩ = some (.string R.1.lo) := (eleven_cells HBX.out).2.2.1
                have b3 : wg.cell? ⟨BA, 3, none⟩ = some (.string R.1.hi) := (eleven_cells HBX.out).2.2.2.1
                obtain ⟨f0, hf0⟩ : ∃ f0, spM x.sp ⟨R.1.lo, R.1.hi⟩ = f0 := ⟨_, rfl⟩
                have HF0 : Hid (spM x.sp ⟨R.1.lo, R.1.hi⟩ = f0) := hf0
                have hmeet : ∀ w1 : World, Calls Tryz.prog 17 #[.agg #[.string x.lo, .string x.hi], .agg #[.string R.1.lo, .string R.1.hi]] w1 fun e w' => e = .returned (.bool f0) ∧ Moves [] w1 w' := by
                  intro w1
                  rw [← hf0]
                  exact rfMeet7_w x.lo x.hi R.1.lo R.1.hi w1
                have HX4 : Hid (wg.cell? ⟨ga, oa + j * 4, none⟩ = some (.string x.lo) ∧ wg.cell? ⟨ga, oa + j * 4 + 1, none⟩ = some (.string x.hi) ∧ wg.cell? ⟨ga, oa + j * 4 + 2, none⟩ = some (.int .i64 x.g) ∧ wg.cell? ⟨ga, oa + j * 4 + 3, none⟩ = some (.int .i64 x.n)) := ⟨x0, x1, x2, x3⟩
                have hS : ∀ w' : World, Moves [] w5 w' → (w'.cell? ⟨ga, oa + j * 4, none⟩ = some (.string x.lo) ∧ w'.cell? ⟨ga, oa + j * 4 + 1, none⟩ = some (.string x.hi) ∧ w'.cell? ⟨BA, 2, none⟩ = some (.string R.1.lo) ∧ w'.cell? ⟨BA, 3, none⟩ = some (.string R.1.hi)) := by
                  intro w' m'
                  exact ⟨(mj.then m').cell x0, (mj.then m').cell x1, (mj.then m').cell b2, (mj.then m').cell b3⟩
                have mW : Moves [] w5 w5.drew := (Moves.refl _ _).drew
                clear hx hf0 x0 x1 x2 x3 b2 b3
                go_wp2_with fail
                refine wp_some7 [82, 83, 84, 85, 86, 87, 88, 89, 12] (fun u w' => u 12 = .bool f0 ∧ Moves [] w5 w') ?_ ?_
                · rename_i ax
                  clear ax
                  refine wp_region_noPanic ?_
                  refine wp_region_held_drew (S := (fun w' => w'.cell? ⟨ga, oa + j * 4, none⟩ = some (.string x.lo) ∧ w'.cell? ⟨ga, oa + j * 4 + 1, none⟩ = some (.string x.hi) ∧ w'.cell? ⟨BA, 2, none⟩ = some (.string R.1.lo) ∧ w'.cell? ⟨BA, 3, none⟩ = some (.string R.1.hi))) (by kernel_rfl) ?_ (fun hHeld => ?_)
                  · first | (go_keep; done) | exact hS _ mW
                  refine wpAnyH_take (i := 0) (oi := { dst := some 82, op := Op.move (Operand.tmp 7), type := 51, pos := "law.go:211", after := #[], guard := none }) (v := ?_) rfl (by kernel_rfl) (by kernel_rfl) (by kernel_rfl) (fun _ _ _ h => h) (Or.inl ⟨by rfl, ?_⟩) (by assumption) ?_
                  rotate_left
                  · (intro w hSw; (try dsimp only at hSw); go_simp; try (with_reducible rfl))
                  try simp only [Act.put, List.setIfInBounds_toArray, List.set_cons_zero, List.set_cons_succ]
                  refine wpAnyH_take (i := 1) (oi := { dst := some 83, op := Op.move (Operand.tmp 11), type := 3, pos := "law.go:211", after := #[], guard := none }) (v := ?_) rfl (by kernel_rfl) (by kernel_rfl) (by kernel_rfl) (fun _ _ _ h => h) (Or.inl ⟨by rfl, ?_⟩) (by assumption) ?_
                  rotate_left
                  · (intro w hSw; (try dsimp only at hSw); go_simp; try (with_reducible rfl))
                  try simp only [Act.put, List.setIfInBounds_toArray, List.set_cons_zero, List.set_cons_succ]
                  refine wpAnyH_take (i := 2) (oi := { dst := some 84, op := Op.indexAddr 51 (Operand.tmp 82) (Operand.tmp 83), type := 0, pos := "law.go:211", after := #[{ on := 0, ground := Ground.data }, { on := 1, ground := Ground.data }], guard := none }) (v := ?_) rfl (by kernel_rfl) (by kernel_rfl) (by kernel_rfl) (fun _ _ _ h => h) (Or.inl ⟨by rfl, ?_⟩) (by assumption) ?_
                  rotate_left
                  · (intro w hSw; (try dsimp only at hSw); go_simp; try (with_reducible rfl))
                  try simp only [Act.put, List.setIfInBounds_toArray, List.set_cons_zero, List.set_cons_succ]
                  refine wpAnyH_take (i := 3) (oi := { dst := some 85, op := Op.fieldAddr 54 (Operand.tmp 84) 0, type := 0, pos := "law.go:211", after := #[{ on := 2, ground := Ground.data }], guard := none }) (v := ?_) rfl (by kernel_rfl) (by kernel_rfl) (by kernel_rfl) (fun _ _ _ h => h) (Or.inl ⟨by rfl, ?_⟩) (by assumption) ?_
                  rotate_left
                  · (intro w hSw; (try dsimp only at hSw); go_simp; try (with_reducible rfl))
                  try simp only [Act.put, List.setIfInBounds_toArray, List.set_cons_zero, List.set_cons_succ]
                  refine wpAnyH_take (i := 4) (oi := { dst := some 86, op := Op.load 37 (Operand.tmp 85), type := 37, pos := "law.go:211", after := #[{ on := 3, ground := Ground.data }], guard := none }) (v := ?_) rfl (by kernel_rfl) (by kernel_rfl) (by kernel_rfl) (fun _ _ _ h => h) (Or.inl ⟨by rfl, ?_⟩) (by assumption) ?_
                  rotate_left
                  · (intro w hSw; (try dsimp only at hSw); go_simp; try (with_reducible rfl))
                  try simp only [Act.put, List.setIfInBounds_toArray, List.set_cons_zero, List.set_cons_succ]
                  refine wpAnyH_take (i := 5) (oi := { dst := some 87, op := Op.fieldAddr 48 (Operand.tmp 8) 2, type := 0, pos := "law.go:211", after := #[], guard := none }) (v := ?_) rfl (by kernel_rfl) (by kernel_rfl) (by kernel_rfl) (fun _ _ _ h => h) (Or.inl ⟨by rfl, ?_⟩) (by assumption) ?_
                  rotate_left
                  · (intro w hSw; (try dsimp only at hSw); go_simp; try (with_reducible rfl))
                  try simp only [Act.put, List.setIfInBounds_toArray, List.set_cons_zero, List.set_cons_succ]
                  refine wpAnyH_take (i := 6) (oi := { dst := some 88, op := Op.load 37 (Operand.tmp 87), type := 37, pos := "law.go:211", after := #[{ on := 5, ground := Ground.data }], guard := none }) (v := ?_) rfl (by kernel_rfl) (by kernel_rfl) (by kernel_rfl) (fun _ _ _ h => h) (Or.inl ⟨by rfl, ?_⟩) (by assumption) ?_
                  rotate_left
                  · (intro w hSw; (try dsimp only at hSw); go_simp; try (with_reducible rfl))
                  try simp only [Act.put, List.setIfInBounds_toArray, List.set_cons_zero, List.set_cons_succ]
                  refine wpAnyH_ready (rs := [7]) (by kernel_rfl) (by simp) ?_
                  refine AllReadyH.cons (o := { dst := some 89, op := Op.call { callee := Callee.value (Operand.func 17), args := #[Operand.tmp 86, Operand.tmp 88], argTypes := #[37, 37] }, type := 4, pos := "law.go:211", after := #[{ on := 4, ground := Ground.data }, { on := 6, ground := Ground.data }], guard := none }) rfl (fun K hK => ?_) AllReadyH.nil
                  go_simp
                  refine (hmeet _).mono ?_
                  rintro _ w9 ⟨rfl, m9⟩
                  replace mW := mW.then m9
                  refine hK.out _ _ ?_ (fun hHeld => ?_)
                  · exact hS _ mW
                  clear hK K
                  try simp only [Act.put, List.setIfInBounds_toArray, List.set_cons_zero, List.set_cons_succ]
                  refine wpAnyH_take (i := 8) (oi := { dst := some 12, op := Op.assign (Operand.tmp 89), type := 4, pos := "law.go:211", after := #[{ on := 7, ground := Ground.data }, { on := 7, ground := Ground.chain }, { on := 0, ground := Ground.phase }, { on := 1, ground := Ground.phase }, { on := 2, ground := Ground.phase }, { on := 3, ground := Ground.phase }, { on := 4, ground := Ground.phase }, { on := 5, ground := Ground.phase }, { on := 6, ground := Ground.phase }, { on := 7, ground := Ground.phase }], guard := none }) (v := ?_) rfl (by kernel_rfl) (by kernel_rfl) (by kernel_rfl) (fun _ _ _ h => h) (Or.inl ⟨by rfl, ?_⟩) (by assumption) ?_
                  rotate_left
                  · (intro w hSw; (try dsimp only at hSw); go_simp; try (with_reducible rfl))
                  try simp only [Act.put, List.setIfInBounds_toArray, List.set_cons_zero, List.set_cons_succ]
                  refine wpAnyH_done (by kernel_rfl) ?_ _
                  refine NoPanic.normal ?_
                  exact ⟨rfl, by kernel_rfl, by kernel_rfl, mW⟩
                · rintro u w6 ⟨hu, m6⟩
                  simp only [List.foldl_cons, List.foldl_nil, List.setIfInBounds_toArray, List.set_cons_zero, List.set_cons_succ, hu]
                  clear hu mW hS hmeet
                  generalize u 82 = u82
                  generalize u 83 = u83
                  generalize u 84 = u84
                  generalize u 85 = u85
                  generalize u 86 = u86
                  generalize u 87 = u87
                  generalize u 88 = u88
                  generalize u 89 = u89
                  have HMJ : Hid (Moves [] wg w6) := mj.then m6
                  clear m6 mj
                  go_wp2_with fail
                  go_loopw [12, 13] (fun vf vk w7 => ∃ (k : Nat) (f : Bool), k ≤ nb ∧ vk = .int .i64 (k : Nat) ∧ vf = .bool f ∧ Hid (f = (f0 || (S2.xs.take k).any (fun y => tbEq y x))) ∧ Moves [] w6 w7) (fun _ vk _ => nb - (intOf vk).toNat)
                  case atStart => exact ⟨0, f0, Nat.zero_le _, rfl, rfl, by unfold Hid; simp, Moves.refl _ _⟩
                  case round =>
                    obtain ⟨k, f, hkn, rfl, rfl, hf, mk⟩ := hrel
                    obtain ⟨w7, hw7⟩ : ∃ w7, w7 = wr := ⟨_, rfl⟩
                    subst hw7
                    by_cases hk : k < nb
                    · have hk3 : (k : Int) < nb := by omega
                      have hk16 : k < 16 := by omega
                      obtain ⟨y, hy⟩ : ∃ y, S2.xs[k]? = some y := ⟨_, List.getElem?_eq_getElem (by have := HNB.out; omega)⟩
                      obtain ⟨ob, eb, y0, y1, y2, y3⟩ := HTBB.out.at hy
                      subst eb
                      have hS : ∀ w' : World, Moves [] w7 w' → (w'.cell? ⟨gb, ob + k * 4, none⟩ = some (.string y.lo) ∧ w'.cell? ⟨gb, ob + k * 4 + 1, none⟩ = some (.string y.hi) ∧ w'.cell? ⟨gb, ob + k * 4 + 2, none⟩ = some (.int .i64 y.g) ∧ w'.cell? ⟨gb, ob + k * 4 + 3, none⟩ = some (.int .i64 y.n) ∧ w'.cell? ⟨ga, oa + j * 4, none⟩ = some (.string x.lo) ∧ w'.cell? ⟨ga, oa + j * 4 + 1, none⟩ = some (.string x.hi) ∧ w'.cell? ⟨ga, oa + j * 4 + 2, none⟩ = some (.int .i64 x.g) ∧ w'.cell? ⟨ga, oa + j * 4 + 3, none⟩ = some (.int .i64 x.n)) := by
                        intro w' m'
                        have M := (HMJ.out.then mk).then m'
                        exact ⟨M.cell y0, M.cell y1, M.cell y2, M.cell y3, M.cell HX4.out.1, M.cell HX4.out.2.1, M.cell HX4.out.2.2.1, M.cell HX4.out.2.2.2⟩
                      have mW : Moves [] w7 w7.drew := (Moves.refl _ _).drew
                      have HY : Hid (S2.xs[k]? = some y) := hy
                      clear hy y0 y1 y2 y3
                      go_wp2_with fail
                      refine wp_some7 [96, 97, 98, 99, 100, 101, 102, 103, 104, 105, 106, 107, 12] (fun u w' => u 12 = .bool (f || tbEq y x) ∧ Moves [] w7 w') ?_ ?_
                      · rename_i ax
                        clear ax
                        cases f with
                        | false =>
                          refine wp_region_noPanic ?_
                          refine wp_region_held_drew (S := (fun w' => w'.cell? ⟨gb, ob + k * 4, none⟩ = some (.string y.lo) ∧ w'.cell? ⟨gb, ob + k * 4 + 1, none⟩ = some (.string y.hi) ∧ w'.cell? ⟨gb, ob + k * 4 + 2, none⟩ = some (.int .i64 y.g) ∧ w'.cell? ⟨gb, ob + k * 4 + 3, none⟩ = some (.int .i64 y.n) ∧ w'.cell? ⟨ga, oa + j * 4, none⟩ = some (.string x.lo) ∧ w'.cell? ⟨ga, oa + j * 4 + 1, none⟩ = some (.string x.hi) ∧ w'.cell? ⟨ga, oa + j * 4 + 2, none⟩ = some (.int .i64 x.g) ∧ w'.cell? ⟨ga, oa + j * 4 + 3, none⟩ = some (.int .i64 x.n))) (by kernel_rfl) ?_ (fun hHeld => ?_)
                          · first | (go_keep; done) | exact hS _ mW
                          refine wpAnyH_take (i := 0) (oi := { dst := some 96, op := Op.move (Operand.tmp 12), type := 4, pos := "law.go:213", after := #[], guard := none }) (v := ?_) rfl (by kernel_rfl) (by kernel_rfl) (by kernel_rfl) (fun _ _ _ h => h) (Or.inl ⟨by rfl, ?_⟩) (by assumption) ?_
                          rotate_left
                          · (intro w hSw; (try dsimp only at hSw); go_simp; try (with_reducible rfl))
                          try simp only [Act.put, List.setIfInBounds_toArray, List.set_cons_zero, List.set_cons_succ]
                          refine wpAnyH_take (i := 1) (oi := { dst := some 97, op := Op.move (Operand.tmp 96), type := 4, pos := "law.go:213", after := #[{ on := 0, ground := Ground.data }], guard := none }) (v := ?_) rfl (by kernel_rfl) (by kernel_rfl) (by kernel_rfl) (fun _ _ _ h => h) (Or.inl ⟨by rfl, ?_⟩) (by assumption) ?_
                          rotate_left
                          · (intro w hSw; (try dsimp only at hSw); go_simp; try (with_reducible rfl))
                          try simp only [Act.put, List.setIfInBounds_toArray, List.set_cons_zero, List.set_cons_succ]
                          refine wpAnyH_take (i := 2) (oi := { dst := some 98, op := Op.move (Operand.tmp 10), type := 51, pos := "law.go:213", after := #[{ on := 1, ground := Ground.guard }], guard := some (1, false) }) (v := ?_) rfl (by kernel_rfl) (by kernel_rfl) (by kernel_rfl) (fun _ _ _ h => h) (Or.inl ⟨by rfl, ?_⟩) (by assumption) ?_
                          rotate_left
                          · (intro w hSw; (try dsimp only at hSw); go_simp; try (with_reducible rfl))
                          try simp only [Act.put, List.setIfInBounds_toArray, List.set_cons_zero, List.set_cons_succ]
                          refine wpAnyH_take (i := 3) (oi := { dst := some 99, op := Op.move (Operand.tmp 13), type := 3, pos := "law.go:213", after := #[{ on := 1, ground := Ground.guard }], guard := some (1, false) }) (v := ?_) rfl (by kernel_rfl) (by kernel_rfl) (by kernel_rfl) (fun _ _ _ h => h) (Or.inl ⟨by rfl, ?_⟩) (by assumption) ?_
                          rotate_left
                          · (intro w hSw; (try dsimp only at hSw); go_simp; try (with_reducible rfl))
                          try simp only [Act.put, List.setIfInBounds_toArray, List.set_cons_zero, List.set_cons_succ]
                          refine wpAnyH_take (i := 4) (oi := { dst := some 100, op := Op.indexAddr 51 (Operand.tmp 98) (Operand.tmp 99), type := 0, pos := "law.go:213", after := #[{ on := 2, ground := Ground.data }, { on := 3, ground := Ground.data }, { on := 1, ground := Ground.guard }], guard := some (1, false) }) (v := ?_) rfl (by kernel_rfl) (by kernel_rfl) (by kernel_rfl) (fun _ _ _ h => h) (Or.inl ⟨by rfl, ?_⟩) (by assumption) ?_
                          rotate_left
                          · (intro w hSw; (try dsimp only at hSw); go_simp; try (with_reducible rfl))
                          try simp only [Act.put, List.setIfInBounds_toArray, List.set_cons_zero, List.set_cons_succ]
                          refine wpAnyH_take (i := 5) (oi := { dst := some 101, op := Op.load 54 (Operand.tmp 100), type := 54, pos := "law.go:213", after := #[{ on := 4, ground := Ground.data }, { on := 1, ground := Ground.guard }], guard := some (1, false) }) (v := ?_) rfl (by kernel_rfl) (by kernel_rfl) (by kernel_rfl) (fun _ _ _ h => h) (Or.inl ⟨by rfl, ?_⟩) (by assumption) ?_
                          rotate_left
                          · (intro w hSw; (try dsimp only at hSw); go_simp; try (with_reducible rfl))
                          try simp only [Act.put, List.setIfInBounds_toArray, List.set_cons_zero, List.set_cons_succ]
                          refine wpAnyH_take (i := 6) (oi := { dst := some 102, op := Op.move (Operand.tmp 7), type := 51, pos := "law.go:213", after := #[{ on := 1, ground := Ground.guard }], guard := some (1, false) }) (v := ?_) rfl (by kernel_rfl) (by kernel_rfl) (by kernel_rfl) (fun _ _ _ h => h) (Or.inl ⟨by rfl, ?_⟩) (by assumption) ?_
                          rotate_left
                          · (intro w hSw; (try dsimp only at hSw); go_simp; try (with_reducible rfl))
                          try simp only [Act.put, List.setIfInBounds_toArray, List.set_cons_zero, List.set_cons_succ]
                          refine wpAnyH_take (i := 7) (oi := { dst := some 103, op := Op.move (Operand.tmp 11), type := 3, pos := "law.go:213", after := #[{ on := 1, ground := Ground.guard }], guard := some (1, false) }) (v := ?_) rfl (by kernel_rfl) (by kernel_rfl) (by kernel_rfl) (fun _ _ _ h => h) (Or.inl ⟨by rfl, ?_⟩) (by assumption) ?_
                          rotate_left
                          · (intro w hSw; (try dsimp only at hSw); go_simp; try (with_reducible rfl))
                          try simp only [Act.put, List.setIfInBounds_toArray, List.set_cons_zero, List.set_cons_succ]
                          refine wpAnyH_take (i := 8) (oi := { dst := some 104, op := Op.indexAddr 51 (Operand.tmp 102) (Operand.tmp 103), type := 0, pos := "law.go:213", after := #[{ on := 6, ground := Ground.data }, { on := 7, ground := Ground.data }, { on := 1, ground := Ground.guard }], guard := some (1, false) }) (v := ?_) rfl (by kernel_rfl) (by kernel_rfl) (by kernel_rfl) (fun _ _ _ h => h) (Or.inl ⟨by rfl, ?_⟩) (by assumption) ?_
                          rotate_left
                          · (intro w hSw; (try dsimp only at hSw); go_simp; try (with_reducible rfl))
                          try simp only [Act.put, List.setIfInBounds_toArray, List.set_cons_zero, List.set_cons_succ]
                          refine wpAnyH_take (i := 9) (oi := { dst := some 105, op := Op.load 54 (Operand.tmp 104), type := 54, pos := "law.go:213", after := #[{ on := 8, ground := Ground.data }, { on := 1, ground := Ground.guard }], guard := some (1, false) }) (v := ?_) rfl (by kernel_rfl) (by kernel_rfl) (by kernel_rfl) (fun _ _ _ h => h) (Or.inl ⟨by rfl, ?_⟩) (by assumption) ?_
                          rotate_left
                          · (intro w hSw; (try dsimp only at hSw); go_simp; try (with_reducible rfl))
                          try simp only [Act.put, List.setIfInBounds_toArray, List.set_cons_zero, List.set_cons_succ]
                          refine wpAnyH_ready (rs := [10]) (by kernel_rfl) (by simp) ?_
                          refine AllReadyH.cons (o := { dst := some 106, op := Op.binOp BinOp.eql 54 (Operand.tmp 101) (Operand.tmp 105) 54, type := 4, pos := "law.go:213", after := #[{ on := 5, ground := Ground.data }, { on := 9, ground := Ground.data }, { on := 1, ground := Ground.guard }], guard := some (1, false) }) rfl (fun K hK => ?_) AllReadyH.nil
                          refine wp_eql25 101 105 rfl y x rfl rfl ?_
                          refine hK.out _ _ ?_ (fun hHeld => ?_)
                          · exact hS _ mW
                          clear hK K
                          try simp only [Act.put, List.setIfInBounds_toArray, List.set_cons_zero, List.set_cons_succ]
                          refine wpAnyH_take (i := 11) (oi := { dst := some 107, op := Op.pick (Operand.tmp 97) (Operand.const (Value.bool true)) (Operand.tmp 106), type := 4, pos := "law.go:213", after := #[{ on := 1, ground := Ground.data }, { on := 10, ground := Ground.data }], guard := none }) (v := ?_) rfl (by kernel_rfl) (by kernel_rfl) (by kernel_rfl) (fun _ _ _ h => h) (Or.inl ⟨by rfl, ?_⟩) (by assumption) ?_
                          rotate_left
                          · (intro w hSw; (try dsimp only at hSw); go_simp; try (with_reducible rfl))
                          try simp only [Act.put, List.setIfInBounds_toArray, List.set_cons_zero, List.set_cons_succ]
                          refine wpAnyH_take (i := 12) (oi := { dst := some 12, op := Op.assign (Operand.tmp 107), type := 4, pos := "law.go:213", after := #[{ on := 11, ground := Ground.data }, { on := 1, ground := Ground.chain }, { on := 0, ground := Ground.phase }, { on := 1, ground := Ground.phase }, { on := 2, ground := Ground.phase }, { on := 3, ground := Ground.phase }, { on := 4, ground := Ground.phase }, { on := 5, ground := Ground.phase }, { on := 6, ground := Ground.phase }, { on := 7, ground := Ground.phase }, { on := 8, ground := Ground.phase }, { on := 9, ground := Ground.phase }, { on := 10, ground := Ground.phase }, { on := 11, ground := Ground.phase }], guard := none }) (v := ?_) rfl (by kernel_rfl) (by kernel_rfl) (by kernel_rfl) (fun _ _ _ h => h) (Or.inl ⟨by rfl, ?_⟩) (by assumption) ?_
                          rotate_left
                          · (intro w hSw; (try dsimp only at hSw); go_simp; try (with_reducible rfl))
                          try simp only [Act.put, List.setIfInBounds_toArray, List.set_cons_zero, List.set_cons_succ]
                          refine wpAnyH_done (by kernel_rfl) ?_ _
                          refine NoPanic.normal ?_
                          exact ⟨rfl, by kernel_rfl, by kernel_rfl, mW⟩
                        | true =>
                          refine wp_region_noPanic ?_
                          refine wp_region_held_drew (S := (fun w' => w'.cell? ⟨gb, ob + k * 4, none⟩ = some (.string y.lo) ∧ w'.cell? ⟨gb, ob + k * 4 + 1, none⟩ = some (.string y.hi) ∧ w'.cell? ⟨gb, ob + k * 4 + 2, none⟩ = some (.int .i64 y.g) ∧ w'.cell? ⟨gb, ob + k * 4 + 3, none⟩ = some (.int .i64 y.n) ∧ w'.cell? ⟨ga, oa + j * 4, none⟩ = some (.string x.lo) ∧ w'.cell? ⟨ga, oa + j * 4 + 1, none⟩ = some (.string x.hi) ∧ w'.cell? ⟨ga, oa + j * 4 + 2, none⟩ = some (.int .i64 x.g) ∧ w'.cell? ⟨ga, oa + j * 4 + 3, none⟩ = some (.int .i64 x.n))) (by kernel_rfl) ?_ (fun hHeld => ?_)
                          · first | (go_keep; done) | exact hS _ mW
                          refine wpAnyH_take (i := 0) (oi := { dst := some 96, op := Op.move (Operand.tmp 12), type := 4, pos := "law.go:213", after := #[], guard := none }) (v := ?_) rfl (by kernel_rfl) (by kernel_rfl) (by kernel_rfl) (fun _ _ _ h => h) (Or.inl ⟨by rfl, ?_⟩) (by assumption) ?_
                          rotate_left
                          · (intro w hSw; (try dsimp only at hSw); go_simp; try (with_reducible rfl))
                          try simp only [Act.put, List.setIfInBounds_toArray, List.set_cons_zero, List.set_cons_succ]
                          refine wpAnyH_take (i := 1) (oi := { dst := some 97, op := Op.move (Operand.tmp 96), type := 4, pos := "law.go:213", after := #[{ on := 0, ground := Ground.data }], guard := none }) (v := ?_) rfl (by kernel_rfl) (by kernel_rfl) (by kernel_rfl) (fun _ _ _ h => h) (Or.inl ⟨by rfl, ?_⟩) (by assumption) ?_
                          rotate_left
                          · (intro w hSw; (try dsimp only at hSw); go_simp; try (with_reducible rfl))
                          try simp only [Act.put, List.setIfInBounds_toArray, List.set_cons_zero, List.set_cons_succ]
                          refine wpAnyH_take (i := 2) (oi := { dst := some 98, op := Op.move (Operand.tmp 10), type := 51, pos := "law.go:213", after := #[{ on := 1, ground := Ground.guard }], guard := some (1, false) }) rfl (by kernel_rfl) (by kernel_rfl) (by kernel_rfl) (fun _ _ _ h => h) (Or.inr ⟨by rfl, rfl⟩) (by assumption) ?_
                          try simp only [Act.put, List.setIfInBounds_toArray, List.set_cons_zero, List.set_cons_succ]
                          refine wpAnyH_take (i := 3) (oi := { dst := some 99, op := Op.move (Operand.tmp 13), type := 3, pos := "law.go:213", after := #[{ on := 1, ground := Ground.guard }], guard := some (1, false) }) rfl (by kernel_rfl) (by kernel_rfl) (by kernel_rfl) (fun _ _ _ h => h) (Or.inr ⟨by rfl, rfl⟩) (by assumption) ?_
                          try simp only [Act.put, List.setIfInBounds_toArray, List.set_cons_zero, List.set_cons_succ]
                          refine wpAnyH_take (i := 4) (oi := { dst := some 100, op := Op.indexAddr 51 (Operand.tmp 98) (Operand.tmp 99), type := 0, pos := "law.go:213", after := #[{ on := 2, ground := Ground.data }, { on := 3, ground := Ground.data }, { on := 1, ground := Ground.guard }], guard := some (1, false) }) rfl (by kernel_rfl) (by kernel_rfl) (by kernel_rfl) (fun _ _ _ h => h) (Or.inr ⟨by rfl, rfl⟩) (by assumption) ?_
                          try simp only [Act.put, List.setIfInBounds_toArray, List.set_cons_zero, List.set_cons_succ]
                          refine wpAnyH_take (i := 5) (oi := { dst := some 101, op := Op.load 54 (Operand.tmp 100), type := 54, pos := "law.go:213", after := #[{ on := 4, ground := Ground.data }, { on := 1, ground := Ground.guard }], guard := some (1, false) }) rfl (by kernel_rfl) (by kernel_rfl) (by kernel_rfl) (fun _ _ _ h => h) (Or.inr ⟨by rfl, rfl⟩) (by assumption) ?_
                          try simp only [Act.put, List.setIfInBounds_toArray, List.set_cons_zero, List.set_cons_succ]
                          refine wpAnyH_take (i := 6) (oi := { dst := some 102, op := Op.move (Operand.tmp 7), type := 51, pos := "law.go:213", after := #[{ on := 1, ground := Ground.guard }], guard := some (1, false) }) rfl (by kernel_rfl) (by kernel_rfl) (by kernel_rfl) (fun _ _ _ h => h) (Or.inr ⟨by rfl, rfl⟩) (by assumption) ?_
                          try simp only [Act.put, List.setIfInBounds_toArray, List.set_cons_zero, List.set_cons_succ]
                          refine wpAnyH_take (i := 7) (oi := { dst := some 103, op := Op.move (Operand.tmp 11), type := 3, pos := "law.go:213", after := #[{ on := 1, ground := Ground.guard }], guard := some (1, false) }) rfl (by kernel_rfl) (by kernel_rfl) (by kernel_rfl) (fun _ _ _ h => h) (Or.inr ⟨by rfl, rfl⟩) (by assumption) ?_
                          try simp only [Act.put, List.setIfInBounds_toArray, List.set_cons_zero, List.set_cons_succ]
                          refine wpAnyH_take (i := 8) (oi := { dst := some 104, op := Op.indexAddr 51 (Operand.tmp 102) (Operand.tmp 103), type := 0, pos := "law.go:213", after := #[{ on := 6, ground := Ground.data }, { on := 7, ground := Ground.data }, { on := 1, ground := Ground.guard }], guard := some (1, false) }) rfl (by kernel_rfl) (by kernel_rfl) (by kernel_rfl) (fun _ _ _ h => h) (Or.inr ⟨by rfl, rfl⟩) (by assumption) ?_
                          try simp only [Act.put, List.setIfInBounds_toArray, List.set_cons_zero, List.set_cons_succ]
                          refine wpAnyH_take (i := 9) (oi := { dst := some 105, op := Op.load 54 (Operand.tmp 104), type := 54, pos := "law.go:213", after := #[{ on := 8, ground := Ground.data }, { on := 1, ground := Ground.guard }], guard := some (1, false) }) rfl (by kernel_rfl) (by kernel_rfl) (by kernel_rfl) (fun _ _ _ h => h) (Or.inr ⟨by rfl, rfl⟩) (by assumption) ?_
                          try simp only [Act.put, List.setIfInBounds_toArray, List.set_cons_zero, List.set_cons_succ]
                          refine wpAnyH_take (i := 10) (oi := { dst := some 106, op := Op.binOp BinOp.eql 54 (Operand.tmp 101) (Operand.tmp 105) 54, type := 4, pos := "law.go:213", after := #[{ on := 5, ground := Ground.data }, { on := 9, ground := Ground.data }, { on := 1, ground := Ground.guard }], guard := some (1, false) }) rfl (by kernel_rfl) (by kernel_rfl) (by kernel_rfl) (fun _ _ _ h => h) (Or.inr ⟨by rfl, rfl⟩) (by assumption) ?_
                          try simp only [Act.put, List.setIfInBounds_toArray, List.set_cons_zero, List.set_cons_succ]
                          refine wpAnyH_take (i := 11) (oi := { dst := some 107, op := Op.pick (Operand.tmp 97) (Operand.const (Value.bool true)) (Operand.tmp 106), type := 4, pos := "law.go:213", after := #[{ on := 1, ground := Ground.data }, { on := 10, ground := Ground.data }], guard := none }) (v := ?_) rfl (by kernel_rfl) (by kernel_rfl) (by kernel_rfl) (fun _ _ _ h => h) (Or.inl ⟨by rfl, ?_⟩) (by assumption) ?_
                          rotate_left
                          · (intro w hSw; (try dsimp only at hSw); go_simp; try (with_reducible rfl))
                          try simp only [Act.put, List.setIfInBounds_toArray, List.set_cons_zero, List.set_cons_succ]
                          refine wpAnyH_take (i := 12) (oi := { dst := some 12, op := Op.assign (Operand.tmp 107), type := 4, pos := "law.go:213", after := #[{ on := 11, ground := Ground.data }, { on := 1, ground := Ground.chain }, { on := 0, ground := Ground.phase }, { on := 1, ground := Ground.phase }, { on := 2, ground := Ground.phase }, { on := 3, ground := Ground.phase }, { on := 4, ground := Ground.phase }, { on := 5, ground := Ground.phase }, { on := 6, ground := Ground.phase }, { on := 7, ground := Ground.phase }, { on := 8, ground := Ground.phase }, { on := 9, ground := Ground.phase }, { on := 10, ground := Ground.phase }, { on := 11, ground := Ground.phase }], guard := none }) (v := ?_) rfl (by kernel_rfl) (by kernel_rfl) (by kernel_rfl) (fun _ _ _ h => h) (Or.inl ⟨by rfl, ?_⟩) (by assumption) ?_
                          rotate_left
                          · (intro w hSw; (try dsimp only at hSw); go_simp; try (with_reducible rfl))
                          try simp only [Act.put, List.setIfInBounds_toArray, List.set_cons_zero, List.set_cons_succ]
                          refine wpAnyH_done (by kernel_rfl) ?_ _
                          refine NoPanic.normal ?_
                          exact ⟨rfl, by kernel_rfl, by kernel_rfl, mW⟩
                      · rintro u w8 ⟨hu, m8⟩
                        simp only [List.foldl_cons, List.foldl_nil, List.setIfInBounds_toArray, List.set_cons_zero, List.set_cons_succ, hu]
                        clear hu mW hS
                        generalize u 96 = u96
                        generalize u 97 = u97
                        generalize u 98 = u98
                        generalize u 99 = u99
                        generalize u 100 = u100
                        generalize u 101 = u101
                        generalize u 102 = u102
                        generalize u 103 = u103
                        generalize u 104 = u104
                        generalize u 105 = u105
                        generalize u 106 = u106
                        generalize u 107 = u107
                        go_wp2_with fail
                        go_roundw
                        case rel =>
                          refine ⟨k + 1, _, by omega, by go_num, rfl, ?_, mk.then m8⟩
                          unfold Hid
                          rw [hf.out, List.take_add_one, HY.out, List.any_append]
                          simp [Bool.or_assoc]
                        case measure => simp [intOf]; omega
                    · obtain rfl : k = nb := by omega
                      have hft : f = true := by
                        rw [hf.out, List.take_of_length_le (by have := HNB.out; omega)]
                        rcases HKX.out with e | e
                        · rw [← HF0.out, e]; rfl
                        · rw [Bool.or_eq_true]
                          right
                          exact List.any_eq_true.2 ⟨x, e, tbEq_self x⟩
                      subst hft
                      clear hf
                      go_wp2_with fail
                      go_roundw
                      case rel => exact ⟨j + 1, by omega, by go_num, HMJ.out.then mk⟩
                      case measure => simp [intOf]; omega
              · have hj3 : ¬ (j : Int) < na := by omega
                clear hmeetA
                go_wp2_with fail
                refine (mpending_w w w5 p q c a3 S2 (HIW.out.moves0 mj) HKP2.out).mono ?_
                rintro _ w6 ⟨rfl, m6⟩
                unfold ansV
                have hwi : IntKind.i64.wrap ((i : Int) + 1) = (i1 : Int) := by rw [IntKind.wrap_i64]; have := HI1.out; omega
                go_wp2_with fail
                go_roundw
                case rel => exact ⟨i1, a3, S2, by have := HI1.out; omega, by have := HI1.out; omega, rfl, ⟨(HIW.out.moves0 mj).moves0 (m6.then ((Moves.refl _ _).alloc _)), HOK2.out, HCA2.out, HKP2.out, (HVW.out.then mj).then (m6.then ((Moves.refl _ _).alloc _))⟩⟩
                case measure => simp [intOf]; have := HI1.out; omega
          | true =>
            have hpo := pub_ok R.2 HF.out.ok (-1) (by rw [hpe.2.1]; exact hpe.2.2.symm)
            rw [hpe.2.1] at hpo
            have hpb := doPub_w w wd p q c a3 R.2 HId.out HF.out.ok 7 1 R.1.gen (-1) (by rw [hpe.1]; have := HPS.out.2.l0; omega) (by have := HF.out.ok.l1; rw [hpe.2.2] at this; exact this) (.inr rfl)
            rw [hpo.1] at hpb
            have hpk := pub_keeps S R.2 R.1 HPS.out.2 HF.out.ok HF.out.xs hpe.2.1 hpe.2.2.symm (HPP.out.2.1 hc) (-1)
            obtain ⟨S2, hS2⟩ : ∃ S2, (mPub R.2 R.1.gen (-1)).2 = S2 := ⟨_, rfl⟩
            rw [hS2] at hpb hpo hpk
            have HOK2 : Hid (OkM S2) := hpo.2.1
            have HCA2 : Hid ((ofT S2.ca 7).s ≤ (i1 : Nat)) := by unfold Hid; rw [hpo.2.2.1, HF.out.ca]; exact Int.le_refl _
            have HKP : Hid (∀ x ∈ S.xs, spM x.sp ⟨R.1.lo, R.1.hi⟩ = true ∨ x ∈ S2.xs) := hpk.1
            have HKX1 : Hid (((-1) : Int) = -1 → S2.xs = S.xs) := hpk.2.1
            have HKP2 : Hid (S2.pend = pTold 0) := hpk.2.2
            unfold pubV at hpb
            clear hpo hS2 hpe hc hpk
            go_wp2_with fail
            refine hpb.mono ?_
            rintro _ we ⟨rfl, hG⟩
            have HTWe : Hid (TabB we (.slice ada na capa) S.xs p q c a3) := HTBd.out.step hG
            have HBWe : Hid (BoxB we BA _ 48 p q c a3) := HBA.out.step hG
            have HIe : Hid (MrIs w we p q c a3 S2) := hG.is
            have HVe : Hid (Moves [] w we) := hG.old HVd.out (fun _ hk => HId.out.young hk)
            clear hpb hG HTBd HBA HId HVd u0 u5 u2 u3
            go_wp2_with fail
            refine (mall_w w we p q c a3 S2 HIe.out HOK2.out).mono ?_
            rintro _ wg ⟨vb, rfl, hO, hF, mg⟩
            have HTN0 : Hid (TabB wg vb S2.xs p q c a3) := ⟨hO, fun k hk => HIe.out.notin (hF k hk)⟩
            obtain ⟨adb, nb, capb, rfl, -⟩ := hO.open
            have HMg : Hid (Moves [] we wg) := mg
            clear hO hF mg
            have hx2 := HKX1.out (by first | rfl | trivial)
            obtain ⟨g1, hT1⟩ := HTN0.out.tbl
            obtain ⟨g2, hT2⟩ := (HTWe.out.moves0 HMg.out).tbl
            rw [hx2] at hT1
            have hbs := bookSame_yes wg g1 (.slice adb nb capb) g2 (.slice ada na capa) S.xs hT1 hT2 (by have := HPS.out.2.few; omega)
            clear hT1 hT2 hx2 HKX1
            go_wp2_with fail
            refine hbs.mono ?_
            rintro _ wh ⟨rfl, mh⟩
            have HTW : Hid (TabB wh (.slice ada na capa) S.xs p q c a3) := HTWe.out.moves0 (HMg.out.then mh)
            have HTN : Hid (TabB wh (.slice adb nb capb) S2.xs p q c a3) := HTN0.out.moves0 mh
            have HBW : Hid (BoxB wh BA _ 48 p q c a3) := HBWe.out.moves0 (HMg.out.then mh)
            have HIW : Hid (MrIs w wh p q c a3 S2) := HIe.out.moves0 (HMg.out.then mh)
            have HVW : Hid (Moves [] w wh) := HVe.out.then (HMg.out.then mh)
            clear HTWe HBWe HIe HVe HMg HTN0 hbs mh
            go_wp2_with fail
            -- each tablet that was there
            have hmeetA : ∀ x ∈ S.xs, spM x.sp ⟨R.1.lo, R.1.hi⟩ = true ∨ x ∈ S2.xs := HKP.out
            obtain ⟨ga, hTa⟩ := HTW.out.tbl
            obtain ⟨gb, hTb⟩ := HTN.out.tbl
            have HTA : Hid (TbL wh ga (.slice ada na capa) S.xs) := hTa
            have HTBB : Hid (TbL wh gb (.slice adb nb capb) S2.xs) := hTb
            have HNA : Hid (na = S.xs.length) := hTa.len.1
            have HNB : Hid (nb = S2.xs.length) := hTb.len.1
            have HBX : Hid _ := HBW.out.at'
            have hna20 : na ≤ 16 := by have := HNA.out; have := HPS.out.2.few; omega
            have hnb20 : nb ≤ 16 := by have := HNB.out; have := HOK2.out.few; omega
            clear hTa hTb
            go_loopw [11] (fun vj w5 => ∃ j : Nat, j ≤ na ∧ vj = .int .i64 (j : Nat) ∧ Moves [] wh w5) (fun vj _ => na - (intOf vj).toNat)
            case atStart => exact ⟨0, Nat.zero_le _, rfl, Moves.refl _ _⟩
            case round =>
              obtain ⟨j, hjn, rfl, mj⟩ := hrel
              obtain ⟨w5, hw5⟩ : ∃ w5, w5 = wr := ⟨_, rfl⟩
              subst hw5
              by_cases hj : j < na
              · have hj3 : (j : Int) < na := by omega
                have hj16 : j < 16 := by omega
                obtain ⟨x, hx⟩ : ∃ x, S.xs[j]? = some x := ⟨_, List.getElem?_eq_getElem (by have := HNA.out; omega)⟩
                obtain ⟨oa, ea, x0, x1, x2, x3⟩ := HTA.out.at hx
                subst ea
                have HKX : Hid (spM x.sp ⟨R.1.lo, R.1.hi⟩ = true ∨ x ∈ S2.xs) := hmeetA x (List.mem_of_getElem? hx)
                have b2 : wh.cell? ⟨BA, 2, none⟩ = some (.string R.1.lo) := (eleven_cells HBX.out).2.2.1
                have b3 : wh.cell? ⟨BA, 3, none⟩ = some (.string R.1.hi) := (eleven_cells HBX.out).2.2.2.1
                obtain ⟨f0, hf0⟩ : ∃ f0, spM x.sp ⟨R.1.lo, R.1.hi⟩ = f0 := ⟨_, rfl⟩
                have HF0 : Hid (spM x.sp ⟨R.1.lo, R.1.hi⟩ = f0) := hf0
                have hmeet : ∀ w1 : World, Calls Tryz.prog 17 #[.agg #[.string x.lo, .string x.hi], .agg #[.string R.1.lo, .string R.1.hi]] w1 fun e w' => e = .returned (.bool f0) ∧ Moves [] w1 w' := by
                  intro w1
                  rw [← hf0]
                  exact rfMeet7_w x.lo x.hi R.1.lo R.1.hi w1
                have HX4 : Hid (wh.cell? ⟨ga, oa + j * 4, none⟩ = some (.string x.lo) ∧ wh.cell? ⟨ga, oa + j * 4 + 1, none⟩ = some (.string x.hi) ∧ wh.cell? ⟨ga, oa + j * 4 + 2, none⟩ = some (.int .i64 x.g) ∧ wh.cell? ⟨ga, oa + j * 4 + 3, none⟩ = some (.int .i64 x.n)) := ⟨x0, x1, x2, x3⟩
                have hS : ∀ w' : World, Moves [] w5 w' → (w'.cell? ⟨ga, oa + j * 4, none⟩ = some (.string x.lo) ∧ w'.cell? ⟨ga, oa + j * 4 + 1, none⟩ = some (.string x.hi) ∧ w'.cell? ⟨BA, 2, none⟩ = some (.string R.1.lo) ∧ w'.cell? ⟨BA, 3, none⟩ = some (.string R.1.hi)) := by
                  intro w' m'
                  exact ⟨(mj.then m').cell x0, (mj.then m').cell x1, (mj.then m').cell b2, (mj.then m').cell b3⟩
                have mW : Moves [] w5 w5.drew := (Moves.refl _ _).drew
                clear hx hf0 x0 x1 x2 x3 b2 b3
                go_wp2_with fail
                refine wp_some7 [82, 83, 84, 85, 86, 87, 88, 89, 12] (fun u w' => u 12 = .bool f0 ∧ Moves [] w5 w') ?_ ?_
                · rename_i ax
                  clear ax
                  refine wp_region_noPanic ?_
                  refine wp_region_held_drew (S := (fun w' => w'.cell? ⟨ga, oa + j * 4, none⟩ = some (.string x.lo) ∧ w'.cell? ⟨ga, oa + j * 4 + 1, none⟩ = some (.string x.hi) ∧ w'.cell? ⟨BA, 2, none⟩ = some (.string R.1.lo) ∧ w'.cell? ⟨BA, 3, none⟩ = some (.string R.1.hi))) (by kernel_rfl) ?_ (fun hHeld => ?_)
                  · first | (go_keep; done) | exact hS _ mW
                  refine wpAnyH_take (i := 0) (oi := { dst := some 82, op := Op.move (Operand.tmp 7), type := 51, pos := "law.go:211", after := #[], guard := none }) (v := ?_) rfl (by kernel_rfl) (by kernel_rfl) (by kernel_rfl) (fun _ _ _ h => h) (Or.inl ⟨by rfl, ?_⟩) (by assumption) ?_
                  rotate_left
                  · (intro w hSw; (try dsimp only at hSw); go_simp; try (with_reducible rfl))
                  try simp only [Act.put, List.setIfInBounds_toArray, List.set_cons_zero, List.set_cons_succ]
                  refine wpAnyH_take (i := 1) (oi := { dst := some 83, op := Op.move (Operand.tmp 11), type := 3, pos := "law.go:211", after := #[], guard := none }) (v := ?_) rfl (by kernel_rfl) (by kernel_rfl) (by kernel_rfl) (fun _ _ _ h => h) (Or.inl ⟨by rfl, ?_⟩) (by assumption) ?_
                  rotate_left
                  · (intro w hSw; (try dsimp only at hSw); go_simp; try (with_reducible rfl))
                  try simp only [Act.put, List.setIfInBounds_toArray, List.set_cons_zero, List.set_cons_succ]
                  refine wpAnyH_take (i := 2) (oi := { dst := some 84, op := Op.indexAddr 51 (Operand.tmp 82) (Operand.tmp 83), type := 0, pos := "law.go:211", after := #[{ on := 0, ground := Ground.data }, { on := 1, ground := Ground.data }], guard := none }) (v := ?_) rfl (by kernel_rfl) (by kernel_rfl) (by kernel_rfl) (fun _ _ _ h => h) (Or.inl ⟨by rfl, ?_⟩) (by assumption) ?_
                  rotate_left
                  · (intro w hSw; (try dsimp only at hSw); go_simp; try (with_reducible rfl))
                  try simp only [Act.put, List.setIfInBounds_toArray, List.set_cons_zero, List.set_cons_succ]
                  refine wpAnyH_take (i := 3) (oi := { dst := some 85, op := Op.fieldAddr 54 (Operand.tmp 84) 0, type := 0, pos := "law.go:211", after := #[{ on := 2, ground := Ground.data }], guard := none }) (v := ?_) rfl (by kernel_rfl) (by kernel_rfl) (by kernel_rfl) (fun _ _ _ h => h) (Or.inl ⟨by rfl, ?_⟩) (by assumption) ?_
                  rotate_left
                  · (intro w hSw; (try dsimp only at hSw); go_simp; try (with_reducible rfl))
                  try simp only [Act.put, List.setIfInBounds_toArray, List.set_cons_zero, List.set_cons_succ]
                  refine wpAnyH_take (i := 4) (oi := { dst := some 86, op := Op.load 37 (Operand.tmp 85), type := 37, pos := "law.go:211", after := #[{ on := 3, ground := Ground.data }], guard := none }) (v := ?_) rfl (by kernel_rfl) (by kernel_rfl) (by kernel_rfl) (fun _ _ _ h => h) (Or.inl ⟨by rfl, ?_⟩) (by assumption) ?_
                  rotate_left
                  · (intro w hSw; (try dsimp only at hSw); go_simp; try (with_reducible rfl))
                  try simp only [Act.put, List.setIfInBounds_toArray, List.set_cons_zero, List.set_cons_succ]
                  refine wpAnyH_take (i := 5) (oi := { dst := some 87, op := Op.fieldAddr 48 (Operand.tmp 8) 2, type := 0, pos := "law.go:211", after := #[], guard := none }) (v := ?_) rfl (by kernel_rfl) (by kernel_rfl) (by kernel_rfl) (fun _ _ _ h => h) (Or.inl ⟨by rfl, ?_⟩) (by assumption) ?_
                  rotate_left
                  · (intro w hSw; (try dsimp only at hSw); go_simp; try (with_reducible rfl))
                  try simp only [Act.put, List.setIfInBounds_toArray, List.set_cons_zero, List.set_cons_succ]
                  refine wpAnyH_take (i := 6) (oi := { dst := some 88, op := Op.load 37 (Operand.tmp 87), type := 37, pos := "law.go:211", after := #[{ on := 5, ground := Ground.data }], guard := none }) (v := ?_) rfl (by kernel_rfl) (by kernel_rfl) (by kernel_rfl) (fun _ _ _ h => h) (Or.inl ⟨by rfl, ?_⟩) (by assumption) ?_
                  rotate_left
                  · (intro w hSw; (try dsimp only at hSw); go_simp; try (with_reducible rfl))
                  try simp only [Act.put, List.setIfInBounds_toArray, List.set_cons_zero, List.set_cons_succ]
                  refine wpAnyH_ready (rs := [7]) (by kernel_rfl) (by simp) ?_
                  refine AllReadyH.cons (o := { dst := some 89, op := Op.call { callee := Callee.value (Operand.func 17), args := #[Operand.tmp 86, Operand.tmp 88], argTypes := #[37, 37] }, type := 4, pos := "law.go:211", after := #[{ on := 4, ground := Ground.data }, { on := 6, ground := Ground.data }], guard := none }) rfl (fun K hK => ?_) AllReadyH.nil
                  go_simp
                  refine (hmeet _).mono ?_
                  rintro _ w9 ⟨rfl, m9⟩
                  replace mW := mW.then m9
                  refine hK.out _ _ ?_ (fun hHeld => ?_)
                  · exact hS _ mW
                  clear hK K
                  try simp only [Act.put, List.setIfInBounds_toArray, List.set_cons_zero, List.set_cons_succ]
                  refine wpAnyH_take (i := 8) (oi := { dst := some 12, op := Op.assign (Operand.tmp 89), type := 4, pos := "law.go:211", after := #[{ on := 7, ground := Ground.data }, { on := 7, ground := Ground.chain }, { on := 0, ground := Ground.phase }, { on := 1, ground := Ground.phase }, { on := 2, ground := Ground.phase }, { on := 3, ground := Ground.phase }, { on := 4, ground := Ground.phase }, { on := 5, ground := Ground.phase }, { on := 6, ground := Ground.phase }, { on := 7, ground := Ground.phase }], guard := none }) (v := ?_) rfl (by kernel_rfl) (by kernel_rfl) (by kernel_rfl) (fun _ _ _ h => h) (Or.inl ⟨by rfl, ?_⟩) (by assumption) ?_
                  rotate_left
                  · (intro w hSw; (try dsimp only at hSw); go_simp; try (with_reducible rfl))
                  try simp only [Act.put, List.setIfInBounds_toArray, List.set_cons_zero, List.set_cons_succ]
                  refine wpAnyH_done (by kernel_rfl) ?_ _
                  refine NoPanic.normal ?_
                  exact ⟨rfl, by kernel_rfl, by kernel_rfl, mW⟩
                · rintro u w6 ⟨hu, m6⟩
                  simp only [List.foldl_cons, List.foldl_nil, List.setIfInBounds_toArray, List.set_cons_zero, List.set_cons_succ, hu]
                  clear hu mW hS hmeet
                  generalize u 82 = u82
                  generalize u 83 = u83
                  generalize u 84 = u84
                  generalize u 85 = u85
                  generalize u 86 = u86
                  generalize u 87 = u87
                  generalize u 88 = u88
                  generalize u 89 = u89
                  have HMJ : Hid (Moves [] wh w6) := mj.then m6
                  clear m6 mj
                  go_wp2_with fail
                  go_loopw [12, 13] (fun vf vk w7 => ∃ (k : Nat) (f : Bool), k ≤ nb ∧ vk = .int .i64 (k : Nat) ∧ vf = .bool f ∧ Hid (f = (f0 || (S2.xs.take k).any (fun y => tbEq y x))) ∧ Moves [] w6 w7) (fun _ vk _ => nb - (intOf vk).toNat)
                  case atStart => exact ⟨0, f0, Nat.zero_le _, rfl, rfl, by unfold Hid; simp, Moves.refl _ _⟩
                  case round =>
                    obtain ⟨k, f, hkn, rfl, rfl, hf, mk⟩ := hrel
                    obtain ⟨w7, hw7⟩ : ∃ w7, w7 = wr := ⟨_, rfl⟩
                    subst hw7
                    by_cases hk : k < nb
                    · have hk3 : (k : Int) < nb := by omega
                      have hk16 : k < 16 := by omega
                      obtain ⟨y, hy⟩ : ∃ y, S2.xs[k]? = some y := ⟨_, List.getElem?_eq_getElem (by have := HNB.out; omega)⟩
                      obtain ⟨ob, eb, y0, y1, y2, y3⟩ := HTBB.out.at hy
                      subst eb
                      have hS : ∀ w' : World, Moves [] w7 w' → (w'.cell? ⟨gb, ob + k * 4, none⟩ = some (.string y.lo) ∧ w'.cell? ⟨gb, ob + k * 4 + 1, none⟩ = some (.string y.hi) ∧ w'.cell? ⟨gb, ob + k * 4 + 2, none⟩ = some (.int .i64 y.g) ∧ w'.cell? ⟨gb, ob + k * 4 + 3, none⟩ = some (.int .i64 y.n) ∧ w'.cell? ⟨ga, oa + j * 4, none⟩ = some (.string x.lo) ∧ w'.cell? ⟨ga, oa + j * 4 + 1, none⟩ = some (.string x.hi) ∧ w'.cell? ⟨ga, oa + j * 4 + 2, none⟩ = some (.int .i64 x.g) ∧ w'.cell? ⟨ga, oa + j * 4 + 3, none⟩ = some (.int .i64 x.n)) := by
                        intro w' m'
                        have M := (HMJ.out.then mk).then m'
                        exact ⟨M.cell y0, M.cell y1, M.cell y2, M.cell y3, M.cell HX4.out.1, M.cell HX4.out.2.1, M.cell HX4.out.2.2.1, M.cell HX4.out.2.2.2⟩
                      have mW : Moves [] w7 w7.drew := (Moves.refl _ _).drew
                      have HY : Hid (S2.xs[k]? = some y) := hy
                      clear hy y0 y1 y2 y3
                      go_wp2_with fail
                      refine wp_some7 [96, 97, 98, 99, 100, 101, 102, 103, 104, 105, 106, 107, 12] (fun u w' => u 12 = .bool (f || tbEq y x) ∧ Moves [] w7 w') ?_ ?_
                      · rename_i ax
                        clear ax
                        cases f with
                        | false =>
                          refine wp_region_noPanic ?_
                          refine wp_region_held_drew (S := (fun w' => w'.cell? ⟨gb, ob + k * 4, none⟩ = some (.string y.lo) ∧ w'.cell? ⟨gb, ob + k * 4 + 1, none⟩ = some (.string y.hi) ∧ w'.cell? ⟨gb, ob + k * 4 + 2, none⟩ = some (.int .i64 y.g) ∧ w'.cell? ⟨gb, ob + k * 4 + 3, none⟩ = some (.int .i64 y.n) ∧ w'.cell? ⟨ga, oa + j * 4, none⟩ = some (.string x.lo) ∧ w'.cell? ⟨ga, oa + j * 4 + 1, none⟩ = some (.string x.hi) ∧ w'.cell? ⟨ga, oa + j * 4 + 2, none⟩ = some (.int .i64 x.g) ∧ w'.cell? ⟨ga, oa + j * 4 + 3, none⟩ = some (.int .i64 x.n))) (by kernel_rfl) ?_ (fun hHeld => ?_)
                          · first | (go_keep; done) | exact hS _ mW
                          refine wpAnyH_take (i := 0) (oi := { dst := some 96, op := Op.move (Operand.tmp 12), type := 4, pos := "law.go:213", after := #[], guard := none }) (v := ?_) rfl (by kernel_rfl) (by kernel_rfl) (by kernel_rfl) (fun _ _ _ h => h) (Or.inl ⟨by rfl, ?_⟩) (by assumption) ?_
                          rotate_left
                          · (intro w hSw; (try dsimp only at hSw); go_simp; try (with_reducible rfl))
                          try simp only [Act.put, List.setIfInBounds_toArray, List.set_cons_zero, List.set_cons_succ]
                          refine wpAnyH_take (i := 1) (oi := { dst := some 97, op := Op.move (Operand.tmp 96), type := 4, pos := "law.go:213", after := #[{ on := 0, ground := Ground.data }], guard := none }) (v := ?_) rfl (by kernel_rfl) (by kernel_rfl) (by kernel_rfl) (fun _ _ _ h => h) (Or.inl ⟨by rfl, ?_⟩) (by assumption) ?_
                          rotate_left
                          · (intro w hSw; (try dsimp only at hSw); go_simp; try (with_reducible rfl))
                          try simp only [Act.put, List.setIfInBounds_toArray, List.set_cons_zero, List.set_cons_succ]
                          refine wpAnyH_take (i := 2) (oi := { dst := some 98, op := Op.move (Operand.tmp 10), type := 51, pos := "law.go:213", after := #[{ on := 1, ground := Ground.guard }], guard := some (1, false) }) (v := ?_) rfl (by kernel_rfl) (by kernel_rfl) (by kernel_rfl) (fun _ _ _ h => h) (Or.inl ⟨by rfl, ?_⟩) (by assumption) ?_
                          rotate_left
                          · (intro w hSw; (try dsimp only at hSw); go_simp; try (with_reducible rfl))
                          try simp only [Act.put, List.setIfInBounds_toArray, List.set_cons_zero, List.set_cons_succ]
                          refine wpAnyH_take (i := 3) (oi := { dst := some 99, op := Op.move (Operand.tmp 13), type := 3, pos := "law.go:213", after := #[{ on := 1, ground := Ground.guard }], guard := some (1, false) }) (v := ?_) rfl (by kernel_rfl) (by kernel_rfl) (by kernel_rfl) (fun _ _ _ h => h) (Or.inl ⟨by rfl, ?_⟩) (by assumption) ?_
                          rotate_left
                          · (intro w hSw; (try dsimp only at hSw); go_simp; try (with_reducible rfl))
                          try simp only [Act.put, List.setIfInBounds_toArray, List.set_cons_zero, List.set_cons_succ]
                          refine wpAnyH_take (i := 4) (oi := { dst := some 100, op := Op.indexAddr 51 (Operand.tmp 98) (Operand.tmp 99), type := 0, pos := "law.go:213", after := #[{ on := 2, ground := Ground.data }, { on := 3, ground := Ground.data }, { on := 1, ground := Ground.guard }], guard := some (1, false) }) (v := ?_) rfl (by kernel_rfl) (by kernel_rfl) (by kernel_rfl) (fun _ _ _ h => h) (Or.inl ⟨by rfl, ?_⟩) (by assumption) ?_
                          rotate_left
                          · (intro w hSw; (try dsimp only at hSw); go_simp; try (with_reducible rfl))
                          try simp only [Act.put, List.setIfInBounds_toArray, List.set_cons_zero, List.set_cons_succ]
                          refine wpAnyH_take (i := 5) (oi := { dst := some 101, op := Op.load 54 (Operand.tmp 100), type := 54, pos := "law.go:213", after := #[{ on := 4, ground := Ground.data }, { on := 1, ground := Ground.guard }], guard := some (1, false) }) (v := ?_) rfl (by kernel_rfl) (by kernel_rfl) (by kernel_rfl) (fun _ _ _ h => h) (Or.inl ⟨by rfl, ?_⟩) (by assumption) ?_
                          rotate_left
                          · (intro w hSw; (try dsimp only at hSw); go_simp; try (with_reducible rfl))
                          try simp only [Act.put, List.setIfInBounds_toArray, List.set_cons_zero, List.set_cons_succ]
                          refine wpAnyH_take (i := 6) (oi := { dst := some 102, op := Op.move (Operand.tmp 7), type := 51, pos := "law.go:213", after := #[{ on := 1, ground := Ground.guard }], guard := some (1, false) }) (v := ?_) rfl (by kernel_rfl) (by kernel_rfl) (by kernel_rfl) (fun _ _ _ h => h) (Or.inl ⟨by rfl, ?_⟩) (by assumption) ?_
                          rotate_left
                          · (intro w hSw; (try dsimp only at hSw); go_simp; try (with_reducible rfl))
                          try simp only [Act.put, List.setIfInBounds_toArray, List.set_cons_zero, List.set_cons_succ]
                          refine wpAnyH_take (i := 7) (oi := { dst := some 103, op := Op.move (Operand.tmp 11), type := 3, pos := "law.go:213", after := #[{ on := 1, ground := Ground.guard }], guard := some (1, false) }) (v := ?_) rfl (by kernel_rfl) (by kernel_rfl) (by kernel_rfl) (fun _ _ _ h => h) (Or.inl ⟨by rfl, ?_⟩) (by assumption) ?_
                          rotate_left
                          · (intro w hSw; (try dsimp only at hSw); go_simp; try (with_reducible rfl))
                          try simp only [Act.put, List.setIfInBounds_toArray, List.set_cons_zero, List.set_cons_succ]
                          refine wpAnyH_take (i := 8) (oi := { dst := some 104, op := Op.indexAddr 51 (Operand.tmp 102) (Operand.tmp 103), type := 0, pos := "law.go:213", after := #[{ on := 6, ground := Ground.data }, { on := 7, ground := Ground.data }, { on := 1, ground := Ground.guard }], guard := some (1, false) }) (v := ?_) rfl (by kernel_rfl) (by kernel_rfl) (by kernel_rfl) (fun _ _ _ h => h) (Or.inl ⟨by rfl, ?_⟩) (by assumption) ?_
                          rotate_left
                          · (intro w hSw; (try dsimp only at hSw); go_simp; try (with_reducible rfl))
                          try simp only [Act.put, List.setIfInBounds_toArray, List.set_cons_zero, List.set_cons_succ]
                          refine wpAnyH_take (i := 9) (oi := { dst := some 105, op := Op.load 54 (Operand.tmp 104), type := 54, pos := "law.go:213", after := #[{ on := 8, ground := Ground.data }, { on := 1, ground := Ground.guard }], guard := some (1, false) }) (v := ?_) rfl (by kernel_rfl) (by kernel_rfl) (by kernel_rfl) (fun _ _ _ h => h) (Or.inl ⟨by rfl, ?_⟩) (by assumption) ?_
                          rotate_left
                          · (intro w hSw; (try dsimp only at hSw); go_simp; try (with_reducible rfl))
                          try simp only [Act.put, List.setIfInBounds_toArray, List.set_cons_zero, List.set_cons_succ]
                          refine wpAnyH_ready (rs := [10]) (by kernel_rfl) (by simp) ?_
                          refine AllReadyH.cons (o := { dst := some 106, op := Op.binOp BinOp.eql 54 (Operand.tmp 101) (Operand.tmp 105) 54, type := 4, pos := "law.go:213", after := #[{ on := 5, ground := Ground.data }, { on := 9, ground := Ground.data }, { on := 1, ground := Ground.guard }], guard := some (1, false) }) rfl (fun K hK => ?_) AllReadyH.nil
                          refine wp_eql25 101 105 rfl y x rfl rfl ?_
                          refine hK.out _ _ ?_ (fun hHeld => ?_)
                          · exact hS _ mW
                          clear hK K
                          try simp only [Act.put, List.setIfInBounds_toArray, List.set_cons_zero, List.set_cons_succ]
                          refine wpAnyH_take (i := 11) (oi := { dst := some 107, op := Op.pick (Operand.tmp 97) (Operand.const (Value.bool true)) (Operand.tmp 106), type := 4, pos := "law.go:213", after := #[{ on := 1, ground := Ground.data }, { on := 10, ground := Ground.data }], guard := none }) (v := ?_) rfl (by kernel_rfl) (by kernel_rfl) (by kernel_rfl) (fun _ _ _ h => h) (Or.inl ⟨by rfl, ?_⟩) (by assumption) ?_
                          rotate_left
                          · (intro w hSw; (try dsimp only at hSw); go_simp; try (with_reducible rfl))
                          try simp only [Act.put, List.setIfInBounds_toArray, List.set_cons_zero, List.set_cons_succ]
                          refine wpAnyH_take (i := 12) (oi := { dst := some 12, op := Op.assign (Operand.tmp 107), type := 4, pos := "law.go:213", after := #[{ on := 11, ground := Ground.data }, { on := 1, ground := Ground.chain }, { on := 0, ground := Ground.phase }, { on := 1, ground := Ground.phase }, { on := 2, ground := Ground.phase }, { on := 3, ground := Ground.phase }, { on := 4, ground := Ground.phase }, { on := 5, ground := Ground.phase }, { on := 6, ground := Ground.phase }, { on := 7, ground := Ground.phase }, { on := 8, ground := Ground.phase }, { on := 9, ground := Ground.phase }, { on := 10, ground := Ground.phase }, { on := 11, ground := Ground.phase }], guard := none }) (v := ?_) rfl (by kernel_rfl) (by kernel_rfl) (by kernel_rfl) (fun _ _ _ h => h) (Or.inl ⟨by rfl, ?_⟩) (by assumption) ?_
                          rotate_left
                          · (intro w hSw; (try dsimp only at hSw); go_simp; try (with_reducible rfl))
                          try simp only [Act.put, List.setIfInBounds_toArray, List.set_cons_zero, List.set_cons_succ]
                          refine wpAnyH_done (by kernel_rfl) ?_ _
                          refine NoPanic.normal ?_
                          exact ⟨rfl, by kernel_rfl, by kernel_rfl, mW⟩
                        | true =>
                          refine wp_region_noPanic ?_
                          refine wp_region_held_drew (S := (fun w' => w'.cell? ⟨gb, ob + k * 4, none⟩ = some (.string y.lo) ∧ w'.cell? ⟨gb, ob + k * 4 + 1, none⟩ = some (.string y.hi) ∧ w'.cell? ⟨gb, ob + k * 4 + 2, none⟩ = some (.int .i64 y.g) ∧ w'.cell? ⟨gb, ob + k * 4 + 3, none⟩ = some (.int .i64 y.n) ∧ w'.cell? ⟨ga, oa + j * 4, none⟩ = some (.string x.lo) ∧ w'.cell? ⟨ga, oa + j * 4 + 1, none⟩ = some (.string x.hi) ∧ w'.cell? ⟨ga, oa + j * 4 + 2, none⟩ = some (.int .i64 x.g) ∧ w'.cell? ⟨ga, oa + j * 4 + 3, none⟩ = some (.int .i64 x.n))) (by kernel_rfl) ?_ (fun hHeld => ?_)
                          · first | (go_keep; done) | exact hS _ mW
                          refine wpAnyH_take (i := 0) (oi := { dst := some 96, op := Op.move (Operand.tmp 12), type := 4, pos := "law.go:213", after := #[], guard := none }) (v := ?_) rfl (by kernel_rfl) (by kernel_rfl) (by kernel_rfl) (fun _ _ _ h => h) (Or.inl ⟨by rfl, ?_⟩) (by assumption) ?_
                          rotate_left
                          · (intro w hSw; (try dsimp only at hSw); go_simp; try (with_reducible rfl))
                          try simp only [Act.put, List.setIfInBounds_toArray, List.set_cons_zero, List.set_cons_succ]
                          refine wpAnyH_take (i := 1) (oi := { dst := some 97, op := Op.move (Operand.tmp 96), type := 4, pos := "law.go:213", after := #[{ on := 0, ground := Ground.data }], guard := none }) (v := ?_) rfl (by kernel_rfl) (by kernel_rfl) (by kernel_rfl) (fun _ _ _ h => h) (Or.inl ⟨by rfl, ?_⟩) (by assumption) ?_
                          rotate_left
                          · (intro w hSw; (try dsimp only at hSw); go_simp; try (with_reducible rfl))
                          try simp only [Act.put, List.setIfInBounds_toArray, List.set_cons_zero, List.set_cons_succ]
                          refine wpAnyH_take (i := 2) (oi := { dst := some 98, op := Op.move (Operand.tmp 10), type := 51, pos := "law.go:213", after := #[{ on := 1, ground := Ground.guard }], guard := some (1, false) }) rfl (by kernel_rfl) (by kernel_rfl) (by kernel_rfl) (fun _ _ _ h => h) (Or.inr ⟨by rfl, rfl⟩) (by assumption) ?_
                          try simp only [Act.put, List.setIfInBounds_toArray, List.set_cons_zero, List.set_cons_succ]
                          refine wpAnyH_take (i := 3) (oi := { dst := some 99, op := Op.move (Operand.tmp 13), type := 3, pos := "law.go:213", after := #[{ on := 1, ground := Ground.guard }], guard := some (1, false) }) rfl (by kernel_rfl) (by kernel_rfl) (by kernel_rfl) (fun _ _ _ h => h) (Or.inr ⟨by rfl, rfl⟩) (by assumption) ?_
                          try simp only [Act.put, List.setIfInBounds_toArray, List.set_cons_zero, List.set_cons_succ]
                          refine wpAnyH_take (i := 4) (oi := { dst := some 100, op := Op.indexAddr 51 (Operand.tmp 98) (Operand.tmp 99), type := 0, pos := "law.go:213", after := #[{ on := 2, ground := Ground.data }, { on := 3, ground := Ground.data }, { on := 1, ground := Ground.guard }], guard := some (1, false) }) rfl (by kernel_rfl) (by kernel_rfl) (by kernel_rfl) (fun _ _ _ h => h) (Or.inr ⟨by rfl, rfl⟩) (by assumption) ?_
                          try simp only [Act.put, List.setIfInBounds_toArray, List.set_cons_zero, List.set_cons_succ]
                          refine wpAnyH_take (i := 5) (oi := { dst := some 101, op := Op.load 54 (Operand.tmp 100), type := 54, pos := "law.go:213", after := #[{ on := 4, ground := Ground.data }, { on := 1, ground := Ground.guard }], guard := some (1, false) }) rfl (by kernel_rfl) (by kernel_rfl) (by kernel_rfl) (fun _ _ _ h => h) (Or.inr ⟨by rfl, rfl⟩) (by assumption) ?_
                          try simp only [Act.put, List.setIfInBounds_toArray, List.set_cons_zero, List.set_cons_succ]
                          refine wpAnyH_take (i := 6) (oi := { dst := some 102, op := Op.move (Operand.tmp 7), type := 51, pos := "law.go:213", after := #[{ on := 1, ground := Ground.guard }], guard := some (1, false) }) rfl (by kernel_rfl) (by kernel_rfl) (by kernel_rfl) (fun _ _ _ h => h) (Or.inr ⟨by rfl, rfl⟩) (by assumption) ?_
                          try simp only [Act.put, List.setIfInBounds_toArray, List.set_cons_zero, List.set_cons_succ]
                          refine wpAnyH_take (i := 7) (oi := { dst := some 103, op := Op.move (Operand.tmp 11), type := 3, pos := "law.go:213", after := #[{ on := 1, ground := Ground.guard }], guard := some (1, false) }) rfl (by kernel_rfl) (by kernel_rfl) (by kernel_rfl) (fun _ _ _ h => h) (Or.inr ⟨by rfl, rfl⟩) (by assumption) ?_
                          try simp only [Act.put, List.setIfInBounds_toArray, List.set_cons_zero, List.set_cons_succ]
                          refine wpAnyH_take (i := 8) (oi := { dst := some 104, op := Op.indexAddr 51 (Operand.tmp 102) (Operand.tmp 103), type := 0, pos := "law.go:213", after := #[{ on := 6, ground := Ground.data }, { on := 7, ground := Ground.data }, { on := 1, ground := Ground.guard }], guard := some (1, false) }) rfl (by kernel_rfl) (by kernel_rfl) (by kernel_rfl) (fun _ _ _ h => h) (Or.inr ⟨by rfl, rfl⟩) (by assumption) ?_
                          try simp only [Act.put, List.setIfInBounds_toArray, List.set_cons_zero, List.set_cons_succ]
                          refine wpAnyH_take (i := 9) (oi := { dst := some 105, op := Op.load 54 (Operand.tmp 104), type := 54, pos := "law.go:213", after := #[{ on := 8, ground := Ground.data }, { on := 1, ground := Ground.guard }], guard := some (1, false) }) rfl (by kernel_rfl) (by kernel_rfl) (by kernel_rfl) (fun _ _ _ h => h) (Or.inr ⟨by rfl, rfl⟩) (by assumption) ?_
                          try simp only [Act.put, List.setIfInBounds_toArray, List.set_cons_zero, List.set_cons_succ]
                          refine wpAnyH_take (i := 10) (oi := { dst := some 106, op := Op.binOp BinOp.eql 54 (Operand.tmp 101) (Operand.tmp 105) 54, type := 4, pos := "law.go:213", after := #[{ on := 5, ground := Ground.data }, { on := 9, ground := Ground.data }, { on := 1, ground := Ground.guard }], guard := some (1, false) }) rfl (by kernel_rfl) (by kernel_rfl) (by kernel_rfl) (fun _ _ _ h => h) (Or.inr ⟨by rfl, rfl⟩) (by assumption) ?_
                          try simp only [Act.put, List.setIfInBounds_toArray, List.set_cons_zero, List.set_cons_succ]
                          refine wpAnyH_take (i := 11) (oi := { dst := some 107, op := Op.pick (Operand.tmp 97) (Operand.const (Value.bool true)) (Operand.tmp 106), type := 4, pos := "law.go:213", after := #[{ on := 1, ground := Ground.data }, { on := 10, ground := Ground.data }], guard := none }) (v := ?_) rfl (by kernel_rfl) (by kernel_rfl) (by kernel_rfl) (fun _ _ _ h => h) (Or.inl ⟨by rfl, ?_⟩) (by assumption) ?_
                          rotate_left
                          · (intro w hSw; (try dsimp only at hSw); go_simp; try (with_reducible rfl))
                          try simp only [Act.put, List.setIfInBounds_toArray, List.set_cons_zero, List.set_cons_succ]
                          refine wpAnyH_take (i := 12) (oi := { dst := some 12, op := Op.assign (Operand.tmp 107), type := 4, pos := "law.go:213", after := #[{ on := 11, ground := Ground.data }, { on := 1, ground := Ground.chain }, { on := 0, ground := Ground.phase }, { on := 1, ground := Ground.phase }, { on := 2, ground := Ground.phase }, { on := 3, ground := Ground.phase }, { on := 4, ground := Ground.phase }, { on := 5, ground := Ground.phase }, { on := 6, ground := Ground.phase }, { on := 7, ground := Ground.phase }, { on := 8, ground := Ground.phase }, { on := 9, ground := Ground.phase }, { on := 10, ground := Ground.phase }, { on := 11, ground := Ground.phase }], guard := none }) (v := ?_) rfl (by kernel_rfl) (by kernel_rfl) (by kernel_rfl) (fun _ _ _ h => h) (Or.inl ⟨by rfl, ?_⟩) (by assumption) ?_
                          rotate_left
                          · (intro w hSw; (try dsimp only at hSw); go_simp; try (with_reducible rfl))
                          try simp only [Act.put, List.setIfInBounds_toArray, List.set_cons_zero, List.set_cons_succ]
                          refine wpAnyH_done (by kernel_rfl) ?_ _
                          refine NoPanic.normal ?_
                          exact ⟨rfl, by kernel_rfl, by kernel_rfl, mW⟩
                      · rintro u w8 ⟨hu, m8⟩
                        simp only [List.foldl_cons, List.foldl_nil, List.setIfInBounds_toArray, List.set_cons_zero, List.set_cons_succ, hu]
                        clear hu mW hS
                        generalize u 96 = u96
                        generalize u 97 = u97
                        generalize u 98 = u98
                        generalize u 99 = u99
                        generalize u 100 = u100
                        generalize u 101 = u101
                        generalize u 102 = u102
                        generalize u 103 = u103
                        generalize u 104 = u104
                        generalize u 105 = u105
                        generalize u 106 = u106
                        generalize u 107 = u107
                        go_wp2_with fail
                        go_roundw
                        case rel =>
                          refine ⟨k + 1, _, by omega, by go_num, rfl, ?_, mk.then m8⟩
                          unfold Hid
                          rw [hf.out, List.take_add_one, HY.out, List.any_append]
                          simp [Bool.or_assoc]
                        case measure => simp [intOf]; omega
                    · obtain rfl : k = nb := by omega
                      have hft : f = true := by
                        rw [hf.out, List.take_of_length_le (by have := HNB.out; omega)]
                        rcases HKX.out with e | e
                        · rw [← HF0.out, e]; rfl
                        · rw [Bool.or_eq_true]
                          right
                          exact List.any_eq_true.2 ⟨x, e, tbEq_self x⟩
                      subst hft
                      clear hf
                      go_wp2_with fail
                      go_roundw
                      case rel => exact ⟨j + 1, by omega, by go_num, HMJ.out.then mk⟩
                      case measure => simp [intOf]; omega
              · have hj3 : ¬ (j : Int) < na := by omega
                clear hmeetA
                go_wp2_with fail
                refine (mpending_w w w5 p q c a3 S2 (HIW.out.moves0 mj) HKP2.out).mono ?_
                rintro _ w6 ⟨rfl, m6⟩
                unfold ansV
                have hwi : IntKind.i64.wrap ((i : Int) + 1) = (i1 : Int) := by rw [IntKind.wrap_i64]; have := HI1.out; omega
                go_wp2_with fail
                go_roundw
                case rel => exact ⟨i1, a3, S2, by have := HI1.out; omega, by have := HI1.out; omega, rfl, ⟨(HIW.out.moves0 mj).moves0 (m6.then ((Moves.refl _ _).alloc _)), HOK2.out, HCA2.out, HKP2.out, (HVW.out.then mj).then (m6.then ((Moves.refl _ _).alloc _))⟩⟩
                case measure => simp [intOf]; have := HI1.out; omega
        · have hg3 : ¬ (i : Int) < n2 := by omega
          clear hg
          have hpo := pub_ok R.2 HF.out.ok 0 (by rw [hpe.2.1]; exact hpe.2.2.symm)
          rw [hpe.2.1] at hpo
          have hpb := doPub_w w wd p q c a3 R.2 HId.out HF.out.ok 7 1 R.1.gen 0 (by rw [hpe.1]; have := HPS.out.2.l0; omega) (by have := HF.out.ok.l1; rw [hpe.2.2] at this; exact this) (.inl rfl)
          rw [hpo.1] at hpb
          have hpk := pub_keeps S R.2 R.1 HPS.out.2 HF.out.ok HF.out.xs hpe.2.1 hpe.2.2.symm (HPP.out.2.1 hc) 0
          obtain ⟨S2, hS2⟩ : ∃ S2, (mPub R.2 R.1.gen 0).2 = S2 := ⟨_, rfl⟩
          rw [hS2] at hpb hpo hpk
          have HOK2 : Hid (OkM S2) := hpo.2.1
          have HCA2 : Hid ((ofT S2.ca 7).s ≤ (i1 : Nat)) := by unfold Hid; rw [hpo.2.2.1, HF.out.ca]; exact Int.le_refl _
          have HKP : Hid (∀ x ∈ S.xs, spM x.sp ⟨R.1.lo, R.1.hi⟩ = true ∨ x ∈ S2.xs) := hpk.1
          have HKX1 : Hid ((0 : Int) = -1 → S2.xs = S.xs) := hpk.2.1
          have HKP2 : Hid (S2.pend = pTold 0) := hpk.2.2
          unfold pubV at hpb
          clear hpo hS2 hpe hc hpk
          go_wp2_with fail
          refine hpb.mono ?_
          rintro _ we ⟨rfl, hG⟩
          have HTWe : Hid (TabB we (.slice ada na capa) S.xs p q c a3) := HTBd.out.step hG
          have HBWe : Hid (BoxB we BA _ 48 p q c a3) := HBA.out.step hG
          have HIe : Hid (MrIs w we p q c a3 S2) := hG.is
          have HVe : Hid (Moves [] w we) := hG.old HVd.out (fun _ hk => HId.out.young hk)
          clear hpb hG HTBd HBA HId HVd u0 u5 u2 u3
          go_wp2_with fail
          refine (mall_w w we p q c a3 S2 HIe.out HOK2.out).mono ?_
          rintro _ wg ⟨vb, rfl, hO, hF, mg⟩
          have HTN0 : Hid (TabB wg vb S2.xs p q c a3) := ⟨hO, fun k hk => HIe.out.notin (hF k hk)⟩
          obtain ⟨adb, nb, capb, rfl, -⟩ := hO.open
          have HMg : Hid (Moves [] we wg) := mg
          clear hO hF mg
          have HTW : Hid (TabB wg (.slice ada na capa) S.xs p q c a3) := HTWe.out.moves0 HMg.out
          have HTN : Hid (TabB wg (.slice adb nb capb) S2.xs p q c a3) := HTN0.out
          have HBW : Hid (BoxB wg BA _ 48 p q c a3) := HBWe.out.moves0 HMg.out
          have HIW : Hid (MrIs w wg p q c a3 S2) := HIe.out.moves0 HMg.out
          have HVW : Hid (Moves [] w wg) := HVe.out.then HMg.out
          clear HTWe HBWe HIe HVe HMg HTN0 HKX1
          go_wp2_with fail
          -- each tablet that was there
          have hmeetA : ∀ x ∈ S.xs, spM x.sp ⟨R.1.lo, R.1.hi⟩ = true ∨ x ∈ S2.xs := HKP.out
          obtain ⟨ga, hTa⟩ := HTW.out.tbl
          obtain ⟨gb, hTb⟩ := HTN.out.tbl
          have HTA : Hid (TbL wg ga (.slice ada na capa) S.xs) := hTa
          have HTBB : Hid (TbL wg gb (.slice adb nb capb) S2.xs) := hTb
          have HNA : Hid (na = S.xs.length) := hTa.len.1
          have HNB : Hid (nb = S2.xs.length) := hTb.len.1
          have HBX : Hid _ := HBW.out.at'
          have hna20 : na ≤ 16 := by have := HNA.out; have := HPS.out.2.few; omega
          have hnb20 : nb ≤ 16 := by have := HNB.out; have := HOK2.out.few; omega
          clear hTa hTb
          go_loopw [11] (fun vj w5 => ∃ j : Nat, j ≤ na ∧ vj = .int .i64 (j : Nat) ∧ Moves [] wg w5) (fun vj _ => na - (intOf vj).toNat)
          case atStart => exact ⟨0, Nat.zero_le _, rfl, Moves.refl _ _⟩
          case round =>
            obtain ⟨j, hjn, rfl, mj⟩ := hrel
            obtain ⟨w5, hw5⟩ : ∃ w5, w5 = wr := ⟨_, rfl⟩
            subst hw5
            by_cases hj : j < na
            · have hj3 : (j : Int) < na := by omega
              have hj16 : j < 16 := by omega
              obtain ⟨x, hx⟩ : ∃ x, S.xs[j]? = some x := ⟨_, List.getElem?_eq_getElem (by have := HNA.out; omega)⟩
              obtain ⟨oa, ea, x0, x1, x2, x3⟩ := HTA.out.at hx
              subst ea
              have HKX : Hid (spM x.sp ⟨R.1.lo, R.1.hi⟩ = true ∨ x ∈ S2.xs) := hmeetA x (List.mem_of_getElem? hx)
              have b2 : wg.cell? ⟨BA, 2, none⟩ = some (.string R.1.lo) := (eleven_cells HBX.out).2.2.1
              have b3 : wg.cell? ⟨BA, 3, none⟩ = some (.string R.1.hi) := (eleven_cells HBX.out).2.2.2.1
              obtain ⟨f0, hf0⟩ : ∃ f0, spM x.sp ⟨R.1.lo, R.1.hi⟩ = f0 := ⟨_, rfl⟩
              have HF0 : Hid (spM x.sp ⟨R.1.lo, R.1.hi⟩ = f0) := hf0
              have hmeet : ∀ w1 : World, Calls Tryz.prog 17 #[.agg #[.string x.lo, .string x.hi], .agg #[.string R.1.lo, .string R.1.hi]] w1 fun e w' => e = .returned (.bool f0) ∧ Moves [] w1 w' := by
                intro w1
                rw [← hf0]
                exact rfMeet7_w x.lo x.hi R.1.lo R.1.hi w1
              have HX4 : Hid (wg.cell? ⟨ga, oa + j * 4, none⟩ = some (.string x.lo) ∧ wg.cell? ⟨ga, oa + j * 4 + 1, none⟩ = some (.string x.hi) ∧ wg.cell? ⟨ga, oa + j * 4 + 2, none⟩ = some (.int .i64 x.g) ∧ wg.cell? ⟨ga, oa + j * 4 + 3, none⟩ = some (.int .i64 x.n)) := ⟨x0, x1, x2, x3⟩
              have hS : ∀ w' : World, Moves [] w5 w' → (w'.cell? ⟨ga, oa + j * 4, none⟩ = some (.string x.lo) ∧ w'.cell? ⟨ga, oa + j * 4 + 1, none⟩ = some (.string x.hi) ∧ w'.cell? ⟨BA, 2, none⟩ = some (.string R.1.lo) ∧ w'.cell? ⟨BA, 3, none⟩ = some (.string R.1.hi)) := by
                intro w' m'
                exact ⟨(mj.then m').cell x0, (mj.then m').cell x1, (mj.then m').cell b2, (mj.then m').cell b3⟩
              have mW : Moves [] w5 w5.drew := (Moves.refl _ _).drew
              clear hx hf0 x0 x1 x2 x3 b2 b3
              go_wp2_with fail
              refine wp_some7 [82, 83, 84, 85, 86, 87, 88, 89, 12] (fun u w' => u 12 = .bool f0 ∧ Moves [] w5 w') ?_ ?_
              · rename_i ax
                clear ax
                refine wp_region_noPanic ?_
                refine wp_region_held_drew (S := (fun w' => w'.cell? ⟨ga, oa + j * 4, none⟩ = some (.string x.lo) ∧ w'.cell? ⟨ga, oa + j * 4 + 1, none⟩ = some (.string x.hi) ∧ w'.cell? ⟨BA, 2, none⟩ = some (.string R.1.lo) ∧ w'.cell? ⟨BA, 3, none⟩ = some (.string R.1.hi))) (by kernel_rfl) ?_ (fun hHeld => ?_)
                · first | (go_keep; done) | exact hS _ mW
                refine wpAnyH_take (i := 0) (oi := { dst := some 82, op := Op.move (Operand.tmp 7), type := 51, pos := "law.go:211", after := #[], guard := none }) (v := ?_) rfl (by kernel_rfl) (by kernel_rfl) (by kernel_rfl) (fun _ _ _ h => h) (Or.inl ⟨by rfl, ?_⟩) (by assumption) ?_
                rotate_left
                · (intro w hSw; (try dsimp only at hSw); go_simp; try (with_reducible rfl))
                try simp only [Act.put, List.setIfInBounds_toArray, List.set_cons_zero, List.set_cons_succ]
                refine wpAnyH_take (i := 1) (oi := { dst := some 83, op := Op.move (Operand.tmp 11), type := 3, pos := "law.go:211", after := #[], guard := none }) (v := ?_) rfl (by kernel_rfl) (by kernel_rfl) (by kernel_rfl) (fun _ _ _ h => h) (Or.inl ⟨by rfl, ?_⟩) (by assumption) ?_
                rotate_left
                · (intro w hSw; (try dsimp only at hSw); go_simp; try (with_reducible rfl))
                try simp only [Act.put, List.setIfInBounds_toArray, List.set_cons_zero, List.set_cons_succ]
                refine wpAnyH_take (i := 2) (oi := { dst := some 84, op := Op.indexAddr 51 (Operand.tmp 82) (Operand.tmp 83), type := 0, pos := "law.go:211", after := #[{ on := 0, ground := Ground.data }, { on := 1, ground := Ground.data }], guard := none }) (v := ?_) rfl (by kernel_rfl) (by kernel_rfl) (by kernel_rfl) (fun _ _ _ h => h) (Or.inl ⟨by rfl, ?_⟩) (by assumption) ?_
                rotate_left
                · (intro w hSw; (try dsimp only at hSw); go_simp; try (with_reducible rfl))
                try simp only [Act.put, List.setIfInBounds_toArray, List.set_cons_zero, List.set_cons_succ]
                refine wpAnyH_take (i := 3) (oi := { dst := some 85, op := Op.fieldAddr 54 (Operand.tmp 84) 0, type := 0, pos := "law.go:211", after := #[{ on := 2, ground := Ground.data }], guard := none }) (v := ?_) rfl (by kernel_rfl) (by kernel_rfl) (by kernel_rfl) (fun _ _ _ h => h) (Or.inl ⟨by rfl, ?_⟩) (by assumption) ?_
                rotate_left
                · (intro w hSw; (try dsimp only at hSw); go_simp; try (with_reducible rfl))
                try simp only [Act.put, List.setIfInBounds_toArray, List.set_cons_zero, List.set_cons_succ]
                refine wpAnyH_take (i := 4) (oi := { dst := some 86, op := Op.load 37 (Operand.tmp 85), type := 37, pos := "law.go:211", after := #[{ on := 3, ground := Ground.data }], guard := none }) (v := ?_) rfl (by kernel_rfl) (by kernel_rfl) (by kernel_rfl) (fun _ _ _ h => h) (Or.inl ⟨by rfl, ?_⟩) (by assumption) ?_
                rotate_left
                · (intro w hSw; (try dsimp only at hSw); go_simp; try (with_reducible rfl))
                try simp only [Act.put, List.setIfInBounds_toArray, List.set_cons_zero, List.set_cons_succ]
                refine wpAnyH_take (i := 5) (oi := { dst := some 87, op := Op.fieldAddr 48 (Operand.tmp 8) 2, type := 0, pos := "law.go:211", after := #[], guard := none }) (v := ?_) rfl (by kernel_rfl) (by kernel_rfl) (by kernel_rfl) (fun _ _ _ h => h) (Or.inl ⟨by rfl, ?_⟩) (by assumption) ?_
                rotate_left
                · (intro w hSw; (try dsimp only at hSw); go_simp; try (with_reducible rfl))
                try simp only [Act.put, List.setIfInBounds_toArray, List.set_cons_zero, List.set_cons_succ]
                refine wpAnyH_take (i := 6) (oi := { dst := some 88, op := Op.load 37 (Operand.tmp 87), type := 37, pos := "law.go:211", after := #[{ on := 5, ground := Ground.data }], guard := none }) (v := ?_) rfl (by kernel_rfl) (by kernel_rfl) (by kernel_rfl) (fun _ _ _ h => h) (Or.inl ⟨by rfl, ?_⟩) (by assumption) ?_
                rotate_left
                · (intro w hSw; (try dsimp only at hSw); go_simp; try (with_reducible rfl))
                try simp only [Act.put, List.setIfInBounds_toArray, List.set_cons_zero, List.set_cons_succ]
                refine wpAnyH_ready (rs := [7]) (by kernel_rfl) (by simp) ?_
                refine AllReadyH.cons (o := { dst := some 89, op := Op.call { callee := Callee.value (Operand.func 17), args := #[Operand.tmp 86, Operand.tmp 88], argTypes := #[37, 37] }, type := 4, pos := "law.go:211", after := #[{ on := 4, ground := Ground.data }, { on := 6, ground := Ground.data }], guard := none }) rfl (fun K hK => ?_) AllReadyH.nil
                go_simp
                refine (hmeet _).mono ?_
                rintro _ w9 ⟨rfl, m9⟩
                replace mW := mW.then m9
                refine hK.out _ _ ?_ (fun hHeld => ?_)
                · exact hS _ mW
                clear hK K
                try simp only [Act.put, List.setIfInBounds_toArray, List.set_cons_zero, List.set_cons_succ]
                refine wpAnyH_take (i := 8) (oi := { dst := some 12, op := Op.assign (Operand.tmp 89), type := 4, pos := "law.go:211", after := #[{ on := 7, ground := Ground.data }, { on := 7, ground := Ground.chain }, { on := 0, ground := Ground.phase }, { on := 1, ground := Ground.phase }, { on := 2, ground := Ground.phase }, { on := 3, ground := Ground.phase }, { on := 4, ground := Ground.phase }, { on := 5, ground := Ground.phase }, { on := 6, ground := Ground.phase }, { on := 7, ground := Ground.phase }], guard := none }) (v := ?_) rfl (by kernel_rfl) (by kernel_rfl) (by kernel_rfl) (fun _ _ _ h => h) (Or.inl ⟨by rfl, ?_⟩) (by assumption) ?_
                rotate_left
                · (intro w hSw; (try dsimp only at hSw); go_simp; try (with_reducible rfl))
                try simp only [Act.put, List.setIfInBounds_toArray, List.set_cons_zero, List.set_cons_succ]
                refine wpAnyH_done (by kernel_rfl) ?_ _
                refine NoPanic.normal ?_
                exact ⟨rfl, by kernel_rfl, by kernel_rfl, mW⟩
              · rintro u w6 ⟨hu, m6⟩
                simp only [List.foldl_cons, List.foldl_nil, List.setIfInBounds_toArray, List.set_cons_zero, List.set_cons_succ, hu]
                clear hu mW hS hmeet
                generalize u 82 = u82
                generalize u 83 = u83
                generalize u 84 = u84
                generalize u 85 = u85
                generalize u 86 = u86
                generalize u 87 = u87
                generalize u 88 = u88
                generalize u 89 = u89
                have HMJ : Hid (Moves [] wg w6) := mj.then m6
                clear m6 mj
                go_wp2_with fail
                go_loopw [12, 13] (fun vf vk w7 => ∃ (k : Nat) (f : Bool), k ≤ nb ∧ vk = .int .i64 (k : Nat) ∧ vf = .bool f ∧ Hid (f = (f0 || (S2.xs.take k).any (fun y => tbEq y x))) ∧ Moves [] w6 w7) (fun _ vk _ => nb - (intOf vk).toNat)
                case atStart => exact ⟨0, f0, Nat.zero_le _, rfl, rfl, by unfold Hid; simp, Moves.refl _ _⟩
                case round =>
                  obtain ⟨k, f, hkn, rfl, rfl, hf, mk⟩ := hrel
                  obtain ⟨w7, hw7⟩ : ∃ w7, w7 = wr := ⟨_, rfl⟩
                  subst hw7
                  by_cases hk : k < nb
                  · have hk3 : (k : Int) < nb := by omega
                    have hk16 : k < 16 := by omega
                    obtain ⟨y, hy⟩ : ∃ y, S2.xs[k]? = some y := ⟨_, List.getElem?_eq_getElem (by have := HNB.out; omega)⟩
                    obtain ⟨ob, eb, y0, y1, y2, y3⟩ := HTBB.out.at hy
                    subst eb
                    have hS : ∀ w' : World, Moves [] w7 w' → (w'.cell? ⟨gb, ob + k * 4, none⟩ = some (.string y.lo) ∧ w'.cell? ⟨gb, ob + k * 4 + 1, none⟩ = some (.string y.hi) ∧ w'.cell? ⟨gb, ob + k * 4 + 2, none⟩ = some (.int .i64 y.g) ∧ w'.cell? ⟨gb, ob + k * 4 + 3, none⟩ = some (.int .i64 y.n) ∧ w'.cell? ⟨ga, oa + j * 4, none⟩ = some (.string x.lo) ∧ w'.cell? ⟨ga, oa + j * 4 + 1, none⟩ = some (.string x.hi) ∧ w'.cell? ⟨ga, oa + j * 4 + 2, none⟩ = some (.int .i64 x.g) ∧ w'.cell? ⟨ga, oa + j * 4 + 3, none⟩ = some (.int .i64 x.n)) := by
                      intro w' m'
                      have M := (HMJ.out.then mk).then m'
                      exact ⟨M.cell y0, M.cell y1, M.cell y2, M.cell y3, M.cell HX4.out.1, M.cell HX4.out.2.1, M.cell HX4.out.2.2.1, M.cell HX4.out.2.2.2⟩
                    have mW : Moves [] w7 w7.drew := (Moves.refl _ _).drew
                    have HY : Hid (S2.xs[k]? = some y) := hy
                    clear hy y0 y1 y2 y3
                    go_wp2_with fail
                    refine wp_some7 [96, 97, 98, 99, 100, 101, 102, 103, 104, 105, 106, 107, 12] (fun u w' => u 12 = .bool (f || tbEq y x) ∧ Moves [] w7 w') ?_ ?_
                    · rename_i ax
                      clear ax
                      cases f with
                      | false =>
                        refine wp_region_noPanic ?_
                        refine wp_region_held_drew (S := (fun w' => w'.cell? ⟨gb, ob + k * 4, none⟩ = some (.string y.lo) ∧ w'.cell? ⟨gb, ob + k * 4 + 1, none⟩ = some (.string y.hi) ∧ w'.cell? ⟨gb, ob + k * 4 + 2, none⟩ = some (.int .i64 y.g) ∧ w'.cell? ⟨gb, ob + k * 4 + 3, none⟩ = some (.int .i64 y.n) ∧ w'.cell? ⟨ga, oa + j * 4, none⟩ = some (.string x.lo) ∧ w'.cell? ⟨ga, oa + j * 4 + 1, none⟩ = some (.string x.hi) ∧ w'.cell? ⟨ga, oa + j * 4 + 2, none⟩ = some (.int .i64 x.g) ∧ w'.cell? ⟨ga, oa + j * 4 + 3, none⟩ = some (.int .i64 x.n))) (by kernel_rfl) ?_ (fun hHeld => ?_)
                        · first | (go_keep; done) | exact hS _ mW
                        refine wpAnyH_take (i := 0) (oi := { dst := some 96, op := Op.move (Operand.tmp 12), type := 4, pos := "law.go:213", after := #[], guard := none }) (v := ?_) rfl (by kernel_rfl) (by kernel_rfl) (by kernel_rfl) (fun _ _ _ h => h) (Or.inl ⟨by rfl, ?_⟩) (by assumption) ?_
                        rotate_left
                        · (intro w hSw; (try dsimp only at hSw); go_simp; try (with_reducible rfl))
                        try simp only [Act.put, List.setIfInBounds_toArray, List.set_cons_zero, List.set_cons_succ]
                        refine wpAnyH_take (i := 1) (oi := { dst := some 97, op := Op.move (Operand.tmp 96), type := 4, pos := "law.go:213", after := #[{ on := 0, ground := Ground.data }], guard := none }) (v := ?_) rfl (by kernel_rfl) (by kernel_rfl) (by kernel_rfl) (fun _ _ _ h => h) (Or.inl ⟨by rfl, ?_⟩) (by assumption) ?_
                        rotate_left
                        · (intro w hSw; (try dsimp only at hSw); go_simp; try (with_reducible rfl))
                        try simp only [Act.put, List.setIfInBounds_toArray, List.set_cons_zero, List.set_cons_succ]
                        refine wpAnyH_take (i := 2) (oi := { dst := some 98, op := Op.move (Operand.tmp 10), type := 51, pos := "law.go:213", after := #[{ on := 1, ground := Ground.guard }], guard := some (1, false) }) (v := ?_) rfl (by kernel_rfl) (by kernel_rfl) (by kernel_rfl) (fun _ _ _ h => h) (Or.inl ⟨by rfl, ?_⟩) (by assumption) ?_
                        rotate_left
                        · (intro w hSw; (try dsimp only at hSw); go_simp; try (with_reducible rfl))
                        try simp only [Act.put, List.setIfInBounds_toArray, List.set_cons_zero, List.set_cons_succ]
                        refine wpAnyH_take (i := 3) (oi := { dst := some 99, op := Op.move (Operand.tmp 13), type := 3, pos := "law.go:213", after := #[{ on := 1, ground := Ground.guard }], guard := some (1, false) }) (v := ?_) rfl (by kernel_rfl) (by kernel_rfl) (by kernel_rfl) (fun _ _ _ h => h) (Or.inl ⟨by rfl, ?_⟩) (by assumption) ?_
                        rotate_left
                        · (intro w hSw; (try dsimp only at hSw); go_simp; try (with_reducible rfl))
                        try simp only [Act.put, List.setIfInBounds_toArray, List.set_cons_zero, List.set_cons_succ]
                        refine wpAnyH_take (i := 4) (oi := { dst := some 100, op := Op.indexAddr 51 (Operand.tmp 98) (Operand.tmp 99), type := 0, pos := "law.go:213", after := #[{ on := 2, ground := Ground.data }, { on := 3, ground := Ground.data }, { on := 1, ground := Ground.guard }], guard := some (1, false) }) (v := ?_) rfl (by kernel_rfl) (by kernel_rfl) (by kernel_rfl) (fun _ _ _ h => h) (Or.inl ⟨by rfl, ?_⟩) (by assumption) ?_
                        rotate_left
                        · (intro w hSw; (try dsimp only at hSw); go_simp; try (with_reducible rfl))
                        try simp only [Act.put, List.setIfInBounds_toArray, List.set_cons_zero, List.set_cons_succ]
                        refine wpAnyH_take (i := 5) (oi := { dst := some 101, op := Op.load 54 (Operand.tmp 100), type := 54, pos := "law.go:213", after := #[{ on := 4, ground := Ground.data }, { on := 1, ground := Ground.guard }], guard := some (1, false) }) (v := ?_) rfl (by kernel_rfl) (by kernel_rfl) (by kernel_rfl) (fun _ _ _ h => h) (Or.inl ⟨by rfl, ?_⟩) (by assumption) ?_
                        rotate_left
                        · (intro w hSw; (try dsimp only at hSw); go_simp; try (with_reducible rfl))
                        try simp only [Act.put, List.setIfInBounds_toArray, List.set_cons_zero, List.set_cons_succ]
                        refine wpAnyH_take (i := 6) (oi := { dst := some 102, op := Op.move (Operand.tmp 7), type := 51, pos := "law.go:213", after := #[{ on := 1, ground := Ground.guard }], guard := some (1, false) }) (v := ?_) rfl (by kernel_rfl) (by kernel_rfl) (by kernel_rfl) (fun _ _ _ h => h) (Or.inl ⟨by rfl, ?_⟩) (by assumption) ?_
                        rotate_left
                        · (intro w hSw; (try dsimp only at hSw); go_simp; try (with_reducible rfl))
                        try simp only [Act.put, List.setIfInBounds_toArray, List.set_cons_zero, List.set_cons_succ]
                        refine wpAnyH_take (i := 7) (oi := { dst := some 103, op := Op.move (Operand.tmp 11), type := 3, pos := "law.go:213", after := #[{ on := 1, ground := Ground.guard }], guard := some (1, false) }) (v := ?_) rfl (by kernel_rfl) (by kernel_rfl) (by kernel_rfl) (fun _ _ _ h => h) (Or.inl ⟨by rfl, ?_⟩) (by assumption) ?_
                        rotate_left
                        · (intro w hSw; (try dsimp only at hSw); go_simp; try (with_reducible rfl))
                        try simp only [Act.put, List.setIfInBounds_toArray, List.set_cons_zero, List.set_cons_succ]
                        refine wpAnyH_take (i := 8) (oi := { dst := some 104, op := Op.indexAddr 51 (Operand.tmp 102) (Operand.tmp 103), type := 0, pos := "law.go:213", after := #[{ on := 6, ground := Ground.data }, { on := 7, ground := Ground.data }, { on := 1, ground := Ground.guard }], guard := some (1, false) }) (v := ?_) rfl (by kernel_rfl) (by kernel_rfl) (by kernel_rfl) (fun _ _ _ h => h) (Or.inl ⟨by rfl, ?_⟩) (by assumption) ?_
                        rotate_left
                        · (intro w hSw; (try dsimp only at hSw); go_simp; try (with_reducible rfl))
                        try simp only [Act.put, List.setIfInBounds_toArray, List.set_cons_zero, List.set_cons_succ]
                        refine wpAnyH_take (i := 9) (oi := { dst := some 105, op := Op.load 54 (Operand.tmp 104), type := 54, pos := "law.go:213", after := #[{ on := 8, ground := Ground.data }, { on := 1, ground := Ground.guard }], guard := some (1, false) }) (v := ?_) rfl (by kernel_rfl) (by kernel_rfl) (by kernel_rfl) (fun _ _ _ h => h) (Or.inl ⟨by rfl, ?_⟩) (by assumption) ?_
                        rotate_left
                        · (intro w hSw; (try dsimp only at hSw); go_simp; try (with_reducible rfl))
                        try simp only [Act.put, List.setIfInBounds_toArray, List.set_cons_zero, List.set_cons_succ]
                        refine wpAnyH_ready (rs := [10]) (by kernel_rfl) (by simp) ?_
                        refine AllReadyH.cons (o := { dst := some 106, op := Op.binOp BinOp.eql 54 (Operand.tmp 101) (Operand.tmp 105) 54, type := 4, pos := "law.go:213", after := #[{ on := 5, ground := Ground.data }, { on := 9, ground := Ground.data }, { on := 1, ground := Ground.guard }], guard := some (1, false) }) rfl (fun K hK => ?_) AllReadyH.nil
                        refine wp_eql25 101 105 rfl y x rfl rfl ?_
                        refine hK.out _ _ ?_ (fun hHeld => ?_)
                        · exact hS _ mW
                        clear hK K
                        try simp only [Act.put, List.setIfInBounds_toArray, List.set_cons_zero, List.set_cons_succ]
                        refine wpAnyH_take (i := 11) (oi := { dst := some 107, op := Op.pick (Operand.tmp 97) (Operand.const (Value.bool true)) (Operand.tmp 106), type := 4, pos := "law.go:213", after := #[{ on := 1, ground := Ground.data }, { on := 10, ground := Ground.data }], guard := none }) (v := ?_) rfl (by kernel_rfl) (by kernel_rfl) (by kernel_rfl) (fun _ _ _ h => h) (Or.inl ⟨by rfl, ?_⟩) (by assumption) ?_
                        rotate_left
                        · (intro w hSw; (try dsimp only at hSw); go_simp; try (with_reducible rfl))
                        try simp only [Act.put, List.setIfInBounds_toArray, List.set_cons_zero, List.set_cons_succ]
                        refine wpAnyH_take (i := 12) (oi := { dst := some 12, op := Op.assign (Operand.tmp 107), type := 4, pos := "law.go:213", after := #[{ on := 11, ground := Ground.data }, { on := 1, ground := Ground.chain }, { on := 0, ground := Ground.phase }, { on := 1, ground := Ground.phase }, { on := 2, ground := Ground.phase }, { on := 3, ground := Ground.phase }, { on := 4, ground := Ground.phase }, { on := 5, ground := Ground.phase }, { on := 6, ground := Ground.phase }, { on := 7, ground := Ground.phase }, { on := 8, ground := Ground.phase }, { on := 9, ground := Ground.phase }, { on := 10, ground := Ground.phase }, { on := 11, ground := Ground.phase }], guard := none }) (v := ?_) rfl (by kernel_rfl) (by kernel_rfl) (by kernel_rfl) (fun _ _ _ h => h) (Or.inl ⟨by rfl, ?_⟩) (by assumption) ?_
                        rotate_left
                        · (intro w hSw; (try dsimp only at hSw); go_simp; try (with_reducible rfl))
                        try simp only [Act.put, List.setIfInBounds_toArray, List.set_cons_zero, List.set_cons_succ]
                        refine wpAnyH_done (by kernel_rfl) ?_ _
                        refine NoPanic.normal ?_
                        exact ⟨rfl, by kernel_rfl, by kernel_rfl, mW⟩
                      | true =>
                        refine wp_region_noPanic ?_
                        refine wp_region_held_drew (S := (fun w' => w'.cell? ⟨gb, ob + k * 4, none⟩ = some (.string y.lo) ∧ w'.cell? ⟨gb, ob + k * 4 + 1, none⟩ = some (.string y.hi) ∧ w'.cell? ⟨gb, ob + k * 4 + 2, none⟩ = some (.int .i64 y.g) ∧ w'.cell? ⟨gb, ob + k * 4 + 3, none⟩ = some (.int .i64 y.n) ∧ w'.cell? ⟨ga, oa + j * 4, none⟩ = some (.string x.lo) ∧ w'.cell? ⟨ga, oa + j * 4 + 1, none⟩ = some (.string x.hi) ∧ w'.cell? ⟨ga, oa + j * 4 + 2, none⟩ = some (.int .i64 x.g) ∧ w'.cell? ⟨ga, oa + j * 4 + 3, none⟩ = some (.int .i64 x.n))) (by kernel_rfl) ?_ (fun hHeld => ?_)
                        · first | (go_keep; done) | exact hS _ mW
                        refine wpAnyH_take (i := 0) (oi := { dst := some 96, op := Op.move (Operand.tmp 12), type := 4, pos := "law.go:213", after := #[], guard := none }) (v := ?_) rfl (by kernel_rfl) (by kernel_rfl) (by kernel_rfl) (fun _ _ _ h => h) (Or.inl ⟨by rfl, ?_⟩) (by assumption) ?_
                        rotate_left
                        · (intro w hSw; (try dsimp only at hSw); go_simp; try (with_reducible rfl))
                        try simp only [Act.put, List.setIfInBounds_toArray, List.set_cons_zero, List.set_cons_succ]
                        refine wpAnyH_take (i := 1) (oi := { dst := some 97, op := Op.move (Operand.tmp 96), type := 4, pos := "law.go:213", after := #[{ on := 0, ground := Ground.data }], guard := none }) (v := ?_) rfl (by kernel_rfl) (by kernel_rfl) (by kernel_rfl) (fun _ _ _ h => h) (Or.inl ⟨by rfl, ?_⟩) (by assumption) ?_
                        rotate_left
                        · (intro w hSw; (try dsimp only at hSw); go_simp; try (with_reducible rfl))
                        try simp only [Act.put, List.setIfInBounds_toArray, List.set_cons_zero, List.set_cons_succ]
                        refine wpAnyH_take (i := 2) (oi := { dst := some 98, op := Op.move (Operand.tmp 10), type := 51, pos := "law.go:213", after := #[{ on := 1, ground := Ground.guard }], guard := some (1, false) }) rfl (by kernel_rfl) (by kernel_rfl) (by kernel_rfl) (fun _ _ _ h => h) (Or.inr ⟨by rfl, rfl⟩) (by assumption) ?_
                        try simp only [Act.put, List.setIfInBounds_toArray, List.set_cons_zero, List.set_cons_succ]
                        refine wpAnyH_take (i := 3) (oi := { dst := some 99, op := Op.move (Operand.tmp 13), type := 3, pos := "law.go:213", after := #[{ on := 1, ground := Ground.guard }], guard := some (1, false) }) rfl (by kernel_rfl) (by kernel_rfl) (by kernel_rfl) (fun _ _ _ h => h) (Or.inr ⟨by rfl, rfl⟩) (by assumption) ?_
                        try simp only [Act.put, List.setIfInBounds_toArray, List.set_cons_zero, List.set_cons_succ]
                        refine wpAnyH_take (i := 4) (oi := { dst := some 100, op := Op.indexAddr 51 (Operand.tmp 98) (Operand.tmp 99), type := 0, pos := "law.go:213", after := #[{ on := 2, ground := Ground.data }, { on := 3, ground := Ground.data }, { on := 1, ground := Ground.guard }], guard := some (1, false) }) rfl (by kernel_rfl) (by kernel_rfl) (by kernel_rfl) (fun _ _ _ h => h) (Or.inr ⟨by rfl, rfl⟩) (by assumption) ?_
                        try simp only [Act.put, List.setIfInBounds_toArray, List.set_cons_zero, List.set_cons_succ]
                        refine wpAnyH_take (i := 5) (oi := { dst := some 101, op := Op.load 54 (Operand.tmp 100), type := 54, pos := "law.go:213", after := #[{ on := 4, ground := Ground.data }, { on := 1, ground := Ground.guard }], guard := some (1, false) }) rfl (by kernel_rfl) (by kernel_rfl) (by kernel_rfl) (fun _ _ _ h => h) (Or.inr ⟨by rfl, rfl⟩) (by assumption) ?_
                        try simp only [Act.put, List.setIfInBounds_toArray, List.set_cons_zero, List.set_cons_succ]
                        refine wpAnyH_take (i := 6) (oi := { dst := some 102, op := Op.move (Operand.tmp 7), type := 51, pos := "law.go:213", after := #[{ on := 1, ground := Ground.guard }], guard := some (1, false) }) rfl (by kernel_rfl) (by kernel_rfl) (by kernel_rfl) (fun _ _ _ h => h) (Or.inr ⟨by rfl, rfl⟩) (by assumption) ?_
                        try simp only [Act.put, List.setIfInBounds_toArray, List.set_cons_zero, List.set_cons_succ]
                        refine wpAnyH_take (i := 7) (oi := { dst := some 103, op := Op.move (Operand.tmp 11), type := 3, pos := "law.go:213", after := #[{ on := 1, ground := Ground.guard }], guard := some (1, false) }) rfl (by kernel_rfl) (by kernel_rfl) (by kernel_rfl) (fun _ _ _ h => h) (Or.inr ⟨by rfl, rfl⟩) (by assumption) ?_
                        try simp only [Act.put, List.setIfInBounds_toArray, List.set_cons_zero, List.set_cons_succ]
                        refine wpAnyH_take (i := 8) (oi := { dst := some 104, op := Op.indexAddr 51 (Operand.tmp 102) (Operand.tmp 103), type := 0, pos := "law.go:213", after := #[{ on := 6, ground := Ground.data }, { on := 7, ground := Ground.data }, { on := 1, ground := Ground.guard }], guard := some (1, false) }) rfl (by kernel_rfl) (by kernel_rfl) (by kernel_rfl) (fun _ _ _ h => h) (Or.inr ⟨by rfl, rfl⟩) (by assumption) ?_
                        try simp only [Act.put, List.setIfInBounds_toArray, List.set_cons_zero, List.set_cons_succ]
                        refine wpAnyH_take (i := 9) (oi := { dst := some 105, op := Op.load 54 (Operand.tmp 104), type := 54, pos := "law.go:213", after := #[{ on := 8, ground := Ground.data }, { on := 1, ground := Ground.guard }], guard := some (1, false) }) rfl (by kernel_rfl) (by kernel_rfl) (by kernel_rfl) (fun _ _ _ h => h) (Or.inr ⟨by rfl, rfl⟩) (by assumption) ?_
                        try simp only [Act.put, List.setIfInBounds_toArray, List.set_cons_zero, List.set_cons_succ]
                        refine wpAnyH_take (i := 10) (oi := { dst := some 106, op := Op.binOp BinOp.eql 54 (Operand.tmp 101) (Operand.tmp 105) 54, type := 4, pos := "law.go:213", after := #[{ on := 5, ground := Ground.data }, { on := 9, ground := Ground.data }, { on := 1, ground := Ground.guard }], guard := some (1, false) }) rfl (by kernel_rfl) (by kernel_rfl) (by kernel_rfl) (fun _ _ _ h => h) (Or.inr ⟨by rfl, rfl⟩) (by assumption) ?_
                        try simp only [Act.put, List.setIfInBounds_toArray, List.set_cons_zero, List.set_cons_succ]
                        refine wpAnyH_take (i := 11) (oi := { dst := some 107, op := Op.pick (Operand.tmp 97) (Operand.const (Value.bool true)) (Operand.tmp 106), type := 4, pos := "law.go:213", after := #[{ on := 1, ground := Ground.data }, { on := 10, ground := Ground.data }], guard := none }) (v := ?_) rfl (by kernel_rfl) (by kernel_rfl) (by kernel_rfl) (fun _ _ _ h => h) (Or.inl ⟨by rfl, ?_⟩) (by assumption) ?_
                        rotate_left
                        · (intro w hSw; (try dsimp only at hSw); go_simp; try (with_reducible rfl))
                        try simp only [Act.put, List.setIfInBounds_toArray, List.set_cons_zero, List.set_cons_succ]
                        refine wpAnyH_take (i := 12) (oi := { dst := some 12, op := Op.assign (Operand.tmp 107), type := 4, pos := "law.go:213", after := #[{ on := 11, ground := Ground.data }, { on := 1, ground := Ground.chain }, { on := 0, ground := Ground.phase }, { on := 1, ground := Ground.phase }, { on := 2, ground := Ground.phase }, { on := 3, ground := Ground.phase }, { on := 4, ground := Ground.phase }, { on := 5, ground := Ground.phase }, { on := 6, ground := Ground.phase }, { on := 7, ground := Ground.phase }, { on := 8, ground := Ground.phase }, { on := 9, ground := Ground.phase }, { on := 10, ground := Ground.phase }, { on := 11, ground := Ground.phase }], guard := none }) (v := ?_) rfl (by kernel_rfl) (by kernel_rfl) (by kernel_rfl) (fun _ _ _ h => h) (Or.inl ⟨by rfl, ?_⟩) (by assumption) ?_
                        rotate_left
                        · (intro w hSw; (try dsimp only at hSw); go_simp; try (with_reducible rfl))
                        try simp only [Act.put, List.setIfInBounds_toArray, List.set_cons_zero, List.set_cons_succ]
                        refine wpAnyH_done (by kernel_rfl) ?_ _
                        refine NoPanic.normal ?_
                        exact ⟨rfl, by kernel_rfl, by kernel_rfl, mW⟩
                    · rintro u w8 ⟨hu, m8⟩
                      simp only [List.foldl_cons, List.foldl_nil, List.setIfInBounds_toArray, List.set_cons_zero, List.set_cons_succ, hu]
                      clear hu mW hS
                      generalize u 96 = u96
                      generalize u 97 = u97
                      generalize u 98 = u98
                      generalize u 99 = u99
                      generalize u 100 = u100
                      generalize u 101 = u101
                      generalize u 102 = u102
                      generalize u 103 = u103
                      generalize u 104 = u104
                      generalize u 105 = u105
                      generalize u 106 = u106
                      generalize u 107 = u107
                      go_wp2_with fail
                      go_roundw
                      case rel =>
                        refine ⟨k + 1, _, by omega, by go_num, rfl, ?_, mk.then m8⟩
                        unfold Hid
                        rw [hf.out, List.take_add_one, HY.out, List.any_append]
                        simp [Bool.or_assoc]
                      case measure => simp [intOf]; omega
                  · obtain rfl : k = nb := by omega
                    have hft : f = true := by
                      rw [hf.out, List.take_of_length_le (by have := HNB.out; omega)]
                      rcases HKX.out with e | e
                      · rw [← HF0.out, e]; rfl
                      · rw [Bool.or_eq_true]
                        right
                        exact List.any_eq_true.2 ⟨x, e, tbEq_self x⟩
                    subst hft
                    clear hf
                    go_wp2_with fail
                    go_roundw
                    case rel => exact ⟨j + 1, by omega, by go_num, HMJ.out.then mk⟩
                    case measure => simp [intOf]; omega
            · have hj3 : ¬ (j : Int) < na := by omega
              clear hmeetA
              go_wp2_with fail
              refine (mpending_w w w5 p q c a3 S2 (HIW.out.moves0 mj) HKP2.out).mono ?_
              rintro _ w6 ⟨rfl, m6⟩
              unfold ansV
              have hwi : IntKind.i64.wrap ((i : Int) + 1) = (i1 : Int) := by rw [IntKind.wrap_i64]; have := HI1.out; omega
              go_wp2_with fail
              go_roundw
              case rel => exact ⟨i1, a3, S2, by have := HI1.out; omega, by have := HI1.out; omega, rfl, ⟨(HIW.out.moves0 mj).moves0 (m6.then ((Moves.refl _ _).alloc _)), HOK2.out, HCA2.out, HKP2.out, (HVW.out.then mj).then (m6.then ((Moves.refl _ _).alloc _))⟩⟩
              case measure => simp [intOf]; have := HI1.out; omega
      · have hc' : (R.1.code == 0) = false := beq_eq_false_iff_ne.2 hc
        have HCN : Hid (R.1.code ≠ 0) := hc
        clear hc u2 u3 u5
        go_wp2_with fail
        refine (mall_w w wd p q c a3 R.2 HId.out HF.out.ok).mono ?_
        rintro _ we ⟨ve, rfl, hO, hF, me⟩
        obtain ⟨ge, hTe, -⟩ := hO.ex hF
        rw [HF.out.xs] at hTe
        obtain ⟨ga, hTa⟩ := (HTBd.out.moves0 me).tbl
        have hbs := bookSame_yes we ge ve ga (.slice ada na capa) S.xs hTe hTa (by have := HPS.out.2.few; omega)
        have HMe : Hid (Moves [] wd we) := me
        obtain ⟨ade, ne, cape, rfl, -⟩ := hO.open
        clear hO hF me hTe hTa u0
        go_wp2_with fail
        refine hbs.mono ?_
        rintro _ wf ⟨rfl, mf⟩
        have hwi : IntKind.i64.wrap ((i : Int) + 1) = (i1 : Int) := by rw [IntKind.wrap_i64]; have := HI1.out; omega
        clear hbs
        go_wp2_with fail
        go_roundw
        case rel => exact ⟨i1, a3, R.2, by have := HI1.out; omega, by have := HI1.out; omega, rfl, ⟨HId.out.moves0 (HMe.out.then mf), HF.out.ok, by rw [HF.out.ca]; show (i1 : Int) ≤ i1; omega, by rw [HPP.out.1 HCN.out]; exact HPS.out.1, HVd.out.then (HMe.out.then mf)⟩⟩
        case measure => simp [intOf]; have := HI1.out; omega
    · clear HP HB
      have HMV : Hid (Moves [] w wr) := HG.out.mv
      clear HG
      by_cases hl1 : i < n1
      · have hk1 : (i : Int) < n1 := by omega
        have hk2 : ¬ (i : Int) < 20 := by omega
        clear hlt
        go_wp2_with fail
        refine (known12_w wr).mono ?_
        rintro _ wo ⟨rfl, mo⟩
        go_wp2_with fail
        go_ret
        exact ⟨rfl, HMV.out.then mo⟩
      · have hk1 : ¬ (i : Int) < n1 := by omega
        clear hlt
        go_wp2_with fail
        refine (known12_w wr).mono ?_
        rintro _ wo ⟨rfl, mo⟩
        go_wp2_with fail
        go_ret
        exact ⟨rfl, HMV.out.then mo⟩
end Go.Proofs.YtfhdodopjgfedaaGreat
