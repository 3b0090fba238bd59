/- ours -/
import Derived.Test.YtilbbnmhnacnlaaGreatCB41
namespace Go.Proofs.YtilbbnmhnacnlaaGreat
open Go.RowKit

theorem lookT_cases (x : Pt) (q : Int) : lookT x q = 1 ∨ lookT x q = 2 ∨ lookT x q = 3 := by
  unfold lookT
  split
  · right; right; rfl
  · split
    · right; left; rfl
    · left; rfl
theorem lookT_ge {x : Pt} {q : Int} (h : lookT x q = 1) : 1 ≤ q := by
  unfold lookT at h
  split at h
  · simp at h
  · omega
set_option maxRecDepth 100000 in
set_option maxHeartbeats 16000000 in
theorem mplan_w (W w : World) (p q c : Nat) (a : Option Nat) (S : Pms) (h : MrIs W w p q c a S) (ok : OkM S) (hW : W.heap.size ≤ w.heap.size) (cl sq : Int) (C : Pcmd) (ca : Option Addr) (cn cc : Nat) (la : Option Addr) (ln lc : Nat) (sa : Option Addr) (sn sc : Nat) (ha0 : 0 ≤ C.act) (ha3 : C.act ≤ 3) (hat : C.act ≠ 0 → C.at'.size ≤ 16) :
    Calls Tryz.prog 37 #[.pointer (some ⟨p, 0, none⟩), .int .i64 cl, .int .i64 sq, .agg #[.int .i64 C.kind, .int .i64 C.op.kind, .string C.op.row, .string C.op.hi, .bool C.op.cd.has, .bool C.op.cd.want, .string C.op.cd.col, .int .i64 C.op.cd.v.kind, .slice ca cn cc, .float .f64 C.op.cd.v.n, .slice la ln lc, .int .i64 C.op.most, .string C.lo, .string C.hi, .int .i64 C.gen, .string C.at', .int .i64 C.to, .int .i64 C.act, .slice sa sn sc]] w fun e w' => ∃ cs a', e = .returned (.agg cs.toArray) ∧ AnsC w' cs (mPlan S cl sq C.act C.at' C.to).1 ∧ MrG W w p q c a S w' a' (mPlan S cl sq C.act C.at' C.to).2 := by
  have hbare := mPlan_bare S ok cl sq C.act C.at' C.to ha0 ha3 hat
  have a1 := heap_alloc_new w (.cells #[.int .i64 C.kind, .int .i64 C.op.kind, .string C.op.row, .string C.op.hi, .bool C.op.cd.has, .bool C.op.cd.want, .string C.op.cd.col, .int .i64 C.op.cd.v.kind, .slice ca cn cc, .float .f64 C.op.cd.v.n, .slice la ln lc, .int .i64 C.op.most, .string C.lo, .string C.hi, .int .i64 C.gen, .string C.at', .int .i64 C.to, .int .i64 C.act, .slice sa sn sc] 39)
  obtain ⟨w2, hw2⟩ : ∃ w2, w.alloc (.cells #[.int .i64 C.kind, .int .i64 C.op.kind, .string C.op.row, .string C.op.hi, .bool C.op.cd.has, .bool C.op.cd.want, .string C.op.cd.col, .int .i64 C.op.cd.v.kind, .slice ca cn cc, .float .f64 C.op.cd.v.n, .slice la ln lc, .int .i64 C.op.most, .string C.lo, .string C.hi, .int .i64 C.gen, .string C.at', .int .i64 C.to, .int .i64 C.act, .slice sa sn sc] 39) = w2 := ⟨_, rfl⟩
  have s2 : w2.heap.size = w.heap.size + 1 := by rw [← hw2]; simp
  have n2 : Moves [] w w2 := by rw [← hw2]; exact (Moves.refl _ _).alloc _
  rw [hw2] at a1
  have a2 := heap_alloc_new w2 (.cells #[.int .i64 0, .slice none 0 0, .string ⟨#[]⟩, .string ⟨#[]⟩, .int .i64 0, .int .i64 0, .int .i64 0, .int .i64 0, .int .i64 0, .string ⟨#[]⟩, .slice none 0 0] 48)
  obtain ⟨w3, hw3⟩ : ∃ w3, w2.alloc (.cells #[.int .i64 0, .slice none 0 0, .string ⟨#[]⟩, .string ⟨#[]⟩, .int .i64 0, .int .i64 0, .int .i64 0, .int .i64 0, .int .i64 0, .string ⟨#[]⟩, .slice none 0 0] 48) = w3 := ⟨_, rfl⟩
  have n3 : Moves [] w2 w3 := by rw [← hw3]; exact (Moves.refl _ _).alloc _
  rw [hw3] at a2
  have m03 := n2.then n3
  have b1 := n3.at a1 (by simp)
  rw [s2] at a2
  obtain ⟨B1, hB1⟩ : ∃ B1, w.heap.size = B1 := ⟨_, rfl⟩
  rw [hB1] at b1 a2
  have hI3 := h.moves0 m03
  have HI : Hid (MrIs W w p q c a S) := h
  have HB1 : Hid _ := b1
  have HM : Hid (Moves [] w w3) := m03
  have y17 : w3.cell? ⟨B1, 17, none⟩ = some (.int .i64 C.act) := by obtain ⟨_, _, _, _, _, _, _, _, _, _, _, _, _, _, _, _, _, e, _⟩ := c19 b1; exact e
  have k14 : w3.cell? ⟨p, 14, none⟩ = some (.pointer (some ⟨c, 0, none⟩)) := by obtain ⟨_, _, _, _, _, _, _, _, _, _, _, _, _, _, e⟩ := c15 hI3.box; exact e
  have HSZ : Hid (w.heap.size = B1) := hB1
  have HSZ3 : Hid (B1 + 1 < w3.heap.size) := lt_of_block a2
  obtain ⟨R, hR⟩ : ∃ R, mPlan S cl sq C.act C.at' C.to = R := ⟨_, rfl⟩
  rw [hR] at hbare ⊢
  unfold mPlan at hR
  have HBR : Hid (Bare R.1) := hbare
  have HA2 : Hid _ := a2
  clear a1 n2 n3 m03 b1 h hbare
  have hfin : ∀ (u v : World) (a' : Option Nat) (cs : List Value), AnsC u cs R.1 → MrG W w3 p q c a S u a' R.2 → Moves [B1 + 1] u v → ∃ cs' a', Ending.returned (.agg cs.toArray) = .returned (.agg cs'.toArray) ∧ AnsC v cs' R.1 ∧ MrG W w p q c a S v a' R.2 := by
    intro u v a' cs hc hg hm
    exact ⟨cs, a', rfl, hc.bare HBR.out, MrG.boxed HI.out HM.out (by have := HSZ.out; omega) HSZ3.out hg hm⟩
  have HFIN : Hid _ := hfin
  clear hfin
  by_cases hz : C.act = 0
  · rw [if_pos hz] at hR
    have hz' : (C.act == 0) = true := beq_iff_eq.2 hz
    have hun := munder_w W w3 p q c a S hI3
    have HR1 : Hid (R.1 = (if S.pend.act ≠ 0 then S.pend else pTold 22)) := by unfold Hid; rw [← hR]
    have HR2 : Hid (R.2 = S) := by unfold Hid; rw [← hR]
    rw [← HR1.out] at hun
    have HI3 : Hid _ := hI3
    clear hz hR ha0 ha3 hat ok hI3 k14
    go_enter Tryz.func37, Tryz.ntmps37
    go_wp2_with fail
    try rw [hw2]
    try rw [hw3]
    try rw [s2]
    try rw [hB1]
    go_wp2_with fail
    refine hun.mono ?_
    rintro _ w4 ⟨rfl, m4⟩
    have b4 := m4.at HA2.out (by simp)
    clear y17 hw2 hw3 s2 hB1
    go_wp2_with (with_reducible refine stopA _ _ rfl ?_)
    unfold Hid
    refine wpList_storeAns rfl _ _ rfl (B1 + 1) (ansV R.1).toList rfl rfl rfl (ansV_one R.1) b4 rfl ?_
    intro w99 h99 m99
    go_wp2_with fail
    refine bodyPost_ret (ret_ansL rfl _ _ _ _ rfl rfl h99) rfl ?_
    refine HFIN.out w4 w99 a (ansV R.1).toList (ansC_bare HBR.out) ?_ m99
    rw [HR2.out]
    exact MrG.same HI3.out m4
  · rw [if_neg hz] at hR
    have hz' : (C.act == 0) = false := beq_eq_false_iff_ne.2 hz
    have hlk := olook_w W w3 c a S.ca cl sq hI3.cac ok.ri (by have := ok.len; omega)
    have hag := again_is (cl := cl) (sq := sq) ok
    have hmk := mask_w cl sq
    have hpos : 0 < w3.heap.size := by have := HSZ3.out; omega
    have hlc := lookT_cases (ofT S.ca cl) sq
    have hl1 : lookT (ofT S.ca cl) sq = 1 → 1 ≤ sq := fun e => lookT_ge e
    have HI3 : Hid _ := hI3
    have HOK : Hid (OkM S) := ok
    have HACT : Hid (1 ≤ C.act ∧ C.act ≤ 3 ∧ C.at'.size ≤ 16) := ⟨by omega, ha3, hat (by omega)⟩
    have HWW : Hid (W.heap.size ≤ w3.heap.size) := Nat.le_trans hW HM.out.size
    have HR : Hid (_ = R) := hR
    have HPOS : Hid (0 < w3.heap.size) := hpos
    have HAG : Hid _ := hag
    have HL1 : Hid _ := hl1
    obtain ⟨K, hK⟩ : ∃ K, lookT (ofT S.ca cl) sq = K := ⟨_, rfl⟩
    rw [hK] at hlk hlc
    have HK : Hid (lookT (ofT S.ca cl) sq = K) := hK
    clear hz hR ha0 ha3 hat ok hI3 hW hag hpos hl1 hK
    go_enter Tryz.func37, Tryz.ntmps37
    go_wp2_with fail
    try rw [hw2]
    try rw [hw3]
    try rw [s2]
    try rw [hB1]
    go_wp2_with fail
    refine hlk.mono ?_
    rintro _ w4 ⟨v, g, rfl, hB, m4, -⟩
    have b4 := m4.at HA2.out (by simp)
    obtain ⟨ad, n, cap, rfl, -⟩ : ∃ ad n cap, v = .slice ad n cap ∧ True := by obtain ⟨ad, n, cap, e, _⟩ := hB; exact ⟨ad, n, cap, e, trivial⟩
    have HB : Hid _ := hB
    have HM4 : Hid (Moves [] w3 w4) := m4
    have HB4 : Hid _ := b4
    clear y17 hw2 hw3 s2 hB1 hlk m4 b4 hB k14
    rcases hlc with rfl | rfl | rfl
    · have hn2 : ¬ (lookT (ofT S.ca cl) sq = 2) := by rw [HK.out]; decide
      by_cases hm : 0 ≤ cl ∧ cl ≤ 255 ∧ sq ≤ 1073741824
      · rw [decide_eq_true hm] at hmk
        have hn3 : ¬ (lookT (ofT S.ca cl) sq = 3 ∨ ¬ (0 ≤ cl ∧ cl ≤ 255 ∧ sq ≤ 1073741824)) := by rw [HK.out]; simp only [not_or, Classical.not_not]; exact ⟨by decide, hm⟩
        have HE1 : Hid (R.1 = (mBegin S C.act C.at' C.to).1) := by unfold Hid; rw [← HR.out, if_neg hn2, if_neg hn3]
        have HE2 : Hid (R.2 = { (mBegin S C.act C.at' C.to).2 with ca := keepT S.ca ⟨cl, sq, strOf (encA (mBegin S C.act C.at' C.to).1)⟩ }) := by unfold Hid; rw [← HR.out, if_neg hn2, if_neg hn3]
        have HMM : Hid (0 ≤ cl ∧ cl ≤ 255 ∧ sq ≤ 1073741824) := hm
        have H1 : Hid (1 ≤ sq) := HL1.out HK.out
        clear hm hn2 hn3 HB HK
        go_wp2_with fail
        refine (hmk _).mono ?_
        rintro _ _ ⟨rfl, rfl⟩
        have hI4 := HI3.out.moves0 HM4.out
        have hbg := mbegin_w W w4 p q c a S hI4 HOK.out C ca cn cc la ln lc sa sn sc HACT.out.1 HACT.out.2.1
        have hbi := mBegin_is S HOK.out C.act C.at' C.to HACT.out.1 HACT.out.2.1 HACT.out.2.2
        obtain ⟨D, hD⟩ : ∃ D, (mBegin S C.act C.at' C.to).1 = D := ⟨_, rfl⟩
        obtain ⟨S1, hS1⟩ : ∃ S1, (mBegin S C.act C.at' C.to).2 = S1 := ⟨_, rfl⟩
        rw [hD, hS1] at hbg hbi
        rw [hD] at HE1
        rw [hD, hS1] at HE2
        obtain ⟨ok1, hca, hDb, hDr, hxs, -⟩ := hbi
        have HB14 : Hid _ := HM4.out.at HB1.out (by simp)
        have HI4 : Hid _ := hI4
        have HO1 : Hid (OkM S1) := ok1
        have HCA : Hid (S1.ca = S.ca) := hca
        have HXS : Hid (S1.xs = S.xs) := hxs
        have HDB : Hid (Bare D ∧ rAns D = true) := ⟨hDb, hDr⟩
        clear hmk hI4 hD hS1 ok1 hca hDb hDr hxs
        go_wp2_with (with_reducible refine stopLoad _ rfl ?_)
        unfold Hid
        refine wpList_loadCmd rfl _ rfl B1 rfl _ HB14.out rfl ?_
        go_wp2_with fail
        refine hbg.mono ?_
        rintro _ w5 ⟨rfl, hI5, m5⟩
        have hlt := HI4.out.lt
        have hp4 : p < w3.heap.size := HI3.out.lt.1
        have hpB : p ≠ B1 + 1 := by have := HI.out.lt.1; have := HSZ.out; omega
        have b5 := m5.at HB4.out (by simpa using fun e => hpB e.symm)
        have HI5 : Hid (MrIs W w5 p q c a S1) := hI5
        have HM5 : Hid (Moves [p] w4 w5) := m5
        have HB5 : Hid _ := b5
        clear hbg m5 hI5 b5 hlt hp4 hpB HB4
        go_wp2_with (with_reducible refine stopA _ _ rfl ?_)
        unfold Hid
        have hz := heap_alloc_new w5 (.cells #[.int .i64 0, .slice none 0 0, .string ⟨#[]⟩, .string ⟨#[]⟩, .int .i64 0, .int .i64 0, .int .i64 0, .int .i64 0, .int .i64 0, .string ⟨#[]⟩, .slice none 0 0] 48)
        have mz : Moves [] w5 (w5.alloc (.cells #[.int .i64 0, .slice none 0 0, .string ⟨#[]⟩, .string ⟨#[]⟩, .int .i64 0, .int .i64 0, .int .i64 0, .int .i64 0, .int .i64 0, .string ⟨#[]⟩, .slice none 0 0] 48)) := (Moves.refl _ _).alloc _
        refine wpList_storeAns rfl _ _ rfl w5.heap.size (ansV D).toList rfl rfl rfl (ansV_one D) hz rfl ?_
        intro w6 h6 m6
        have M56 : Moves [] w5 w6 := mz.trans m6 (fun x hx => .inr (by simp at hx; omega))
        have b6 := M56.at HB5.out (by simp)
        have hB5 : w5.heap.size < w6.heap.size := lt_of_block h6
        obtain ⟨B5, hB5e⟩ : ∃ B5, w5.heap.size = B5 := ⟨_, rfl⟩
        rw [hB5e] at h6 hB5
        rw [hB5e]
        have HB5e : Hid (w5.heap.size = B5) := hB5e
        have H6 : Hid _ := h6
        have HM56 : Hid _ := M56
        have HB6 : Hid _ := b6
        clear hz mz m6 M56 b6 h6 hB5 hB5e HB5
        go_wp2_with (with_reducible refine stopLA _ rfl ?_)
        unfold Hid
        refine wpList_loadAns rfl _ rfl B5 rfl (ansV D).toList H6.out rfl ?_
        have hkp := mkeep_w W w6 p q c a S1 (HI5.out.moves0 HM56.out) HO1.out (by have := HWW.out; have := HM4.out.size; have := HM5.out.size; have := HM56.out.size; omega) cl sq D HDB.out.1 HDB.out.2 HMM.out.1 HMM.out.2.1 H1.out HMM.out.2.2
        go_wp2_with fail
        refine hkp.mono ?_
        rintro _ w7 ⟨rfl, a', hG⟩
        have hI6 := HI5.out.moves0 HM56.out
        have hl5 := HI5.out.lt
        have hl3 := HI.out.lt
        have nB5 : B5 ∉ p :: q :: c :: a.toList := by
          intro hm
          have e := HB5e.out
          simp only [List.mem_cons] at hm
          rcases hm with e1 | e1 | e1 | e1
          · omega
          · omega
          · omega
          · have := hl5.2.2.2 _ (Option.mem_toList.1 e1); omega
        have nB1 : B1 + 1 ∉ p :: q :: c :: a.toList := by
          intro hm
          have e := HSZ.out
          simp only [List.mem_cons] at hm
          rcases hm with e1 | e1 | e1 | e1
          · omega
          · omega
          · omega
          · have := hl3.2.2.2 _ (Option.mem_toList.1 e1); omega
        have b7 := hG.mv.at HB6.out nB1
        have h7 := hG.mv.at H6.out nB5
        have hG4 : MrG W w4 p q c a S w5 a S1 := MrG.wrote HI4.out HI5.out HM5.out HXS.out
        have hG3 : MrG W w3 p q c a S w7 a' R.2 := by
          rw [HE2.out, ← HCA.out]
          exact (((MrG.same HI3.out HM4.out).step hG4).step (MrG.same HI5.out HM56.out)).step hG
        have HG3 : Hid _ := hG3
        clear hkp hI6 hl5 hl3 nB5 nB1 hG hG4 hG3
        go_wp2_with (with_reducible refine stopLA _ rfl ?_)
        unfold Hid
        refine wpList_loadAns rfl _ rfl B5 rfl (ansV D).toList h7 rfl ?_
        go_wp2_with (with_reducible refine stopA _ _ rfl ?_)
        unfold Hid
        refine wpList_storeAns rfl _ _ rfl (B1 + 1) (ansV D).toList rfl rfl rfl (ansV_one D) b7 rfl ?_
        intro w99 h99 m99
        go_wp2_with fail
        refine bodyPost_ret (ret_ansL rfl _ _ _ _ rfl rfl h99) rfl ?_
        exact HFIN.out w7 w99 a' _ (by rw [HE1.out]; exact ansC_bare HDB.out.1) HG3.out m99
      · rw [decide_eq_false hm] at hmk
        have HE1 : Hid (R.1 = pTold 27) := by unfold Hid; rw [← HR.out, if_neg hn2, if_pos (.inr hm)]
        have HE2 : Hid (R.2 = S) := by unfold Hid; rw [← HR.out, if_neg hn2, if_pos (.inr hm)]
        clear hn2 HB HK hm
        go_wp2_with fail
        refine (hmk _).mono ?_
        rintro _ _ ⟨rfl, rfl⟩
        go_wp2_with fail
        refine (mtold_w 27 _).mono ?_
        rintro _ w5 ⟨rfl, m5⟩
        have b5 := m5.at HB4.out (by simp)
        go_wp2_with (with_reducible refine stopA _ _ rfl ?_)
        unfold Hid
        refine wpList_storeAns rfl _ _ rfl (B1 + 1) (ansV (pTold 27)).toList rfl rfl rfl (ansV_one _) b5 rfl ?_
        intro w99 h99 m99
        go_wp2_with fail
        refine bodyPost_ret (ret_ansL rfl _ _ _ _ rfl rfl h99) rfl ?_
        refine HFIN.out w5 w99 a _ (by rw [HE1.out]; exact ansC_bare ⟨rfl, rfl⟩) ?_ m99
        rw [HE2.out]
        exact MrG.same HI3.out (HM4.out.then m5)
    · obtain ⟨A, hb, hr, hs, hm⟩ := HAG.out HK.out
      have HE1 : Hid (R.1 = A) := by unfold Hid; rw [← HR.out, if_pos HK.out, ← hm]
      have HE2 : Hid (R.2 = S) := by unfold Hid; rw [← HR.out, if_pos HK.out]
      have hde := cdecA_w 1000 (.slice ad n cap) g (encA A) w4 (by rw [← hs]; exact HB.out) ⟨(encA_bare_len hb hr).1, (encA_bare_len hb hr).2⟩ (by have := HPOS.out; have := HM4.out.size; omega)
      rw [dWhole_bare hb hr] at hde
      clear hb hr hs hm HB HK
      go_wp2_with fail
      refine hde.mono ?_
      rintro _ w5 ⟨cs, rfl, hA, m5⟩
      have HL : Hid _ := hA.len
      have HA : Hid (AnsC w5 cs A) := hA
      have b5 := m5.at HB4.out (by simp)
      clear hde hA HB4
      go_wp2_with (with_reducible refine stopA _ _ rfl ?_)
      unfold Hid
      have hz := heap_alloc_new w5 (.cells #[.int .i64 0, .slice none 0 0, .string ⟨#[]⟩, .string ⟨#[]⟩, .int .i64 0, .int .i64 0, .int .i64 0, .int .i64 0, .int .i64 0, .string ⟨#[]⟩, .slice none 0 0] 48)
      have mz : Moves [] w5 (w5.alloc (.cells #[.int .i64 0, .slice none 0 0, .string ⟨#[]⟩, .string ⟨#[]⟩, .int .i64 0, .int .i64 0, .int .i64 0, .int .i64 0, .int .i64 0, .string ⟨#[]⟩, .slice none 0 0] 48)) := (Moves.refl _ _).alloc _
      refine wpList_storeAns rfl _ _ rfl w5.heap.size cs rfl rfl HL.out.1 HL.out.2 hz rfl ?_
      intro w6 h6 m6
      have M56 : Moves [] w5 w6 := mz.trans m6 (fun x hx => .inr (by simp at hx; omega))
      have b6 := M56.at b5 (by simp)
      have M36 : Hid (Moves [] w3 w6) := (HM4.out.then m5).then M56
      have H6 : Hid _ := h6
      clear hz mz m6 M56 m5 b5 h6
      generalize w5.heap.size = B5 at *
      go_wp2_with (with_reducible refine stopLA _ rfl ?_)
      unfold Hid
      refine wpList_loadAns rfl _ rfl B5 rfl cs H6.out HL.out.1 ?_
      go_wp2_with (with_reducible refine stopA _ _ rfl ?_)
      unfold Hid
      refine wpList_storeAns rfl _ _ rfl (B1 + 1) cs rfl rfl HL.out.1 HL.out.2 b6 rfl ?_
      intro w99 h99 m99
      go_wp2_with fail
      refine bodyPost_ret (ret_ansL rfl _ _ _ _ HL.out.1 rfl h99) rfl ?_
      refine HFIN.out w6 w99 a cs (by rw [HE1.out]; exact HA.out.bare (by rw [← HE1.out]; exact HBR.out)) ?_ m99
      rw [HE2.out]
      exact MrG.same HI3.out M36.out
    · have HE1 : Hid (R.1 = pTold 27) := by unfold Hid; rw [← HR.out, if_neg (by rw [HK.out]; decide), if_pos (.inl HK.out)]
      have HE2 : Hid (R.2 = S) := by unfold Hid; rw [← HR.out, if_neg (by rw [HK.out]; decide), if_pos (.inl HK.out)]
      clear HB HK
      go_wp2_with fail
      refine (mtold_w 27 _).mono ?_
      rintro _ w5 ⟨rfl, m5⟩
      have b5 := m5.at HB4.out (by simp)
      go_wp2_with (with_reducible refine stopA _ _ rfl ?_)
      unfold Hid
      refine wpList_storeAns rfl _ _ rfl (B1 + 1) (ansV (pTold 27)).toList rfl rfl rfl (ansV_one _) b5 rfl ?_
      intro w99 h99 m99
      go_wp2_with fail
      refine bodyPost_ret (ret_ansL rfl _ _ _ _ rfl rfl h99) rfl ?_
      refine HFIN.out w5 w99 a _ (by rw [HE1.out]; exact ansC_bare ⟨rfl, rfl⟩) ?_ m99
      rw [HE2.out]
      exact MrG.same HI3.out (HM4.out.then m5)
end Go.Proofs.YtilbbnmhnacnlaaGreat
