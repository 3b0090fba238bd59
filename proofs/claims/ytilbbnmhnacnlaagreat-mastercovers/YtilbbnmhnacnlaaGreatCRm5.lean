/- ours -/
import Derived.Test.YtilbbnmhnacnlaaGreatCRm4
namespace Go.Proofs.YtilbbnmhnacnlaaGreat
open Go.RowKit

theorem strOf_sz (bs : List Nat) : (strOf bs).size = bs.length := by
  show (Array.size _) = _
  simp
theorem Tryz.size77 : (Tryz.prog.info? 77).map (·.size) = some 1 := by kernel_rfl
theorem ca_fin (v cv cv' : Value) (S : Pms) (ca : List Pt) : ((rmCells v cv S).toList.take 15 ++ [cv'] ++ (rmCells v cv S).toList.drop (15 + [cv'].length)).toArray = rmCells v cv' { S with ca := ca } := by
  simp [rmCells]
set_option maxRecDepth 100000 in
set_option maxHeartbeats 16000000 in
theorem rmdo_w (w : World) (r : Nat) (S : Pms) (h : RmIs w r S) (ok : OkM S) (hl : S.last < 1073741824) (q : Int) (C : Pcmd) (ca : Option Addr) (cn cc : Nat) (la : Option Addr) (ln lc : Nat) (sa : Option Addr) (sn sc : Nat) (hq : lookT (ofT S.ca 1) q = 1) (hq2 : q ≤ 1073741824) :
    Calls Tryz.prog 9 #[.pointer (some ⟨r, 0, none⟩), .int .i64 1, .int .i64 q, .agg #[.int .i64 C.kind, .int .i64 C.op.kind, .string C.op.row, .string C.op.hi, .bool C.op.cd.has, .bool C.op.cd.want, .string C.op.cd.col, .int .i64 C.op.cd.v.kind, .slice ca cn cc, .float .f64 C.op.cd.v.n, .slice la ln lc, .int .i64 C.op.most, .string C.lo, .string C.hi, .int .i64 C.gen, .string C.at', .int .i64 C.to, .int .i64 C.act, .slice sa sn sc]] w fun e w' => ∃ A, e = .returned (.agg (ansV A)) ∧ A = (mDo S 1 q C).1 ∧ RmIs w' r (mDo S 1 q C).2 ∧ Moves [r] w w' := by
  have a1 := heap_alloc_new w (.cells #[.int .i64 C.kind, .int .i64 C.op.kind, .string C.op.row, .string C.op.hi, .bool C.op.cd.has, .bool C.op.cd.want, .string C.op.cd.col, .int .i64 C.op.cd.v.kind, .slice ca cn cc, .float .f64 C.op.cd.v.n, .slice la ln lc, .int .i64 C.op.most, .string C.lo, .string C.hi, .int .i64 C.gen, .string C.at', .int .i64 C.to, .int .i64 C.act, .slice sa sn sc] 39)
  obtain ⟨w2, hw2⟩ : ∃ w2, w.alloc (.cells #[.int .i64 C.kind, .int .i64 C.op.kind, .string C.op.row, .string C.op.hi, .bool C.op.cd.has, .bool C.op.cd.want, .string C.op.cd.col, .int .i64 C.op.cd.v.kind, .slice ca cn cc, .float .f64 C.op.cd.v.n, .slice la ln lc, .int .i64 C.op.most, .string C.lo, .string C.hi, .int .i64 C.gen, .string C.at', .int .i64 C.to, .int .i64 C.act, .slice sa sn sc] 39) = w2 := ⟨_, rfl⟩
  have s2 : w2.heap.size = w.heap.size + 1 := by rw [← hw2]; simp
  have n2 : Moves [] w w2 := by rw [← hw2]; exact (Moves.refl _ _).alloc _
  rw [hw2] at a1
  have a2 := heap_alloc_new w2 (.cells #[.int .i64 0, .slice none 0 0, .string ⟨#[]⟩, .string ⟨#[]⟩, .int .i64 0, .int .i64 0, .int .i64 0, .int .i64 0, .int .i64 0, .string ⟨#[]⟩, .slice none 0 0] 48)
  obtain ⟨w3, hw3⟩ : ∃ w3, w2.alloc (.cells #[.int .i64 0, .slice none 0 0, .string ⟨#[]⟩, .string ⟨#[]⟩, .int .i64 0, .int .i64 0, .int .i64 0, .int .i64 0, .int .i64 0, .string ⟨#[]⟩, .slice none 0 0] 48) = w3 := ⟨_, rfl⟩
  have n3 : Moves [] w2 w3 := by rw [← hw3]; exact (Moves.refl _ _).alloc _
  rw [hw3] at a2
  have m03 := n2.then n3
  have b1 := n3.at a1 (by simp)
  rw [s2] at a2
  obtain ⟨B1, hB1⟩ : ∃ B1, w.heap.size = B1 := ⟨_, rfl⟩
  rw [hB1] at b1 a2
  have HM : Hid (Moves [] w w3) := m03
  have HR : Hid (RmIs w3 r S) := h.moves0 m03
  have HL : Hid (r < w.heap.size) := h.lt
  obtain ⟨y0, -, -, -, -, -, -, -, -, -, -, -, -, -, -, y15, -, y17, -⟩ := c19 b1
  have HB1 : Hid _ := b1
  have HA2 : Hid _ := a2
  have HSZ : Hid (w.heap.size = B1) := hB1
  have HSZ3 : Hid (B1 + 1 < w3.heap.size) := lt_of_block a2
  have HOK : Hid (OkM S) := ok
  obtain ⟨R, hR⟩ : ∃ R, mDo S 1 q C = R := ⟨_, rfl⟩
  rw [hR]
  unfold mDo at hR
  have hfin : ∀ (u z : World) (A : Pans) (S' : Pms), R = (A, S') → RmIs u r S' → Moves [r] w3 u → Moves [B1 + 1] u z → ∃ A', Ending.returned (.agg (ansV A)) = Ending.returned (.agg (ansV A')) ∧ A' = R.1 ∧ RmIs z r R.2 ∧ Moves [r] w z := by
    intro u z A S' e hI hm hz
    subst e
    refine ⟨A, rfl, rfl, ?_, (HM.out.mono (by simp)).then hm |>.trans hz (fun x hx => .inr (by have := HSZ.out; simp at hx; omega))⟩
    refine hI.moves hz (fun k hk c t fz hc => ?_)
    simp at hk
    subst hk
    have hb := hm.at HA2.out (by simp; have := HL.out; have := HSZ.out; omega)
    rw [hb] at hc
    simp at hc
    rw [← hc.2.1]
    decide
  have HFIN : Hid _ := hfin
  clear hfin b1 a2 ok h n2 n3 m03 a1
  by_cases k7 : C.kind = 7
  · have hright := fun w9 => rright7_w w9 C ca cn cc la ln lc sa sn sc k7
    rw [if_pos (by omega)] at hR
    have e7 : (C.kind == 7) = true := beq_iff_eq.2 k7
    cases hr : rCmd C with
    | false =>
      rw [hr] at hright hR
      have HRR : Hid (R = (pTold 1, S)) := hR.symm
      clear hR hr k7
      go_enter Tryz.func9, Tryz.ntmps9
      go_wp2_with (with_reducible refine stopLoad _ rfl ?_)
      try rw [hw2]
      try rw [hw3]
      try rw [s2]
      try rw [hB1]
      unfold Hid
      refine wpList_wanted (by rfl) ?_
      refine wpList_loadCmd rfl _ rfl B1 rfl _ HB1.out rfl ?_
      go_wp2_with fail
      refine (hright _).mono ?_
      rintro _ w9 ⟨rfl, m9⟩
      have HX : Hid (Moves [] w3 w9) := m9
      go_wp2_with (with_reducible refine stopA _ _ rfl ?_)
      unfold Hid
      refine wpList_storeAns rfl _ _ rfl (B1 + 1) (ansV (pTold 1)).toList rfl rfl rfl (ansV_one _) (HX.out.at HA2.out (by simp)) rfl ?_
      intro w99 h99 m99
      go_wp2_with fail
      refine bodyPost_ret (ret_ansL rfl _ _ _ _ rfl rfl h99) rfl ?_
      exact HFIN.out _ _ _ _ HRR.out (HR.out.moves0 HX.out) (HX.out.mono (by simp)) m99
    | true =>
      rw [hr] at hright hR
      rw [if_neg (by simp), if_pos k7] at hR
      have HRR : Hid (R = (pLoc (mTb S.xs C.at'), S)) := hR.symm
      obtain ⟨v, cv, m, k1, k2, k3, k4⟩ := HR.out
      obtain ⟨x0, -, -, -, -⟩ := rm_cells k1
      have HK2 : Hid (OwnT w3 v S.xs) := k2
      have hfind := fun w4 (mv : Moves [] w3 w4) => rmfind_w w4 r (v.ownBlock.getD 0) v S.xs (mv.cell x0) ((HK2.out.moves mv (by simp)).tbl (fun k hk => by rw [hk]; rfl)) HOK.out.cov HOK.out.few C.at'
      obtain ⟨ad, n, cap, rfl, hn⟩ := HK2.out.open
      obtain ⟨ix, hix⟩ : ∃ i, mIx S.xs C.at' = i := ⟨_, rfl⟩
      have hget := mTb_get HOK.out.cov C.at'
      obtain ⟨t, ht⟩ : ∃ t, mTb S.xs C.at' = t := ⟨_, rfl⟩
      rw [hix, ht] at hget
      rw [ht] at HRR
      rw [hix] at hfind
      have hixl : ix < n := by rw [hn.out]; exact (List.getElem?_eq_some_iff.1 hget).1
      have hn16 : n ≤ 16 := by rw [hn.out]; exact HOK.out.few
      obtain ⟨off, hva, tb0, tb1, tb2, tb3⟩ := (HK2.out.tbl (g := (Value.slice ad n cap).ownBlock.getD 0) (fun k hk => by rw [hk]; rfl)).at hget
      obtain ⟨G, hG⟩ : ∃ G, (Value.slice ad n cap).ownBlock.getD 0 = G := ⟨_, rfl⟩
      rw [hG] at hva tb0 tb1 tb2 tb3
      clear hG
      subst hva
      have hixl' : (ix : Int) < n := by omega
      clear hR hr k7 k1 k2 k3 k4 hget hix ht y17 HK2
      go_enter Tryz.func9, Tryz.ntmps9
      go_wp2_with (with_reducible refine stopLoad _ rfl ?_)
      try rw [hw2]
      try rw [hw3]
      try rw [s2]
      try rw [hB1]
      unfold Hid
      refine wpList_wanted (by rfl) ?_
      refine wpList_loadCmd rfl _ rfl B1 rfl _ HB1.out rfl ?_
      go_wp2_with fail
      refine (hright _).mono ?_
      rintro _ w9 ⟨rfl, m9⟩
      have HX9 : Hid (Moves [] w3 w9) := m9
      replace hfind := fun w4 (mv : Moves [] w9 w4) => hfind w4 (HX9.out.then mv)
      replace y0 := m9.cell y0
      replace y15 := m9.cell y15
      replace x0 := m9.cell x0
      replace tb0 := m9.cell tb0
      replace tb1 := m9.cell tb1
      replace tb2 := m9.cell tb2
      replace tb3 := m9.cell tb3
      clear m9 hright hw2 hw3 s2 hB1
      go_wp2_with fail
      refine wp_region_noPanic ?_
      refine wp_region_held_drew (S := (fun w' => w'.cell? ⟨r, 0, none⟩ = some (.slice (some ⟨G, off, none⟩) n cap) ∧ w'.cell? ⟨B1, 15, none⟩ = some (.string C.at') ∧ w'.cell? ⟨G, off + ix * 4, none⟩ = some (.string t.lo) ∧ w'.cell? ⟨G, off + ix * 4 + 1, none⟩ = some (.string t.hi) ∧ w'.cell? ⟨G, off + ix * 4 + 2, none⟩ = some (.int .i64 t.g) ∧ w'.cell? ⟨G, off + ix * 4 + 3, none⟩ = some (.int .i64 t.n))) (by kernel_rfl) ?_ (fun hHeld => ?_)
      · first | (go_keep; done) | first | exact ⟨x0, y15, tb0, tb1, tb2, tb3⟩ | exact ⟨mz.cell x0, mz.cell y15, mz.cell tb0, mz.cell tb1, mz.cell tb2, mz.cell tb3⟩ | exact ⟨mD.cell x0, mD.cell y15, mD.cell tb0, mD.cell tb1, mD.cell tb2, mD.cell tb3⟩ | exact ⟨mF.cell x0, mF.cell y15, mF.cell tb0, mF.cell tb1, mF.cell tb2, mF.cell tb3⟩ | exact ⟨mA.cell x0, mA.cell y15, mA.cell tb0, mA.cell tb1, mA.cell tb2, mA.cell tb3⟩
      refine wpT 0 ⟨some 38, .move (.tmp 0), 25, "ref.go:41", #[], none⟩ ?_
      refine wpT 1 ⟨some 39, .nilCheck (.tmp 38), 0, "ref.go:41", #[⟨0, .data⟩], none⟩ ?_
      refine wpT 2 ⟨some 40, .fieldAddr 79 (.tmp 39) 0, 0, "ref.go:41", #[⟨1, .data⟩], none⟩ ?_
      refine wpT 3 ⟨some 41, .load 51 (.tmp 40), 51, "ref.go:41", #[⟨2, .data⟩], none⟩ ?_
      refine wpT 4 ⟨some 42, .move (.tmp 0), 25, "ref.go:41", #[], none⟩ ?_
      refine wpT 5 ⟨some 43, .fieldAddr 39 (.tmp 7) 4, 0, "ref.go:41", #[], none⟩ ?_
      refine wpT 6 ⟨some 44, .load 9 (.tmp 43), 9, "ref.go:41", #[⟨5, .data⟩], none⟩ ?_
      refine wpAnyH_ready (rs := [7, 10]) (by kernel_rfl) (by simp) ?_
      refine AllReadyH.cons (o := ⟨some 45, .call ⟨.value (.func 26), #[.tmp 42, .tmp 44], #[25, 9]⟩, 3, "ref.go:41", #[⟨4, .data⟩, ⟨6, .data⟩], none⟩) rfl (fun K hK => ?_) (AllReadyH.cons (o := ⟨some 9, .alloc 54, 0, "ref.go:41", #[], none⟩) rfl (fun K hK => ?_) AllReadyH.nil)
      · go_simp
        go_at_call 26
        refine (hfind _ (Moves.refl [] w9).drew).mono ?_
        rintro _ wC ⟨rfl, mC⟩
        have mF : Moves [] w9 wC := (Moves.refl [] w9).drew.then mC
        refine hK.out _ _ ?_ (fun hHeld => ?_)
        · first | exact ⟨x0, y15, tb0, tb1, tb2, tb3⟩ | exact ⟨mz.cell x0, mz.cell y15, mz.cell tb0, mz.cell tb1, mz.cell tb2, mz.cell tb3⟩ | exact ⟨mD.cell x0, mD.cell y15, mD.cell tb0, mD.cell tb1, mD.cell tb2, mD.cell tb3⟩ | exact ⟨mF.cell x0, mF.cell y15, mF.cell tb0, mF.cell tb1, mF.cell tb2, mF.cell tb3⟩ | exact ⟨mA.cell x0, mA.cell y15, mA.cell tb0, mA.cell tb1, mA.cell tb2, mA.cell tb3⟩
        clear hK K
        try simp only [Act.put, sp1, sp2, sp3]
        refine wpT 8 ⟨some 46, .indexAddr 51 (.tmp 41) (.tmp 45), 0, "ref.go:41", #[⟨3, .data⟩, ⟨7, .data⟩], none⟩ ?_
        refine wpT 9 ⟨some 47, .load 54 (.tmp 46), 54, "ref.go:41", #[⟨8, .data⟩], none⟩ ?_
        refine wpR 10 ⟨some 9, .alloc 54, 0, "ref.go:41", #[], none⟩ (fun K hK => ?_)
        go_simp
        have hbF : (wC.alloc (.cells #[.string ⟨#[]⟩, .string ⟨#[]⟩, .int .i64 0, .int .i64 0] 54)).heap[wC.heap.size]? = some (.cells #[.string ⟨#[]⟩, .string ⟨#[]⟩, .int .i64 0, .int .i64 0] 54 (0, 0)) := heap_alloc_new wC _
        obtain ⟨wD, hwD⟩ : ∃ wD, wC.alloc (.cells #[.string ⟨#[]⟩, .string ⟨#[]⟩, .int .i64 0, .int .i64 0] 54) = wD := ⟨_, rfl⟩
        have mD : Moves [] w9 wD := by rw [← hwD]; exact mF.alloc _
        rw [hwD] at hbF
        try rw [hwD]
        obtain ⟨BT, hBT⟩ : ∃ BT, wC.heap.size = BT := ⟨_, rfl⟩
        have hBT9 : w9.heap.size ≤ BT := by rw [← hBT]; exact mF.size
        rw [hBT] at hbF
        try rw [hBT]
        clear hwD hBT
        refine hK.out _ _ ?_ (fun hHeld => ?_)
        · first | exact ⟨x0, y15, tb0, tb1, tb2, tb3⟩ | exact ⟨mz.cell x0, mz.cell y15, mz.cell tb0, mz.cell tb1, mz.cell tb2, mz.cell tb3⟩ | exact ⟨mD.cell x0, mD.cell y15, mD.cell tb0, mD.cell tb1, mD.cell tb2, mD.cell tb3⟩ | exact ⟨mF.cell x0, mF.cell y15, mF.cell tb0, mF.cell tb1, mF.cell tb2, mF.cell tb3⟩ | exact ⟨mA.cell x0, mA.cell y15, mA.cell tb0, mA.cell tb1, mA.cell tb2, mA.cell tb3⟩
        clear hK K
        try simp only [Act.put, sp1, sp2, sp3]
        refine wpR 11 ⟨none, .store 54 (.tmp 9) (.tmp 47), 0, "ref.go:41", #[⟨10, .data⟩, ⟨9, .data⟩, ⟨7, .chain⟩, ⟨0, .phase⟩, ⟨1, .phase⟩, ⟨2, .phase⟩, ⟨3, .phase⟩, ⟨4, .phase⟩, ⟨5, .phase⟩, ⟨6, .phase⟩, ⟨7, .phase⟩, ⟨8, .phase⟩, ⟨9, .phase⟩, ⟨10, .phase⟩], none⟩ (fun K hK => ?_)
        refine store_step 54 _ _ rfl BT 0 _ [.string t.lo, .string t.hi, .int .i64 t.g, .int .i64 t.n] rfl rfl rfl Tryz.size54 (by rfl) hbF (by show 4 ≤ 4; omega) (by simp [Value.oneCell']) #[.string t.lo, .string t.hi, .int .i64 t.g, .int .i64 t.n] rfl ?_
        intro wz hz mz0
        have mz : Moves [] w9 wz := mD.trans mz0 (fun x hx => .inr (by simp at hx; omega))
        refine hK.out _ _ ?_ (fun hHeld => ?_)
        · first | exact ⟨x0, y15, tb0, tb1, tb2, tb3⟩ | exact ⟨mz.cell x0, mz.cell y15, mz.cell tb0, mz.cell tb1, mz.cell tb2, mz.cell tb3⟩ | exact ⟨mD.cell x0, mD.cell y15, mD.cell tb0, mD.cell tb1, mD.cell tb2, mD.cell tb3⟩ | exact ⟨mF.cell x0, mF.cell y15, mF.cell tb0, mF.cell tb1, mF.cell tb2, mF.cell tb3⟩ | exact ⟨mA.cell x0, mA.cell y15, mA.cell tb0, mA.cell tb1, mA.cell tb2, mA.cell tb3⟩
        clear hK K
        refine wpAnyH_done (by kernel_rfl) ?_ _
        refine NoPanic.normal ?_
        have HX : Hid (Moves [] w3 wz) := HX9.out.then mz
        obtain ⟨t0, t1, t2, t3, _, _, _, _⟩ := four_cells hz
        clear x0 tb0 tb1 tb2 tb3 y0 y15 mz hz
        go_wp2_with (with_reducible refine stopA _ _ rfl ?_)
        unfold Hid
        refine wpList_storeAns rfl _ _ rfl (B1 + 1) (ansV (pLoc t)).toList rfl rfl rfl (ansV_one _) (HX.out.at HA2.out (by simp)) rfl ?_
        intro w99 h99 m99
        go_wp2_with fail
        refine bodyPost_ret (ret_ansL rfl _ _ _ _ rfl rfl h99) rfl ?_
        exact HFIN.out _ _ _ _ HRR.out (HR.out.moves0 HX.out) (HX.out.mono (by simp)) m99
      · go_simp
        have hbA : ((w9.alloc (.cells #[.string ⟨#[]⟩, .string ⟨#[]⟩, .int .i64 0, .int .i64 0] 54)).drew).heap[w9.heap.size]? = some (.cells #[.string ⟨#[]⟩, .string ⟨#[]⟩, .int .i64 0, .int .i64 0] 54 (0, 0)) := heap_alloc_new w9 _
        obtain ⟨wA, hwA⟩ : ∃ wA, (w9.alloc (.cells #[.string ⟨#[]⟩, .string ⟨#[]⟩, .int .i64 0, .int .i64 0] 54)).drew = wA := ⟨_, rfl⟩
        have mA : Moves [] w9 wA := by rw [← hwA]; exact ((Moves.refl _ _).alloc _).drew
        rw [hwA] at hbA
        try rw [hwA]
        obtain ⟨BT, hBT⟩ : ∃ BT, w9.heap.size = BT := ⟨_, rfl⟩
        have hBT9 : w9.heap.size ≤ BT := by rw [← hBT]; exact Nat.le_refl _
        rw [hBT] at hbA
        try rw [hBT]
        clear hwA hBT
        refine hK.out _ _ ?_ (fun hHeld => ?_)
        · first | exact ⟨x0, y15, tb0, tb1, tb2, tb3⟩ | exact ⟨mz.cell x0, mz.cell y15, mz.cell tb0, mz.cell tb1, mz.cell tb2, mz.cell tb3⟩ | exact ⟨mD.cell x0, mD.cell y15, mD.cell tb0, mD.cell tb1, mD.cell tb2, mD.cell tb3⟩ | exact ⟨mF.cell x0, mF.cell y15, mF.cell tb0, mF.cell tb1, mF.cell tb2, mF.cell tb3⟩ | exact ⟨mA.cell x0, mA.cell y15, mA.cell tb0, mA.cell tb1, mA.cell tb2, mA.cell tb3⟩
        clear hK K
        try simp only [Act.put, sp1, sp2, sp3]
        refine wpR 7 ⟨some 45, .call ⟨.value (.func 26), #[.tmp 42, .tmp 44], #[25, 9]⟩, 3, "ref.go:41", #[⟨4, .data⟩, ⟨6, .data⟩], none⟩ (fun K hK => ?_)
        go_simp
        go_at_call 26
        refine (hfind _ mA).mono ?_
        rintro _ wC ⟨rfl, mC⟩
        have mF : Moves [] w9 wC := mA.then mC
        have hbF := mC.at hbA (by simp)
        refine hK.out _ _ ?_ (fun hHeld => ?_)
        · first | exact ⟨x0, y15, tb0, tb1, tb2, tb3⟩ | exact ⟨mz.cell x0, mz.cell y15, mz.cell tb0, mz.cell tb1, mz.cell tb2, mz.cell tb3⟩ | exact ⟨mD.cell x0, mD.cell y15, mD.cell tb0, mD.cell tb1, mD.cell tb2, mD.cell tb3⟩ | exact ⟨mF.cell x0, mF.cell y15, mF.cell tb0, mF.cell tb1, mF.cell tb2, mF.cell tb3⟩ | exact ⟨mA.cell x0, mA.cell y15, mA.cell tb0, mA.cell tb1, mA.cell tb2, mA.cell tb3⟩
        clear hK K
        try simp only [Act.put, sp1, sp2, sp3]
        refine wpT 8 ⟨some 46, .indexAddr 51 (.tmp 41) (.tmp 45), 0, "ref.go:41", #[⟨3, .data⟩, ⟨7, .data⟩], none⟩ ?_
        refine wpT 9 ⟨some 47, .load 54 (.tmp 46), 54, "ref.go:41", #[⟨8, .data⟩], none⟩ ?_
        refine wpR 11 ⟨none, .store 54 (.tmp 9) (.tmp 47), 0, "ref.go:41", #[⟨10, .data⟩, ⟨9, .data⟩, ⟨7, .chain⟩, ⟨0, .phase⟩, ⟨1, .phase⟩, ⟨2, .phase⟩, ⟨3, .phase⟩, ⟨4, .phase⟩, ⟨5, .phase⟩, ⟨6, .phase⟩, ⟨7, .phase⟩, ⟨8, .phase⟩, ⟨9, .phase⟩, ⟨10, .phase⟩], none⟩ (fun K hK => ?_)
        refine store_step 54 _ _ rfl BT 0 _ [.string t.lo, .string t.hi, .int .i64 t.g, .int .i64 t.n] rfl rfl rfl Tryz.size54 (by rfl) hbF (by show 4 ≤ 4; omega) (by simp [Value.oneCell']) #[.string t.lo, .string t.hi, .int .i64 t.g, .int .i64 t.n] rfl ?_
        intro wz hz mz0
        have mz : Moves [] w9 wz := mF.trans mz0 (fun x hx => .inr (by simp at hx; omega))
        refine hK.out _ _ ?_ (fun hHeld => ?_)
        · first | exact ⟨x0, y15, tb0, tb1, tb2, tb3⟩ | exact ⟨mz.cell x0, mz.cell y15, mz.cell tb0, mz.cell tb1, mz.cell tb2, mz.cell tb3⟩ | exact ⟨mD.cell x0, mD.cell y15, mD.cell tb0, mD.cell tb1, mD.cell tb2, mD.cell tb3⟩ | exact ⟨mF.cell x0, mF.cell y15, mF.cell tb0, mF.cell tb1, mF.cell tb2, mF.cell tb3⟩ | exact ⟨mA.cell x0, mA.cell y15, mA.cell tb0, mA.cell tb1, mA.cell tb2, mA.cell tb3⟩
        clear hK K
        refine wpAnyH_done (by kernel_rfl) ?_ _
        refine NoPanic.normal ?_
        have HX : Hid (Moves [] w3 wz) := HX9.out.then mz
        obtain ⟨t0, t1, t2, t3, _, _, _, _⟩ := four_cells hz
        clear x0 tb0 tb1 tb2 tb3 y0 y15 mz hz
        go_wp2_with (with_reducible refine stopA _ _ rfl ?_)
        unfold Hid
        refine wpList_storeAns rfl _ _ rfl (B1 + 1) (ansV (pLoc t)).toList rfl rfl rfl (ansV_one _) (HX.out.at HA2.out (by simp)) rfl ?_
        intro w99 h99 m99
        go_wp2_with fail
        refine bodyPost_ret (ret_ansL rfl _ _ _ _ rfl rfl h99) rfl ?_
        exact HFIN.out _ _ _ _ HRR.out (HR.out.moves0 HX.out) (HX.out.mono (by simp)) m99
  · by_cases k8 : C.kind = 8
    · have hright := fun w9 => rright8_w w9 C ca cn cc la ln lc sa sn sc k8
      rw [if_pos (by omega)] at hR
      have e7 : (C.kind == 7) = false := beq_eq_false_iff_ne.2 k7
      have e8 : (C.kind == 8) = true := beq_iff_eq.2 k8
      cases hr : rCmd C with
      | false =>
        rw [hr] at hright hR
        have HRR : Hid (R = (pTold 1, S)) := hR.symm
        clear hR hr k7 k8
        go_enter Tryz.func9, Tryz.ntmps9
        go_wp2_with (with_reducible refine stopLoad _ rfl ?_)
        try rw [hw2]
        try rw [hw3]
        try rw [s2]
        try rw [hB1]
        unfold Hid
        refine wpList_wanted (by rfl) ?_
        refine wpList_loadCmd rfl _ rfl B1 rfl _ HB1.out rfl ?_
        go_wp2_with fail
        refine (hright _).mono ?_
        rintro _ w9 ⟨rfl, m9⟩
        have HX : Hid (Moves [] w3 w9) := m9
        go_wp2_with (with_reducible refine stopA _ _ rfl ?_)
        unfold Hid
        refine wpList_storeAns rfl _ _ rfl (B1 + 1) (ansV (pTold 1)).toList rfl rfl rfl (ansV_one _) (HX.out.at HA2.out (by simp)) rfl ?_
        intro w99 h99 m99
        go_wp2_with fail
        refine bodyPost_ret (ret_ansL rfl _ _ _ _ rfl rfl h99) rfl ?_
        exact HFIN.out _ _ _ _ HRR.out (HR.out.moves0 HX.out) (HX.out.mono (by simp)) m99
      | true =>
        obtain ⟨a0, a3, hat⟩ := rCmd_plan k8 hr
        rw [hr] at hright hR
        rw [if_neg (by simp), if_neg k7, if_pos k8] at hR
        unfold mPlan at hR
        obtain ⟨v, cv, m, k1, k2, k3, k4⟩ := HR.out
        have HK1 : Hid _ := k1
        have HK3 : Hid (EntsAt w3 cv m ∧ Agree S.ca m) := ⟨k3, k4⟩
        by_cases hz : C.act = 0
        · rw [if_pos hz] at hR
          have e17 : (C.act == 0) = true := beq_iff_eq.2 hz
          by_cases hb : S.pend.act ≠ 0
          · rw [if_pos hb] at hR
            have HRR : Hid (R = (S.pend, S)) := hR.symm
            clear hR hr k7 k8 k1 k2 k3 k4 hz hat a0 a3 y15
            go_enter Tryz.func9, Tryz.ntmps9
            go_wp2_with (with_reducible refine stopLoad _ rfl ?_)
            try rw [hw2]
            try rw [hw3]
            try rw [s2]
            try rw [hB1]
            unfold Hid
            refine wpList_wanted (by rfl) ?_
            refine wpList_loadCmd rfl _ rfl B1 rfl _ HB1.out rfl ?_
            go_wp2_with fail
            refine (hright _).mono ?_
            rintro _ w9 ⟨rfl, m9⟩
            have HX : Hid (Moves [] w3 w9) := m9
            replace y0 := m9.cell y0
            replace y17 := m9.cell y17
            have hb9 := m9.at HK1.out (by simp)
            obtain ⟨-, x1, -, -, -⟩ := rm_cells hb9
            obtain ⟨x2, x3, x4, x5, x6, x7, x8, x9, x10, x11, x12⟩ := rm_cells2 hb9
            rw [decide_eq_true hb] at x1
            clear m9 hright hw2 hw3 s2 hB1 hb9 hb
            go_wp2_with (with_reducible refine stopA _ _ rfl ?_)
            unfold Hid
            refine wpList_storeAns rfl _ _ rfl (B1 + 1) (ansV S.pend).toList rfl rfl rfl (ansV_one _) (HX.out.at HA2.out (by simp)) rfl ?_
            intro w99 h99 m99
            go_wp2_with fail
            refine bodyPost_ret (ret_ansL rfl _ _ _ _ rfl rfl h99) rfl ?_
            exact HFIN.out _ _ _ _ HRR.out (HR.out.moves0 HX.out) (HX.out.mono (by simp)) m99
          · rw [if_neg hb] at hR
            have HRR : Hid (R = (pTold 22, S)) := hR.symm
            clear hR hr k7 k8 k1 k2 k3 k4 hz hat a0 a3 y15
            go_enter Tryz.func9, Tryz.ntmps9
            go_wp2_with (with_reducible refine stopLoad _ rfl ?_)
            try rw [hw2]
            try rw [hw3]
            try rw [s2]
            try rw [hB1]
            unfold Hid
            refine wpList_wanted (by rfl) ?_
            refine wpList_loadCmd rfl _ rfl B1 rfl _ HB1.out rfl ?_
            go_wp2_with fail
            refine (hright _).mono ?_
            rintro _ w9 ⟨rfl, m9⟩
            have HX : Hid (Moves [] w3 w9) := m9
            replace y0 := m9.cell y0
            replace y17 := m9.cell y17
            have hb9 := m9.at HK1.out (by simp)
            obtain ⟨-, x1, -, -, -⟩ := rm_cells hb9
            rw [decide_eq_false hb] at x1
            clear m9 hright hw2 hw3 s2 hB1 hb9 hb
            go_wp2_with (with_reducible refine stopA _ _ rfl ?_)
            unfold Hid
            refine wpList_storeAns rfl _ _ rfl (B1 + 1) (ansV (pTold 22)).toList rfl rfl rfl (ansV_one _) (HX.out.at HA2.out (by simp)) rfl ?_
            intro w99 h99 m99
            go_wp2_with fail
            refine bodyPost_ret (ret_ansL rfl _ _ _ _ rfl rfl h99) rfl ?_
            exact HFIN.out _ _ _ _ HRR.out (HR.out.moves0 HX.out) (HX.out.mono (by simp)) m99
        · rw [if_neg hz, if_neg (by rw [hq]; omega), if_neg (by rw [hq]; omega)] at hR
          have e17 : (C.act == 0) = false := beq_eq_false_iff_ne.2 hz
          have ha1 : 1 ≤ C.act := by omega
          have hq1 := lookT_ge hq
          have HRR : Hid (R = ((mBegin S C.act C.at' C.to).1, { (mBegin S C.act C.at' C.to).2 with ca := keepT S.ca ⟨1, q, strOf (encA (mBegin S C.act C.at' C.to).1)⟩ })) := hR.symm
          obtain ⟨ok1, eca, hbare, hrA, exs, -⟩ := mBegin_is S HOK.out C.act C.at' C.to ha1 a3 (hat hz)
          have hplan := fun w9 (mv : Moves [] w3 w9) => rmplan_w w9 r S (HR.out.moves0 mv) HOK.out hl C ca cn cc la ln lc sa sn sc ha1 a3
          obtain ⟨Q, hQ⟩ : ∃ Q, mBegin S C.act C.at' C.to = Q := ⟨_, rfl⟩
          rw [hQ] at HRR ok1 eca hbare hrA exs
          simp only [hQ] at hplan
          have hsz : ∀ x ∈ S.ca, x.a.size ≤ 1048576 := fun x hx => by
            obtain ⟨-, A, hA1, hA2, e⟩ := HOK.out.ca x hx
            rw [e, strOf_sz]
            have := (encA_bare_len hA1 hA2).1
            omega
          have HSZ0 : Hid (∀ x ∈ S.ca, x.a.size ≤ 1048576) := hsz
          have HSZM : Hid (∀ x ∈ m, x.a.size ≤ 1048576) := fun x hx => hsz x (HK3.out.2.perm.mem_iff.2 hx)
          have HML : Hid (m.length ≤ 256) := by unfold Hid; rw [HK3.out.2.len]; exact HOK.out.len
          have hlook := fun w9 (mv : Moves [] w3 w9) => reLook_w cv m 1 q w9 (HK3.out.1.moves mv) HK3.out.2.one (by have := HML.out; omega) HSZM.out
          simp only [HK3.out.2.of, hq] at hlook
          have HOK1 : Hid (OkM Q.2) := ok1
          have HCA : Hid (Q.2.ca = S.ca) := eca
          have HBA : Hid (Bare Q.1) := hbare
          have HRA : Hid (rAns Q.1 = true) := hrA
          have HQQ : Hid (1 ≤ q ∧ q ≤ 1073741824 ∧ lookT (ofT S.ca 1) q = 1) := ⟨hq1, hq2, hq⟩
          have n1 : ¬ q > 1073741824 := by omega
          clear hR hr k7 k8 k1 k2 k3 k4 hz hat a0 a3 y15 hQ ok1 eca hbare hrA exs hsz hq hq1 hq2 ha1
          go_enter Tryz.func9, Tryz.ntmps9
          go_wp2_with (with_reducible refine stopLoad _ rfl ?_)
          try rw [hw2]
          try rw [hw3]
          try rw [s2]
          try rw [hB1]
          unfold Hid
          refine wpList_wanted (by rfl) ?_
          refine wpList_loadCmd rfl _ rfl B1 rfl _ HB1.out rfl ?_
          go_wp2_with fail
          refine (hright _).mono ?_
          rintro _ w9 ⟨rfl, m9⟩
          have HX9 : Hid (Moves [] w3 w9) := m9
          replace y0 := m9.cell y0
          replace y17 := m9.cell y17
          obtain ⟨-, -, -, -, x15⟩ := rm_cells (m9.at HK1.out (by simp))
          replace hlook := hlook w9 m9
          clear m9 hright hw2 hw3 s2 hB1
          go_wp2_with fail
          refine hlook.mono ?_
          rintro _ w10 ⟨v10, rfl, -, m10⟩
          have HX10 : Hid (Moves [] w3 w10) := HX9.out.then m10
          have hB10 := HX10.out.at HB1.out (by simp)
          have HB10 : Hid _ := hB10
          replace hplan := hplan w10 HX10.out
          clear m10 hlook hB10 x15 y0 y17
          have n1 : ¬ q > 1073741824 := by have := HQQ.out; omega
          go_wp2_with (with_reducible refine stopLoad _ rfl ?_)
          unfold Hid
          refine wpList_loadCmd rfl _ rfl B1 rfl _ HB10.out rfl ?_
          go_wp2_with fail
          refine hplan.mono ?_
          rintro _ w11 ⟨rfl, hI11, m11⟩
          have HX11 : Hid (Moves [r] w3 w11) := (HX10.out.mono (by simp)).then m11
          obtain ⟨v1, cv1, mm1, p1, p2, p3, p4⟩ := hI11
          rw [HCA.out] at p4
          have HP1 : Hid _ := p1
          have HP2 : Hid (OwnT w11 v1 Q.2.xs) := p2
          have HP3 : Hid (EntsAt w11 cv1 mm1 ∧ Agree S.ca mm1) := ⟨p3, p4⟩
          have hpb := heap_alloc_new w11 (.cells #[.int .i64 0, .slice none 0 0, .string ⟨#[]⟩, .string ⟨#[]⟩, .int .i64 0, .int .i64 0, .int .i64 0, .int .i64 0, .int .i64 0, .string ⟨#[]⟩, .slice none 0 0] 48)
          obtain ⟨w12, hw12⟩ : ∃ w12, w11.alloc (.cells #[.int .i64 0, .slice none 0 0, .string ⟨#[]⟩, .string ⟨#[]⟩, .int .i64 0, .int .i64 0, .int .i64 0, .int .i64 0, .int .i64 0, .string ⟨#[]⟩, .slice none 0 0] 48) = w12 := ⟨_, rfl⟩
          have n12 : Moves [] w11 w12 := by rw [← hw12]; exact (Moves.refl _ _).alloc _
          rw [hw12] at hpb
          obtain ⟨B4, hB4⟩ : ∃ B4, w11.heap.size = B4 := ⟨_, rfl⟩
          rw [hB4] at hpb
          have HB4 : Hid (w11.heap.size = B4) := hB4
          have HPB : Hid _ := hpb
          have HN12 : Hid (Moves [] w11 w12) := n12
          clear hplan m11 p1 p2 p3 p4 hpb n12
          go_wp2_with (with_reducible refine stopA _ _ rfl ?_)
          try rw [hw12]
          try rw [hB4]
          unfold Hid
          refine wpList_storeAns rfl _ _ rfl B4 (ansV Q.1).toList rfl rfl rfl (ansV_one _) HPB.out rfl ?_
          intro w13 h13 m13
          have M13 : Moves [] w11 w13 := HN12.out.trans m13 (fun x hx => .inr (by have := HB4.out; simp at hx; omega))
          have HM13 : Hid (Moves [] w11 w13) := M13
          have HH13 : Hid _ := h13
          obtain ⟨y0, y1, y2, y3, y4, y5, y6, y7, y8, y9, y10⟩ := eleven_cells h13
          have hb13 := M13.at HP1.out (by simp)
          have HB13 : Hid _ := hb13
          obtain ⟨-, -, -, -, x15⟩ := rm_cells hb13
          clear hw12 hB4 h13 m13 M13 hb13
          have henc := fun w9 => rencA_w w9 Q.1 HBA.out HRA.out
          have hkeep := fun (w9 : World) (mv : Moves [] w13 w9) (av : Value) (g : Nat) (ha : IsB w9 g av (encA Q.1)) => reKeep_w cv1 mm1 1 q av g (encA Q.1) w9 (HP3.out.1.moves (HM13.out.then mv)) HP3.out.2.one (by rw [HP3.out.2.len]; have := HOK.out.len; omega) (fun x hx => HSZ0.out x (HP3.out.2.perm.mem_iff.2 hx)) ha (encA_bare_len HBA.out HRA.out).2
          have hmay : mayK 1 q (encA Q.1).length = true := mayK_iff.2 ⟨by omega, by omega, HQQ.out.1, HQQ.out.2.1, by have := (encA_bare_len HBA.out HRA.out).1; omega⟩
          simp only [hmay, if_true] at hkeep
          clear hmay
          go_wp2_with fail
          have hne4 : B4 ∉ [r] := by
            have e1 := HL.out
            have e2 := HM.out.size
            have e3 := HX11.out.size
            have e4 := HB4.out
            simp; omega
          refine wp_region_noPanic ?_
          refine wp_region_held_drew (S := (fun w' => w'.cell? ⟨B4, 0, none⟩ = some (.int .i64 Q.1.code) ∧ w'.cell? ⟨B4, 1, none⟩ = some (.slice none 0 0) ∧ w'.cell? ⟨B4, 2, none⟩ = some (.string Q.1.lo) ∧ w'.cell? ⟨B4, 3, none⟩ = some (.string Q.1.hi) ∧ w'.cell? ⟨B4, 4, none⟩ = some (.int .i64 Q.1.grp) ∧ w'.cell? ⟨B4, 5, none⟩ = some (.int .i64 Q.1.gen) ∧ w'.cell? ⟨B4, 6, none⟩ = some (.int .i64 Q.1.old) ∧ w'.cell? ⟨B4, 7, none⟩ = some (.int .i64 Q.1.to) ∧ w'.cell? ⟨B4, 8, none⟩ = some (.int .i64 Q.1.act) ∧ w'.cell? ⟨B4, 9, none⟩ = some (.string Q.1.at') ∧ w'.cell? ⟨B4, 10, none⟩ = some (.slice none 0 0))) (by kernel_rfl) ?_ (fun hHeld => ?_)
          · first | (go_keep; done) | first | exact ⟨y0, y1, y2, y3, y4, y5, y6, y7, y8, y9, y10⟩ | exact ⟨M14.cell y0, M14.cell y1, M14.cell y2, M14.cell y3, M14.cell y4, M14.cell y5, M14.cell y6, M14.cell y7, M14.cell y8, M14.cell y9, M14.cell y10⟩ | exact ⟨M15.cell y0, M15.cell y1, M15.cell y2, M15.cell y3, M15.cell y4, M15.cell y5, M15.cell y6, M15.cell y7, M15.cell y8, M15.cell y9, M15.cell y10⟩ | exact ⟨M20.cellOf y0 hne4, M20.cellOf y1 hne4, M20.cellOf y2 hne4, M20.cellOf y3 hne4, M20.cellOf y4 hne4, M20.cellOf y5 hne4, M20.cellOf y6 hne4, M20.cellOf y7 hne4, M20.cellOf y8 hne4, M20.cellOf y9 hne4, M20.cellOf y10 hne4⟩
          refine wpT 0 ⟨some 107, .move (.tmp 0), 25, "ref.go:59", #[], none⟩ ?_
          refine wpT 1 ⟨some 108, .move (.tmp 0), 25, "ref.go:59", #[], none⟩ ?_
          refine wpT 2 ⟨some 109, .nilCheck (.tmp 108), 0, "ref.go:59", #[⟨1, .data⟩], none⟩ ?_
          refine wpT 3 ⟨some 110, .fieldAddr 79 (.tmp 109) 5, 0, "ref.go:59", #[⟨2, .data⟩], none⟩ ?_
          refine wpT 5 ⟨some 112, .move (.tmp 1), 3, "ref.go:59", #[], none⟩ ?_
          refine wpT 6 ⟨some 113, .move (.tmp 2), 3, "ref.go:59", #[], none⟩ ?_
          refine wpT 7 ⟨some 114, .load 48 (.tmp 14), 48, "ref.go:59", #[], none⟩ ?_
          refine wpAnyH_ready (rs := [4, 8]) (by kernel_rfl) (by simp) ?_
          refine AllReadyH.cons (o := ⟨some 111, .load 77 (.tmp 110), 77, "ref.go:59", #[⟨3, .data⟩], none⟩) rfl (fun K hK => ?_) (AllReadyH.cons (o := ⟨some 115, .call ⟨.value (.func 31), #[.tmp 114], #[48]⟩, 27, "ref.go:59", #[⟨7, .data⟩], none⟩) rfl (fun K hK => ?_) AllReadyH.nil)
          · go_simp
            refine hK.out _ _ ?_ (fun hHeld => ?_)
            · first | exact ⟨y0, y1, y2, y3, y4, y5, y6, y7, y8, y9, y10⟩ | exact ⟨M14.cell y0, M14.cell y1, M14.cell y2, M14.cell y3, M14.cell y4, M14.cell y5, M14.cell y6, M14.cell y7, M14.cell y8, M14.cell y9, M14.cell y10⟩ | exact ⟨M15.cell y0, M15.cell y1, M15.cell y2, M15.cell y3, M15.cell y4, M15.cell y5, M15.cell y6, M15.cell y7, M15.cell y8, M15.cell y9, M15.cell y10⟩ | exact ⟨M20.cellOf y0 hne4, M20.cellOf y1 hne4, M20.cellOf y2 hne4, M20.cellOf y3 hne4, M20.cellOf y4 hne4, M20.cellOf y5 hne4, M20.cellOf y6 hne4, M20.cellOf y7 hne4, M20.cellOf y8 hne4, M20.cellOf y9 hne4, M20.cellOf y10 hne4⟩
            clear hK K
            refine wpR 8 ⟨some 115, .call ⟨.value (.func 31), #[.tmp 114], #[48]⟩, 27, "ref.go:59", #[⟨7, .data⟩], none⟩ (fun K hK => ?_)
            go_simp
            go_at_call 31
            refine (henc _).mono ?_
            rintro _ w14 ⟨v14, g14, rfl, hB14, m14⟩
            have M14 : Moves [] w13 w14 := (Moves.refl [] w13).drew.then m14
            obtain ⟨a14, n14, c14, rfl, -⟩ := id hB14
            refine hK.out _ _ ?_ (fun hHeld => ?_)
            · first | exact ⟨y0, y1, y2, y3, y4, y5, y6, y7, y8, y9, y10⟩ | exact ⟨M14.cell y0, M14.cell y1, M14.cell y2, M14.cell y3, M14.cell y4, M14.cell y5, M14.cell y6, M14.cell y7, M14.cell y8, M14.cell y9, M14.cell y10⟩ | exact ⟨M15.cell y0, M15.cell y1, M15.cell y2, M15.cell y3, M15.cell y4, M15.cell y5, M15.cell y6, M15.cell y7, M15.cell y8, M15.cell y9, M15.cell y10⟩ | exact ⟨M20.cellOf y0 hne4, M20.cellOf y1 hne4, M20.cellOf y2 hne4, M20.cellOf y3 hne4, M20.cellOf y4 hne4, M20.cellOf y5 hne4, M20.cellOf y6 hne4, M20.cellOf y7 hne4, M20.cellOf y8 hne4, M20.cellOf y9 hne4, M20.cellOf y10 hne4⟩
            clear hK K
            try simp only [Act.put, sp1, sp2, sp3]
            refine wpR 9 ⟨some 116, .call ⟨.value (.func 30), #[.tmp 111, .tmp 112, .tmp 113, .tmp 115], #[77, 3, 3, 27]⟩, 88, "ref.go:59", #[⟨4, .data⟩, ⟨5, .data⟩, ⟨6, .data⟩, ⟨8, .data⟩, ⟨8, .chain⟩], none⟩ (fun K hK => ?_)
            go_simp
            go_at_call 30
            refine (hkeep _ M14 _ _ hB14).mono ?_
            rintro _ w15 ⟨v15, rfl, hE15, m15⟩
            obtain ⟨ad15, n15, cp15, rfl, _, _⟩ := hE15.open
            have M15 : Moves [] w13 w15 := M14.then m15
            refine hK.out _ _ ?_ (fun hHeld => ?_)
            · first | exact ⟨y0, y1, y2, y3, y4, y5, y6, y7, y8, y9, y10⟩ | exact ⟨M14.cell y0, M14.cell y1, M14.cell y2, M14.cell y3, M14.cell y4, M14.cell y5, M14.cell y6, M14.cell y7, M14.cell y8, M14.cell y9, M14.cell y10⟩ | exact ⟨M15.cell y0, M15.cell y1, M15.cell y2, M15.cell y3, M15.cell y4, M15.cell y5, M15.cell y6, M15.cell y7, M15.cell y8, M15.cell y9, M15.cell y10⟩ | exact ⟨M20.cellOf y0 hne4, M20.cellOf y1 hne4, M20.cellOf y2 hne4, M20.cellOf y3 hne4, M20.cellOf y4 hne4, M20.cellOf y5 hne4, M20.cellOf y6 hne4, M20.cellOf y7 hne4, M20.cellOf y8 hne4, M20.cellOf y9 hne4, M20.cellOf y10 hne4⟩
            clear hK K
            try simp only [Act.put, sp1, sp2, sp3]
            refine wpT 10 ⟨some 106, .move (.tmp 116), 88, "ref.go:59", #[⟨9, .data⟩], none⟩ ?_
            refine wpT 11 ⟨some 117, .extract (.tmp 106) 0, 77, "ref.go:59", #[⟨10, .data⟩], none⟩ ?_
            refine wpT 12 ⟨some 118, .extract (.tmp 106) 1, 4, "ref.go:59", #[⟨10, .data⟩, { on := 15, ground := Ground.gcOnly Departure.lateStores }], none⟩ ?_
            refine wpT 13 ⟨some 119, .nilCheck (.tmp 107), 0, "ref.go:59", #[⟨0, .data⟩, ⟨0, .phase⟩, ⟨1, .phase⟩, ⟨2, .phase⟩, ⟨3, .phase⟩, ⟨4, .phase⟩, ⟨5, .phase⟩, ⟨6, .phase⟩, ⟨7, .phase⟩, ⟨8, .phase⟩, ⟨9, .phase⟩, ⟨10, .phase⟩, ⟨11, .phase⟩, { on := 12, ground := Ground.textOnly Departure.lateStores }], none⟩ ?_
            refine wpT 14 ⟨some 120, .fieldAddr 79 (.tmp 119) 5, 0, "ref.go:59", #[⟨13, .data⟩, ⟨0, .phase⟩, ⟨1, .phase⟩, ⟨2, .phase⟩, ⟨3, .phase⟩, ⟨4, .phase⟩, ⟨5, .phase⟩, ⟨6, .phase⟩, ⟨7, .phase⟩, ⟨8, .phase⟩, ⟨9, .phase⟩, ⟨10, .phase⟩, ⟨11, .phase⟩, { on := 12, ground := Ground.textOnly Departure.lateStores }], none⟩ ?_
            refine wpR 15 ⟨none, .store 77 (.tmp 120) (.tmp 117), 0, "ref.go:59", #[⟨14, .data⟩, ⟨11, .data⟩, ⟨9, .chain⟩, ⟨0, .phase⟩, ⟨1, .phase⟩, ⟨2, .phase⟩, ⟨3, .phase⟩, ⟨4, .phase⟩, ⟨5, .phase⟩, ⟨6, .phase⟩, ⟨7, .phase⟩, ⟨8, .phase⟩, ⟨9, .phase⟩, ⟨10, .phase⟩, ⟨11, .phase⟩, { on := 12, ground := Ground.textOnly Departure.lateStores }], none⟩ (fun K hK => ?_)
            refine store_step 77 _ _ rfl r 15 _ [.slice ad15 n15 cp15] rfl rfl rfl Tryz.size77 (by rfl) (M15.at HB13.out (by simp)) (by show 16 ≤ 16; omega) (by simp [Value.oneCell']) (rmCells v1 (.slice ad15 n15 cp15) { Q.2 with ca := keepT S.ca ⟨1, q, strOf (encA Q.1)⟩ }) (ca_fin v1 cv1 (.slice ad15 n15 cp15) Q.2 _) ?_
            intro w20 h20 m20
            have M20 : Moves [r] w13 w20 := (M15.mono (by simp)).then m20
            refine hK.out _ _ ?_ (fun hHeld => ?_)
            · first | exact ⟨y0, y1, y2, y3, y4, y5, y6, y7, y8, y9, y10⟩ | exact ⟨M14.cell y0, M14.cell y1, M14.cell y2, M14.cell y3, M14.cell y4, M14.cell y5, M14.cell y6, M14.cell y7, M14.cell y8, M14.cell y9, M14.cell y10⟩ | exact ⟨M15.cell y0, M15.cell y1, M15.cell y2, M15.cell y3, M15.cell y4, M15.cell y5, M15.cell y6, M15.cell y7, M15.cell y8, M15.cell y9, M15.cell y10⟩ | exact ⟨M20.cellOf y0 hne4, M20.cellOf y1 hne4, M20.cellOf y2 hne4, M20.cellOf y3 hne4, M20.cellOf y4 hne4, M20.cellOf y5 hne4, M20.cellOf y6 hne4, M20.cellOf y7 hne4, M20.cellOf y8 hne4, M20.cellOf y9 hne4, M20.cellOf y10 hne4⟩
            clear hK K
            refine wpAnyH_done (by kernel_rfl) ?_ _
            refine NoPanic.normal ?_
            have mK : Moves [r] w13 w20 := M20
            have HBW : Hid _ := M15.at HB13.out (by simp)
            have M9 : Hid (Moves [] w13 w15) := M15
            have hE9 : Hid _ := hE15
            have mW := m20
            clear m14 m15 m20 M14 M15 M20 hE15 hB14
            have HX20 : Hid (Moves [r] w3 w20) := (HX11.out.then (HM13.out.mono (by simp))).then mK
            have HI20 : Hid (RmIs w20 r { Q.2 with ca := keepT S.ca ⟨1, q, strOf (encA Q.1)⟩ }) := RmIs.wrote (S := Q.2) HBW.out mW h20 ((HP2.out.moves (HM13.out.then M9.out) (by simp))) hE9.out (HP3.out.2.keep _)
            have HH20 := mK.at HH13.out hne4
            obtain ⟨z0, z1, z2, z3, z4, z5, z6, z7, z8, z9, z10⟩ := eleven_cells HH20
            clear mK mW h20 y0 y1 y2 y3 y4 y5 y6 y7 y8 y9 y10 x15
            go_wp2_with (with_reducible refine stopA _ _ rfl ?_)
            unfold Hid
            refine wpList_storeAns rfl _ _ rfl (B1 + 1) (ansV Q.1).toList rfl rfl rfl (ansV_one _) (HX20.out.at HA2.out (by have := HL.out; have := HSZ.out; simp; omega)) rfl ?_
            intro w99 h99 m99
            go_wp2_with fail
            refine bodyPost_ret (ret_ansL rfl _ _ _ _ rfl rfl h99) rfl ?_
            exact HFIN.out _ _ _ _ HRR.out HI20.out HX20.out m99
          · go_simp
            go_at_call 31
            refine (henc _).mono ?_
            rintro _ w14 ⟨v14, g14, rfl, hB14, m14⟩
            have M14 : Moves [] w13 w14 := (Moves.refl [] w13).drew.then m14
            obtain ⟨a14, n14, c14, rfl, -⟩ := id hB14
            refine hK.out _ _ ?_ (fun hHeld => ?_)
            · first | exact ⟨y0, y1, y2, y3, y4, y5, y6, y7, y8, y9, y10⟩ | exact ⟨M14.cell y0, M14.cell y1, M14.cell y2, M14.cell y3, M14.cell y4, M14.cell y5, M14.cell y6, M14.cell y7, M14.cell y8, M14.cell y9, M14.cell y10⟩ | exact ⟨M15.cell y0, M15.cell y1, M15.cell y2, M15.cell y3, M15.cell y4, M15.cell y5, M15.cell y6, M15.cell y7, M15.cell y8, M15.cell y9, M15.cell y10⟩ | exact ⟨M20.cellOf y0 hne4, M20.cellOf y1 hne4, M20.cellOf y2 hne4, M20.cellOf y3 hne4, M20.cellOf y4 hne4, M20.cellOf y5 hne4, M20.cellOf y6 hne4, M20.cellOf y7 hne4, M20.cellOf y8 hne4, M20.cellOf y9 hne4, M20.cellOf y10 hne4⟩
            clear hK K
            try simp only [Act.put, sp1, sp2, sp3]
            refine wpR 4 ⟨some 111, .load 77 (.tmp 110), 77, "ref.go:59", #[⟨3, .data⟩], none⟩ (fun K hK => ?_)
            have x15 := M14.cell x15
            go_simp
            refine hK.out _ _ ?_ (fun hHeld => ?_)
            · first | exact ⟨y0, y1, y2, y3, y4, y5, y6, y7, y8, y9, y10⟩ | exact ⟨M14.cell y0, M14.cell y1, M14.cell y2, M14.cell y3, M14.cell y4, M14.cell y5, M14.cell y6, M14.cell y7, M14.cell y8, M14.cell y9, M14.cell y10⟩ | exact ⟨M15.cell y0, M15.cell y1, M15.cell y2, M15.cell y3, M15.cell y4, M15.cell y5, M15.cell y6, M15.cell y7, M15.cell y8, M15.cell y9, M15.cell y10⟩ | exact ⟨M20.cellOf y0 hne4, M20.cellOf y1 hne4, M20.cellOf y2 hne4, M20.cellOf y3 hne4, M20.cellOf y4 hne4, M20.cellOf y5 hne4, M20.cellOf y6 hne4, M20.cellOf y7 hne4, M20.cellOf y8 hne4, M20.cellOf y9 hne4, M20.cellOf y10 hne4⟩
            clear hK K
            refine wpR 9 ⟨some 116, .call ⟨.value (.func 30), #[.tmp 111, .tmp 112, .tmp 113, .tmp 115], #[77, 3, 3, 27]⟩, 88, "ref.go:59", #[⟨4, .data⟩, ⟨5, .data⟩, ⟨6, .data⟩, ⟨8, .data⟩, ⟨8, .chain⟩], none⟩ (fun K hK => ?_)
            go_simp
            go_at_call 30
            refine (hkeep _ M14 _ _ hB14).mono ?_
            rintro _ w15 ⟨v15, rfl, hE15, m15⟩
            obtain ⟨ad15, n15, cp15, rfl, _, _⟩ := hE15.open
            have M15 : Moves [] w13 w15 := M14.then m15
            refine hK.out _ _ ?_ (fun hHeld => ?_)
            · first | exact ⟨y0, y1, y2, y3, y4, y5, y6, y7, y8, y9, y10⟩ | exact ⟨M14.cell y0, M14.cell y1, M14.cell y2, M14.cell y3, M14.cell y4, M14.cell y5, M14.cell y6, M14.cell y7, M14.cell y8, M14.cell y9, M14.cell y10⟩ | exact ⟨M15.cell y0, M15.cell y1, M15.cell y2, M15.cell y3, M15.cell y4, M15.cell y5, M15.cell y6, M15.cell y7, M15.cell y8, M15.cell y9, M15.cell y10⟩ | exact ⟨M20.cellOf y0 hne4, M20.cellOf y1 hne4, M20.cellOf y2 hne4, M20.cellOf y3 hne4, M20.cellOf y4 hne4, M20.cellOf y5 hne4, M20.cellOf y6 hne4, M20.cellOf y7 hne4, M20.cellOf y8 hne4, M20.cellOf y9 hne4, M20.cellOf y10 hne4⟩
            clear hK K
            try simp only [Act.put, sp1, sp2, sp3]
            refine wpT 10 ⟨some 106, .move (.tmp 116), 88, "ref.go:59", #[⟨9, .data⟩], none⟩ ?_
            refine wpT 11 ⟨some 117, .extract (.tmp 106) 0, 77, "ref.go:59", #[⟨10, .data⟩], none⟩ ?_
            refine wpT 12 ⟨some 118, .extract (.tmp 106) 1, 4, "ref.go:59", #[⟨10, .data⟩, { on := 15, ground := Ground.gcOnly Departure.lateStores }], none⟩ ?_
            refine wpT 13 ⟨some 119, .nilCheck (.tmp 107), 0, "ref.go:59", #[⟨0, .data⟩, ⟨0, .phase⟩, ⟨1, .phase⟩, ⟨2, .phase⟩, ⟨3, .phase⟩, ⟨4, .phase⟩, ⟨5, .phase⟩, ⟨6, .phase⟩, ⟨7, .phase⟩, ⟨8, .phase⟩, ⟨9, .phase⟩, ⟨10, .phase⟩, ⟨11, .phase⟩, { on := 12, ground := Ground.textOnly Departure.lateStores }], none⟩ ?_
            refine wpT 14 ⟨some 120, .fieldAddr 79 (.tmp 119) 5, 0, "ref.go:59", #[⟨13, .data⟩, ⟨0, .phase⟩, ⟨1, .phase⟩, ⟨2, .phase⟩, ⟨3, .phase⟩, ⟨4, .phase⟩, ⟨5, .phase⟩, ⟨6, .phase⟩, ⟨7, .phase⟩, ⟨8, .phase⟩, ⟨9, .phase⟩, ⟨10, .phase⟩, ⟨11, .phase⟩, { on := 12, ground := Ground.textOnly Departure.lateStores }], none⟩ ?_
            refine wpR 15 ⟨none, .store 77 (.tmp 120) (.tmp 117), 0, "ref.go:59", #[⟨14, .data⟩, ⟨11, .data⟩, ⟨9, .chain⟩, ⟨0, .phase⟩, ⟨1, .phase⟩, ⟨2, .phase⟩, ⟨3, .phase⟩, ⟨4, .phase⟩, ⟨5, .phase⟩, ⟨6, .phase⟩, ⟨7, .phase⟩, ⟨8, .phase⟩, ⟨9, .phase⟩, ⟨10, .phase⟩, ⟨11, .phase⟩, { on := 12, ground := Ground.textOnly Departure.lateStores }], none⟩ (fun K hK => ?_)
            refine store_step 77 _ _ rfl r 15 _ [.slice ad15 n15 cp15] rfl rfl rfl Tryz.size77 (by rfl) (M15.at HB13.out (by simp)) (by show 16 ≤ 16; omega) (by simp [Value.oneCell']) (rmCells v1 (.slice ad15 n15 cp15) { Q.2 with ca := keepT S.ca ⟨1, q, strOf (encA Q.1)⟩ }) (ca_fin v1 cv1 (.slice ad15 n15 cp15) Q.2 _) ?_
            intro w20 h20 m20
            have M20 : Moves [r] w13 w20 := (M15.mono (by simp)).then m20
            refine hK.out _ _ ?_ (fun hHeld => ?_)
            · first | exact ⟨y0, y1, y2, y3, y4, y5, y6, y7, y8, y9, y10⟩ | exact ⟨M14.cell y0, M14.cell y1, M14.cell y2, M14.cell y3, M14.cell y4, M14.cell y5, M14.cell y6, M14.cell y7, M14.cell y8, M14.cell y9, M14.cell y10⟩ | exact ⟨M15.cell y0, M15.cell y1, M15.cell y2, M15.cell y3, M15.cell y4, M15.cell y5, M15.cell y6, M15.cell y7, M15.cell y8, M15.cell y9, M15.cell y10⟩ | exact ⟨M20.cellOf y0 hne4, M20.cellOf y1 hne4, M20.cellOf y2 hne4, M20.cellOf y3 hne4, M20.cellOf y4 hne4, M20.cellOf y5 hne4, M20.cellOf y6 hne4, M20.cellOf y7 hne4, M20.cellOf y8 hne4, M20.cellOf y9 hne4, M20.cellOf y10 hne4⟩
            clear hK K
            refine wpAnyH_done (by kernel_rfl) ?_ _
            refine NoPanic.normal ?_
            have mK : Moves [r] w13 w20 := M20
            have HBW : Hid _ := M15.at HB13.out (by simp)
            have M9 : Hid (Moves [] w13 w15) := M15
            have hE9 : Hid _ := hE15
            have mW := m20
            clear m14 m15 m20 M14 M15 M20 hE15 hB14
            have HX20 : Hid (Moves [r] w3 w20) := (HX11.out.then (HM13.out.mono (by simp))).then mK
            have HI20 : Hid (RmIs w20 r { Q.2 with ca := keepT S.ca ⟨1, q, strOf (encA Q.1)⟩ }) := RmIs.wrote (S := Q.2) HBW.out mW h20 ((HP2.out.moves (HM13.out.then M9.out) (by simp))) hE9.out (HP3.out.2.keep _)
            have HH20 := mK.at HH13.out hne4
            obtain ⟨z0, z1, z2, z3, z4, z5, z6, z7, z8, z9, z10⟩ := eleven_cells HH20
            clear mK mW h20 y0 y1 y2 y3 y4 y5 y6 y7 y8 y9 y10 x15
            go_wp2_with (with_reducible refine stopA _ _ rfl ?_)
            unfold Hid
            refine wpList_storeAns rfl _ _ rfl (B1 + 1) (ansV Q.1).toList rfl rfl rfl (ansV_one _) (HX20.out.at HA2.out (by have := HL.out; have := HSZ.out; simp; omega)) rfl ?_
            intro w99 h99 m99
            go_wp2_with fail
            refine bodyPost_ret (ret_ansL rfl _ _ _ _ rfl rfl h99) rfl ?_
            exact HFIN.out _ _ _ _ HRR.out HI20.out HX20.out m99
    · by_cases k9 : C.kind = 9
      · have hright := fun w9 => rright9_w w9 C ca cn cc la ln lc sa sn sc k9
        rw [if_pos (by omega)] at hR
        have e7 : (C.kind == 7) = false := beq_eq_false_iff_ne.2 k7
        have e8 : (C.kind == 8) = false := beq_eq_false_iff_ne.2 k8
        have e9 : (C.kind == 9) = true := beq_iff_eq.2 k9
        cases hr : rCmd C with
        | false =>
          rw [hr] at hright hR
          have HRR : Hid (R = (pTold 1, S)) := hR.symm
          clear hR hr k7 k8 k9
          go_enter Tryz.func9, Tryz.ntmps9
          go_wp2_with (with_reducible refine stopLoad _ rfl ?_)
          try rw [hw2]
          try rw [hw3]
          try rw [s2]
          try rw [hB1]
          unfold Hid
          refine wpList_wanted (by rfl) ?_
          refine wpList_loadCmd rfl _ rfl B1 rfl _ HB1.out rfl ?_
          go_wp2_with fail
          refine (hright _).mono ?_
          rintro _ w9 ⟨rfl, m9⟩
          have HX : Hid (Moves [] w3 w9) := m9
          go_wp2_with (with_reducible refine stopA _ _ rfl ?_)
          unfold Hid
          refine wpList_storeAns rfl _ _ rfl (B1 + 1) (ansV (pTold 1)).toList rfl rfl rfl (ansV_one _) (HX.out.at HA2.out (by simp)) rfl ?_
          intro w99 h99 m99
          go_wp2_with fail
          refine bodyPost_ret (ret_ansL rfl _ _ _ _ rfl rfl h99) rfl ?_
          exact HFIN.out _ _ _ _ HRR.out (HR.out.moves0 HX.out) (HX.out.mono (by simp)) m99
        | true =>
          have hg1 := rCmd_pub k9 hr
          rw [hr] at hright hR
          rw [if_neg (by simp), if_neg k7, if_neg k8, if_pos k9] at hR
          have HRR : Hid (R = mPub S C.gen C.to) := hR.symm
          have hpub := fun w9 (mv : Moves [] w3 w9) => rmpub_w w9 r S (HR.out.moves0 mv) HOK.out C ca cn cc la ln lc sa sn sc hg1
          clear hR hr k7 k8 k9
          go_enter Tryz.func9, Tryz.ntmps9
          go_wp2_with (with_reducible refine stopLoad _ rfl ?_)
          try rw [hw2]
          try rw [hw3]
          try rw [s2]
          try rw [hB1]
          unfold Hid
          refine wpList_wanted (by rfl) ?_
          refine wpList_loadCmd rfl _ rfl B1 rfl _ HB1.out rfl ?_
          go_wp2_with fail
          refine (hright _).mono ?_
          rintro _ w9 ⟨rfl, m9⟩
          have y0 := m9.cell y0
          have HB9 : Hid _ := m9.at HB1.out (by simp)
          have hp9 := hpub w9 m9
          have HX : Hid (Moves [] w3 w9) := m9
          clear hpub m9 y15 y17
          go_wp2_with (with_reducible refine stopLoad _ rfl ?_)
          unfold Hid
          refine wpList_loadCmd rfl _ rfl B1 rfl _ HB9.out rfl ?_
          go_wp2_with fail
          refine hp9.mono ?_
          rintro _ w10 ⟨rfl, hI10, m10⟩
          have HI10 : Hid _ := hI10
          have HM10 : Hid (Moves [r] w3 w10) := (HX.out.mono (by simp)).then m10
          clear hI10 m10 y0 hp9
          go_wp2_with (with_reducible refine stopA _ _ rfl ?_)
          unfold Hid
          refine wpList_storeAns rfl _ _ rfl (B1 + 1) (ansV (mPub S C.gen C.to).1).toList rfl rfl rfl (ansV_one _) (HM10.out.at HA2.out (by have := HL.out; have := HSZ.out; simp; omega)) rfl ?_
          intro w99 h99 m99
          go_wp2_with fail
          refine bodyPost_ret (ret_ansL rfl _ _ _ _ rfl rfl h99) rfl ?_
          exact HFIN.out _ _ _ _ (by rw [HRR.out]) HI10.out HM10.out m99
      · have e7 : (C.kind == 7) = false := beq_eq_false_iff_ne.2 k7
        have e8 : (C.kind == 8) = false := beq_eq_false_iff_ne.2 k8
        have e9 : (C.kind == 9) = false := beq_eq_false_iff_ne.2 k9
        by_cases k10 : C.kind = 10
        · have e10 : (C.kind == 10) = true := beq_iff_eq.2 k10
          have hr : rCmd C = true := by unfold rCmd; simp [k10]
          rw [if_pos (by omega), hr, if_neg (by simp), if_neg k7, if_neg k8, if_neg k9] at hR
          have HRR : Hid (R = (pTold 0, S)) := hR.symm
          clear hR hr k7 k8 k9 k10 y15 y17
          have HX : Hid (Moves [] w3 w3) := Moves.refl _ _
          go_enter Tryz.func9, Tryz.ntmps9
          go_wp2_with (with_reducible refine stopA _ _ rfl ?_)
          try rw [hw2]
          try rw [hw3]
          try rw [s2]
          try rw [hB1]
          unfold Hid
          refine wpList_storeAns rfl _ _ rfl (B1 + 1) (ansV (pTold 0)).toList rfl rfl rfl (ansV_one _) (HX.out.at HA2.out (by simp)) rfl ?_
          intro w99 h99 m99
          go_wp2_with fail
          refine bodyPost_ret (ret_ansL rfl _ _ _ _ rfl rfl h99) rfl ?_
          exact HFIN.out _ _ _ _ HRR.out (HR.out.moves0 HX.out) (HX.out.mono (by simp)) m99
        · have e10 : (C.kind == 10) = false := beq_eq_false_iff_ne.2 k10
          rw [if_neg (by omega)] at hR
          have HRR : Hid (R = (pTold 24, S)) := hR.symm
          clear hR k7 k8 k9 k10 y15 y17
          have HX : Hid (Moves [] w3 w3) := Moves.refl _ _
          go_enter Tryz.func9, Tryz.ntmps9
          go_wp2_with (with_reducible refine stopA _ _ rfl ?_)
          try rw [hw2]
          try rw [hw3]
          try rw [s2]
          try rw [hB1]
          unfold Hid
          refine wpList_storeAns rfl _ _ rfl (B1 + 1) (ansV (pTold 24)).toList rfl rfl rfl (ansV_one _) (HX.out.at HA2.out (by simp)) rfl ?_
          intro w99 h99 m99
          go_wp2_with fail
          refine bodyPost_ret (ret_ansL rfl _ _ _ _ rfl rfl h99) rfl ?_
          exact HFIN.out _ _ _ _ HRR.out (HR.out.moves0 HX.out) (HX.out.mono (by simp)) m99
end Go.Proofs.YtilbbnmhnacnlaaGreat
