/- ours -/
import Derived.Test.YtilbbnmhnacnlaaGreatCRm3
namespace Go.Proofs.YtilbbnmhnacnlaaGreat
open Go.RowKit

theorem stopBo {ops : Array Oper} {rest : List Oper} {op : Oper} {a : Act} {w : World} {Q : Exit → Act → World → Prop} (x y : Operand) (_ : op.op = .store 4 x y) (h : Hid (wpList Tryz.prog ops Q (op :: rest) a w)) : wpList Tryz.prog ops Q (op :: rest) a w := h.out
theorem rm_cells2 {w : World} {r : Nat} {v cv : Value} {S : Pms} {t : TypeId} (h : w.heap[r]? = some (.cells (rmCells v cv S) t (0, 0))) : w.cell? ⟨r, 2, none⟩ = some (.int .i64 S.pend.code) ∧ w.cell? ⟨r, 3, none⟩ = some (.slice none 0 0) ∧ w.cell? ⟨r, 4, none⟩ = some (.string S.pend.lo) ∧ w.cell? ⟨r, 5, none⟩ = some (.string S.pend.hi) ∧ w.cell? ⟨r, 6, none⟩ = some (.int .i64 S.pend.grp) ∧ w.cell? ⟨r, 7, none⟩ = some (.int .i64 S.pend.gen) ∧ w.cell? ⟨r, 8, none⟩ = some (.int .i64 S.pend.old) ∧ w.cell? ⟨r, 9, none⟩ = some (.int .i64 S.pend.to) ∧ w.cell? ⟨r, 10, none⟩ = some (.int .i64 S.pend.act) ∧ w.cell? ⟨r, 11, none⟩ = some (.string S.pend.at') ∧ w.cell? ⟨r, 12, none⟩ = some (.slice none 0 0) := by
  unfold rmCells at h
  simp [World.cell?, h]
theorem pub_fin (v cv : Value) (S : Pms) : (((rmCells v cv S).toList.take 1 ++ [Value.bool false] ++ (rmCells v cv S).toList.drop (1 + [Value.bool false].length)).toArray.toList.take 2 ++ (ansV (pTold 0)).toList ++ ((rmCells v cv S).toList.take 1 ++ [Value.bool false] ++ (rmCells v cv S).toList.drop (1 + [Value.bool false].length)).toArray.toList.drop (2 + (ansV (pTold 0)).toList.length)).toArray = rmCells v cv { S with pend := pTold 0 } := by
  simp [rmCells, ansV, pTold]
theorem Tryz.size51 : (Tryz.prog.info? 51).map (·.size) = some 1 := by kernel_rfl
theorem stopTs {ops : Array Oper} {rest : List Oper} {op : Oper} {a : Act} {w : World} {Q : Exit → Act → World → Prop} (x y : Operand) (_ : op.op = .store 51 x y) (h : Hid (wpList Tryz.prog ops Q (op :: rest) a w)) : wpList Tryz.prog ops Q (op :: rest) a w := h.out
theorem EntsAt.box {w w' : World} {r : Nat} {c : Array Value} {cv : Value} {m : List Pt} (h : w.heap[r]? = some (.cells c 79 (0, 0))) (mv : Moves [r] w w') (k3 : EntsAt w cv m) : EntsAt w' cv m :=
  k3.stay (T := fun t => t ≠ 79) (Stay.ofMovesS mv (fun k hk c t fz hc => by
    simp at hk; subst hk
    rw [h] at hc
    simp at hc
    simp [← hc.2.1])) (by decide) (by decide)
set_option maxRecDepth 100000 in
set_option maxHeartbeats 16000000 in
theorem rmpub_w (w : World) (r : Nat) (S : Pms) (h : RmIs w r S) (ok : OkM S) (C : Pcmd) (ca : Option Addr) (cn cc : Nat) (la : Option Addr) (ln lc : Nat) (sa : Option Addr) (sn sc : Nat) (hg : 1 ≤ C.gen) :
    Calls Tryz.prog 32 #[.pointer (some ⟨r, 0, none⟩), .agg #[.int .i64 C.kind, .int .i64 C.op.kind, .string C.op.row, .string C.op.hi, .bool C.op.cd.has, .bool C.op.cd.want, .string C.op.cd.col, .int .i64 C.op.cd.v.kind, .slice ca cn cc, .float .f64 C.op.cd.v.n, .slice la ln lc, .int .i64 C.op.most, .string C.lo, .string C.hi, .int .i64 C.gen, .string C.at', .int .i64 C.to, .int .i64 C.act, .slice sa sn sc]] w fun e w' => e = .returned (.agg (ansV (mPub S C.gen C.to).1)) ∧ RmIs w' r (mPub S C.gen C.to).2 ∧ Moves [r] w w' := by
  have a1 := heap_alloc_new w (.cells #[.int .i64 C.kind, .int .i64 C.op.kind, .string C.op.row, .string C.op.hi, .bool C.op.cd.has, .bool C.op.cd.want, .string C.op.cd.col, .int .i64 C.op.cd.v.kind, .slice ca cn cc, .float .f64 C.op.cd.v.n, .slice la ln lc, .int .i64 C.op.most, .string C.lo, .string C.hi, .int .i64 C.gen, .string C.at', .int .i64 C.to, .int .i64 C.act, .slice sa sn sc] 39)
  obtain ⟨w2, hw2⟩ : ∃ w2, w.alloc (.cells #[.int .i64 C.kind, .int .i64 C.op.kind, .string C.op.row, .string C.op.hi, .bool C.op.cd.has, .bool C.op.cd.want, .string C.op.cd.col, .int .i64 C.op.cd.v.kind, .slice ca cn cc, .float .f64 C.op.cd.v.n, .slice la ln lc, .int .i64 C.op.most, .string C.lo, .string C.hi, .int .i64 C.gen, .string C.at', .int .i64 C.to, .int .i64 C.act, .slice sa sn sc] 39) = w2 := ⟨_, rfl⟩
  have s2 : w2.heap.size = w.heap.size + 1 := by rw [← hw2]; simp
  have n2 : Moves [] w w2 := by rw [← hw2]; exact (Moves.refl _ _).alloc _
  rw [hw2] at a1
  have a2 := heap_alloc_new w2 (.cells #[.int .i64 0, .slice none 0 0, .string ⟨#[]⟩, .string ⟨#[]⟩, .int .i64 0, .int .i64 0, .int .i64 0, .int .i64 0, .int .i64 0, .string ⟨#[]⟩, .slice none 0 0] 48)
  obtain ⟨w3, hw3⟩ : ∃ w3, w2.alloc (.cells #[.int .i64 0, .slice none 0 0, .string ⟨#[]⟩, .string ⟨#[]⟩, .int .i64 0, .int .i64 0, .int .i64 0, .int .i64 0, .int .i64 0, .string ⟨#[]⟩, .slice none 0 0] 48) = w3 := ⟨_, rfl⟩
  have n3 : Moves [] w2 w3 := by rw [← hw3]; exact (Moves.refl _ _).alloc _
  rw [hw3] at a2
  have m03 := n2.then n3
  have b1 := n3.at a1 (by simp)
  rw [s2] at a2
  obtain ⟨B1, hB1⟩ : ∃ B1, w.heap.size = B1 := ⟨_, rfl⟩
  rw [hB1] at b1 a2
  have HM : Hid (Moves [] w w3) := m03
  have HR : Hid (RmIs w3 r S) := h.moves0 m03
  have HL : Hid (r < w.heap.size) := h.lt
  obtain ⟨v, cv, m, k1, k2, k3, k4⟩ := h.moves0 m03
  obtain ⟨x0, x1, x13, x14, x15⟩ := rm_cells k1
  obtain ⟨-, -, -, -, -, x7, -⟩ := rm_cells2 k1
  obtain ⟨-, -, -, -, -, -, -, -, -, -, -, -, -, -, y14, -, y16, -, -⟩ := c19 b1
  have HK1 : Hid _ := k1
  have HK2 : Hid (OwnT w3 v S.xs) := k2
  have HK3 : Hid (EntsAt w3 cv m ∧ Agree S.ca m) := ⟨k3, k4⟩
  have HA2 : Hid _ := a2
  have HSZ : Hid (w.heap.size = B1) := hB1
  have HSZ3 : Hid (B1 + 1 < w3.heap.size) := lt_of_block a2
  have HOK : Hid (OkM S) := ok
  obtain ⟨R, hR⟩ : ∃ R, mPub S C.gen C.to = R := ⟨_, rfl⟩
  rw [hR]
  unfold mPub at hR
  have hfin : ∀ (u z : World) (A : Pans) (S' : Pms), R = (A, S') → RmIs u r S' → Moves [r] w3 u → Moves [B1 + 1] u z → Ending.returned (.agg (ansV A)) = Ending.returned (.agg (ansV R.1)) ∧ RmIs z r R.2 ∧ Moves [r] w z := by
    intro u z A S' e hI hm hz
    subst e
    refine ⟨rfl, ?_, (HM.out.mono (by simp)).then hm |>.trans hz (fun x hx => .inr (by have := HSZ.out; simp at hx; omega))⟩
    refine hI.moves hz (fun k hk c t fz hc => ?_)
    simp at hk
    subst hk
    have hb := hm.at HA2.out (by simp; have := HL.out; have := HSZ.out; omega)
    rw [hb] at hc
    simp at hc
    rw [← hc.2.1]
    decide
  have HFIN : Hid _ := hfin
  clear hfin k1 k2 k3 k4 b1 a2 ok h n2 n3 m03 a1
  by_cases hp1 : S.last < C.gen
  · rw [if_pos hp1] at hR
    have HRR : Hid (R = (pTold 22, S)) := hR.symm
    have n1 : C.gen > S.last := hp1
    clear hR hp1 x0 x1 x7 x14 x15 y16
    go_enter Tryz.func32, Tryz.ntmps32
    go_wp2_with fail
    try rw [hw2]
    try rw [hw3]
    try rw [s2]
    try rw [hB1]
    go_region
    have HX : Hid (Moves [] w3 w3.drew) := (Moves.refl [] w3).drew
    go_wp2_with (with_reducible refine stopA _ _ rfl ?_)
    unfold Hid
    refine wpList_storeAns rfl _ _ rfl (B1 + 1) (ansV (pTold 22)).toList rfl rfl rfl (ansV_one _) (HX.out.at HA2.out (by simp)) rfl ?_
    intro w99 h99 m99
    go_wp2_with fail
    refine bodyPost_ret (ret_ansL rfl _ _ _ _ rfl rfl h99) rfl ?_
    exact HFIN.out _ _ _ _ HRR.out (HR.out.moves0 HX.out) (HX.out.mono (by simp)) m99
  · rw [if_neg hp1] at hR
    by_cases hp2 : C.gen ≠ S.pend.gen
    · rw [if_pos hp2] at hR
      have HRR : Hid (R = (pTold 0, S)) := hR.symm
      by_cases hp3 : S.pend.act ≠ 0
      · rw [decide_eq_true hp3] at x1
        have e7 : (S.pend.gen == C.gen) = false := beq_eq_false_iff_ne.2 (fun e => hp2 e.symm)
        have e7' : (S.pend.gen != C.gen) = true := by simp only [bne, e7]; rfl
        clear hR hp2 hp3 x0 x14 x15 y16
        go_enter Tryz.func32, Tryz.ntmps32
        go_wp2_with fail
        have n1 : ¬ C.gen > S.last := by omega
        try rw [hw2]
        try rw [hw3]
        try rw [s2]
        try rw [hB1]
        go_region
        clear n1 hp1
        go_wp2_with fail
        go_region
        have HX : Hid (Moves [] w3 w3.drew.drew) := (Moves.refl [] w3).drew.drew
        go_wp2_with (with_reducible refine stopA _ _ rfl ?_)
        unfold Hid
        refine wpList_storeAns rfl _ _ rfl (B1 + 1) (ansV (pTold 0)).toList rfl rfl rfl (ansV_one _) (HX.out.at HA2.out (by simp)) rfl ?_
        intro w99 h99 m99
        go_wp2_with fail
        refine bodyPost_ret (ret_ansL rfl _ _ _ _ rfl rfl h99) rfl ?_
        exact HFIN.out _ _ _ _ HRR.out (HR.out.moves0 HX.out) (HX.out.mono (by simp)) m99
      · rw [decide_eq_false hp3] at x1
        clear hR hp2 hp3 x0 x7 x14 x15 y16
        go_enter Tryz.func32, Tryz.ntmps32
        go_wp2_with fail
        have n1 : ¬ C.gen > S.last := by omega
        try rw [hw2]
        try rw [hw3]
        try rw [s2]
        try rw [hB1]
        go_region
        clear n1 hp1
        go_wp2_with fail
        go_region
        have HX : Hid (Moves [] w3 w3.drew.drew) := (Moves.refl [] w3).drew.drew
        go_wp2_with (with_reducible refine stopA _ _ rfl ?_)
        unfold Hid
        refine wpList_storeAns rfl _ _ rfl (B1 + 1) (ansV (pTold 0)).toList rfl rfl rfl (ansV_one _) (HX.out.at HA2.out (by simp)) rfl ?_
        intro w99 h99 m99
        go_wp2_with fail
        refine bodyPost_ret (ret_ansL rfl _ _ _ _ rfl rfl h99) rfl ?_
        exact HFIN.out _ _ _ _ HRR.out (HR.out.moves0 HX.out) (HX.out.mono (by simp)) m99
    · rw [if_neg hp2] at hR
      have hge : C.gen = S.pend.gen := by omega
      have hP : PlanOf S.xs S.grps S.pend ∧ S.pend.gen = S.last := by
        rcases HOK.out.pe with e | e
        · rw [e] at hge
          have : (pTold 0).gen = 0 := rfl
          omega
        · exact e
      have hact := hP.1.bare.2.2
      have HPL : Hid _ := hP
      have hbusy : S.pend.act ≠ 0 := by omega
      rw [decide_eq_true hbusy] at x1
      have e7 : (S.pend.gen == C.gen) = true := beq_iff_eq.2 hge.symm
      have e7' : (S.pend.gen != C.gen) = false := by simp only [bne, e7]; rfl
      have HHR : Hid _ := hR
      clear hP hR hp2 hbusy x14 x15 hact hge
      go_enter Tryz.func32, Tryz.ntmps32
      go_wp2_with fail
      have n1 : ¬ C.gen > S.last := by omega
      try rw [hw2]
      try rw [hw3]
      try rw [s2]
      try rw [hB1]
      go_region
      clear n1 hp1
      go_wp2_with fail
      go_region
      obtain ⟨x2, x3, x4, x5, x6, x7, x8, x9, x10, x11, x12⟩ := rm_cells2 HK1.out
      have n4 : Moves [] w3 (w3.drew.drew.alloc (.cells #[.int .i64 0, .slice none 0 0, .string ⟨#[]⟩, .string ⟨#[]⟩, .int .i64 0, .int .i64 0, .int .i64 0, .int .i64 0, .int .i64 0, .string ⟨#[]⟩, .slice none 0 0] 48)) := ((Moves.refl [] w3).drew.drew).alloc _
      have hpb : (w3.drew.drew.alloc (.cells #[.int .i64 0, .slice none 0 0, .string ⟨#[]⟩, .string ⟨#[]⟩, .int .i64 0, .int .i64 0, .int .i64 0, .int .i64 0, .int .i64 0, .string ⟨#[]⟩, .slice none 0 0] 48)).heap[w3.heap.size]? = some (.cells #[.int .i64 0, .slice none 0 0, .string ⟨#[]⟩, .string ⟨#[]⟩, .int .i64 0, .int .i64 0, .int .i64 0, .int .i64 0, .int .i64 0, .string ⟨#[]⟩, .slice none 0 0] 48 (0, 0)) := heap_alloc_new w3.drew.drew (.cells #[.int .i64 0, .slice none 0 0, .string ⟨#[]⟩, .string ⟨#[]⟩, .int .i64 0, .int .i64 0, .int .i64 0, .int .i64 0, .int .i64 0, .string ⟨#[]⟩, .slice none 0 0] 48)
      obtain ⟨w4, hw4⟩ : ∃ w4, w3.drew.drew.alloc (.cells #[.int .i64 0, .slice none 0 0, .string ⟨#[]⟩, .string ⟨#[]⟩, .int .i64 0, .int .i64 0, .int .i64 0, .int .i64 0, .int .i64 0, .string ⟨#[]⟩, .slice none 0 0] 48) = w4 := ⟨_, rfl⟩
      rw [hw4] at hpb n4
      obtain ⟨B3, hB3⟩ : ∃ B3, w3.heap.size = B3 := ⟨_, rfl⟩
      rw [hB3] at hpb
      have HB3 : Hid (w3.heap.size = B3) := hB3
      have HPB : Hid _ := hpb
      have HN4 : Hid (Moves [] w3 w4) := n4
      have HR1 : Hid (r < B1 ∧ B1 + 1 < B3) := by
        have e1 := HL.out
        have e2 := HSZ.out
        have e3 := HSZ3.out
        have e4 := HB3.out
        exact ⟨by omega, by omega⟩
      have hB3' : w3.drew.drew.heap.size = B3 := hB3
      go_wp2_with (with_reducible refine stopA _ _ rfl ?_)
      try rw [hw4]
      try rw [hB3']
      try rw [hB3]
      unfold Hid
      refine wpList_storeAns rfl _ _ rfl B3 (ansV S.pend).toList rfl rfl rfl (ansV_one _) HPB.out rfl ?_
      intro w5 h5 m5
      have M5 : Moves [] w3 w5 := HN4.out.trans m5 (fun x hx => .inr (by have := HB3.out; simp at hx; omega))
      have HH5 : Hid _ := h5
      have HM5 : Hid (Moves [] w3 w5) := M5
      have HBX5 : Hid _ := M5.at HK1.out (by simp)
      have HY16 : Hid _ := M5.cell y16
      clear x0 x1 x2 x3 x4 x5 x6 x7 x8 x9 x10 x11 x12 x13 y14 y16 h5 m5 M5 hpb n4 hw4 hB3 hB3' e7 e7' hw2 hw3 s2 hB1
      go_wp2_with (with_reducible refine stopBo _ _ rfl ?_)
      unfold Hid
      refine wpList_storeAt rfl 4 _ _ rfl r 1 _ [.bool false] rfl rfl rfl Tryz.size4 HBX5.out (by show 2 ≤ 16; omega) (by simp [Value.oneCell']) _ rfl ?_
      intro w6 h6 m6
      have HH6 : Hid _ := h6
      have HM6 : Hid (Moves [r] w5 w6) := m6
      clear h6 m6
      go_wp2_with (with_reducible refine stopA _ _ rfl ?_)
      unfold Hid
      refine wpList_storeAt rfl 48 _ _ rfl r 2 _ (ansV (pTold 0)).toList rfl rfl rfl (by rw [show (ansV (pTold 0)).toList.length = 11 from rfl]; exact Tryz.size48) HH6.out (by show 13 ≤ 16; omega) (ansV_one _) (rmCells v cv { S with pend := pTold 0 }) (pub_fin v cv S) ?_
      intro w7 h7 m7
      have HM57 : Hid (Moves [r] w5 w7) := HM6.out.then m7
      have HM7 : Hid (Moves [r] w3 w7) := (HM5.out.mono (by simp)).then (HM6.out.then m7)
      have HH7 : Hid _ := h7
      have HP7 : Hid _ := HM57.out.at HH5.out (by have := HR1.out; simp; omega)
      have y16 := HM57.out.cellOf HY16.out (by have := HR1.out; show B1 ∉ [r]; simp; omega)
      clear h7 m7 HH6 HM6 HBX5
      by_cases hto : C.to = -1
      · have e0 : (C.to == -1) = true := beq_iff_eq.2 hto
        have HRR : Hid (R = (pTold 0, { S with pend := pTold 0 })) := by
          have := HHR.out
          rw [if_neg (by omega)] at this
          exact this.symm
        clear hto
        go_wp2_with (with_reducible refine stopA _ _ rfl ?_)
        unfold Hid
        refine wpList_storeAns rfl _ _ rfl (B1 + 1) (ansV (pTold 0)).toList rfl rfl rfl (ansV_one _) (HM7.out.at HA2.out (by have := HR1.out; simp; omega)) rfl ?_
        intro w99 h99 m99
        go_wp2_with fail
        refine bodyPost_ret (ret_ansL rfl _ _ _ _ rfl rfl h99) rfl ?_
        exact HFIN.out _ _ _ _ HRR.out (RmIs.wrote HK1.out HM7.out HH7.out HK2.out HK3.out.1 HK3.out.2) HM7.out m99
      · have e0 : (C.to == -1) = false := beq_eq_false_iff_ne.2 hto
        have HRR : Hid (R = (pTold 0, { S with xs := lpTo S.xs (mMade S.pend), pend := pTold 0 })) := by
          have := HHR.out
          rw [if_pos hto] at this
          exact this.symm
        have HT : Hid (pbL ⟨S.pend.lo, S.pend.hi⟩ (mMade S.pend) false S.xs = lpTo S.xs (mMade S.pend)) := pub_is HOK.out HPL.out.1 HPL.out.2
        have HTL : Hid ((lpTo S.xs (mMade S.pend)).length ≤ 100) := by
          obtain ⟨A, B, D, -, ⟨-, e3, e4⟩, -⟩ := plan_next HPL.out.1 HOK.out.may HOK.out.g1 (fun x hx => (HOK.out.ins x hx).1) (by rw [HPL.out.2]; exact HOK.out.l0) (by rw [HPL.out.2]; exact HOK.out.l1)
          unfold Hid
          rw [e3]
          exact Nat.le_trans (may_cov e4).2.2 (by omega)
        obtain ⟨x0, -, -, -, -⟩ := rm_cells HH7.out
        obtain ⟨z0, z1, z2, z3, z4, z5, z6, z7, z8, z9, z10⟩ := eleven_cells HP7.out
        obtain ⟨ad, n, cap, rfl, hn⟩ := HK2.out.open
        obtain ⟨G, hG⟩ : ∃ G, (Value.slice ad n cap).ownBlock.getD 0 = G := ⟨_, rfl⟩
        have HTB : Hid (TbL w7 G (.slice ad n cap) S.xs) := (HK2.out.moves HM7.out (fun k hk hk2 => by
          simp at hk2; subst hk2
          obtain ⟨cur, hc⟩ := HK2.out.blk hk
          have := HK1.out
          rw [hc] at this
          simp at this)).tbl (fun k hk => by rw [hk] at hG; exact hG)
        clear hG hto z0 z1 z10
        have HB37 : Hid (w7.heap.size > B3) := lt_of_block HP7.out
        have HN16 : Hid (n ≤ 16) := by unfold Hid; rw [hn.out]; exact HOK.out.few
        obtain ⟨PS, hPS⟩ : ∃ PS : Psp, (⟨S.pend.lo, S.pend.hi⟩ : Psp) = PS := ⟨_, rfl⟩
        have HPS : Hid ((⟨S.pend.lo, S.pend.hi⟩ : Psp) = PS) := hPS
        rw [hPS] at HT
        clear hPS
        obtain ⟨T, hT⟩ : ∃ T, lpTo S.xs (mMade S.pend) = T := ⟨_, rfl⟩
        rw [hT] at HT HTL HRR
        clear hT
        have HZ : Hid (w7.cell? ⟨B3, 2, none⟩ = some (.string S.pend.lo) ∧ w7.cell? ⟨B3, 3, none⟩ = some (.string S.pend.hi) ∧ w7.cell? ⟨B3, 4, none⟩ = some (.int .i64 S.pend.grp) ∧ w7.cell? ⟨B3, 5, none⟩ = some (.int .i64 S.pend.gen) ∧ w7.cell? ⟨B3, 7, none⟩ = some (.int .i64 S.pend.to) ∧ w7.cell? ⟨B3, 8, none⟩ = some (.int .i64 S.pend.act) ∧ w7.cell? ⟨B3, 9, none⟩ = some (.string S.pend.at')) := ⟨z2, z3, z4, z5, z7, z8, z9⟩
        have HX0 : Hid _ := x0
        clear z2 z3 z4 z5 z6 z7 z8 z9 x0
        have x0 := HX0.out
        go_wp2_with fail
        go_loopw [6, 7, 8] (fun ov dv iv wr => ∃ (i : Nat) (d : Bool) (os : List Ptb), i ≤ n ∧ iv = .int .i64 (i : Nat) ∧ dv = .bool d ∧ OwnT wr ov os ∧ Fresh w7 ov ∧ Moves [] w7 wr ∧ os ++ pbL PS (mMade S.pend) d (S.xs.drop i) = T) (fun _ _ iv _ => n - (intOf iv).toNat)
        case atStart => exact ⟨0, false, [], Nat.zero_le _, rfl, rfl, OwnT.nil _, Fresh.nil _, Moves.refl _ _, by simpa using HT.out⟩
        case round =>
          obtain ⟨i, d, os, hin, rfl, rfl, hO, hF, mr, hq⟩ := hrel
          obtain ⟨wo, hwo⟩ : ∃ wo, wo = wr := ⟨_, rfl⟩
          subst hwo
          obtain ⟨ad6, n6, cap6, rfl, hn6⟩ := hO.open
          have HO : Hid (OwnT wo (.slice ad6 n6 cap6) os) := hO
          have HQ : Hid (os ++ pbL PS (mMade S.pend) d (S.xs.drop i) = T) := hq
          have HMR : Hid (Moves [] w7 wo) := mr
          have HF : Hid (Fresh w7 (.slice ad6 n6 cap6)) := hF
          have HOL : Hid (os.length ≤ 100) := by
            have e1 := HTL.out
            have e2 := congrArg List.length hq
            rw [List.length_append] at e2
            unfold Hid
            omega
          clear x0
          have x0 := mr.cell HX0.out
          clear hO hq hF mr
          have hn16 := HN16.out
          by_cases hlt : i < n
          · have hlt' : (i : Int) < n := by omega
            obtain ⟨y, hy⟩ : ∃ y, S.xs[i]? = some y := ⟨_, List.getElem?_eq_getElem (by have := hn.out; omega)⟩
            obtain ⟨off, rfl, ya, yb, yc, yd⟩ := (HTB.out.moves HMR.out (by simp)).at hy
            obtain ⟨zlo, zhi, zgr, zge, zto, zac, zat⟩ := HZ.out
            replace zlo := HMR.out.cell zlo
            replace zhi := HMR.out.cell zhi
            replace zgr := HMR.out.cell zgr
            replace zge := HMR.out.cell zge
            replace zto := HMR.out.cell zto
            replace zac := HMR.out.cell zac
            replace zat := HMR.out.cell zat
            have HDR : Hid (S.xs.drop i = y :: S.xs.drop (i + 1)) := by
              obtain ⟨h1, h2⟩ := List.getElem?_eq_some_iff.1 hy
              unfold Hid
              rw [List.drop_eq_getElem_cons h1, h2]
            clear hy
            have hmeet := fun w9 => rfMeet7_w y.lo y.hi S.pend.lo S.pend.hi w9
            obtain ⟨bm, hbm⟩ : ∃ bm, spM ⟨y.lo, y.hi⟩ ⟨S.pend.lo, S.pend.hi⟩ = bm := ⟨_, rfl⟩
            rw [hbm] at hmeet
            have HBM : Hid (spM y.sp PS = bm) := by rw [← HPS.out]; exact hbm
            clear hbm
            cases bm with
            | false =>
              go_wp2_with fail
              refine wp_region_noPanic ?_
              refine wp_region_held_drew (S := (fun w' => w'.cell? ⟨r, 0, none⟩ = some (.slice (some ⟨G, off, none⟩) n cap) ∧ w'.cell? ⟨G, off + i * 4, none⟩ = some (.string y.lo) ∧ w'.cell? ⟨G, off + i * 4 + 1, none⟩ = some (.string y.hi) ∧ w'.cell? ⟨B3, 2, none⟩ = some (.string S.pend.lo) ∧ w'.cell? ⟨B3, 3, none⟩ = some (.string S.pend.hi))) (by kernel_rfl) ?_ (fun hHeld => ?_)
              · first | (go_keep; done) | first | exact ⟨x0, ya, yb, zlo, zhi⟩ | exact ⟨M9.cell x0, M9.cell ya, M9.cell yb, M9.cell zlo, M9.cell zhi⟩
              refine wpT 0 ⟨some 60, .move (.tmp 0), 25, "ref.go:116", #[], none⟩ ?_
              refine wpT 1 ⟨some 61, .nilCheck (.tmp 60), 0, "ref.go:116", #[⟨0, .data⟩], none⟩ ?_
              refine wpT 2 ⟨some 62, .fieldAddr 79 (.tmp 61) 0, 0, "ref.go:116", #[⟨1, .data⟩], none⟩ ?_
              refine wpT 3 ⟨some 63, .load 51 (.tmp 62), 51, "ref.go:116", #[⟨2, .data⟩], none⟩ ?_
              refine wpT 4 ⟨some 64, .move (.tmp 8), 3, "ref.go:116", #[], none⟩ ?_
              refine wpT 5 ⟨some 65, .indexAddr 51 (.tmp 63) (.tmp 64), 0, "ref.go:116", #[⟨3, .data⟩, ⟨4, .data⟩], none⟩ ?_
              refine wpT 6 ⟨some 66, .fieldAddr 54 (.tmp 65) 0, 0, "ref.go:116", #[⟨5, .data⟩], none⟩ ?_
              refine wpT 7 ⟨some 67, .load 37 (.tmp 66), 37, "ref.go:116", #[⟨6, .data⟩], none⟩ ?_
              refine wpT 8 ⟨some 68, .fieldAddr 48 (.tmp 5) 2, 0, "ref.go:116", #[], none⟩ ?_
              refine wpT 9 ⟨some 69, .load 37 (.tmp 68), 37, "ref.go:116", #[⟨8, .data⟩], none⟩ ?_
              refine wpR 10 ⟨some 70, .call ⟨.value (.func 17), #[.tmp 67, .tmp 69], #[37, 37]⟩, 4, "ref.go:116", #[⟨7, .data⟩, ⟨9, .data⟩], none⟩ (fun K hK => ?_)
              go_simp
              go_at_call 17
              refine (hmeet _).mono ?_
              rintro _ w9 ⟨rfl, m9⟩
              have M9 : Moves [] wo w9 := (Moves.refl [] wo).drew.then m9
              refine hK.out _ _ ?_ (fun hHeld => ?_)
              · first | exact ⟨x0, ya, yb, zlo, zhi⟩ | exact ⟨M9.cell x0, M9.cell ya, M9.cell yb, M9.cell zlo, M9.cell zhi⟩
              clear hK K
              try simp only [Act.put, sp1, sp2, sp3]
              refine wpT 11 ⟨some 71, .unOp .not 4 (.tmp 70), 4, "ref.go:116", #[⟨10, .data⟩], none⟩ ?_
              refine wpAnyH_done (by kernel_rfl) ?_ _
              refine NoPanic.normal ?_
              replace M9 : Hid _ := M9
              have y0' := M9.out.cell ya
              have y1' := M9.out.cell yb
              have y2' := M9.out.cell yc
              have y3' := M9.out.cell yd
              have x0 := M9.out.cell x0
              have m10 : Moves [] w9 (w9.alloc (.cells #[.string y.lo, .string y.hi, .int .i64 y.g, .int .i64 y.n] 54)) := (Moves.refl _ _).alloc _
              have hO10 := HO.out.moves (M9.out.then m10) (by simp)
              have hT10 := tb_new w9 y
              clear ya yb yc yd zlo zhi zgr zge zto zac zat hmeet
              go_wp2_with (at_builtin; refine tabs_append (.tmp 72) (.tmp 80) rfl (.slice ad6 n6 cap6) _ _ os [y] rfl rfl rfl hO10 hT10 (by have := HOL.out; simp; omega) ?_)
              intro v11 w11 hO11 m11 l11
              obtain ⟨M11, F11⟩ := appended ((HMR.out.then M9.out).then m10) HF.out m11 l11
              have HO11 : Hid _ := hO11
              clear hO11 hO10 hT10 m10 m11 l11
              go_wp2_with fail
              go_roundw
              case rel => exact ⟨i + 1, d, os ++ [y], by omega, by go_num, rfl, HO11.out, F11, M11, by
                have e := HQ.out
                rw [HDR.out] at e
                unfold pbL at e
                rw [HBM.out] at e
                simpa [List.append_assoc] using e⟩
              case measure => simp [intOf]; omega
            | true =>
              cases d with
              | true =>
                go_wp2_with fail
                refine wp_region_noPanic ?_
                refine wp_region_held_drew (S := (fun w' => w'.cell? ⟨r, 0, none⟩ = some (.slice (some ⟨G, off, none⟩) n cap) ∧ w'.cell? ⟨G, off + i * 4, none⟩ = some (.string y.lo) ∧ w'.cell? ⟨G, off + i * 4 + 1, none⟩ = some (.string y.hi) ∧ w'.cell? ⟨B3, 2, none⟩ = some (.string S.pend.lo) ∧ w'.cell? ⟨B3, 3, none⟩ = some (.string S.pend.hi))) (by kernel_rfl) ?_ (fun hHeld => ?_)
                · first | (go_keep; done) | first | exact ⟨x0, ya, yb, zlo, zhi⟩ | exact ⟨M9.cell x0, M9.cell ya, M9.cell yb, M9.cell zlo, M9.cell zhi⟩
                refine wpT 0 ⟨some 60, .move (.tmp 0), 25, "ref.go:116", #[], none⟩ ?_
                refine wpT 1 ⟨some 61, .nilCheck (.tmp 60), 0, "ref.go:116", #[⟨0, .data⟩], none⟩ ?_
                refine wpT 2 ⟨some 62, .fieldAddr 79 (.tmp 61) 0, 0, "ref.go:116", #[⟨1, .data⟩], none⟩ ?_
                refine wpT 3 ⟨some 63, .load 51 (.tmp 62), 51, "ref.go:116", #[⟨2, .data⟩], none⟩ ?_
                refine wpT 4 ⟨some 64, .move (.tmp 8), 3, "ref.go:116", #[], none⟩ ?_
                refine wpT 5 ⟨some 65, .indexAddr 51 (.tmp 63) (.tmp 64), 0, "ref.go:116", #[⟨3, .data⟩, ⟨4, .data⟩], none⟩ ?_
                refine wpT 6 ⟨some 66, .fieldAddr 54 (.tmp 65) 0, 0, "ref.go:116", #[⟨5, .data⟩], none⟩ ?_
                refine wpT 7 ⟨some 67, .load 37 (.tmp 66), 37, "ref.go:116", #[⟨6, .data⟩], none⟩ ?_
                refine wpT 8 ⟨some 68, .fieldAddr 48 (.tmp 5) 2, 0, "ref.go:116", #[], none⟩ ?_
                refine wpT 9 ⟨some 69, .load 37 (.tmp 68), 37, "ref.go:116", #[⟨8, .data⟩], none⟩ ?_
                refine wpR 10 ⟨some 70, .call ⟨.value (.func 17), #[.tmp 67, .tmp 69], #[37, 37]⟩, 4, "ref.go:116", #[⟨7, .data⟩, ⟨9, .data⟩], none⟩ (fun K hK => ?_)
                go_simp
                go_at_call 17
                refine (hmeet _).mono ?_
                rintro _ w9 ⟨rfl, m9⟩
                have M9 : Moves [] wo w9 := (Moves.refl [] wo).drew.then m9
                refine hK.out _ _ ?_ (fun hHeld => ?_)
                · first | exact ⟨x0, ya, yb, zlo, zhi⟩ | exact ⟨M9.cell x0, M9.cell ya, M9.cell yb, M9.cell zlo, M9.cell zhi⟩
                clear hK K
                try simp only [Act.put, sp1, sp2, sp3]
                refine wpT 11 ⟨some 71, .unOp .not 4 (.tmp 70), 4, "ref.go:116", #[⟨10, .data⟩], none⟩ ?_
                refine wpAnyH_done (by kernel_rfl) ?_ _
                refine NoPanic.normal ?_
                replace M9 : Hid _ := M9
                clear ya yb yc yd zlo zhi zgr zge zto zac zat hmeet x0
                go_wp2_with fail
                go_roundw
                case rel => exact ⟨i + 1, true, os, by omega, by go_num, rfl, HO.out.moves M9.out (by simp), HF.out, HMR.out.then M9.out, by
                  have e := HQ.out
                  rw [HDR.out] at e
                  unfold pbL at e
                  rw [HBM.out] at e
                  simpa using e⟩
                case measure => simp [intOf]; omega
              | false =>
                go_wp2_with fail
                refine wp_region_noPanic ?_
                refine wp_region_held_drew (S := (fun w' => w'.cell? ⟨r, 0, none⟩ = some (.slice (some ⟨G, off, none⟩) n cap) ∧ w'.cell? ⟨G, off + i * 4, none⟩ = some (.string y.lo) ∧ w'.cell? ⟨G, off + i * 4 + 1, none⟩ = some (.string y.hi) ∧ w'.cell? ⟨B3, 2, none⟩ = some (.string S.pend.lo) ∧ w'.cell? ⟨B3, 3, none⟩ = some (.string S.pend.hi))) (by kernel_rfl) ?_ (fun hHeld => ?_)
                · first | (go_keep; done) | first | exact ⟨x0, ya, yb, zlo, zhi⟩ | exact ⟨M9.cell x0, M9.cell ya, M9.cell yb, M9.cell zlo, M9.cell zhi⟩
                refine wpT 0 ⟨some 60, .move (.tmp 0), 25, "ref.go:116", #[], none⟩ ?_
                refine wpT 1 ⟨some 61, .nilCheck (.tmp 60), 0, "ref.go:116", #[⟨0, .data⟩], none⟩ ?_
                refine wpT 2 ⟨some 62, .fieldAddr 79 (.tmp 61) 0, 0, "ref.go:116", #[⟨1, .data⟩], none⟩ ?_
                refine wpT 3 ⟨some 63, .load 51 (.tmp 62), 51, "ref.go:116", #[⟨2, .data⟩], none⟩ ?_
                refine wpT 4 ⟨some 64, .move (.tmp 8), 3, "ref.go:116", #[], none⟩ ?_
                refine wpT 5 ⟨some 65, .indexAddr 51 (.tmp 63) (.tmp 64), 0, "ref.go:116", #[⟨3, .data⟩, ⟨4, .data⟩], none⟩ ?_
                refine wpT 6 ⟨some 66, .fieldAddr 54 (.tmp 65) 0, 0, "ref.go:116", #[⟨5, .data⟩], none⟩ ?_
                refine wpT 7 ⟨some 67, .load 37 (.tmp 66), 37, "ref.go:116", #[⟨6, .data⟩], none⟩ ?_
                refine wpT 8 ⟨some 68, .fieldAddr 48 (.tmp 5) 2, 0, "ref.go:116", #[], none⟩ ?_
                refine wpT 9 ⟨some 69, .load 37 (.tmp 68), 37, "ref.go:116", #[⟨8, .data⟩], none⟩ ?_
                refine wpR 10 ⟨some 70, .call ⟨.value (.func 17), #[.tmp 67, .tmp 69], #[37, 37]⟩, 4, "ref.go:116", #[⟨7, .data⟩, ⟨9, .data⟩], none⟩ (fun K hK => ?_)
                go_simp
                go_at_call 17
                refine (hmeet _).mono ?_
                rintro _ w9 ⟨rfl, m9⟩
                have M9 : Moves [] wo w9 := (Moves.refl [] wo).drew.then m9
                refine hK.out _ _ ?_ (fun hHeld => ?_)
                · first | exact ⟨x0, ya, yb, zlo, zhi⟩ | exact ⟨M9.cell x0, M9.cell ya, M9.cell yb, M9.cell zlo, M9.cell zhi⟩
                clear hK K
                try simp only [Act.put, sp1, sp2, sp3]
                refine wpT 11 ⟨some 71, .unOp .not 4 (.tmp 70), 4, "ref.go:116", #[⟨10, .data⟩], none⟩ ?_
                refine wpAnyH_done (by kernel_rfl) ?_ _
                refine NoPanic.normal ?_
                replace M9 : Hid _ := M9
                replace zlo := M9.out.cell zlo
                replace zhi := M9.out.cell zhi
                replace zgr := M9.out.cell zgr
                replace zge := M9.out.cell zge
                replace zto := M9.out.cell zto
                replace zac := M9.out.cell zac
                replace zat := M9.out.cell zat
                have hsp := fun w => rfSplit7_w S.pend.lo S.pend.hi S.pend.at' w
                have HS1 : Hid (S.pend.act = 2 → spS1 ⟨S.pend.lo, S.pend.hi⟩ S.pend.at' = ⟨S.pend.lo, S.pend.at'⟩ ∧ spS2 ⟨S.pend.lo, S.pend.hi⟩ S.pend.at' = ⟨S.pend.at', S.pend.hi⟩) := by
                  intro h2
                  have := HPL.out.1
                  revert h2
                  generalize S.pend = P at this
                  cases this with
                  | move => intro h2; simp [pPl] at h2
                  | merge => intro h2; simp [pPl] at h2
                  | split A D t gen s h hc hl =>
                    intro _
                    have hc' : spC ⟨t.lo, t.hi⟩ s = true := hc
                    unfold spS1 spS2
                    exact ⟨by show (if spC ⟨t.lo, t.hi⟩ s = true then _ else _) = _; rw [if_pos hc'], by show (if spC ⟨t.lo, t.hi⟩ s = true then _ else _) = _; rw [if_pos hc']⟩
                obtain ⟨A1, hA1⟩ : ∃ A1, spS1 ⟨S.pend.lo, S.pend.hi⟩ S.pend.at' = A1 := ⟨_, rfl⟩
                obtain ⟨A2, hA2⟩ : ∃ A2, spS2 ⟨S.pend.lo, S.pend.hi⟩ S.pend.at' = A2 := ⟨_, rfl⟩
                rw [hA1, hA2] at HS1
                simp only [hA1, hA2] at hsp
                clear hA1 hA2 ya yb yc yd hmeet x0
                go_wp2_with fail
                refine (hsp _).mono ?_
                rintro _ w12 ⟨rfl, m12⟩
                have bx := spBoxes2 w12 #[.string ⟨#[]⟩, .string ⟨#[]⟩] #[.string ⟨#[]⟩, .string ⟨#[]⟩] 37
                obtain ⟨wA, hwA⟩ : ∃ wA, (w12.alloc (.cells #[.string ⟨#[]⟩, .string ⟨#[]⟩] 37)).alloc (.cells #[.string ⟨#[]⟩, .string ⟨#[]⟩] 37) = wA := ⟨_, rfl⟩
                rw [hwA] at bx
                obtain ⟨BA, hBA⟩ : ∃ BA, w12.heap.size = BA := ⟨_, rfl⟩
                rw [hBA] at bx
                have HBX : Hid _ := bx
                have HBA : Hid (w12.heap.size = BA) := hBA
                have HM12 : Hid (Moves [] wo w12) := M9.out.then m12
                have HM912 : Hid (Moves [] w9 w12) := m12
                clear bx m12 hsp
                go_wp2_with (with_reducible refine stopSp _ _ rfl ?_)
                try rw [hwA]
                try rw [hBA]
                unfold Hid
                refine wpList_storeAt rfl _ _ _ rfl BA 0 _ [.string A1.lo, .string A1.hi] rfl rfl rfl Tryz.size37 HBX.out.2.1 (by show 2 ≤ 2; omega) (by simp [Value.oneCell']) #[.string A1.lo, .string A1.hi] rfl ?_
                intro wB hB mB
                have HBX2 : Hid _ := mB.at HBX.out.2.2 (by simp)
                have HBX1 : Hid _ := hB
                have HMB : Hid (Moves [] w12 wB) := HBX.out.1.trans mB (fun x hx => .inr (by have := HBA.out; simp at hx; omega))
                clear hB mB hwA hBA
                go_wp2_with (with_reducible refine stopSp _ _ rfl ?_)
                unfold Hid
                refine wpList_storeAt rfl _ _ _ rfl (BA + 1) 0 _ [.string A2.lo, .string A2.hi] rfl rfl rfl Tryz.size37 HBX2.out (by show 2 ≤ 2; omega) (by simp [Value.oneCell']) #[.string A2.lo, .string A2.hi] rfl ?_
                intro wz hz mz
                have m12z : Moves [] w12 wz := HMB.out.trans mz (fun x hx => .inr (by have := HBA.out; simp at hx; omega))
                have HOZ : Hid (Moves [] wo wz) := HM12.out.then m12z
                have m9z : Moves [] w9 wz := HM912.out.then m12z
                have HbA := mz.at HBX1.out (by simp)
                obtain ⟨ca0, ca1, _, _⟩ := sp_cells HbA
                obtain ⟨cb0, cb1, _, _⟩ := sp_cells hz
                replace zlo := m9z.cell zlo
                replace zhi := m9z.cell zhi
                replace zgr := m9z.cell zgr
                replace zge := m9z.cell zge
                replace zto := m9z.cell zto
                replace zac := m9z.cell zac
                replace zat := m9z.cell zat
                clear hz mz HBX2 HBX1 HbA m9z m12z
                by_cases ha1 : S.pend.act = 1
                · have e1 : (S.pend.act == 1) = true := beq_iff_eq.2 ha1
                  have HMD : Hid (mMade S.pend = [⟨S.pend.lo, S.pend.hi, S.pend.to, S.pend.gen⟩]) := by unfold Hid mMade; rw [if_pos ha1]
                  clear ha1 ca0 ca1 cb0 cb1 zat zgr
                  have m10 : Moves [] wz (wz.alloc (.cells #[.string S.pend.lo, .string S.pend.hi, .int .i64 S.pend.to, .int .i64 S.pend.gen] 54)) := (Moves.refl _ _).alloc _
                  have hO10 := HO.out.moves (HOZ.out.then m10) (by simp)
                  have hT10 := tb_new wz ⟨S.pend.lo, S.pend.hi, S.pend.to, S.pend.gen⟩
                  go_wp2_with (at_builtin; refine tabs_append (.tmp 106) (.tmp 114) rfl (.slice ad6 n6 cap6) _ _ os [⟨S.pend.lo, S.pend.hi, S.pend.to, S.pend.gen⟩] rfl rfl rfl hO10 hT10 (by have := HOL.out; simp; omega) ?_)
                  intro v11 w11 hO11 m11 l11
                  obtain ⟨M11, F11⟩ := appended ((HMR.out.then HOZ.out).then m10) HF.out m11 l11
                  rw [← HMD.out] at hO11
                  have HO11 : Hid _ := hO11
                  clear hO11 hO10 hT10 m10 m11 l11
                  go_wp2_with fail
                  go_roundw
                  case rel => exact ⟨i + 1, true, os ++ mMade S.pend, by omega, by go_num, rfl, HO11.out, F11, M11, by
                    have e := HQ.out
                    rw [HDR.out] at e
                    unfold pbL at e
                    rw [HBM.out] at e
                    simpa [List.append_assoc] using e⟩
                  case measure => simp [intOf]; omega
                · have e1 : (S.pend.act == 1) = false := beq_eq_false_iff_ne.2 ha1
                  by_cases ha2 : S.pend.act = 2
                  · have e2 : (S.pend.act == 2) = true := beq_iff_eq.2 ha2
                    have HMD : Hid (mMade S.pend = [⟨S.pend.lo, S.pend.at', S.pend.grp, S.pend.gen⟩, ⟨S.pend.at', S.pend.hi, S.pend.grp, S.pend.gen⟩]) := by unfold Hid mMade; rw [if_neg ha1, if_pos ha2]
                    obtain ⟨rfl, rfl⟩ := HS1.out ha2
                    dsimp only at ca0 ca1 cb0 cb1
                    clear ha1 ha2 zlo zhi zto zat
                    have m10 : Moves [] wz (wz.alloc (.cells #[.string S.pend.lo, .string S.pend.at', .int .i64 S.pend.grp, .int .i64 S.pend.gen, .string S.pend.at', .string S.pend.hi, .int .i64 S.pend.grp, .int .i64 S.pend.gen] 54)) := (Moves.refl _ _).alloc _
                    have hO10 := HO.out.moves (HOZ.out.then m10) (by simp)
                    have hT10 := tb_new2 wz ⟨S.pend.lo, S.pend.at', S.pend.grp, S.pend.gen⟩ ⟨S.pend.at', S.pend.hi, S.pend.grp, S.pend.gen⟩
                    go_wp2_with (at_builtin; refine tabs_append (.tmp 118) (.tmp 131) rfl (.slice ad6 n6 cap6) _ _ os [⟨S.pend.lo, S.pend.at', S.pend.grp, S.pend.gen⟩, ⟨S.pend.at', S.pend.hi, S.pend.grp, S.pend.gen⟩] rfl rfl rfl hO10 hT10 (by have := HOL.out; simp; omega) ?_)
                    intro v11 w11 hO11 m11 l11
                    obtain ⟨M11, F11⟩ := appended ((HMR.out.then HOZ.out).then m10) HF.out m11 l11
                    rw [← HMD.out] at hO11
                    have HO11 : Hid _ := hO11
                    clear hO11 hO10 hT10 m10 m11 l11
                    go_wp2_with fail
                    go_roundw
                    case rel => exact ⟨i + 1, true, os ++ mMade S.pend, by omega, by go_num, rfl, HO11.out, F11, M11, by
                      have e := HQ.out
                      rw [HDR.out] at e
                      unfold pbL at e
                      rw [HBM.out] at e
                      simpa [List.append_assoc] using e⟩
                    case measure => simp [intOf]; omega
                  · have e2 : (S.pend.act == 2) = false := beq_eq_false_iff_ne.2 ha2
                    have HMD : Hid (mMade S.pend = [⟨S.pend.lo, S.pend.hi, S.pend.grp, S.pend.gen⟩]) := by unfold Hid mMade; rw [if_neg ha1, if_neg ha2]
                    clear ha1 ha2 ca0 ca1 cb0 cb1 zat zto
                    have m10 : Moves [] wz (wz.alloc (.cells #[.string S.pend.lo, .string S.pend.hi, .int .i64 S.pend.grp, .int .i64 S.pend.gen] 54)) := (Moves.refl _ _).alloc _
                    have hO10 := HO.out.moves (HOZ.out.then m10) (by simp)
                    have hT10 := tb_new wz ⟨S.pend.lo, S.pend.hi, S.pend.grp, S.pend.gen⟩
                    go_wp2_with (at_builtin; refine tabs_append (.tmp 94) (.tmp 102) rfl (.slice ad6 n6 cap6) _ _ os [⟨S.pend.lo, S.pend.hi, S.pend.grp, S.pend.gen⟩] rfl rfl rfl hO10 hT10 (by have := HOL.out; simp; omega) ?_)
                    intro v11 w11 hO11 m11 l11
                    obtain ⟨M11, F11⟩ := appended ((HMR.out.then HOZ.out).then m10) HF.out m11 l11
                    rw [← HMD.out] at hO11
                    have HO11 : Hid _ := hO11
                    clear hO11 hO10 hT10 m10 m11 l11
                    go_wp2_with fail
                    go_roundw
                    case rel => exact ⟨i + 1, true, os ++ mMade S.pend, by omega, by go_num, rfl, HO11.out, F11, M11, by
                      have e := HQ.out
                      rw [HDR.out] at e
                      unfold pbL at e
                      rw [HBM.out] at e
                      simpa [List.append_assoc] using e⟩
                    case measure => simp [intOf]; omega
          · obtain rfl : i = n := by omega
            have HOT : Hid (os = T) := by
              have e := HQ.out
              rw [List.drop_of_length_le (by rw [← hn.out]; exact Nat.le_refl _)] at e
              unfold Hid
              cases d <;> simpa [pbL] using e
            have HBX : Hid _ := HMR.out.at HH7.out (by simp)
            go_wp2_with (with_reducible refine stopTs _ _ rfl ?_)
            unfold Hid
            refine wpList_storeAt rfl 51 _ _ rfl r 0 _ [.slice ad6 n6 cap6] rfl rfl rfl Tryz.size51 HBX.out (by show 1 ≤ 16; omega) (by simp [Value.oneCell']) (rmCells (.slice ad6 n6 cap6) cv { S with xs := T, pend := pTold 0 }) rfl ?_
            intro w20 h20 m20
            have HH20 : Hid _ := h20
            have HM20 : Hid (Moves [r] wo w20) := m20
            have HM320 : Hid (Moves [r] w3 w20) := (HM7.out.then (HMR.out.mono (by simp))).then m20
            clear h20 m20
            go_wp2_with (with_reducible refine stopA _ _ rfl ?_)
            unfold Hid
            refine wpList_storeAns rfl _ _ rfl (B1 + 1) (ansV (pTold 0)).toList rfl rfl rfl (ansV_one _) (HM320.out.at HA2.out (by have := HR1.out; simp; omega)) rfl ?_
            intro w99 h99 m99
            go_wp2_with fail
            refine bodyPost_ret (ret_ansL rfl _ _ _ _ rfl rfl h99) rfl ?_
            have hO := HO.out
            rw [HOT.out] at hO
            exact HFIN.out _ _ _ _ HRR.out (RmIs.wrote (S := { S with pend := pTold 0 }) HBX.out HM20.out HH20.out hO ((EntsAt.box HK1.out HM7.out HK3.out.1).moves HMR.out) HK3.out.2) HM320.out m99
end Go.Proofs.YtilbbnmhnacnlaaGreat
