/- ours -/
import Derived.Test.YtfhdodopjgfedaaGreatCMs4
namespace Go.Proofs.YtfhdodopjgfedaaGreat
open Go.RowKit

theorem ansV_one (A : Pans) : ∀ u ∈ (ansV A).toList, u.oneCell' = true := by
  intro u hu
  simp [ansV] at hu
  rcases hu with rfl | rfl | rfl | rfl | rfl | rfl | rfl | rfl | rfl | rfl | rfl <;> rfl
theorem ret_ansV {fn : Func} {p : Tmp} (h : fn.results = #[.cell p 48]) (tmps : Array Value) (w : World) (g : Nat) (A : Pans) (hp : tmps.getD p undef = .pointer (some ⟨g, 0, none⟩)) (hg : w.heap[g]? = some (.cells (ansV A) 48 (0, 0))) :
    (results fn tmps).run Tryz.prog w = .ok (.agg (ansV A)) w := by
  unfold ansV at hg ⊢
  exact ret_ans h tmps w g _ _ _ _ _ _ _ _ _ _ _ hp hg
theorem MrIs.wrote {W w w' : World} {p q c : Nat} {a : Option Nat} {S S' : Pms} (h : MrIs W w p q c a S) (m : Moves [p] w w') (hb : w'.heap[p]? = some (.cells (mrCells q c S') 76 (0, 0))) (hx : S'.xs = S.xs) (hc : S'.ca = S.ca) : MrIs W w' p q c a S' := by
  obtain ⟨n1, n2, n3, n4, n5, n6⟩ := h.ne
  refine ⟨hb, ?_, ?_, h.hp, h.hq, h.hc⟩
  · rw [hx]
    exact h.tab.moves m (by simp) (by simpa using fun e => n1 e.symm)
  · rw [hc]
    refine h.cac.moves m (by simpa using fun e => n2 e.symm) (fun k hk hm => ?_)
    simp at hm
    subst hm
    exact n4 (by simp [hk])

set_option maxRecDepth 100000 in
set_option maxHeartbeats 16000000 in
theorem mbegin_w (W w : World) (p q c : Nat) (a : Option Nat) (S : Pms) (h : MrIs W w p q c a S) (ok : OkM S) (C : Pcmd) (ca : Option Addr) (cn cc : Nat) (la : Option Addr) (ln lc : Nat) (sa : Option Addr) (sn sc : Nat) (ha1 : 1 ≤ C.act) (ha3 : C.act ≤ 3) :
    Calls Tryz.prog 68 #[.pointer (some ⟨p, 0, none⟩), .agg #[.int .i64 C.kind, .int .i64 C.op.kind, .string C.op.row, .string C.op.hi, .bool C.op.cd.has, .bool C.op.cd.want, .string C.op.cd.col, .int .i64 C.op.cd.v.kind, .slice ca cn cc, .float .f64 C.op.cd.v.n, .slice la ln lc, .int .i64 C.op.most, .string C.lo, .string C.hi, .int .i64 C.gen, .string C.at', .int .i64 C.to, .int .i64 C.act, .slice sa sn sc]] w fun e w' => e = .returned (.agg (ansV (mBegin S C.act C.at' C.to).1)) ∧ MrIs W w' p q c a (mBegin S C.act C.at' C.to).2 ∧ Moves [p] w w' := by
  have a1 := heap_alloc_new w (.cells #[.int .i64 C.kind, .int .i64 C.op.kind, .string C.op.row, .string C.op.hi, .bool C.op.cd.has, .bool C.op.cd.want, .string C.op.cd.col, .int .i64 C.op.cd.v.kind, .slice ca cn cc, .float .f64 C.op.cd.v.n, .slice la ln lc, .int .i64 C.op.most, .string C.lo, .string C.hi, .int .i64 C.gen, .string C.at', .int .i64 C.to, .int .i64 C.act, .slice sa sn sc] 39)
  obtain ⟨w2, hw2⟩ : ∃ w2, w.alloc (.cells #[.int .i64 C.kind, .int .i64 C.op.kind, .string C.op.row, .string C.op.hi, .bool C.op.cd.has, .bool C.op.cd.want, .string C.op.cd.col, .int .i64 C.op.cd.v.kind, .slice ca cn cc, .float .f64 C.op.cd.v.n, .slice la ln lc, .int .i64 C.op.most, .string C.lo, .string C.hi, .int .i64 C.gen, .string C.at', .int .i64 C.to, .int .i64 C.act, .slice sa sn sc] 39) = w2 := ⟨_, rfl⟩
  have s2 : w2.heap.size = w.heap.size + 1 := by rw [← hw2]; simp
  have n2 : Moves [] w w2 := by rw [← hw2]; exact (Moves.refl _ _).alloc _
  rw [hw2] at a1
  have a2 := heap_alloc_new w2 (.cells #[.int .i64 0, .slice none 0 0, .string ⟨#[]⟩, .string ⟨#[]⟩, .int .i64 0, .int .i64 0, .int .i64 0, .int .i64 0, .int .i64 0, .string ⟨#[]⟩, .slice none 0 0] 48)
  obtain ⟨w3, hw3⟩ : ∃ w3, w2.alloc (.cells #[.int .i64 0, .slice none 0 0, .string ⟨#[]⟩, .string ⟨#[]⟩, .int .i64 0, .int .i64 0, .int .i64 0, .int .i64 0, .int .i64 0, .string ⟨#[]⟩, .slice none 0 0] 48) = w3 := ⟨_, rfl⟩
  have n3 : Moves [] w2 w3 := by rw [← hw3]; exact (Moves.refl _ _).alloc _
  rw [hw3] at a2
  have m03 := n2.then n3
  have b1 := n3.at a1 (by simp)
  rw [s2] at a2
  obtain ⟨B1, hB1⟩ : ∃ B1, w.heap.size = B1 := ⟨_, rfl⟩
  rw [hB1] at b1 a2
  have hbusy := mbusy_w W w3 p q c a S (h.moves0 m03)
  have hdraw := mdraw_w W w3 p q c a S (h.moves0 m03) ok C ca cn cc la ln lc sa sn sc
  have HI : Hid (MrIs W w p q c a S) := h
  have HB1 : Hid _ := b1
  have HM : Hid (Moves [] w w3) := m03
  have hbx := m03.at h.box (by simp)
  have hpB : p < B1 := by rw [← hB1]; exact h.lt.1
  have l1 := ok.l1
  have l0 := ok.l0
  have HSZ : Hid (w.heap.size = B1) := hB1
  obtain ⟨R1, hR1⟩ : ∃ R1, (mBegin S C.act C.at' C.to).1 = R1 := ⟨_, rfl⟩
  obtain ⟨R2, hR2⟩ : ∃ R2, (mBegin S C.act C.at' C.to).2 = R2 := ⟨_, rfl⟩
  rw [hR1, hR2]
  unfold mBegin at hR1 hR2
  clear a1 n2 n3 m03 b1 h
  by_cases hb : S.pend.act ≠ 0
  · rw [decide_eq_true hb] at hbusy
    rw [if_pos hb] at hR1 hR2
    subst hR1 hR2
    clear hb hdraw hbx
    go_enter Tryz.func68, Tryz.ntmps68
    go_wp2_with fail
    try rw [hw2]
    try rw [hw3]
    try rw [s2]
    try rw [hB1]
    refine hbusy.mono ?_
    rintro _ _ ⟨rfl, rfl⟩
    go_wp2_with fail
    refine (mtold_w 4 _).mono ?_
    rintro _ w9 ⟨rfl, m9⟩
    have b9 := m9.at a2 (by simp)
    obtain ⟨z0, z1, z2, z3, z4, z5, z6, z7, z8, z9, z10⟩ := eleven_cells b9
    have zfz := eleven_fz b9
    unfold ansV
    go_wp2_with fail
    have so := stored11 b9 (.int .i64 (pTold 4).code) (.slice none 0 0) (.string (pTold 4).lo) (.string (pTold 4).hi) (.int .i64 (pTold 4).grp) (.int .i64 (pTold 4).gen) (.int .i64 (pTold 4).old) (.int .i64 (pTold 4).to) (.int .i64 (pTold 4).act) (.string (pTold 4).at') (.slice none 0 0)
    have hM9 := (HM.out.then m9).trans so.2 (fun x hx => .inr (by simp at hx; have := HSZ.out; omega))
    refine bodyPost_ret (ret_ans rfl _ _ _ _ _ _ _ _ _ _ _ _ _ _ rfl so.1) rfl ⟨rfl, HI.out.moves0 hM9, hM9.mono (by simp)⟩
  · rw [decide_eq_false hb] at hbusy
    rw [if_neg hb] at hR1 hR2
    obtain ⟨D, hD⟩ : ∃ D, mDraw S C.act C.at' C.to = D := ⟨_, rfl⟩
    rw [hD] at hdraw hR1 hR2
    have HR1 : Hid (_ = R1) := hR1
    have HR2 : Hid (_ = R2) := hR2
    clear hb hD hR1 hR2
    go_enter Tryz.func68, Tryz.ntmps68
    go_wp2_with fail
    try rw [hw2]
    try rw [hw3]
    try rw [s2]
    try rw [hB1]
    refine hbusy.mono ?_
    rintro _ _ ⟨rfl, rfl⟩
    go_wp2_with (with_reducible refine stopLoad _ rfl ?_)
    unfold Hid
    refine wpList_loadCmd rfl _ rfl B1 rfl _ HB1.out rfl ?_
    go_wp2_with fail
    refine hdraw.mono ?_
    rintro _ w4 ⟨rfl, m4⟩
    have b4 := m4.at a2 (by simp)
    have hbx4 := m4.at hbx (by simp)
    have M4 := HM.out.then m4
    have hB5 : B1 + 1 < w4.heap.size := lt_of_block b4
    have hdok := mDraw_is S C.act C.at' C.to ok.cov ha1 ha3
    replace b4 : Hid _ := b4
    replace hbx4 : Hid _ := hbx4
    have HM4 : Hid _ := M4
    have HB5 : Hid _ := hB5
    have HL0 : Hid (1 ≤ S.last) := l0
    have HL1 : Hid (S.last ≤ 1073741824) := l1
    have HPB : Hid (p < B1) := hpB
    clear hdok m4 M4 hB5 a2 hbx hdraw hw2 hw3 s2 hB1 l0 l1 hpB ok HB1 HM
    unfold ansV
    go_wp2_with (with_reducible refine stopA _ _ rfl ?_)
    unfold Hid
    have hz := heap_alloc_new w4 (.cells #[.int .i64 0, .slice none 0 0, .string ⟨#[]⟩, .string ⟨#[]⟩, .int .i64 0, .int .i64 0, .int .i64 0, .int .i64 0, .int .i64 0, .string ⟨#[]⟩, .slice none 0 0] 48)
    have mz : Moves [] w4 (w4.alloc (.cells #[.int .i64 0, .slice none 0 0, .string ⟨#[]⟩, .string ⟨#[]⟩, .int .i64 0, .int .i64 0, .int .i64 0, .int .i64 0, .int .i64 0, .string ⟨#[]⟩, .slice none 0 0] 48)) := (Moves.refl _ _).alloc _
    refine wpList_storeAt rfl _ _ _ rfl w4.heap.size 0 _ (ansV D).toList rfl rfl rfl (by rw [show (ansV D).toList.length = 11 from rfl]; exact Tryz.size48) hz (Nat.le_refl 11) (ansV_one D) (ansV D) rfl ?_
    intro w5 h5 m5
    have M45 : Moves [] w4 w5 := mz.trans m5 (fun x hx => .inr (by simp at hx; omega))
    have M5 : Moves [] w w5 := HM4.out.then M45
    have b5 := M45.at b4.out (by simp)
    have hbx5 := M45.at hbx4.out (by simp)
    obtain ⟨B5, hB5⟩ : ∃ B5, w4.heap.size = B5 := ⟨_, rfl⟩
    rw [hB5] at h5
    have hB5' : B1 + 1 < B5 := by rw [← hB5]; exact HB5.out
    have HBB : Hid (B1 + 1 < B5) := hB5'
    have HM5 : Hid (Moves [] w w5) := M5
    have HH5 : Hid _ := h5
    have HX5 : Hid _ := hbx5
    have HH4 : Hid _ := b5
    have y0 := (eleven_cells h5).1
    have k2 := (c15 hbx5).2.2.1
    rw [hB5]
    clear hz mz m5 M45 M5 b5 hbx5 hB5 hB5' h5 b4 hbx4 HM4 HB5
    by_cases hc : D.code ≠ 0
    · have HE1 : Hid (R1 = D) := by unfold Hid; rw [← HR1.out, if_pos hc]
      have HE2 : Hid (R2 = S) := by unfold Hid; rw [← HR2.out, if_pos hc]
      have hc' : (D.code == 0) = false := beq_eq_false_iff_ne.2 hc
      obtain ⟨y0, y1, y2, y3, y4, y5, y6, y7, y8, y9, y10⟩ := eleven_cells HH5.out
      clear hc HR1 HR2 k2
      go_wp2_with (with_reducible refine stopA _ _ rfl ?_)
      unfold Hid
      refine wpList_storeAt rfl _ _ _ rfl (B1 + 1) 0 _ (ansV D).toList rfl rfl rfl (by rw [show (ansV D).toList.length = 11 from rfl]; exact Tryz.size48) HH4.out (Nat.le_refl 11) (ansV_one D) (ansV D) rfl ?_
      intro w6 h6 m6
      go_wp2_with fail
      have M6 := HM5.out.trans m6 (fun x hx => .inr (by simp at hx; have := HSZ.out; omega))
      refine bodyPost_ret (ret_ansV rfl _ _ _ _ rfl h6) rfl ⟨by rw [HE1.out], ?_, M6.mono (by simp)⟩
      rw [HE2.out]
      exact HI.out.moves0 M6
    · have hc0 : D.code = 0 := by omega
      have hc' : (D.code == 0) = true := beq_iff_eq.2 hc0
      by_cases hl : S.last = 1073741824
      · have HE1 : Hid (R1 = pTold 13) := by unfold Hid; rw [← HR1.out, if_neg hc, if_pos hl]
        have HE2 : Hid (R2 = S) := by unfold Hid; rw [← HR2.out, if_neg hc, if_pos hl]
        have hl' : (S.last == 1073741824) = true := beq_iff_eq.2 hl
        clear hc hl hc0 HR1 HR2
        go_wp2_with fail
        refine (mtold_w 13 _).mono ?_
        rintro _ w6 ⟨rfl, m6⟩
        have b6 := m6.at HH4.out (by simp)
        clear y0 k2
        go_wp2_with (with_reducible refine stopA _ _ rfl ?_)
        unfold Hid
        refine wpList_storeAt rfl _ _ _ rfl (B1 + 1) 0 _ (ansV (pTold 13)).toList rfl rfl rfl (by rw [show (ansV (pTold 13)).toList.length = 11 from rfl]; exact Tryz.size48) b6 (Nat.le_refl 11) (ansV_one (pTold 13)) (ansV (pTold 13)) rfl ?_
        intro w7 h7 m7
        go_wp2_with fail
        have M6 := (HM5.out.then m6).trans m7 (fun x hx => .inr (by simp at hx; have := HSZ.out; omega))
        refine bodyPost_ret (ret_ansV rfl _ _ _ _ rfl h7) rfl ⟨by rw [HE1.out], ?_, M6.mono (by simp)⟩
        rw [HE2.out]
        exact HI.out.moves0 M6
      · have HE1 : Hid (R1 = { D with gen := S.last + 1 }) := by unfold Hid; rw [← HR1.out, if_neg hc, if_neg hl]
        have HE2 : Hid (R2 = { S with last := S.last + 1, pend := { D with gen := S.last + 1 } }) := by unfold Hid; rw [← HR2.out, if_neg hc, if_neg hl]
        have hl' : (S.last == 1073741824) = false := beq_eq_false_iff_ne.2 hl
        have hwr : IntKind.i64.wrap (S.last + 1) = S.last + 1 := by rw [IntKind.wrap_i64]; have := HL0.out; have := HL1.out; omega
        have HWR : Hid (IntKind.i64.wrap (S.last + 1) = S.last + 1) := hwr
        clear hc hl hc0 HR1 HR2
        go_wp2_with (with_reducible refine stopI _ _ rfl ?_)
        unfold Hid
        refine wpList_storeAt rfl _ _ _ rfl p 2 _ [.int .i64 (S.last + 1)] rfl rfl rfl Tryz.size3 HX5.out (by show 3 ≤ 15; omega) (by simp [Value.oneCell']) (mrCells q c { S with last := S.last + 1 }) rfl ?_
        intro w6 h6 m6
        have nB : B5 ≠ p := by have := HBB.out; have := HPB.out; omega
        have h5' := m6.at HH5.out (by simpa using nB)
        have h4' := m6.at HH4.out (by simp; have := HPB.out; omega)
        have k2' := (c15 h6).2.2.1
        have M6 : Moves [p] w w6 := (HM5.out.mono (by simp)).then m6
        replace h6 : Hid _ := h6
        replace h5' : Hid _ := h5'
        replace h4' : Hid _ := h4'
        replace M6 : Hid _ := M6
        have HNB : Hid (B5 ≠ p) := nB
        dsimp only at k2'
        clear y0 k2 m6 hwr HH5 HX5 HM5 HH4 nB
        go_wp2_with (with_reducible refine stopI _ _ rfl ?_)
        unfold Hid
        refine wpList_storeAt rfl _ _ _ rfl B5 5 _ [.int .i64 (S.last + 1)] rfl rfl rfl Tryz.size3 h5'.out (by show 6 ≤ 11; omega) (by simp [Value.oneCell']) (ansV { D with gen := S.last + 1 }) rfl ?_
        intro w7 h7 m7
        obtain ⟨y0, y1, y2, y3, y4, y5, y6, y7, y8, y9, y10⟩ := eleven_cells h7
        have h6' := m7.at h6.out (by simpa using fun e => HNB.out e.symm)
        have h4'' := m7.at h4'.out (by simp; have := HBB.out; omega)
        have M7 : Moves [p] w w7 := M6.out.trans m7 (fun x hx => .inr (by simp at hx; have := HBB.out; have := HSZ.out; omega))
        replace h7 : Hid _ := h7
        replace h6' : Hid _ := h6'
        replace h4'' : Hid _ := h4''
        replace M7 : Hid _ := M7
        clear m7 k2' h6 h5' h4' M6
        dsimp only at y0 y1 y2 y3 y4 y5 y6 y7 y8 y9 y10
        go_wp2_with (with_reducible refine stopA _ _ rfl ?_)
        unfold Hid
        refine wpList_storeAt rfl _ _ _ rfl p 3 _ (ansV { D with gen := S.last + 1 }).toList rfl rfl rfl (by rw [show (ansV { D with gen := S.last + 1 }).toList.length = 11 from rfl]; exact Tryz.size48) h6'.out (by show 14 ≤ 15; omega) (ansV_one _) (mrCells q c { S with last := S.last + 1, pend := { D with gen := S.last + 1 } }) rfl ?_
        intro w8 h8 m8
        have h7' := m8.at h7.out (by simpa using HNB.out)
        have h48 := m8.at h4''.out (by simp; have := HPB.out; omega)
        have M8 : Moves [p] w w8 := M7.out.then m8
        clear y0 y1 y2 y3 y4 y5 y6 y7 y8 y9 y10
        obtain ⟨y0, y1, y2, y3, y4, y5, y6, y7, y8, y9, y10⟩ := eleven_cells h7'
        replace h8 : Hid _ := h8
        replace h48 : Hid _ := h48
        replace M8 : Hid _ := M8
        clear m8 h7 h6' h4'' M7 h7'
        dsimp only at y0 y1 y2 y3 y4 y5 y6 y7 y8 y9 y10
        go_wp2_with (with_reducible refine stopA _ _ rfl ?_)
        unfold Hid
        refine wpList_storeAt rfl _ _ _ rfl (B1 + 1) 0 _ (ansV { D with gen := S.last + 1 }).toList rfl rfl rfl (by rw [show (ansV { D with gen := S.last + 1 }).toList.length = 11 from rfl]; exact Tryz.size48) h48.out (Nat.le_refl 11) (ansV_one { D with gen := S.last + 1 }) (ansV { D with gen := S.last + 1 }) rfl ?_
        intro w9 h9 m9
        have M9 : Moves [p] w w9 := M8.out.trans m9 (fun x hx => .inr (by simp at hx; have := HSZ.out; omega))
        have h89 := m9.at h8.out (by simp; have := HPB.out; omega)
        clear y0 y1 y2 y3 y4 y5 y6 y7 y8 y9 y10
        go_wp2_with fail
        refine bodyPost_ret (ret_ansV rfl _ _ _ _ rfl h9) rfl ⟨by rw [HE1.out], ?_, M9⟩
        rw [HE2.out]
        exact HI.out.wrote M9 h89 rfl rfl
end Go.Proofs.YtfhdodopjgfedaaGreat
