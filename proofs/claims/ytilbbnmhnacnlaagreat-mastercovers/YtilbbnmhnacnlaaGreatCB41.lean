/- ours -/
import Derived.Test.YtilbbnmhnacnlaaGreatCMs4
import Derived.Test.YtilbbnmhnacnlaaGreatCB24
import Derived.Test.YtilbbnmhnacnlaaGreatCB26
/-
  Package master: plans begin.
-/
namespace Go.Proofs.YtilbbnmhnacnlaaGreat
open Go.RowKit

theorem ansV_one (A : Pans) : ∀ u ∈ (ansV A).toList, u.oneCell' = true := by
  intro u hu
  simp [ansV] at hu
  rcases hu with rfl | rfl | rfl | rfl | rfl | rfl | rfl | rfl | rfl | rfl | rfl <;> rfl
theorem ret_ansV {fn : Func} {p : Tmp} (h : fn.results = #[.cell p 48]) (tmps : Array Value) (w : World) (g : Nat) (A : Pans) (hp : tmps.getD p undef = .pointer (some ⟨g, 0, none⟩)) (hg : w.heap[g]? = some (.cells (ansV A) 48 (0, 0))) :
    (results fn tmps).run Tryz.prog w = .ok (.agg (ansV A)) w := by
  unfold ansV at hg ⊢
  exact ret_ans h tmps w g _ _ _ _ _ _ _ _ _ _ _ hp hg
theorem MrIs.wrote {W w w' : World} {p q c : Nat} {a : Option Nat} {S S' : Pms} (h : MrIs W w p q c a S) (m : Moves [p] w w') (hb : w'.heap[p]? = some (.cells (mrCells q c S') 76 (0, 0))) (hx : S'.xs = S.xs) (hc : S'.ca = S.ca) : MrIs W w' p q c a S' := by
  obtain ⟨n1, n2, n3, n4, n5, n6⟩ := h.ne
  refine ⟨hb, ?_, ?_, h.hp, h.hq, h.hc⟩
  · rw [hx]
    exact h.tab.moves m (by simp) (by simpa using fun e => n1 e.symm)
  · rw [hc]
    refine h.cac.moves m (by simpa using fun e => n2 e.symm) (fun k hk hm => ?_)
    simp at hm
    subst hm
    exact n4 (by simp [hk])

set_option maxRecDepth 100000 in
set_option maxHeartbeats 16000000 in
theorem mbegin_w (W w : World) (p q c : Nat) (a : Option Nat) (S : Pms) (h : MrIs W w p q c a S) (ok : OkM S) (C : Pcmd) (ca : Option Addr) (cn cc : Nat) (la : Option Addr) (ln lc : Nat) (sa : Option Addr) (sn sc : Nat) (ha1 : 1 ≤ C.act) (ha3 : C.act ≤ 3) :
    Calls Tryz.prog 68 #[.pointer (some ⟨p, 0, none⟩), .agg #[.int .i64 C.kind, .int .i64 C.op.kind, .string C.op.row, .string C.op.hi, .bool C.op.cd.has, .bool C.op.cd.want, .string C.op.cd.col, .int .i64 C.op.cd.v.kind, .slice ca cn cc, .float .f64 C.op.cd.v.n, .slice la ln lc, .int .i64 C.op.most, .string C.lo, .string C.hi, .int .i64 C.gen, .string C.at', .int .i64 C.to, .int .i64 C.act, .slice sa sn sc]] w fun e w' => e = .returned (.agg (ansV (mBegin S C.act C.at' C.to).1)) ∧ MrIs W w' p q c a (mBegin S C.act C.at' C.to).2 ∧ Moves [p] w w' := by
  have a1 := heap_alloc_new w (.cells #[.int .i64 C.kind, .int .i64 C.op.kind, .string C.op.row, .string C.op.hi, .bool C.op.cd.has, .bool C.op.cd.want, .string C.op.cd.col, .int .i64 C.op.cd.v.kind, .slice ca cn cc, .float .f64 C.op.cd.v.n, .slice la ln lc, .int .i64 C.op.most, .string C.lo, .string C.hi, .int .i64 C.gen, .string C.at', .int .i64 C.to, .int .i64 C.act, .slice sa sn sc] 39)
  obtain ⟨w2, hw2⟩ : ∃ w2, w.alloc (.cells #[.int .i64 C.kind, .int .i64 C.op.kind, .string C.op.row, .string C.op.hi, .bool C.op.cd.has, .bool C.op.cd.want, .string C.op.cd.col, .int .i64 C.op.cd.v.kind, .slice ca cn cc, .float .f64 C.op.cd.v.n, .slice la ln lc, .int .i64 C.op.most, .string C.lo, .string C.hi, .int .i64 C.gen, .string C.at', .int .i64 C.to, .int .i64 C.act, .slice sa sn sc] 39) = w2 := ⟨_, rfl⟩
  have s2 : w2.heap.size = w.heap.size + 1 := by rw [← hw2]; simp
  have n2 : Moves [] w w2 := by rw [← hw2]; exact (Moves.refl _ _).alloc _
  rw [hw2] at a1
  have a2 := heap_alloc_new w2 (.cells #[.int .i64 0, .slice none 0 0, .string ⟨#[]⟩, .string ⟨#[]⟩, .int .i64 0, .int .i64 0, .int .i64 0, .int .i64 0, .int .i64 0, .string ⟨#[]⟩, .slice none 0 0] 48)
  obtain ⟨w3, hw3⟩ : ∃ w3, w2.alloc (.cells #[.int .i64 0, .slice none 0 0, .string ⟨#[]⟩, .string ⟨#[]⟩, .int .i64 0, .int .i64 0, .int .i64 0, .int .i64 0, .int .i64 0, .string ⟨#[]⟩, .slice none 0 0] 48) = w3 := ⟨_, rfl⟩
  have n3 : Moves [] w2 w3 := by rw [← hw3]; exact (Moves.refl _ _).alloc _
  rw [hw3] at a2
  have m03 := n2.then n3
  have b1 := n3.at a1 (by simp)
  rw [s2] at a2
  obtain ⟨B1, hB1⟩ : ∃ B1, w.heap.size = B1 := ⟨_, rfl⟩
  rw [hB1] at b1 a2
  have hbusy := mbusy_w W w3 p q c a S (h.moves0 m03)
  have hdraw := mdraw_w W w3 p q c a S (h.moves0 m03) ok C ca cn cc la ln lc sa sn sc
  have HI : Hid (MrIs W w p q c a S) := h
  have HB1 : Hid _ := b1
  have HM : Hid (Moves [] w w3) := m03
  have hbx := m03.at h.box (by simp)
  have hpB : p < B1 := by rw [← hB1]; exact h.lt.1
  have l1 := ok.l1
  have l0 := ok.l0
  have HSZ : Hid (w.heap.size = B1) := hB1
  obtain ⟨R1, hR1⟩ : ∃ R1, (mBegin S C.act C.at' C.to).1 = R1 := ⟨_, rfl⟩
  obtain ⟨R2, hR2⟩ : ∃ R2, (mBegin S C.act C.at' C.to).2 = R2 := ⟨_, rfl⟩
  rw [hR1, hR2]
  unfold mBegin at hR1 hR2
  clear a1 n2 n3 m03 b1 h
  by_cases hb : S.pend.act ≠ 0
  · rw [decide_eq_true hb] at hbusy
    rw [if_pos hb] at hR1 hR2
    subst hR1 hR2
    clear hb hdraw hbx
    go_enter Tryz.func68, Tryz.ntmps68
    go_wp2_with fail
    try rw [hw2]
    try rw [hw3]
    try rw [s2]
    try rw [hB1]
    refine hbusy.mono ?_
    rintro _ _ ⟨rfl, rfl⟩
    go_wp2_with fail
    refine (mtold_w 4 _).mono ?_
    rintro _ w9 ⟨rfl, m9⟩
    have b9 := m9.at a2 (by simp)
    obtain ⟨z0, z1, z2, z3, z4, z5, z6, z7, z8, z9, z10⟩ := eleven_cells b9
    have zfz := eleven_fz b9
    unfold ansV
    go_wp2_with fail
    have so := stored11 b9 (.int .i64 (pTold 4).code) (.slice none 0 0) (.string (pTold 4).lo) (.string (pTold 4).hi) (.int .i64 (pTold 4).grp) (.int .i64 (pTold 4).gen) (.int .i64 (pTold 4).old) (.int .i64 (pTold 4).to) (.int .i64 (pTold 4).act) (.string (pTold 4).at') (.slice none 0 0)
    have hM9 := (HM.out.then m9).trans so.2 (fun x hx => .inr (by simp at hx; have := HSZ.out; omega))
    refine bodyPost_ret (ret_ans rfl _ _ _ _ _ _ _ _ _ _ _ _ _ _ rfl so.1) rfl ⟨rfl, HI.out.moves0 hM9, hM9.mono (by simp)⟩
  · rw [decide_eq_false hb] at hbusy
    rw [if_neg hb] at hR1 hR2
    obtain ⟨D, hD⟩ : ∃ D, mDraw S C.act C.at' C.to = D := ⟨_, rfl⟩
    rw [hD] at hdraw hR1 hR2
    have HR1 : Hid (_ = R1) := hR1
    have HR2 : Hid (_ = R2) := hR2
    clear hb hD hR1 hR2
    go_enter Tryz.func68, Tryz.ntmps68
    go_wp2_with fail
    try rw [hw2]
    try rw [hw3]
    try rw [s2]
    try rw [hB1]
    refine hbusy.mono ?_
    rintro _ _ ⟨rfl, rfl⟩
    go_wp2_with (with_reducible refine stopLoad _ rfl ?_)
    unfold Hid
    refine wpList_loadCmd rfl _ rfl B1 rfl _ HB1.out rfl ?_
    go_wp2_with fail
    refine hdraw.mono ?_
    rintro _ w4 ⟨rfl, m4⟩
    have b4 := m4.at a2 (by simp)
    have hbx4 := m4.at hbx (by simp)
    have M4 := HM.out.then m4
    have hB5 : B1 + 1 < w4.heap.size := lt_of_block b4
    have hdok := mDraw_is S C.act C.at' C.to ok.cov ha1 ha3
    replace b4 : Hid _ := b4
    replace hbx4 : Hid _ := hbx4
    have HM4 : Hid _ := M4
    have HB5 : Hid _ := hB5
    have HL0 : Hid (1 ≤ S.last) := l0
    have HL1 : Hid (S.last ≤ 1073741824) := l1
    have HPB : Hid (p < B1) := hpB
    clear hdok m4 M4 hB5 a2 hbx hdraw hw2 hw3 s2 hB1 l0 l1 hpB ok HB1 HM
    unfold ansV
    go_wp2_with (with_reducible refine stopA _ _ rfl ?_)
    unfold Hid
    have hz := heap_alloc_new w4 (.cells #[.int .i64 0, .slice none 0 0, .string ⟨#[]⟩, .string ⟨#[]⟩, .int .i64 0, .int .i64 0, .int .i64 0, .int .i64 0, .int .i64 0, .string ⟨#[]⟩, .slice none 0 0] 48)
    have mz : Moves [] w4 (w4.alloc (.cells #[.int .i64 0, .slice none 0 0, .string ⟨#[]⟩, .string ⟨#[]⟩, .int .i64 0, .int .i64 0, .int .i64 0, .int .i64 0, .int .i64 0, .string ⟨#[]⟩, .slice none 0 0] 48)) := (Moves.refl _ _).alloc _
    refine wpList_storeAt rfl _ _ _ rfl w4.heap.size 0 _ (ansV D).toList rfl rfl rfl (by rw [show (ansV D).toList.length = 11 from rfl]; exact Tryz.size48) hz (Nat.le_refl 11) (ansV_one D) (ansV D) rfl ?_
    intro w5 h5 m5
    have M45 : Moves [] w4 w5 := mz.trans m5 (fun x hx => .inr (by simp at hx; omega))
    have M5 : Moves [] w w5 := HM4.out.then M45
    have b5 := M45.at b4.out (by simp)
    have hbx5 := M45.at hbx4.out (by simp)
    obtain ⟨B5, hB5⟩ : ∃ B5, w4.heap.size = B5 := ⟨_, rfl⟩
    rw [hB5] at h5
    have hB5' : B1 + 1 < B5 := by rw [← hB5]; exact HB5.out
    have HBB : Hid (B1 + 1 < B5) := hB5'
    have HM5 : Hid (Moves [] w w5) := M5
    have HH5 : Hid _ := h5
    have HX5 : Hid _ := hbx5
    have HH4 : Hid _ := b5
    have y0 := (eleven_cells h5).1
    have k2 := (c15 hbx5).2.2.1
    rw [hB5]
    clear hz mz m5 M45 M5 b5 hbx5 hB5 hB5' h5 b4 hbx4 HM4 HB5
    by_cases hc : D.code ≠ 0
    · have HE1 : Hid (R1 = D) := by unfold Hid; rw [← HR1.out, if_pos hc]
      have HE2 : Hid (R2 = S) := by unfold Hid; rw [← HR2.out, if_pos hc]
      have hc' : (D.code == 0) = false := beq_eq_false_iff_ne.2 hc
      obtain ⟨y0, y1, y2, y3, y4, y5, y6, y7, y8, y9, y10⟩ := eleven_cells HH5.out
      clear hc HR1 HR2 k2
      go_wp2_with (with_reducible refine stopA _ _ rfl ?_)
      unfold Hid
      refine wpList_storeAt rfl _ _ _ rfl (B1 + 1) 0 _ (ansV D).toList rfl rfl rfl (by rw [show (ansV D).toList.length = 11 from rfl]; exact Tryz.size48) HH4.out (Nat.le_refl 11) (ansV_one D) (ansV D) rfl ?_
      intro w6 h6 m6
      go_wp2_with fail
      have M6 := HM5.out.trans m6 (fun x hx => .inr (by simp at hx; have := HSZ.out; omega))
      refine bodyPost_ret (ret_ansV rfl _ _ _ _ rfl h6) rfl ⟨by rw [HE1.out], ?_, M6.mono (by simp)⟩
      rw [HE2.out]
      exact HI.out.moves0 M6
    · have hc0 : D.code = 0 := by omega
      have hc' : (D.code == 0) = true := beq_iff_eq.2 hc0
      by_cases hl : S.last = 1073741824
      · have HE1 : Hid (R1 = pTold 13) := by unfold Hid; rw [← HR1.out, if_neg hc, if_pos hl]
        have HE2 : Hid (R2 = S) := by unfold Hid; rw [← HR2.out, if_neg hc, if_pos hl]
        have hl' : (S.last == 1073741824) = true := beq_iff_eq.2 hl
        clear hc hl hc0 HR1 HR2
        go_wp2_with fail
        refine (mtold_w 13 _).mono ?_
        rintro _ w6 ⟨rfl, m6⟩
        have b6 := m6.at HH4.out (by simp)
        clear y0 k2
        go_wp2_with (with_reducible refine stopA _ _ rfl ?_)
        unfold Hid
        refine wpList_storeAt rfl _ _ _ rfl (B1 + 1) 0 _ (ansV (pTold 13)).toList rfl rfl rfl (by rw [show (ansV (pTold 13)).toList.length = 11 from rfl]; exact Tryz.size48) b6 (Nat.le_refl 11) (ansV_one (pTold 13)) (ansV (pTold 13)) rfl ?_
        intro w7 h7 m7
        go_wp2_with fail
        have M6 := (HM5.out.then m6).trans m7 (fun x hx => .inr (by simp at hx; have := HSZ.out; omega))
        refine bodyPost_ret (ret_ansV rfl _ _ _ _ rfl h7) rfl ⟨by rw [HE1.out], ?_, M6.mono (by simp)⟩
        rw [HE2.out]
        exact HI.out.moves0 M6
      · have HE1 : Hid (R1 = { D with gen := S.last + 1 }) := by unfold Hid; rw [← HR1.out, if_neg hc, if_neg hl]
        have HE2 : Hid (R2 = { S with last := S.last + 1, pend := { D with gen := S.last + 1 } }) := by unfold Hid; rw [← HR2.out, if_neg hc, if_neg hl]
        have hl' : (S.last == 1073741824) = false := beq_eq_false_iff_ne.2 hl
        have hwr : IntKind.i64.wrap (S.last + 1) = S.last + 1 := by rw [IntKind.wrap_i64]; have := HL0.out; have := HL1.out; omega
        have HWR : Hid (IntKind.i64.wrap (S.last + 1) = S.last + 1) := hwr
        clear hc hl hc0 HR1 HR2
        go_wp2_with (with_reducible refine stopI _ _ rfl ?_)
        unfold Hid
        refine wpList_storeAt rfl _ _ _ rfl p 2 _ [.int .i64 (S.last + 1)] rfl rfl rfl Tryz.size3 HX5.out (by show 3 ≤ 15; omega) (by simp [Value.oneCell']) (mrCells q c { S with last := S.last + 1 }) rfl ?_
        intro w6 h6 m6
        have nB : B5 ≠ p := by have := HBB.out; have := HPB.out; omega
        have h5' := m6.at HH5.out (by simpa using nB)
        have h4' := m6.at HH4.out (by simp; have := HPB.out; omega)
        have k2' := (c15 h6).2.2.1
        have M6 : Moves [p] w w6 := (HM5.out.mono (by simp)).then m6
        replace h6 : Hid _ := h6
        replace h5' : Hid _ := h5'
        replace h4' : Hid _ := h4'
        replace M6 : Hid _ := M6
        have HNB : Hid (B5 ≠ p) := nB
        dsimp only at k2'
        clear y0 k2 m6 hwr HH5 HX5 HM5 HH4 nB
        go_wp2_with (with_reducible refine stopI _ _ rfl ?_)
        unfold Hid
        refine wpList_storeAt rfl _ _ _ rfl B5 5 _ [.int .i64 (S.last + 1)] rfl rfl rfl Tryz.size3 h5'.out (by show 6 ≤ 11; omega) (by simp [Value.oneCell']) (ansV { D with gen := S.last + 1 }) rfl ?_
        intro w7 h7 m7
        obtain ⟨y0, y1, y2, y3, y4, y5, y6, y7, y8, y9, y10⟩ := eleven_cells h7
        have h6' := m7.at h6.out (by simpa using fun e => HNB.out e.symm)
        have h4'' := m7.at h4'.out (by simp; have := HBB.out; omega)
        have M7 : Moves [p] w w7 := M6.out.trans m7 (fun x hx => .inr (by simp at hx; have := HBB.out; have := HSZ.out; omega))
        replace h7 : Hid _ := h7
        replace h6' : Hid _ := h6'
        replace h4'' : Hid _ := h4''
        replace M7 : Hid _ := M7
        clear m7 k2' h6 h5' h4' M6
        dsimp only at y0 y1 y2 y3 y4 y5 y6 y7 y8 y9 y10
        go_wp2_with (with_reducible refine stopA _ _ rfl ?_)
        unfold Hid
        refine wpList_storeAt rfl _ _ _ rfl p 3 _ (ansV { D with gen := S.last + 1 }).toList rfl rfl rfl (by rw [show (ansV { D with gen := S.last + 1 }).toList.length = 11 from rfl]; exact Tryz.size48) h6'.out (by show 14 ≤ 15; omega) (ansV_one _) (mrCells q c { S with last := S.last + 1, pend := { D with gen := S.last + 1 } }) rfl ?_
        intro w8 h8 m8
        have h7' := m8.at h7.out (by simpa using HNB.out)
        have h48 := m8.at h4''.out (by simp; have := HPB.out; omega)
        have M8 : Moves [p] w w8 := M7.out.then m8
        clear y0 y1 y2 y3 y4 y5 y6 y7 y8 y9 y10
        obtain ⟨y0, y1, y2, y3, y4, y5, y6, y7, y8, y9, y10⟩ := eleven_cells h7'
        replace h8 : Hid _ := h8
        replace h48 : Hid _ := h48
        replace M8 : Hid _ := M8
        clear m8 h7 h6' h4'' M7 h7'
        dsimp only at y0 y1 y2 y3 y4 y5 y6 y7 y8 y9 y10
        go_wp2_with (with_reducible refine stopA _ _ rfl ?_)
        unfold Hid
        refine wpList_storeAt rfl _ _ _ rfl (B1 + 1) 0 _ (ansV { D with gen := S.last + 1 }).toList rfl rfl rfl (by rw [show (ansV { D with gen := S.last + 1 }).toList.length = 11 from rfl]; exact Tryz.size48) h48.out (Nat.le_refl 11) (ansV_one { D with gen := S.last + 1 }) (ansV { D with gen := S.last + 1 }) rfl ?_
        intro w9 h9 m9
        have M9 : Moves [p] w w9 := M8.out.trans m9 (fun x hx => .inr (by simp at hx; have := HSZ.out; omega))
        have h89 := m9.at h8.out (by simp; have := HPB.out; omega)
        clear y0 y1 y2 y3 y4 y5 y6 y7 y8 y9 y10
        go_wp2_with fail
        refine bodyPost_ret (ret_ansV rfl _ _ _ _ rfl h9) rfl ⟨by rw [HE1.out], ?_, M9⟩
        rw [HE2.out]
        exact HI.out.wrote M9 h89 rfl rfl
end Go.Proofs.YtilbbnmhnacnlaaGreat
/-
  Package master: what is told is kept; plans, once each.
-/
namespace Go.Proofs.YtilbbnmhnacnlaaGreat
open Go.RowKit

theorem encA_bare_len {A : Pans} (hb : Bare A) (hr : rAns A = true) : (encA A).length ≤ 1000 ∧ ∀ z ∈ encA A, z < 256 := by
  obtain ⟨code, rows, lo, hi, grp, gen, old, to, act, at', st⟩ := A
  obtain ⟨h1, h2⟩ := hb
  dsimp only at h1 h2
  subst h1 h2
  obtain ⟨r1, r2, r3, r4, r5, r6, r7, r8, r9, r10⟩ := rAns_iff.1 hr
  dsimp only at *
  obtain ⟨s1, s2⟩ := spR_size r3
  have s9 : at'.size ≤ 16 := of_decide_eq_true r9
  have w1 := wi_iff.1 r1
  have w4 := wi_iff.1 r4
  have w5 := wi_iff.1 r5
  have w6 := wi_iff.1 r6
  have hz : ∀ s : ByteArray, (zbs s).length = s.size := zbs_length
  have hbe : ∀ n, (be 4 n).length = 4 := fun n => be_length 4 n
  have hoct : ∀ n, ∀ z ∈ be 4 n, z < 256 := fun n z hz => mem_be hz
  have hzo : ∀ (s : ByteArray), ∀ z ∈ zbs s, z < 256 := zbs_oct
  constructor
  · simp only [encA, encNs, encX, List.length_append, List.length_cons, List.length_nil, hz, hbe, List.map_nil, List.flatten_nil]
    omega
  · intro z hzz
    simp only [encA, encNs, encX, List.mem_append, List.mem_cons, List.mem_nil_iff, or_false, List.map_nil, List.flatten_nil, false_or, List.length_nil] at hzz
    rcases hzz with h | h | (h | h) | (h | h) | h | h | h | h | h | (h | h) | h
    all_goals first
      | exact hoct _ z h
      | exact hzo _ z h
      | omega

structure MrG (W w0 : World) (p q c : Nat) (a0 : Option Nat) (S0 : Pms) (w : World) (a : Option Nat) (S : Pms) : Prop where
  is : MrIs W w p q c a S
  mv : Moves (p :: q :: c :: a0.toList) w0 w
  al : a = a0 ∨ ∃ k, a = some k ∧ w0.heap.size ≤ k
  tb : ∀ Y : List Nat, (∀ k ∈ Y, k < w0.heap.size) → MtZ (Y ++ (p :: q :: c :: a0.toList)) w0 q S0.xs → MtZ (Y ++ (p :: q :: c :: a.toList)) w q S.xs
theorem MrG.same {W w w' : World} {p q c : Nat} {a : Option Nat} {S : Pms} (h : MrIs W w p q c a S) (m : Moves [] w w') : MrG W w p q c a S w' a S :=
  ⟨h.moves0 m, m.mono (by simp), .inl rfl, fun _ _ hz => hz.moves m (by simp) (by simp)⟩
theorem MrG.wrote {W w w' : World} {p q c : Nat} {a : Option Nat} {S S' : Pms} (h : MrIs W w p q c a S) (h' : MrIs W w' p q c a S') (m : Moves [p] w w') (hx : S'.xs = S.xs) : MrG W w p q c a S w' a S' :=
  ⟨h', m.mono (by simp), .inl rfl, fun Y _ hz => by rw [hx]; exact hz.moves m (by simp) (by simpa using fun e => h.ne.1 e.symm)⟩
theorem MrG.step {W w0 w1 w2 : World} {p q c : Nat} {a0 a1 a2 : Option Nat} {S0 S1 S2 : Pms} (h : MrG W w0 p q c a0 S0 w1 a1 S1) (k : MrG W w1 p q c a1 S1 w2 a2 S2) : MrG W w0 p q c a0 S0 w2 a2 S2 := by
  refine ⟨k.is, h.mv.trans k.mv ?_, ?_, fun Y hY hz => k.tb Y (fun y hy => Nat.lt_of_lt_of_le (hY y hy) h.mv.size) (h.tb Y hY hz)⟩
  · intro x hx
    simp only [List.mem_cons] at hx ⊢
    rcases hx with rfl | rfl | rfl | hx
    · left; simp
    · left; simp
    · left; simp
    · rcases h.al with rfl | ⟨j, rfl, hj⟩
      · left; simp [hx]
      · right; simp at hx; subst hx; exact hj
  · rcases k.al with rfl | ⟨j, rfl, hj⟩
    · exact h.al
    · exact .inr ⟨j, rfl, Nat.le_trans h.mv.size hj⟩
theorem MrG.old {W w0 w : World} {p q c : Nat} {a0 a : Option Nat} {S0 S : Pms} (h : MrG W w0 p q c a0 S0 w a S) (m : Moves [] W w0) (ha : ∀ k, a0 = some k → W.heap.size ≤ k) : Moves [] W w := by
  refine m.trans h.mv (fun k hk => .inr ?_)
  simp only [List.mem_cons] at hk
  rcases hk with rfl | rfl | rfl | hk
  · exact h.is.hp
  · exact h.is.hq
  · exact h.is.hc
  · exact ha k (Option.mem_toList.1 hk)
theorem MrG.boxed {W w w1 w2 w3 : World} {p q c B : Nat} {a a2 : Option Nat} {S0 S : Pms} (h0 : MrIs W w p q c a S0) (m : Moves [] w w1) (hB1 : w.heap.size ≤ B) (hB2 : B < w1.heap.size) (t : MrG W w1 p q c a S0 w2 a2 S) (m3 : Moves [B] w2 w3) : MrG W w p q c a S0 w3 a2 S := by
  obtain ⟨l1, l2, l3, l4⟩ := h0.lt
  have na : ∀ k, a2 = some k → k ≠ B := by
    intro k hk
    rcases t.al with e | ⟨j, e, hj⟩
    · have := l4 k (by rw [← e]; exact hk); omega
    · rw [e] at hk; simp at hk; omega
  have nq : q ∉ [B] := by simp; omega
  have key : ∀ Y : List Nat, (∀ k ∈ Y, k < w.heap.size) → MtZ (Y ++ (p :: q :: c :: a.toList)) w q S0.xs → MtZ (Y ++ (p :: q :: c :: a2.toList)) w3 q S.xs := by
    intro Y hY hz
    have z1 : MtZ ((B :: Y) ++ (p :: q :: c :: a.toList)) w q S0.xs := hz.more (by
      intro k hk
      simp only [List.cons_append, List.mem_cons] at hk
      rcases hk with e | e
      · right; omega
      · left; exact e)
    have z2 := t.tb (B :: Y) (by
      intro k hk
      simp only [List.mem_cons] at hk
      rcases hk with rfl | e
      · exact hB2
      · exact Nat.lt_of_lt_of_le (hY k e) m.size) (z1.moves m (by simp) (by simp))
    have z3 := z2.moves m3 (by simp) nq
    exact z3.more (by intro k hk; left; simp only [List.cons_append, List.mem_cons]; right; exact hk)
  refine ⟨⟨m3.at t.is.box (by simp; omega), ?_, t.is.cac.moves m3 (by simp; omega) (fun k hk hm => na k hk (by simpa using hm)), t.is.hp, t.is.hq, t.is.hc⟩, ?_, ?_, key⟩
  · simpa using key [] (by simp) (by simpa using h0.tab)
  · exact ((m.mono (by simp)).then t.mv).trans m3 (fun x hx => .inr (by simp at hx; omega))
  · rcases t.al with e | ⟨j, e, hj⟩
    · exact .inl e
    · exact .inr ⟨j, e, Nat.le_trans m.size hj⟩

set_option maxRecDepth 100000 in
set_option maxHeartbeats 16000000 in
theorem mkeep_w (W w : World) (p q c : Nat) (a : Option Nat) (S : Pms) (h : MrIs W w p q c a S) (ok : OkM S) (hW : W.heap.size ≤ w.heap.size) (cl sq : Int) (A : Pans) (hA : Bare A) (hr : rAns A = true) (h0 : 0 ≤ cl) (h1 : cl ≤ 255) (h2 : 1 ≤ sq) (h3 : sq ≤ 1073741824) :
    Calls Tryz.prog 69 #[.pointer (some ⟨p, 0, none⟩), .int .i64 cl, .int .i64 sq, .agg (ansV A)] w fun e w' => e = .returned (.tuple #[]) ∧ ∃ a', MrG W w p q c a S w' a' { S with ca := keepT S.ca ⟨cl, sq, strOf (encA A)⟩ } := by
  unfold ansV
  have b := heap_alloc_new w (.cells #[.int .i64 A.code, .slice none 0 0, .string A.lo, .string A.hi, .int .i64 A.grp, .int .i64 A.gen, .int .i64 A.old, .int .i64 A.to, .int .i64 A.act, .string A.at', .slice none 0 0] 48)
  have m : Moves [] w (w.alloc (.cells #[.int .i64 A.code, .slice none 0 0, .string A.lo, .string A.hi, .int .i64 A.grp, .int .i64 A.gen, .int .i64 A.old, .int .i64 A.to, .int .i64 A.act, .string A.at', .slice none 0 0] 48)) := (Moves.refl _ _).alloc _
  obtain ⟨w1, hw1⟩ : ∃ w1, w.alloc (.cells #[.int .i64 A.code, .slice none 0 0, .string A.lo, .string A.hi, .int .i64 A.grp, .int .i64 A.gen, .int .i64 A.old, .int .i64 A.to, .int .i64 A.act, .string A.at', .slice none 0 0] 48) = w1 := ⟨_, rfl⟩
  rw [hw1] at b m
  have hen := cencA_w w1 w1 (ansV A).toList A (ansC_bare hA) (Moves.refl _ _)
  rw [hr] at hen
  simp only [if_true] at hen
  obtain ⟨z0, z1, z2, z3, z4, z5, z6, z7, z8, z9, z10⟩ := eleven_cells b
  obtain ⟨hlen, hoct⟩ := encA_bare_len hA hr
  have hbx := m.at h.box (by simp)
  have k14 : w1.cell? ⟨p, 14, none⟩ = some (.pointer (some ⟨c, 0, none⟩)) := by obtain ⟨_, _, _, _, _, _, _, _, _, _, _, _, _, _, e⟩ := c15 hbx; exact e
  have hmay : mayK cl sq (encA A).length = true := mayK_iff.2 ⟨h0, h1, h2, h3, by omega⟩
  have HI : Hid (MrIs W w p q c a S) := h
  have HM : Hid (Moves [] w w1) := m
  have HRI : Hid (RiseT S.ca) := ok.ri
  have HLN : Hid (S.ca.length ≤ 1000) := by have := ok.len; unfold Hid; omega
  have HWW : Hid (W.heap.size ≤ w.heap.size) := hW
  have HOC : Hid (∀ z ∈ encA A, z < 256) := hoct
  have HMAY : Hid (mayK cl sq (encA A).length = true) := hmay
  clear b m hlen hoct hbx hmay h ok hA hr h0 h1 h2 h3 hW
  go_enter Tryz.func69, Tryz.ntmps69
  go_wp2_with fail
  try rw [hw1]
  refine hen.mono ?_
  rintro _ w2 ⟨v2, rfl, hO, m2⟩
  have k2 := m2.cell k14
  have M2 := HM.out.then m2
  have hke := okeep_w W w2 c a S.ca cl sq v2 _ (encA A) (HI.out.moves0 M2).cac HRI.out HLN.out hO.isB HOC.out (Nat.le_trans HWW.out M2.size)
  rw [HMAY.out] at hke
  obtain ⟨ad, n, cap, rfl, -⟩ : ∃ ad n cap, v2 = .slice ad n cap ∧ True := by obtain ⟨ad, n, cap, e, _⟩ := hO.isB; exact ⟨ad, n, cap, e, trivial⟩
  have HM2 : Hid _ := M2
  clear hO m2 M2 hen z0 z1 z2 z3 z4 z5 z6 z7 z8 z9 z10 k14
  go_wp2_with fail
  refine hke.mono ?_
  rintro _ w3 ⟨rfl, a', hto⟩
  have HTO : Hid _ := hto
  clear hto hke
  go_wp2_with fail
  go_end0
  obtain ⟨t1, t2, t3⟩ := HTO.out
  have hI2 := HI.out.moves0 HM2.out
  obtain ⟨n1, n2, n3, n4, n5, n6⟩ := hI2.ne
  have hpn : p ∉ c :: a.toList := by simp only [List.mem_cons, not_or]; exact ⟨n2, n4⟩
  have hqn : q ∉ c :: a.toList := by simp only [List.mem_cons, not_or]; exact ⟨n3, n5⟩
  have hmv : Moves (p :: q :: c :: a.toList) w w3 := (HM2.out.mono (by simp)).then (t2.mono (by intro x hx; simp only [List.mem_cons] at hx ⊢; rcases hx with h | h; exact .inr (.inr (.inl h)); exact .inr (.inr (.inr h))))
  have key : ∀ Y : List Nat, (∀ k ∈ Y, k < w.heap.size) → MtZ (Y ++ (p :: q :: c :: a.toList)) w q S.xs → MtZ (Y ++ (p :: q :: c :: a'.toList)) w3 q S.xs := by
    intro Y _ hz0
    have hz : MtZ (Y ++ (p :: q :: c :: (a.toList ++ a'.toList))) w2 q S.xs := (hz0.moves HM2.out (by simp) (by simp)).more (by
      intro k hk
      simp only [List.mem_cons, List.mem_append] at hk ⊢
      rcases hk with h | h | h | h | h | h
      · left; simp [h]
      · left; simp [h]
      · left; simp [h]
      · left; simp [h]
      · left; simp only [h, or_true]
      · rcases t3 with e | ⟨j, e, hj⟩
        · left; rw [e] at h; simp only [h, or_true]
        · right; rw [e] at h; simp at h; subst h; exact hj)
    have hz3 := hz.moves t2 (by intro k hk; simp only [List.mem_cons, List.mem_append] at hk ⊢; rcases hk with h | h; exact .inr (.inr (.inr (.inl h))); exact .inr (.inr (.inr (.inr (.inl h))))) hqn
    exact hz3.more (by intro k hk; simp only [List.mem_cons, List.mem_append] at hk ⊢; left; rcases hk with h | h | h | h | h; exact .inl h; exact .inr (.inl h); exact .inr (.inr (.inl h)); exact .inr (.inr (.inr (.inl h))); exact .inr (.inr (.inr (.inr (.inr h)))))
  refine ⟨rfl, a', ⟨⟨t2.at hI2.box hpn, by simpa using key [] (by simp) (by simpa using HI.out.tab), t1, hI2.hp, hI2.hq, hI2.hc⟩, hmv, ?_, key⟩⟩
  rcases t3 with e | ⟨j, e, hj⟩
  · exact .inl e
  · exact .inr ⟨j, e, Nat.le_trans HM2.out.size hj⟩

theorem again_is {S : Pms} (ok : OkM S) {cl sq : Int} (h : lookT (ofT S.ca cl) sq = 2) : ∃ A, Bare A ∧ rAns A = true ∧ sayT (ofT S.ca cl) sq = encA A ∧ mDec (sayT (ofT S.ca cl) sq) = A := by
  have hne : ofT S.ca cl ∈ S.ca := by
    rcases ofT_cases S.ca cl with ⟨h1, _⟩ | ⟨h1, _⟩
    · exact h1
    · exfalso
      rw [h1] at h
      unfold lookT noT at h
      dsimp only at h
      split at h
      · simp at h
      · split at h
        · omega
        · simp at h
  obtain ⟨_, A, hb, hr, ha⟩ := ok.ca _ hne
  have e : sayT (ofT S.ca cl) sq = encA A := by
    unfold sayT
    rw [if_pos h, ha, zbs_strOf (encA_bare_len hb hr).2]
  refine ⟨A, hb, hr, e, ?_⟩
  rw [e]
  unfold mDec
  rw [dWhole_bare hb hr]
  rfl
theorem mPlan_bare (S : Pms) (ok : OkM S) (cl sq act : Int) (s : ByteArray) (to : Int) (h1 : 0 ≤ act) (h2 : act ≤ 3) (hs : act ≠ 0 → s.size ≤ 16) : Bare (mPlan S cl sq act s to).1 := by
  unfold mPlan
  split
  · show Bare (if S.pend.act ≠ 0 then S.pend else pTold 22)
    split
    · rcases ok.pe with e | ⟨hP, _⟩
      · rw [e]; exact ⟨rfl, rfl⟩
      · exact hP.bare.1
    · exact ⟨rfl, rfl⟩
  · rename_i ha
    split
    · rename_i h
      obtain ⟨A, hb, _, _, e⟩ := again_is ok h
      show Bare (mDec _)
      rw [e]; exact hb
    · split
      · exact ⟨rfl, rfl⟩
      · exact (mBegin_is S ok act s to (by omega) h2 (hs ha)).2.2.1
theorem stopLA {ops : Array Oper} {rest : List Oper} {op : Oper} {a : Act} {w : World} {Q : Exit → Act → World → Prop} (x : Operand) (_ : op.op = .load 48 x) (h : Hid (wpList Tryz.prog ops Q (op :: rest) a w)) : wpList Tryz.prog ops Q (op :: rest) a w := h.out
theorem ret_ansL {fn : Func} {p : Tmp} (h : fn.results = #[.cell p 48]) (tmps : Array Value) (w : World) (g : Nat) (cs : List Value) (hn : cs.length = 11) (hp : tmps.getD p undef = .pointer (some ⟨g, 0, none⟩)) (hg : w.heap[g]? = some (.cells cs.toArray 48 (0, 0))) :
    (results fn tmps).run Tryz.prog w = .ok (.agg cs.toArray) w :=
  results_cell_row h tmps w g 48 _ (0, 0) _ hp hg Tryz.underlying48 rfl (by rw [show cs.toArray.size = 11 by simpa using hn]; exact Tryz.size48)
theorem AnsC.len {w : World} {c : List Value} {A : Pans} (h : AnsC w c A) : c.length = 11 ∧ ∀ u ∈ c, u.oneCell' = true := by
  obtain ⟨ar, nr, cr, sa, ns, cs, g, rfl, _⟩ := h
  refine ⟨rfl, ?_⟩
  intro u hu
  simp at hu
  rcases hu with rfl | rfl | rfl | rfl | rfl | rfl | rfl | rfl | rfl | rfl | rfl <;> rfl
theorem wpList_storeAns {ops : Array Oper} {rest : List Oper} {op : Oper} {a : Act} {w : World} {Q : Exit → Act → World → Prop} (hgd : op.guard = none) (x y : Operand) (ho : op.op = .store 48 x y) (b : Nat) (cs : List Value) (hx : a.eval x = .pointer (some ⟨b, 0, none⟩)) (hy : a.eval y = .agg cs.toArray) (hn : cs.length = 11) (h1 : ∀ u ∈ cs, u.oneCell' = true) {old : Array Value} {t : TypeId} (hg : w.heap[b]? = some (.cells old t (0, 0))) (hold : old.size = 11)
    (h : ∀ w', w'.heap[b]? = some (.cells cs.toArray t (0, 0)) → Moves [b] w w' → wpList Tryz.prog ops Q rest (a.put op.dst undef) w') : wpList Tryz.prog ops Q (op :: rest) a w := by
  refine wpList_storeAt hgd _ x y ho b 0 _ cs hx hy (by simp [Value.cells]) (by rw [hn]; exact Tryz.size48) hg (by omega) h1 cs.toArray ?_ h
  rw [List.take_zero, List.drop_of_length_le (by simp; omega)]
  simp
theorem wpList_loadAns {ops : Array Oper} {rest : List Oper} {op : Oper} {a : Act} {w : World} {Q : Exit → Act → World → Prop} (hgd : op.guard = none) (x : Operand) (ho : op.op = .load 48 x) (b : Nat) (hx : a.eval x = .pointer (some ⟨b, 0, none⟩)) (cs : List Value) {t : TypeId} {fz : Nat × Nat} (hg : w.heap[b]? = some (.cells cs.toArray t fz)) (hn : cs.length = 11)
    (h : wpList Tryz.prog ops Q rest (a.put op.dst (.agg cs.toArray)) w) : wpList Tryz.prog ops Q (op :: rest) a w :=
  wpList_load_row hgd 48 x ho b hx t cs.toArray fz _ hg Tryz.underlying48 rfl (by rw [show cs.toArray.size = 11 by simpa using hn]; exact Tryz.size48) h
end Go.Proofs.YtilbbnmhnacnlaaGreat
