/- ours -/
import Derived.Test.YtilbbnmhnacnlaaGreatCB39
namespace Go.Proofs.YtilbbnmhnacnlaaGreat
open Go.RowKit

set_option maxRecDepth 100000 in
set_option maxHeartbeats 16000000 in
theorem mmove_w (W w : World) (p q c : Nat) (a : Option Nat) (S : Pms) (h : MrIs W w p q c a S) (t : Ptb) (C : Pcmd) (ca : Option Addr) (cn cc : Nat) (la : Option Addr) (ln lc : Nat) (sa : Option Addr) (sn sc : Nat) :
    Calls Tryz.prog 143 #[.pointer (some ⟨p, 0, none⟩), .agg #[.string t.lo, .string t.hi, .int .i64 t.g, .int .i64 t.n], .agg #[.int .i64 C.kind, .int .i64 C.op.kind, .string C.op.row, .string C.op.hi, .bool C.op.cd.has, .bool C.op.cd.want, .string C.op.cd.col, .int .i64 C.op.cd.v.kind, .slice ca cn cc, .float .f64 C.op.cd.v.n, .slice la ln lc, .int .i64 C.op.most, .string C.lo, .string C.hi, .int .i64 C.gen, .string C.at', .int .i64 C.to, .int .i64 C.act, .slice sa sn sc]] w fun e w' => e = .returned (.agg (ansV (if (1 ≤ C.to ∧ C.to ≤ S.grps) ∧ C.to ≠ t.g then pPl t.lo t.hi t.g 0 t.n C.to 1 C.at' else pTold 1))) ∧ Moves [] w w' := by
  have a0 := heap_alloc_new w (.cells #[.string t.lo, .string t.hi, .int .i64 t.g, .int .i64 t.n] 54)
  obtain ⟨w1, hw1⟩ : ∃ w1, w.alloc (.cells #[.string t.lo, .string t.hi, .int .i64 t.g, .int .i64 t.n] 54) = w1 := ⟨_, rfl⟩
  have s1 : w1.heap.size = w.heap.size + 1 := by rw [← hw1]; simp
  have n1 : Moves [] w w1 := by rw [← hw1]; exact (Moves.refl _ _).alloc _
  rw [hw1] at a0
  have a1 := heap_alloc_new w1 (.cells #[.int .i64 C.kind, .int .i64 C.op.kind, .string C.op.row, .string C.op.hi, .bool C.op.cd.has, .bool C.op.cd.want, .string C.op.cd.col, .int .i64 C.op.cd.v.kind, .slice ca cn cc, .float .f64 C.op.cd.v.n, .slice la ln lc, .int .i64 C.op.most, .string C.lo, .string C.hi, .int .i64 C.gen, .string C.at', .int .i64 C.to, .int .i64 C.act, .slice sa sn sc] 39)
  obtain ⟨w2, hw2⟩ : ∃ w2, w1.alloc (.cells #[.int .i64 C.kind, .int .i64 C.op.kind, .string C.op.row, .string C.op.hi, .bool C.op.cd.has, .bool C.op.cd.want, .string C.op.cd.col, .int .i64 C.op.cd.v.kind, .slice ca cn cc, .float .f64 C.op.cd.v.n, .slice la ln lc, .int .i64 C.op.most, .string C.lo, .string C.hi, .int .i64 C.gen, .string C.at', .int .i64 C.to, .int .i64 C.act, .slice sa sn sc] 39) = w2 := ⟨_, rfl⟩
  have s2 : w2.heap.size = w1.heap.size + 1 := by rw [← hw2]; simp
  have n2 : Moves [] w1 w2 := by rw [← hw2]; exact (Moves.refl _ _).alloc _
  rw [hw2] at a1
  have a2 := heap_alloc_new w2 (.cells #[.int .i64 0, .slice none 0 0, .string ⟨#[]⟩, .string ⟨#[]⟩, .int .i64 0, .int .i64 0, .int .i64 0, .int .i64 0, .int .i64 0, .string ⟨#[]⟩, .slice none 0 0] 48)
  obtain ⟨w3, hw3⟩ : ∃ w3, w2.alloc (.cells #[.int .i64 0, .slice none 0 0, .string ⟨#[]⟩, .string ⟨#[]⟩, .int .i64 0, .int .i64 0, .int .i64 0, .int .i64 0, .int .i64 0, .string ⟨#[]⟩, .slice none 0 0] 48) = w3 := ⟨_, rfl⟩
  have n3 : Moves [] w2 w3 := by rw [← hw3]; exact (Moves.refl _ _).alloc _
  rw [hw3] at a2
  have m13 := n2.then n3
  have m03 := n1.then m13
  have b0 := m13.at a0 (by simp)
  have b1 := n3.at a1 (by simp)
  have hm := mmay_w W w3 p q c a S (h.moves0 m03) t.g C.to
  have ht := mtold_w 1 w3
  rw [s1] at b1
  rw [s2, s1] at a2
  obtain ⟨x0, x1, x2, x3, f0, f1, f2, f3⟩ := four_cells b0
  obtain ⟨_, _, _, _, _, _, _, _, _, _, _, _, _, _, _, y15, y16, _, _⟩ := c19 b1
  obtain ⟨z0, z1, z2, z3, z4, z5, z6, z7, z8, z9, z10⟩ := eleven_cells a2
  have zfz := eleven_fz a2
  have HM : Hid (Moves [] w w3) := m03
  clear a0 a1 n1 n2 n3 m13 m03 b0 b1 h f0 f1 f2 f3
  by_cases hc : (1 ≤ C.to ∧ C.to ≤ S.grps) ∧ C.to ≠ t.g
  · rw [decide_eq_true hc] at hm
    rw [if_pos hc]
    clear hc ht
    go_enter Tryz.func143, Tryz.ntmps143
    go_wp2_with fail
    try rw [hw1]
    try rw [hw2]
    try rw [hw3]
    try rw [s2, s1]
    refine hm.mono ?_
    rintro _ _ ⟨rfl, rfl⟩
    go_wp2_with fail
    have so := stored11 a2 (.int .i64 (pPl t.lo t.hi t.g 0 t.n C.to 1 C.at').code) (.slice none 0 0) (.string (pPl t.lo t.hi t.g 0 t.n C.to 1 C.at').lo) (.string (pPl t.lo t.hi t.g 0 t.n C.to 1 C.at').hi) (.int .i64 (pPl t.lo t.hi t.g 0 t.n C.to 1 C.at').grp) (.int .i64 (pPl t.lo t.hi t.g 0 t.n C.to 1 C.at').gen) (.int .i64 (pPl t.lo t.hi t.g 0 t.n C.to 1 C.at').old) (.int .i64 (pPl t.lo t.hi t.g 0 t.n C.to 1 C.at').to) (.int .i64 (pPl t.lo t.hi t.g 0 t.n C.to 1 C.at').act) (.string (pPl t.lo t.hi t.g 0 t.n C.to 1 C.at').at') (.slice none 0 0)
    refine bodyPost_ret (ret_ans rfl _ _ _ _ _ _ _ _ _ _ _ _ _ _ rfl so.1) rfl ⟨rfl, HM.out.trans so.2 (fun x hx => .inr (by simp at hx; omega))⟩
  · rw [decide_eq_false hc] at hm
    rw [if_neg hc]
    clear hc z0 z1 z2 z3 z4 z5 z6 z7 z8 z9 z10 zfz
    go_enter Tryz.func143, Tryz.ntmps143
    go_wp2_with fail
    try rw [hw1]
    try rw [hw2]
    try rw [hw3]
    try rw [s2, s1]
    refine hm.mono ?_
    rintro _ _ ⟨rfl, rfl⟩
    go_wp2_with fail
    refine ht.mono ?_
    rintro _ w4 ⟨rfl, m4⟩
    have b2 := m4.at a2 (by simp)
    obtain ⟨z0, z1, z2, z3, z4, z5, z6, z7, z8, z9, z10⟩ := eleven_cells b2
    have zfz := eleven_fz b2
    unfold ansV
    go_wp2_with fail
    have so := stored11 b2 (.int .i64 (pTold 1).code) (.slice none 0 0) (.string (pTold 1).lo) (.string (pTold 1).hi) (.int .i64 (pTold 1).grp) (.int .i64 (pTold 1).gen) (.int .i64 (pTold 1).old) (.int .i64 (pTold 1).to) (.int .i64 (pTold 1).act) (.string (pTold 1).at') (.slice none 0 0)
    refine bodyPost_ret (ret_ans rfl _ _ _ _ _ _ _ _ _ _ _ _ _ _ rfl so.1) rfl ⟨rfl, (HM.out.then m4).trans so.2 (fun x hx => .inr (by simp at hx; omega))⟩

set_option maxRecDepth 100000 in
set_option maxHeartbeats 16000000 in
theorem msplit_w (W w : World) (p q c : Nat) (a : Option Nat) (S : Pms) (h : MrIs W w p q c a S) (ok : OkM S) (t : Ptb) (C : Pcmd) (ca : Option Addr) (cn cc : Nat) (la : Option Addr) (ln lc : Nat) (sa : Option Addr) (sn sc : Nat) :
    Calls Tryz.prog 144 #[.pointer (some ⟨p, 0, none⟩), .agg #[.string t.lo, .string t.hi, .int .i64 t.g, .int .i64 t.n], .agg #[.int .i64 C.kind, .int .i64 C.op.kind, .string C.op.row, .string C.op.hi, .bool C.op.cd.has, .bool C.op.cd.want, .string C.op.cd.col, .int .i64 C.op.cd.v.kind, .slice ca cn cc, .float .f64 C.op.cd.v.n, .slice la ln lc, .int .i64 C.op.most, .string C.lo, .string C.hi, .int .i64 C.gen, .string C.at', .int .i64 C.to, .int .i64 C.act, .slice sa sn sc]] w fun e w' => e = .returned (.agg (ansV (if spC t.sp C.at' = true then (if 16 ≤ S.xs.length then pTold 13 else pPl t.lo t.hi t.g 0 t.n 0 2 C.at') else pTold 1))) ∧ Moves [] w w' := by
  have a0 := heap_alloc_new w (.cells #[.string t.lo, .string t.hi, .int .i64 t.g, .int .i64 t.n] 54)
  obtain ⟨w1, hw1⟩ : ∃ w1, w.alloc (.cells #[.string t.lo, .string t.hi, .int .i64 t.g, .int .i64 t.n] 54) = w1 := ⟨_, rfl⟩
  have s1 : w1.heap.size = w.heap.size + 1 := by rw [← hw1]; simp
  have n1 : Moves [] w w1 := by rw [← hw1]; exact (Moves.refl _ _).alloc _
  rw [hw1] at a0
  have a1 := heap_alloc_new w1 (.cells #[.int .i64 C.kind, .int .i64 C.op.kind, .string C.op.row, .string C.op.hi, .bool C.op.cd.has, .bool C.op.cd.want, .string C.op.cd.col, .int .i64 C.op.cd.v.kind, .slice ca cn cc, .float .f64 C.op.cd.v.n, .slice la ln lc, .int .i64 C.op.most, .string C.lo, .string C.hi, .int .i64 C.gen, .string C.at', .int .i64 C.to, .int .i64 C.act, .slice sa sn sc] 39)
  obtain ⟨w2, hw2⟩ : ∃ w2, w1.alloc (.cells #[.int .i64 C.kind, .int .i64 C.op.kind, .string C.op.row, .string C.op.hi, .bool C.op.cd.has, .bool C.op.cd.want, .string C.op.cd.col, .int .i64 C.op.cd.v.kind, .slice ca cn cc, .float .f64 C.op.cd.v.n, .slice la ln lc, .int .i64 C.op.most, .string C.lo, .string C.hi, .int .i64 C.gen, .string C.at', .int .i64 C.to, .int .i64 C.act, .slice sa sn sc] 39) = w2 := ⟨_, rfl⟩
  have s2 : w2.heap.size = w1.heap.size + 1 := by rw [← hw2]; simp
  have n2 : Moves [] w1 w2 := by rw [← hw2]; exact (Moves.refl _ _).alloc _
  rw [hw2] at a1
  have a2 := heap_alloc_new w2 (.cells #[.int .i64 0, .slice none 0 0, .string ⟨#[]⟩, .string ⟨#[]⟩, .int .i64 0, .int .i64 0, .int .i64 0, .int .i64 0, .int .i64 0, .string ⟨#[]⟩, .slice none 0 0] 48)
  obtain ⟨w3, hw3⟩ : ∃ w3, w2.alloc (.cells #[.int .i64 0, .slice none 0 0, .string ⟨#[]⟩, .string ⟨#[]⟩, .int .i64 0, .int .i64 0, .int .i64 0, .int .i64 0, .int .i64 0, .string ⟨#[]⟩, .slice none 0 0] 48) = w3 := ⟨_, rfl⟩
  have n3 : Moves [] w2 w3 := by rw [← hw3]; exact (Moves.refl _ _).alloc _
  rw [hw3] at a2
  have m13 := n2.then n3
  have m03 := n1.then m13
  have b0 := m13.at a0 (by simp)
  have b1 := n3.at a1 (by simp)
  rw [s1] at b1
  rw [s2, s1] at a2
  have hpt := mparts_w t.lo t.hi C.at' w3
  have hln := fun w4 (m : Moves [] w3 w4) => mtLen_w w4 q S.xs (h.moves0 (m03.then m)).tab.is ok.ne (by have := ok.few; omega)
  have hbx := m03.at h.box (by simp)
  obtain ⟨x0, x1, x2, x3, f0, f1, f2, f3⟩ := four_cells b0
  obtain ⟨_, _, _, _, _, _, _, _, _, _, _, _, _, _, _, y15, y16, _, _⟩ := c19 b1
  obtain ⟨_, k1, _⟩ := c15 hbx
  have HM : Hid (Moves [] w w3) := m03
  have HT : t.sp = ⟨t.lo, t.hi⟩ := rfl
  rw [HT]
  have hle : (S.xs.length : Int) ≤ 16 := by have := ok.few; omega
  clear a0 a1 n1 n2 n3 m13 m03 b0 b1 h f0 f1 f2 f3 hbx HT ok
  cases hc : spC ⟨t.lo, t.hi⟩ C.at' with
  | false =>
    rw [hc] at hpt
    rw [if_neg (by simp)]
    go_enter Tryz.func144, Tryz.ntmps144
    go_wp2_with fail
    try rw [hw1]
    try rw [hw2]
    try rw [hw3]
    try rw [s2, s1]
    refine hpt.mono ?_
    rintro _ w4 ⟨rfl, m4⟩
    have ht := mtold_w 1 w4
    replace a2 := m4.at a2 (by simp)
    replace HM : Hid (Moves [] w w4) := HM.out.then m4
    clear m4 hpt hc hln x0 x1 x2 x3 y15 y16 k1
    go_wp2_with fail
    refine ht.mono ?_
    rintro _ w9 ⟨rfl, m9⟩
    have b9 := m9.at a2 (by simp)
    obtain ⟨z0, z1, z2, z3, z4, z5, z6, z7, z8, z9, z10⟩ := eleven_cells b9
    have zfz := eleven_fz b9
    unfold ansV
    go_wp2_with fail
    have so := stored11 b9 (.int .i64 (pTold 1).code) (.slice none 0 0) (.string (pTold 1).lo) (.string (pTold 1).hi) (.int .i64 (pTold 1).grp) (.int .i64 (pTold 1).gen) (.int .i64 (pTold 1).old) (.int .i64 (pTold 1).to) (.int .i64 (pTold 1).act) (.string (pTold 1).at') (.slice none 0 0)
    refine bodyPost_ret (ret_ans rfl _ _ _ _ _ _ _ _ _ _ _ _ _ _ rfl so.1) rfl ⟨rfl, (HM.out.then m9).trans so.2 (fun x hx => .inr (by simp at hx; omega))⟩
  | true =>
    rw [hc] at hpt
    rw [if_pos rfl]
    by_cases hl : 16 ≤ S.xs.length
    · rw [if_pos hl]
      have hl2 : ¬ (S.xs.length : Int) < 16 := by omega
      clear hl
      generalize S.xs.length = n at *
      go_enter Tryz.func144, Tryz.ntmps144
      go_wp2_with fail
      try rw [hw1]
      try rw [hw2]
      try rw [hw3]
      try rw [s2, s1]
      refine hpt.mono ?_
      rintro _ w4 ⟨rfl, m4⟩
      replace k1 := m4.cell k1
      go_wp2_with fail
      refine (hln w4 m4).mono ?_
      rintro _ w5 ⟨rfl, m5⟩
      have ht := mtold_w 13 w5
      replace a2 := (m4.then m5).at a2 (by simp)
      replace HM : Hid (Moves [] w w5) := HM.out.then (m4.then m5)
      clear m4 m5 hpt hc hln x0 x1 x2 x3 y15 y16 k1
      go_wp2_with fail
      refine ht.mono ?_
      rintro _ w9 ⟨rfl, m9⟩
      have b9 := m9.at a2 (by simp)
      obtain ⟨z0, z1, z2, z3, z4, z5, z6, z7, z8, z9, z10⟩ := eleven_cells b9
      have zfz := eleven_fz b9
      unfold ansV
      go_wp2_with fail
      have so := stored11 b9 (.int .i64 (pTold 13).code) (.slice none 0 0) (.string (pTold 13).lo) (.string (pTold 13).hi) (.int .i64 (pTold 13).grp) (.int .i64 (pTold 13).gen) (.int .i64 (pTold 13).old) (.int .i64 (pTold 13).to) (.int .i64 (pTold 13).act) (.string (pTold 13).at') (.slice none 0 0)
      refine bodyPost_ret (ret_ans rfl _ _ _ _ _ _ _ _ _ _ _ _ _ _ rfl so.1) rfl ⟨rfl, (HM.out.then m9).trans so.2 (fun x hx => .inr (by simp at hx; omega))⟩
    · rw [if_neg hl]
      have hl2 : (S.xs.length : Int) < 16 := by omega
      clear hl
      generalize S.xs.length = n at *
      go_enter Tryz.func144, Tryz.ntmps144
      go_wp2_with fail
      try rw [hw1]
      try rw [hw2]
      try rw [hw3]
      try rw [s2, s1]
      refine hpt.mono ?_
      rintro _ w4 ⟨rfl, m4⟩
      replace k1 := m4.cell k1
      go_wp2_with fail
      refine (hln w4 m4).mono ?_
      rintro _ w5 ⟨rfl, m5⟩
      have m45 := m4.then m5
      replace a2 := m45.at a2 (by simp)
      replace x0 := m45.cell x0
      replace x1 := m45.cell x1
      replace x2 := m45.cell x2
      replace x3 := m45.cell x3
      replace y15 := m45.cell y15
      replace HM : Hid (Moves [] w w5) := HM.out.then m45
      obtain ⟨z0, z1, z2, z3, z4, z5, z6, z7, z8, z9, z10⟩ := eleven_cells a2
      have zfz := eleven_fz a2
      clear m4 m5 m45 hpt hc hln k1 y16
      go_wp2_with fail
      have so := stored11 a2 (.int .i64 (pPl t.lo t.hi t.g 0 t.n 0 2 C.at').code) (.slice none 0 0) (.string (pPl t.lo t.hi t.g 0 t.n 0 2 C.at').lo) (.string (pPl t.lo t.hi t.g 0 t.n 0 2 C.at').hi) (.int .i64 (pPl t.lo t.hi t.g 0 t.n 0 2 C.at').grp) (.int .i64 (pPl t.lo t.hi t.g 0 t.n 0 2 C.at').gen) (.int .i64 (pPl t.lo t.hi t.g 0 t.n 0 2 C.at').old) (.int .i64 (pPl t.lo t.hi t.g 0 t.n 0 2 C.at').to) (.int .i64 (pPl t.lo t.hi t.g 0 t.n 0 2 C.at').act) (.string (pPl t.lo t.hi t.g 0 t.n 0 2 C.at').at') (.slice none 0 0)
      refine bodyPost_ret (ret_ans rfl _ _ _ _ _ _ _ _ _ _ _ _ _ _ rfl so.1) rfl ⟨rfl, HM.out.trans so.2 (fun x hx => .inr (by simp at hx; omega))⟩

set_option maxRecDepth 100000 in
set_option maxHeartbeats 16000000 in
theorem mmerge_w (W w : World) (p q c : Nat) (a : Option Nat) (S : Pms) (h : MrIs W w p q c a S) (ok : OkM S) (t : Ptb) (C : Pcmd) (ht0 : t = mTb S.xs C.at') (ca : Option Addr) (cn cc : Nat) (la : Option Addr) (ln lc : Nat) (sa : Option Addr) (sn sc : Nat) :
    Calls Tryz.prog 145 #[.pointer (some ⟨p, 0, none⟩), .agg #[.string t.lo, .string t.hi, .int .i64 t.g, .int .i64 t.n], .agg #[.int .i64 C.kind, .int .i64 C.op.kind, .string C.op.row, .string C.op.hi, .bool C.op.cd.has, .bool C.op.cd.want, .string C.op.cd.col, .int .i64 C.op.cd.v.kind, .slice ca cn cc, .float .f64 C.op.cd.v.n, .slice la ln lc, .int .i64 C.op.most, .string C.lo, .string C.hi, .int .i64 C.gen, .string C.at', .int .i64 C.to, .int .i64 C.act, .slice sa sn sc]] w fun e w' => e = .returned (.agg (ansV (if (t.lo = C.at' ∧ 0 < mIx S.xs C.at') ∧ (mAhead S.xs C.at').g = t.g then pPl (mAhead S.xs C.at').lo t.hi t.g 0 0 0 3 C.at' else pTold 1))) ∧ Moves [] w w' := by
  have hmx : Tryz.prog.follows .mixedOrders = true := by kernel_rfl
  have a0 := heap_alloc_new w (.cells #[.string t.lo, .string t.hi, .int .i64 t.g, .int .i64 t.n] 54)
  obtain ⟨w1, hw1⟩ : ∃ w1, w.alloc (.cells #[.string t.lo, .string t.hi, .int .i64 t.g, .int .i64 t.n] 54) = w1 := ⟨_, rfl⟩
  have s1 : w1.heap.size = w.heap.size + 1 := by rw [← hw1]; simp
  have n1 : Moves [] w w1 := by rw [← hw1]; exact (Moves.refl _ _).alloc _
  rw [hw1] at a0
  have a1 := heap_alloc_new w1 (.cells #[.int .i64 C.kind, .int .i64 C.op.kind, .string C.op.row, .string C.op.hi, .bool C.op.cd.has, .bool C.op.cd.want, .string C.op.cd.col, .int .i64 C.op.cd.v.kind, .slice ca cn cc, .float .f64 C.op.cd.v.n, .slice la ln lc, .int .i64 C.op.most, .string C.lo, .string C.hi, .int .i64 C.gen, .string C.at', .int .i64 C.to, .int .i64 C.act, .slice sa sn sc] 39)
  obtain ⟨w2, hw2⟩ : ∃ w2, w1.alloc (.cells #[.int .i64 C.kind, .int .i64 C.op.kind, .string C.op.row, .string C.op.hi, .bool C.op.cd.has, .bool C.op.cd.want, .string C.op.cd.col, .int .i64 C.op.cd.v.kind, .slice ca cn cc, .float .f64 C.op.cd.v.n, .slice la ln lc, .int .i64 C.op.most, .string C.lo, .string C.hi, .int .i64 C.gen, .string C.at', .int .i64 C.to, .int .i64 C.act, .slice sa sn sc] 39) = w2 := ⟨_, rfl⟩
  have s2 : w2.heap.size = w1.heap.size + 1 := by rw [← hw2]; simp
  have n2 : Moves [] w1 w2 := by rw [← hw2]; exact (Moves.refl _ _).alloc _
  rw [hw2] at a1
  have a2 := heap_alloc_new w2 (.cells #[.int .i64 0, .slice none 0 0, .string ⟨#[]⟩, .string ⟨#[]⟩, .int .i64 0, .int .i64 0, .int .i64 0, .int .i64 0, .int .i64 0, .string ⟨#[]⟩, .slice none 0 0] 48)
  obtain ⟨w3, hw3⟩ : ∃ w3, w2.alloc (.cells #[.int .i64 0, .slice none 0 0, .string ⟨#[]⟩, .string ⟨#[]⟩, .int .i64 0, .int .i64 0, .int .i64 0, .int .i64 0, .int .i64 0, .string ⟨#[]⟩, .slice none 0 0] 48) = w3 := ⟨_, rfl⟩
  have n3 : Moves [] w2 w3 := by rw [← hw3]; exact (Moves.refl _ _).alloc _
  rw [hw3] at a2
  have m13 := n2.then n3
  have m03 := n1.then m13
  have b0 := m13.at a0 (by simp)
  have b1 := n3.at a1 (by simp)
  rw [s1] at b1
  rw [s2, s1] at a2
  have hbef := fun w4 (m : Moves [] w3 w4) => mtBefore_w w4 q S.xs (h.moves0 (m03.then m)).tab.is ok.cov (by have := ok.few; omega) C.at' (mIx S.xs C.at') (mIx_last ok.cov C.at') (mAhead S.xs C.at') rfl
  have hj : 0 < mIx S.xs C.at' → spJ ⟨(mAhead S.xs C.at').lo, (mAhead S.xs C.at').hi⟩ ⟨t.lo, t.hi⟩ = true := by
    intro h0
    have e := mAhead_parts ok.cov C.at' h0
    have e0 : S.xs.map Ptb.sp = (S.xs.take (mIx S.xs C.at' - 1)).map Ptb.sp ++ (mAhead S.xs C.at').sp :: (mTb S.xs C.at').sp :: (S.xs.drop (mIx S.xs C.at' + 1)).map Ptb.sp := by
      conv => lhs; rw [e]
      simp
    have hcov := ok.cov
    rw [e0] at hcov
    rw [ht0]
    exact (spCov_join _ _ hcov).1
  have HJ : Hid (0 < mIx S.xs C.at' → spJ ⟨(mAhead S.xs C.at').lo, (mAhead S.xs C.at').hi⟩ ⟨t.lo, t.hi⟩ = true) := hj
  have hbx := m03.at h.box (by simp)
  obtain ⟨B0, hB0⟩ : ∃ B0, w.heap.size = B0 := ⟨_, rfl⟩
  rw [hB0] at b0 b1 a2
  obtain ⟨x0, x1, x2, x3, f0, f1, f2, f3⟩ := four_cells b0
  obtain ⟨_, _, _, _, _, _, _, _, _, _, _, _, _, _, _, y15, _⟩ := c19 b1
  obtain ⟨_, k1, _⟩ := c15 hbx
  have HM : Hid (Moves [] w w3) := m03
  obtain ⟨u, hu⟩ : ∃ u, mAhead S.xs C.at' = u := ⟨_, rfl⟩
  rw [hu] at hbef HJ ⊢
  obtain ⟨R, hR⟩ : ∃ R, (if (t.lo = C.at' ∧ 0 < mIx S.xs C.at') ∧ u.g = t.g then pPl u.lo t.hi t.g 0 0 0 3 C.at' else pTold 1) = R := ⟨_, rfl⟩
  rw [hR]
  have HD : Hid (_ = R) := hR
  clear hR
  obtain ⟨yes, hyes⟩ : ∃ yes, decide (0 < mIx S.xs C.at') = yes := ⟨_, rfl⟩
  rw [hyes] at hbef
  have HY : Hid (decide (0 < mIx S.xs C.at') = yes) := hyes
  have hbef' : ∀ w4, Moves [] w3 w4 → Calls Tryz.prog 179 #[.pointer (some ⟨q, 0, none⟩), .string C.at'] w4 fun e w' => e = .returned (.tuple #[.agg #[.string u.lo, .string u.hi, .int .i64 u.g, .int .i64 u.n], .bool yes]) ∧ Moves [] w4 w' := hbef
  clear a0 a1 n1 n2 n3 m13 m03 b0 b1 h f0 f1 f2 f3 hbx ok hj hu hyes hbef ht0
  rename _ => hbef
  go_enter Tryz.func145, Tryz.ntmps145
  go_wp2_with fail
  try rw [hw1]
  try rw [hw2]
  try rw [hw3]
  try rw [s2, s1]
  try rw [hB0]
  have HSZ : Hid (w.heap.size = B0) := hB0
  clear hw1 hw2 s1 s2 hB0
  obtain ⟨wr, hwr⟩ : ∃ wr, wr = w3 := ⟨_, rfl⟩
  subst hwr
  clear hw3
  have hS : ∀ w', Moves [] wr w' → (w'.cell? ⟨p, 1, none⟩ = some (.pointer (some ⟨q, 0, none⟩)) ∧ w'.cell? ⟨B0 + 1, 15, none⟩ = some (.string C.at')) := fun w' m' => ⟨m'.cell k1, m'.cell y15⟩
  have mW : Moves [] wr wr.drew := (Moves.refl _ _).drew
  refine wp_some7 [12, 13, 14, 15, 16, 17, 18, 11, 19, 20, 7, 8] (fun v w' => ∃ b, v 7 = .pointer (some ⟨b, 0, none⟩) ∧ v 8 = .bool yes ∧ wr.heap.size ≤ b ∧ w'.heap[b]? = some (.cells #[.string u.lo, .string u.hi, .int .i64 u.g, .int .i64 u.n] 54 (0, 0)) ∧ Moves [] wr w') ?_ ?_
  · rename_i ax
    clear ax
    refine wp_region_noPanic ?_
    refine wp_region_held_drew (S := (fun w' => w'.cell? ⟨p, 1, none⟩ = some (.pointer (some ⟨q, 0, none⟩)) ∧ w'.cell? ⟨B0 + 1, 15, none⟩ = some (.string C.at'))) (by kernel_rfl) ?_ (fun hHeld => ?_)
    · first | (go_keep; done) | first | exact hS _ mS | exact hS _ mW
    refine wpT 0 ⟨some 12, .move (.tmp 0), 23, "plan.go:112", #[], none⟩ ?_
    refine wpT 1 ⟨some 13, .nilCheck (.tmp 12), 0, "plan.go:112", #[⟨0, .data⟩], none⟩ ?_
    refine wpT 2 ⟨some 14, .fieldAddr 76 (.tmp 13) 1, 0, "plan.go:112", #[⟨1, .data⟩], none⟩ ?_
    refine wpT 3 ⟨some 15, .load 69 (.tmp 14), 69, "plan.go:112", #[⟨2, .data⟩], none⟩ ?_
    refine wpT 4 ⟨some 16, .fieldAddr 39 (.tmp 5) 4, 0, "plan.go:112", #[], none⟩ ?_
    refine wpT 5 ⟨some 17, .load 9 (.tmp 16), 9, "plan.go:112", #[⟨4, .data⟩], none⟩ ?_
    refine wpAnyH_ready (rs := [6, 10]) (by kernel_rfl) (by simp) ?_
    refine AllReadyH.cons (o := ⟨some 18, .call ⟨.value (.func 179), #[.tmp 15, .tmp 17], #[69, 9]⟩, 233, "plan.go:112", #[⟨3, .data⟩, ⟨5, .data⟩], none⟩) rfl (fun K hK => ?_) (AllReadyH.cons (o := ⟨some 7, .alloc 54, 0, "plan.go:112", #[], none⟩) rfl (fun K hK => ?_) AllReadyH.nil)
    · go_simp
      refine (hbef _ (by first | exact mW | exact mW.drew)).mono ?_
      rintro _ w6 ⟨rfl, mc⟩
      replace mW := mW.then mc
      refine hK.out _ _ ?_ (fun hHeld => ?_)
      · first | exact hS _ mS | exact hS _ mW
      clear hK K
      refine wpT 7 ⟨some 11, .move (.tmp 18), 233, "plan.go:112", #[⟨6, .data⟩], none⟩ ?_
      refine wpT 8 ⟨some 19, .extract (.tmp 11) 0, 54, "plan.go:112", #[⟨7, .data⟩], none⟩ ?_
      refine wpT 9 ⟨some 20, .extract (.tmp 11) 1, 4, "plan.go:112", #[⟨7, .data⟩, { on := 11, ground := Ground.gcOnly Departure.lateStores }], none⟩ ?_
      refine wpR 10 ⟨some 7, .alloc 54, 0, "plan.go:112", #[], none⟩ (fun K hK => ?_)
      go_simp
      have hle := mW.size
      obtain ⟨w10, hwa⟩ : ∃ x, w6.alloc (.cells #[.string ⟨#[]⟩, .string ⟨#[]⟩, .int .i64 0, .int .i64 0] 54) = x := ⟨_, rfl⟩
      have hb : w10.heap[w6.heap.size]? = some (.cells #[.string ⟨#[]⟩, .string ⟨#[]⟩, .int .i64 0, .int .i64 0] 54 (0, 0)) := by rw [← hwa]; exact heap_alloc_new w6 _
      have mA : Moves [] w6 w10 := by rw [← hwa]; exact (Moves.refl _ _).alloc _
      rw [hwa]
      obtain ⟨pb, hpb⟩ : ∃ pb, w6.heap.size = pb := ⟨_, rfl⟩
      rw [hpb] at hb ⊢
      have hle : wr.heap.size ≤ pb := by rw [← hpb]; first | exact hle | exact Nat.le_refl _
      replace mW := mW.then mA
      clear hwa hpb
      refine hK.out _ _ ?_ (fun hHeld => ?_)
      · first | exact hS _ mS | exact hS _ mW
      clear hK K
      refine wpR 11 ⟨none, .store 54 (.tmp 7) (.tmp 19), 0, "plan.go:112", #[⟨10, .data⟩, ⟨8, .data⟩, ⟨6, .chain⟩, ⟨0, .phase⟩, ⟨1, .phase⟩, ⟨2, .phase⟩, ⟨3, .phase⟩, ⟨4, .phase⟩, ⟨5, .phase⟩, ⟨6, .phase⟩, ⟨7, .phase⟩, ⟨8, .phase⟩, { on := 9, ground := Ground.textOnly Departure.lateStores }, ⟨10, .phase⟩], none⟩ (fun K hK => ?_)
      obtain ⟨_, _, _, _, f0, f1, f2, f3⟩ := four_cells hb
      obtain ⟨ti, mS0⟩ := four_info hb (.string u.lo) (.string u.hi) (.int .i64 u.g) (.int .i64 u.n)
      have mS := mW.trans mS0 (fun x hx => .inr (by simp at hx; omega))
      go_simp
      refine hK.out _ _ ?_ (fun hHeld => ?_)
      · first | exact hS _ mS | exact hS _ mW
      clear hK K
      refine wpT 12 ⟨some 8, .assign (.tmp 20), 4, "plan.go:112", #[⟨9, .data⟩, ⟨11, .chain⟩, ⟨0, .phase⟩, ⟨1, .phase⟩, ⟨2, .phase⟩, ⟨3, .phase⟩, ⟨4, .phase⟩, ⟨5, .phase⟩, ⟨6, .phase⟩, ⟨7, .phase⟩, ⟨8, .phase⟩, ⟨9, .phase⟩, ⟨10, .phase⟩, ⟨11, .phase⟩], none⟩ ?_
      refine wpAnyH_done (by kernel_rfl) ?_ _
      refine NoPanic.normal ?_
      exact ⟨rfl, by kernel_rfl, pb, by kernel_rfl, by kernel_rfl, hle, ti, mS⟩
    · go_simp
      have hle := mW.size
      obtain ⟨w10, hwa⟩ : ∃ x, (wr.alloc (.cells #[.string ⟨#[]⟩, .string ⟨#[]⟩, .int .i64 0, .int .i64 0] 54)).drew = x := ⟨_, rfl⟩
      have hb : w10.heap[wr.heap.size]? = some (.cells #[.string ⟨#[]⟩, .string ⟨#[]⟩, .int .i64 0, .int .i64 0] 54 (0, 0)) := by rw [← hwa]; exact heap_alloc_new wr _
      have mA : Moves [] wr w10 := by rw [← hwa]; exact ((Moves.refl _ _).alloc _).drew
      rw [hwa]
      obtain ⟨pb, hpb⟩ : ∃ pb, wr.heap.size = pb := ⟨_, rfl⟩
      rw [hpb] at hb ⊢
      have hle : wr.heap.size ≤ pb := by rw [← hpb]; first | exact hle | exact Nat.le_refl _
      replace mW := mA
      clear hwa hpb
      refine hK.out _ _ ?_ (fun hHeld => ?_)
      · first | exact hS _ mS | exact hS _ mW
      clear hK K
      refine wpR 6 ⟨some 18, .call ⟨.value (.func 179), #[.tmp 15, .tmp 17], #[69, 9]⟩, 233, "plan.go:112", #[⟨3, .data⟩, ⟨5, .data⟩], none⟩ (fun K hK => ?_)
      go_simp
      refine (hbef _ (by first | exact mW | exact mW.drew)).mono ?_
      rintro _ w6 ⟨rfl, mc⟩
      replace mW := mW.then mc
      replace hb := mc.at hb (by simp)
      refine hK.out _ _ ?_ (fun hHeld => ?_)
      · first | exact hS _ mS | exact hS _ mW
      clear hK K
      refine wpT 7 ⟨some 11, .move (.tmp 18), 233, "plan.go:112", #[⟨6, .data⟩], none⟩ ?_
      refine wpT 8 ⟨some 19, .extract (.tmp 11) 0, 54, "plan.go:112", #[⟨7, .data⟩], none⟩ ?_
      refine wpT 9 ⟨some 20, .extract (.tmp 11) 1, 4, "plan.go:112", #[⟨7, .data⟩, { on := 11, ground := Ground.gcOnly Departure.lateStores }], none⟩ ?_
      refine wpR 11 ⟨none, .store 54 (.tmp 7) (.tmp 19), 0, "plan.go:112", #[⟨10, .data⟩, ⟨8, .data⟩, ⟨6, .chain⟩, ⟨0, .phase⟩, ⟨1, .phase⟩, ⟨2, .phase⟩, ⟨3, .phase⟩, ⟨4, .phase⟩, ⟨5, .phase⟩, ⟨6, .phase⟩, ⟨7, .phase⟩, ⟨8, .phase⟩, { on := 9, ground := Ground.textOnly Departure.lateStores }, ⟨10, .phase⟩], none⟩ (fun K hK => ?_)
      obtain ⟨_, _, _, _, f0, f1, f2, f3⟩ := four_cells hb
      obtain ⟨ti, mS0⟩ := four_info hb (.string u.lo) (.string u.hi) (.int .i64 u.g) (.int .i64 u.n)
      have mS := mW.trans mS0 (fun x hx => .inr (by simp at hx; omega))
      go_simp
      refine hK.out _ _ ?_ (fun hHeld => ?_)
      · first | exact hS _ mS | exact hS _ mW
      clear hK K
      refine wpT 12 ⟨some 8, .assign (.tmp 20), 4, "plan.go:112", #[⟨9, .data⟩, ⟨11, .chain⟩, ⟨0, .phase⟩, ⟨1, .phase⟩, ⟨2, .phase⟩, ⟨3, .phase⟩, ⟨4, .phase⟩, ⟨5, .phase⟩, ⟨6, .phase⟩, ⟨7, .phase⟩, ⟨8, .phase⟩, ⟨9, .phase⟩, ⟨10, .phase⟩, ⟨11, .phase⟩], none⟩ ?_
      refine wpAnyH_done (by kernel_rfl) ?_ _
      refine NoPanic.normal ?_
      exact ⟨rfl, by kernel_rfl, pb, by kernel_rfl, by kernel_rfl, hle, ti, mS⟩
  · rintro v wx ⟨pb, hv7, hv8, hle, ti, mx⟩
    simp only [List.foldl_cons, List.foldl_nil, List.setIfInBounds_toArray, List.set_cons_zero, List.set_cons_succ, hv7, hv8]
    clear hv7 hv8 mW hS hbef
    replace x0 := mx.cell x0
    replace x1 := mx.cell x1
    replace x2 := mx.cell x2
    replace x3 := mx.cell x3
    replace y15 := mx.cell y15
    replace a2 := mx.at a2 (by simp)
    replace HM : Hid (Moves [] w wx) := HM.out.then mx
    obtain ⟨t0, t1, t2, t3, g0, g1, g2, g3⟩ := four_cells ti
    generalize v 12 = v12
    generalize v 13 = v13
    generalize v 14 = v14
    generalize v 15 = v15
    generalize v 16 = v16
    generalize v 17 = v17
    generalize v 18 = v18
    generalize v 11 = v11
    generalize v 19 = v19
    generalize v 20 = v20
    by_cases h1 : t.lo = C.at'
    · by_cases h2 : yes = true
      · by_cases h3 : u.g = t.g
        · have h0 : 0 < mIx S.xs C.at' := by have := HY.out; rw [h2] at this; simpa using this
          have hjj := spJoin_yes u.lo u.hi t.lo t.hi wx (HJ.out h0)
          have HR9 : Hid (R = pPl u.lo t.hi t.g 0 0 0 3 C.at') := by unfold Hid; rw [← HD.out, if_pos ⟨⟨h1, h0⟩, h3⟩]
          subst h2
          rw [h1] at x0 hjj
          rw [h3] at t2
          clear HJ HY h0 h3 mx k1 g0 g1 g2 g3
          go_wp2_with fail
          refine hjj.mono ?_
          rintro _ w5 ⟨rfl, m5⟩
          replace x2 := m5.cell x2
          replace y15 := m5.cell y15
          replace a2 := m5.at a2 (by simp)
          replace HM : Hid (Moves [] w w5) := HM.out.then m5
          have a3 := heap_alloc_new w5 (.cells #[.string u.lo, .string t.hi] 37)
          have n5 : Moves [] w5 (w5.alloc (.cells #[.string u.lo, .string t.hi] 37)) := (Moves.refl _ _).alloc _
          replace x2 := n5.cell x2
          replace y15 := n5.cell y15
          replace a2 := n5.at a2 (by simp)
          replace HM : Hid (Moves [] w (w5.alloc (.cells #[.string u.lo, .string t.hi] 37))) := HM.out.then n5
          obtain ⟨z0, z1, z2, z3, z4, z5, z6, z7, z8, z9, z10⟩ := eleven_cells a2
          have zfz := eleven_fz a2
          obtain ⟨e0, e1, _, _⟩ := sp_cells a3
          clear hjj m5 x0 x1 x3 t0 t1 t2 t3 ti n5
          go_wp2_with fail
          have so := stored11 a2 (.int .i64 (pPl u.lo t.hi t.g 0 0 0 3 C.at').code) (.slice none 0 0) (.string (pPl u.lo t.hi t.g 0 0 0 3 C.at').lo) (.string (pPl u.lo t.hi t.g 0 0 0 3 C.at').hi) (.int .i64 (pPl u.lo t.hi t.g 0 0 0 3 C.at').grp) (.int .i64 (pPl u.lo t.hi t.g 0 0 0 3 C.at').gen) (.int .i64 (pPl u.lo t.hi t.g 0 0 0 3 C.at').old) (.int .i64 (pPl u.lo t.hi t.g 0 0 0 3 C.at').to) (.int .i64 (pPl u.lo t.hi t.g 0 0 0 3 C.at').act) (.string (pPl u.lo t.hi t.g 0 0 0 3 C.at').at') (.slice none 0 0)
          refine bodyPost_ret (ret_ans rfl _ _ _ _ _ _ _ _ _ _ _ _ _ _ rfl so.1) rfl ⟨by rw [HR9.out]; rfl, HM.out.trans so.2 (fun x hx => .inr (by simp at hx; have := HSZ.out; omega))⟩
        · have ht := mtold_w 1 wx
          have HR9 : Hid (R = pTold 1) := by unfold Hid; rw [← HD.out, if_neg (show ¬ ((t.lo = C.at' ∧ 0 < mIx S.xs C.at') ∧ u.g = t.g) from fun hh => h3 hh.2)]
          subst h2
          rw [h1] at x0
          have h3' : (u.g == t.g) = false := beq_eq_false_iff_ne.2 h3
          clear HJ HY mx k1 g0 g1 g2 g3
          go_wp2_with fail
          refine ht.mono ?_
          rintro _ w9 ⟨rfl, m9⟩
          have b9 := m9.at a2 (by simp)
          obtain ⟨z0, z1, z2, z3, z4, z5, z6, z7, z8, z9, z10⟩ := eleven_cells b9
          have zfz := eleven_fz b9
          unfold ansV
          go_wp2_with fail
          have so := stored11 b9 (.int .i64 (pTold 1).code) (.slice none 0 0) (.string (pTold 1).lo) (.string (pTold 1).hi) (.int .i64 (pTold 1).grp) (.int .i64 (pTold 1).gen) (.int .i64 (pTold 1).old) (.int .i64 (pTold 1).to) (.int .i64 (pTold 1).act) (.string (pTold 1).at') (.slice none 0 0)
          refine bodyPost_ret (ret_ans rfl _ _ _ _ _ _ _ _ _ _ _ _ _ _ rfl so.1) rfl ⟨by rw [HR9.out]; rfl, (HM.out.then m9).trans so.2 (fun x hx => .inr (by simp at hx; have := HSZ.out; omega))⟩
      · have ht := mtold_w 1 wx
        have h2' : yes = false := by simpa using h2
        have HR9 : Hid (R = pTold 1) := by unfold Hid; rw [← HD.out, if_neg (show ¬ ((t.lo = C.at' ∧ 0 < mIx S.xs C.at') ∧ u.g = t.g) from fun hh => by have := HY.out; rw [decide_eq_true hh.1.2, h2'] at this; simp at this)]
        subst h2'
        rw [h1] at x0
        clear HJ HY mx k1 g0 g1 g2 g3 h2
        go_wp2_with fail
        refine ht.mono ?_
        rintro _ w9 ⟨rfl, m9⟩
        have b9 := m9.at a2 (by simp)
        obtain ⟨z0, z1, z2, z3, z4, z5, z6, z7, z8, z9, z10⟩ := eleven_cells b9
        have zfz := eleven_fz b9
        unfold ansV
        go_wp2_with fail
        have so := stored11 b9 (.int .i64 (pTold 1).code) (.slice none 0 0) (.string (pTold 1).lo) (.string (pTold 1).hi) (.int .i64 (pTold 1).grp) (.int .i64 (pTold 1).gen) (.int .i64 (pTold 1).old) (.int .i64 (pTold 1).to) (.int .i64 (pTold 1).act) (.string (pTold 1).at') (.slice none 0 0)
        refine bodyPost_ret (ret_ans rfl _ _ _ _ _ _ _ _ _ _ _ _ _ _ rfl so.1) rfl ⟨by rw [HR9.out]; rfl, (HM.out.then m9).trans so.2 (fun x hx => .inr (by simp at hx; have := HSZ.out; omega))⟩
    · have ht := mtold_w 1 wx
      have HR9 : Hid (R = pTold 1) := by unfold Hid; rw [← HD.out, if_neg (show ¬ ((t.lo = C.at' ∧ 0 < mIx S.xs C.at') ∧ u.g = t.g) from fun hh => h1 hh.1.1)]
      have h1' : (t.lo.toList == C.at'.toList) = false := by show zeq t.lo C.at' = false; rw [Bool.eq_false_iff]; exact fun hb => h1 (zeq_iff.1 hb)
      clear HJ HY mx k1 g0 g1 g2 g3
      go_wp2_with fail
      refine ht.mono ?_
      rintro _ w9 ⟨rfl, m9⟩
      have b9 := m9.at a2 (by simp)
      obtain ⟨z0, z1, z2, z3, z4, z5, z6, z7, z8, z9, z10⟩ := eleven_cells b9
      have zfz := eleven_fz b9
      unfold ansV
      go_wp2_with fail
      have so := stored11 b9 (.int .i64 (pTold 1).code) (.slice none 0 0) (.string (pTold 1).lo) (.string (pTold 1).hi) (.int .i64 (pTold 1).grp) (.int .i64 (pTold 1).gen) (.int .i64 (pTold 1).old) (.int .i64 (pTold 1).to) (.int .i64 (pTold 1).act) (.string (pTold 1).at') (.slice none 0 0)
      refine bodyPost_ret (ret_ans rfl _ _ _ _ _ _ _ _ _ _ _ _ _ _ rfl so.1) rfl ⟨by rw [HR9.out]; rfl, (HM.out.then m9).trans so.2 (fun x hx => .inr (by simp at hx; have := HSZ.out; omega))⟩

set_option maxRecDepth 100000 in
set_option maxHeartbeats 16000000 in
theorem mdraw_w (W w : World) (p q c : Nat) (a : Option Nat) (S : Pms) (h : MrIs W w p q c a S) (ok : OkM S) (C : Pcmd) (ca : Option Addr) (cn cc : Nat) (la : Option Addr) (ln lc : Nat) (sa : Option Addr) (sn sc : Nat) :
    Calls Tryz.prog 106 #[.pointer (some ⟨p, 0, none⟩), .agg #[.int .i64 C.kind, .int .i64 C.op.kind, .string C.op.row, .string C.op.hi, .bool C.op.cd.has, .bool C.op.cd.want, .string C.op.cd.col, .int .i64 C.op.cd.v.kind, .slice ca cn cc, .float .f64 C.op.cd.v.n, .slice la ln lc, .int .i64 C.op.most, .string C.lo, .string C.hi, .int .i64 C.gen, .string C.at', .int .i64 C.to, .int .i64 C.act, .slice sa sn sc]] w fun e w' => e = .returned (.agg (ansV (mDraw S C.act C.at' C.to))) ∧ Moves [] w w' := by
  have hmx : Tryz.prog.follows .mixedOrders = true := by kernel_rfl
  have a1 := heap_alloc_new w (.cells #[.int .i64 C.kind, .int .i64 C.op.kind, .string C.op.row, .string C.op.hi, .bool C.op.cd.has, .bool C.op.cd.want, .string C.op.cd.col, .int .i64 C.op.cd.v.kind, .slice ca cn cc, .float .f64 C.op.cd.v.n, .slice la ln lc, .int .i64 C.op.most, .string C.lo, .string C.hi, .int .i64 C.gen, .string C.at', .int .i64 C.to, .int .i64 C.act, .slice sa sn sc] 39)
  obtain ⟨w2, hw2⟩ : ∃ w2, w.alloc (.cells #[.int .i64 C.kind, .int .i64 C.op.kind, .string C.op.row, .string C.op.hi, .bool C.op.cd.has, .bool C.op.cd.want, .string C.op.cd.col, .int .i64 C.op.cd.v.kind, .slice ca cn cc, .float .f64 C.op.cd.v.n, .slice la ln lc, .int .i64 C.op.most, .string C.lo, .string C.hi, .int .i64 C.gen, .string C.at', .int .i64 C.to, .int .i64 C.act, .slice sa sn sc] 39) = w2 := ⟨_, rfl⟩
  have s2 : w2.heap.size = w.heap.size + 1 := by rw [← hw2]; simp
  have n2 : Moves [] w w2 := by rw [← hw2]; exact (Moves.refl _ _).alloc _
  rw [hw2] at a1
  have a2 := heap_alloc_new w2 (.cells #[.int .i64 0, .slice none 0 0, .string ⟨#[]⟩, .string ⟨#[]⟩, .int .i64 0, .int .i64 0, .int .i64 0, .int .i64 0, .int .i64 0, .string ⟨#[]⟩, .slice none 0 0] 48)
  obtain ⟨w3, hw3⟩ : ∃ w3, w2.alloc (.cells #[.int .i64 0, .slice none 0 0, .string ⟨#[]⟩, .string ⟨#[]⟩, .int .i64 0, .int .i64 0, .int .i64 0, .int .i64 0, .int .i64 0, .string ⟨#[]⟩, .slice none 0 0] 48) = w3 := ⟨_, rfl⟩
  have n3 : Moves [] w2 w3 := by rw [← hw3]; exact (Moves.refl _ _).alloc _
  rw [hw3] at a2
  have m03 := n2.then n3
  have b1 := n3.at a1 (by simp)
  rw [s2] at a2
  obtain ⟨B1, hB1⟩ : ∃ B1, w.heap.size = B1 := ⟨_, rfl⟩
  rw [hB1] at b1 a2
  have hfind := fun w4 (m : Moves [] w3 w4) => mtFind_w w4 q S.xs (h.moves0 (m03.then m)).tab.is ok.cov (by have := ok.few; omega) C.at' (mIx S.xs C.at') (mIx_last ok.cov C.at') (mTb S.xs C.at') (mTb_get ok.cov C.at')
  have hmove := fun w4 (m : Moves [] w3 w4) => mmove_w W w4 p q c a S (h.moves0 (m03.then m)) (mTb S.xs C.at') C ca cn cc la ln lc sa sn sc
  have hsplit := fun w4 (m : Moves [] w3 w4) => msplit_w W w4 p q c a S (h.moves0 (m03.then m)) ok (mTb S.xs C.at') C ca cn cc la ln lc sa sn sc
  have hmerge := fun w4 (m : Moves [] w3 w4) => mmerge_w W w4 p q c a S (h.moves0 (m03.then m)) ok (mTb S.xs C.at') C rfl ca cn cc la ln lc sa sn sc
  have hbx := m03.at h.box (by simp)
  obtain ⟨_, _, _, _, _, _, _, _, _, _, _, _, _, _, _, y15, _, y17, _⟩ := c19 b1
  obtain ⟨_, k1, _⟩ := c15 hbx
  have HB1 : Hid _ := b1
  have HM : Hid (Moves [] w w3) := m03
  obtain ⟨R, hR⟩ : ∃ R, mDraw S C.act C.at' C.to = R := ⟨_, rfl⟩
  rw [hR]
  unfold mDraw at hR
  have HD : Hid (R = _) := hR.symm
  clear hR
  obtain ⟨t, ht⟩ : ∃ t, mTb S.xs C.at' = t := ⟨_, rfl⟩
  rw [ht] at hfind hmove hsplit hmerge HD
  clear a1 n2 n3 m03 b1 h hbx ok ht
  go_enter Tryz.func106, Tryz.ntmps106
  go_wp2_with fail
  try rw [hw2]
  try rw [hw3]
  try rw [s2]
  try rw [hB1]
  obtain ⟨wr, hwr⟩ : ∃ wr, wr = w3 := ⟨_, rfl⟩
  subst hwr
  have hS : ∀ w', Moves [] wr w' → (w'.cell? ⟨p, 1, none⟩ = some (.pointer (some ⟨q, 0, none⟩)) ∧ w'.cell? ⟨B1, 15, none⟩ = some (.string C.at')) := fun w' m' => ⟨m'.cell k1, m'.cell y15⟩
  have mW : Moves [] wr wr.drew := (Moves.refl _ _).drew
  refine wp_some7 [6, 7, 8, 9, 10, 11, 12, 5] (fun v w' => ∃ b, v 5 = .pointer (some ⟨b, 0, none⟩) ∧ wr.heap.size ≤ b ∧ w'.heap[b]? = some (.cells #[.string t.lo, .string t.hi, .int .i64 t.g, .int .i64 t.n] 54 (0, 0)) ∧ Moves [] wr w') ?_ ?_
  · rename_i ax
    clear ax
    refine wp_region_noPanic ?_
    refine wp_region_held_drew (S := (fun w' => w'.cell? ⟨p, 1, none⟩ = some (.pointer (some ⟨q, 0, none⟩)) ∧ w'.cell? ⟨B1, 15, none⟩ = some (.string C.at'))) (by kernel_rfl) ?_ (fun hHeld => ?_)
    · first | (go_keep; done) | first | exact hS _ mS | exact hS _ mW
    refine wpT 0 ⟨some 6, .move (.tmp 0), 23, "plan.go:68", #[], none⟩ ?_
    refine wpT 1 ⟨some 7, .nilCheck (.tmp 6), 0, "plan.go:68", #[⟨0, .data⟩], none⟩ ?_
    refine wpT 2 ⟨some 8, .fieldAddr 76 (.tmp 7) 1, 0, "plan.go:68", #[⟨1, .data⟩], none⟩ ?_
    refine wpT 3 ⟨some 9, .load 69 (.tmp 8), 69, "plan.go:68", #[⟨2, .data⟩], none⟩ ?_
    refine wpT 4 ⟨some 10, .fieldAddr 39 (.tmp 3) 4, 0, "plan.go:68", #[], none⟩ ?_
    refine wpT 5 ⟨some 11, .load 9 (.tmp 10), 9, "plan.go:68", #[⟨4, .data⟩], none⟩ ?_
    refine wpAnyH_ready (rs := [6, 7]) (by kernel_rfl) (by simp) ?_
    refine AllReadyH.cons (o := ⟨some 12, .call ⟨.value (.func 63), #[.tmp 9, .tmp 11], #[69, 9]⟩, 54, "plan.go:68", #[⟨3, .data⟩, ⟨5, .data⟩], none⟩) rfl (fun K hK => ?_) (AllReadyH.cons (o := ⟨some 5, .alloc 54, 0, "plan.go:68", #[], none⟩) rfl (fun K hK => ?_) AllReadyH.nil)
    · go_simp
      refine (hfind _ (by first | exact mW | exact mW.drew)).mono ?_
      rintro _ w6 ⟨rfl, mc⟩
      replace mW := mW.then mc
      refine hK.out _ _ ?_ (fun hHeld => ?_)
      · first | exact hS _ mS | exact hS _ mW
      clear hK K
      refine wpR 7 ⟨some 5, .alloc 54, 0, "plan.go:68", #[], none⟩ (fun K hK => ?_)
      go_simp
      have hle := mW.size
      obtain ⟨w7, hwa⟩ : ∃ x, w6.alloc (.cells #[.string ⟨#[]⟩, .string ⟨#[]⟩, .int .i64 0, .int .i64 0] 54) = x := ⟨_, rfl⟩
      have hb : w7.heap[w6.heap.size]? = some (.cells #[.string ⟨#[]⟩, .string ⟨#[]⟩, .int .i64 0, .int .i64 0] 54 (0, 0)) := by rw [← hwa]; exact heap_alloc_new w6 _
      have mA : Moves [] w6 w7 := by rw [← hwa]; exact (Moves.refl _ _).alloc _
      rw [hwa]
      obtain ⟨pb, hpb⟩ : ∃ pb, w6.heap.size = pb := ⟨_, rfl⟩
      rw [hpb] at hb ⊢
      have hle : wr.heap.size ≤ pb := by rw [← hpb]; first | exact hle | exact Nat.le_refl _
      replace mW := mW.then mA
      clear hwa hpb
      refine hK.out _ _ ?_ (fun hHeld => ?_)
      · first | exact hS _ mS | exact hS _ mW
      clear hK K
      refine wpR 8 ⟨none, .store 54 (.tmp 5) (.tmp 12), 0, "plan.go:68", #[⟨7, .data⟩, ⟨6, .data⟩, ⟨6, .chain⟩, ⟨0, .phase⟩, ⟨1, .phase⟩, ⟨2, .phase⟩, ⟨3, .phase⟩, ⟨4, .phase⟩, ⟨5, .phase⟩, ⟨6, .phase⟩, ⟨7, .phase⟩], none⟩ (fun K hK => ?_)
      obtain ⟨_, _, _, _, f0, f1, f2, f3⟩ := four_cells hb
      obtain ⟨ti, mS0⟩ := four_info hb (.string t.lo) (.string t.hi) (.int .i64 t.g) (.int .i64 t.n)
      have mS := mW.trans mS0 (fun x hx => .inr (by simp at hx; omega))
      go_simp
      refine hK.out _ _ ?_ (fun hHeld => ?_)
      · first | exact hS _ mS | exact hS _ mW
      clear hK K
      refine wpAnyH_done (by kernel_rfl) ?_ _
      refine NoPanic.normal ?_
      exact ⟨rfl, by kernel_rfl, pb, by kernel_rfl, hle, ti, mS⟩
    · go_simp
      have hle := mW.size
      obtain ⟨w7, hwa⟩ : ∃ x, (wr.alloc (.cells #[.string ⟨#[]⟩, .string ⟨#[]⟩, .int .i64 0, .int .i64 0] 54)).drew = x := ⟨_, rfl⟩
      have hb : w7.heap[wr.heap.size]? = some (.cells #[.string ⟨#[]⟩, .string ⟨#[]⟩, .int .i64 0, .int .i64 0] 54 (0, 0)) := by rw [← hwa]; exact heap_alloc_new wr _
      have mA : Moves [] wr w7 := by rw [← hwa]; exact ((Moves.refl _ _).alloc _).drew
      rw [hwa]
      obtain ⟨pb, hpb⟩ : ∃ pb, wr.heap.size = pb := ⟨_, rfl⟩
      rw [hpb] at hb ⊢
      have hle : wr.heap.size ≤ pb := by rw [← hpb]; first | exact hle | exact Nat.le_refl _
      replace mW := mA
      clear hwa hpb
      refine hK.out _ _ ?_ (fun hHeld => ?_)
      · first | exact hS _ mS | exact hS _ mW
      clear hK K
      refine wpR 6 ⟨some 12, .call ⟨.value (.func 63), #[.tmp 9, .tmp 11], #[69, 9]⟩, 54, "plan.go:68", #[⟨3, .data⟩, ⟨5, .data⟩], none⟩ (fun K hK => ?_)
      go_simp
      refine (hfind _ (by first | exact mW | exact mW.drew)).mono ?_
      rintro _ w6 ⟨rfl, mc⟩
      replace mW := mW.then mc
      replace hb := mc.at hb (by simp)
      refine hK.out _ _ ?_ (fun hHeld => ?_)
      · first | exact hS _ mS | exact hS _ mW
      clear hK K
      refine wpR 8 ⟨none, .store 54 (.tmp 5) (.tmp 12), 0, "plan.go:68", #[⟨7, .data⟩, ⟨6, .data⟩, ⟨6, .chain⟩, ⟨0, .phase⟩, ⟨1, .phase⟩, ⟨2, .phase⟩, ⟨3, .phase⟩, ⟨4, .phase⟩, ⟨5, .phase⟩, ⟨6, .phase⟩, ⟨7, .phase⟩], none⟩ (fun K hK => ?_)
      obtain ⟨_, _, _, _, f0, f1, f2, f3⟩ := four_cells hb
      obtain ⟨ti, mS0⟩ := four_info hb (.string t.lo) (.string t.hi) (.int .i64 t.g) (.int .i64 t.n)
      have mS := mW.trans mS0 (fun x hx => .inr (by simp at hx; omega))
      go_simp
      refine hK.out _ _ ?_ (fun hHeld => ?_)
      · first | exact hS _ mS | exact hS _ mW
      clear hK K
      refine wpAnyH_done (by kernel_rfl) ?_ _
      refine NoPanic.normal ?_
      exact ⟨rfl, by kernel_rfl, pb, by kernel_rfl, hle, ti, mS⟩
  · rintro v wx ⟨pb, hv5, hle, ti, mx⟩
    simp only [List.foldl_cons, List.foldl_nil, List.setIfInBounds_toArray, List.set_cons_zero, List.set_cons_succ, hv5]
    clear hv5 mW hS hfind
    replace y15 := mx.cell y15
    replace y17 := mx.cell y17
    replace a2 := mx.at a2 (by simp)
    replace HB1 : Hid _ := mx.at HB1.out (by simp)
    replace HM : Hid (Moves [] w wx) := HM.out.then mx
    have hmove' := hmove wx mx
    have hsplit' := hsplit wx mx
    have hmerge' := hmerge wx mx
    obtain ⟨t0, t1, t2, t3, g0, g1, g2, g3⟩ := four_cells ti
    clear g0 g1 g2 g3 hmove hsplit hmerge
    generalize v 6 = v6
    generalize v 7 = v7
    generalize v 8 = v8
    generalize v 9 = v9
    generalize v 10 = v10
    generalize v 11 = v11
    generalize v 12 = v12
    by_cases h1 : C.act = 1
    · rw [if_pos h1] at HD
      rw [← HD.out] at hmove'
      clear hsplit' hmerge' mx k1
      have h1' : (C.act == 1) = true := beq_iff_eq.2 h1
      clear h1
      go_wp2_with (with_reducible refine stopLoad _ rfl ?_)
      unfold Hid
      refine wpList_loadCmd rfl _ rfl B1 rfl _ HB1.out rfl ?_
      go_wp2_with fail
      refine hmove'.mono ?_
      rintro _ w9 ⟨rfl, m9⟩
      have b9 := m9.at a2 (by simp)
      obtain ⟨z0, z1, z2, z3, z4, z5, z6, z7, z8, z9, z10⟩ := eleven_cells b9
      have zfz := eleven_fz b9
      unfold ansV
      go_wp2_with fail
      have so := stored11 b9 (.int .i64 R.code) (.slice none 0 0) (.string R.lo) (.string R.hi) (.int .i64 R.grp) (.int .i64 R.gen) (.int .i64 R.old) (.int .i64 R.to) (.int .i64 R.act) (.string R.at') (.slice none 0 0)
      refine bodyPost_ret (ret_ans rfl _ _ _ _ _ _ _ _ _ _ _ _ _ _ rfl so.1) rfl ⟨rfl, (HM.out.then m9).trans so.2 (fun x hx => .inr (by simp at hx; omega))⟩
    · have h1' : (C.act == 1) = false := beq_eq_false_iff_ne.2 h1
      rw [if_neg h1] at HD
      by_cases h2 : C.act = 2
      · rw [if_pos h2] at HD
        rw [← HD.out] at hsplit'
        clear hmove' hmerge' mx k1
        have h2' : (C.act == 2) = true := beq_iff_eq.2 h2
        clear h1 h2
        go_wp2_with (with_reducible refine stopLoad _ rfl ?_)
        unfold Hid
        refine wpList_loadCmd rfl _ rfl B1 rfl _ HB1.out rfl ?_
        go_wp2_with fail
        refine hsplit'.mono ?_
        rintro _ w9 ⟨rfl, m9⟩
        have b9 := m9.at a2 (by simp)
        obtain ⟨z0, z1, z2, z3, z4, z5, z6, z7, z8, z9, z10⟩ := eleven_cells b9
        have zfz := eleven_fz b9
        unfold ansV
        go_wp2_with fail
        have so := stored11 b9 (.int .i64 R.code) (.slice none 0 0) (.string R.lo) (.string R.hi) (.int .i64 R.grp) (.int .i64 R.gen) (.int .i64 R.old) (.int .i64 R.to) (.int .i64 R.act) (.string R.at') (.slice none 0 0)
        refine bodyPost_ret (ret_ans rfl _ _ _ _ _ _ _ _ _ _ _ _ _ _ rfl so.1) rfl ⟨rfl, (HM.out.then m9).trans so.2 (fun x hx => .inr (by simp at hx; omega))⟩
      · rw [if_neg h2] at HD
        rw [← HD.out] at hmerge'
        clear hmove' hsplit' mx k1
        have h2' : (C.act == 2) = false := beq_eq_false_iff_ne.2 h2
        clear h1 h2
        go_wp2_with (with_reducible refine stopLoad _ rfl ?_)
        unfold Hid
        refine wpList_loadCmd rfl _ rfl B1 rfl _ HB1.out rfl ?_
        go_wp2_with fail
        refine hmerge'.mono ?_
        rintro _ w9 ⟨rfl, m9⟩
        have b9 := m9.at a2 (by simp)
        obtain ⟨z0, z1, z2, z3, z4, z5, z6, z7, z8, z9, z10⟩ := eleven_cells b9
        have zfz := eleven_fz b9
        unfold ansV
        go_wp2_with fail
        have so := stored11 b9 (.int .i64 R.code) (.slice none 0 0) (.string R.lo) (.string R.hi) (.int .i64 R.grp) (.int .i64 R.gen) (.int .i64 R.old) (.int .i64 R.to) (.int .i64 R.act) (.string R.at') (.slice none 0 0)
        refine bodyPost_ret (ret_ans rfl _ _ _ _ _ _ _ _ _ _ _ _ _ _ rfl so.1) rfl ⟨rfl, (HM.out.then m9).trans so.2 (fun x hx => .inr (by simp at hx; omega))⟩
end Go.Proofs.YtilbbnmhnacnlaaGreat
