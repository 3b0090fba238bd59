/- ours -/
import Derived.Test.YtilbbnmhnacnlaaGreatCRm2
namespace Go.Proofs.YtilbbnmhnacnlaaGreat
open Go.RowKit

theorem c16 {w : World} {p : Nat} {x0 x1 x2 x3 x4 x5 x6 x7 x8 x9 x10 x11 x12 x13 x14 x15 : Value} {t : TypeId} (h : w.heap[p]? = some (.cells #[x0, x1, x2, x3, x4, x5, x6, x7, x8, x9, x10, x11, x12, x13, x14, x15] t (0, 0))) : w.cell? ⟨p, 0, none⟩ = some x0 ∧ w.cell? ⟨p, 1, none⟩ = some x1 ∧ w.cell? ⟨p, 2, none⟩ = some x2 ∧ w.cell? ⟨p, 3, none⟩ = some x3 ∧ w.cell? ⟨p, 4, none⟩ = some x4 ∧ w.cell? ⟨p, 5, none⟩ = some x5 ∧ w.cell? ⟨p, 6, none⟩ = some x6 ∧ w.cell? ⟨p, 7, none⟩ = some x7 ∧ w.cell? ⟨p, 8, none⟩ = some x8 ∧ w.cell? ⟨p, 9, none⟩ = some x9 ∧ w.cell? ⟨p, 10, none⟩ = some x10 ∧ w.cell? ⟨p, 11, none⟩ = some x11 ∧ w.cell? ⟨p, 12, none⟩ = some x12 ∧ w.cell? ⟨p, 13, none⟩ = some x13 ∧ w.cell? ⟨p, 14, none⟩ = some x14 ∧ w.cell? ⟨p, 15, none⟩ = some x15 := by
  simp [World.cell?, h]
theorem rm_cells {w : World} {r : Nat} {v cv : Value} {S : Pms} {t : TypeId} (h : w.heap[r]? = some (.cells (rmCells v cv S) t (0, 0))) : w.cell? ⟨r, 0, none⟩ = some v ∧ w.cell? ⟨r, 1, none⟩ = some (.bool (decide (S.pend.act ≠ 0))) ∧ w.cell? ⟨r, 13, none⟩ = some (.int .i64 S.last) ∧ w.cell? ⟨r, 14, none⟩ = some (.int .i64 S.grps) ∧ w.cell? ⟨r, 15, none⟩ = some cv := by
  unfold rmCells at h
  simp [World.cell?, h]
theorem run_storeAt {o : Oper} {a : Act} {w : World} {K : Act → World → Prop} {Q : Exit → Act → World → Prop} (ty : TypeId) (x y : Operand) (ho : o.op = .store ty x y) (b k : Nat) (v : Value) (vs : List Value) (hx : a.eval x = .pointer (some ⟨b, k, none⟩)) (hy : a.eval y = v) (hv : v.cells.toList = vs) (hs : (Tryz.prog.info? ty).map (·.size) = some vs.length) {old : Array Value} {t : TypeId} (hg : w.heap[b]? = some (.cells old t (0, 0))) (hfit : k + vs.length ≤ old.size) (h1 : ∀ u ∈ vs, u.oneCell' = true) (new : Array Value) (hnew : (old.toList.take k ++ vs ++ old.toList.drop (k + vs.length)).toArray = new)
    (h : ∀ w', w'.heap[b]? = some (.cells new t (0, 0)) → Moves [b] w w' → K (a.put o.dst undef) w') : o.wp Tryz.prog a w K Q := by
  have hst := run_storeCells_at (P := Tryz.prog) b k t vs 0 old w hg (by simpa using hfit) h1
  have hsz : v.cells.size = vs.length := by rw [← hv]; simp
  subst hnew
  unfold Oper.wp execOp
  cases hq : Tryz.prog.info? ty with
  | none => simp [hq] at hs
  | some i =>
    have hi : i.size = vs.length := by simpa [hq] using hs
    have hrun : (storeVar ty ⟨b, k, none⟩ v).run Tryz.prog w = .ok () (w.setRow b (old.toList.take k ++ vs ++ old.toList.drop (k + vs.length)).toArray) := by
      simp [storeVar, sizeOf, typeInfo, hq, hsz, hi, hv, hst]
    simp only [ho, hx, hy, Instr.storeAt, Instr.sureAddr, Sem.run_bind, Sem.run_pure, Result.andThen_ok, hrun]
    exact h _ (setRow_heap w b old _ t (0, 0) hg) (moves_row _ _ _)
theorem store_step {ops : Array Oper} {o : Oper} {a : Act} {w : World} {K : Act → World → Prop} {Q : Exit → Act → World → Prop} (ty : TypeId) (x y : Operand) (ho : o.op = .store ty x y) (b k : Nat) (v : Value) (vs : List Value) (hx : a.eval x = .pointer (some ⟨b, k, none⟩)) (hy : a.eval y = v) (hv : v.cells.toList = vs) (hs : (Tryz.prog.info? ty).map (·.size) = some vs.length) (hw : Region.wanted o (yielded ops a.tmps) = true) {old : Array Value} {t : TypeId} (hg : w.heap[b]? = some (.cells old t (0, 0))) (hfit : k + vs.length ≤ old.size) (h1 : ∀ u ∈ vs, u.oneCell' = true) (new : Array Value) (hnew : (old.toList.take k ++ vs ++ old.toList.drop (k + vs.length)).toArray = new)
    (h : ∀ w', w'.heap[b]? = some (.cells new t (0, 0)) → Moves [b] w w' → K (a.put o.dst undef) w') : if Region.wanted o (yielded ops a.tmps) then o.wp Tryz.prog a w K Q else K (a.put o.dst undef) w := by
  rw [if_pos hw]
  exact run_storeAt ty x y ho b k v vs hx hy hv hs hg hfit h1 new hnew h
theorem Tryz.size4 : (Tryz.prog.info? 4).map (·.size) = some 1 := by kernel_rfl
theorem stopSp {ops : Array Oper} {rest : List Oper} {op : Oper} {a : Act} {w : World} {Q : Exit → Act → World → Prop} (x y : Operand) (_ : op.op = .store 37 x y) (h : Hid (wpList Tryz.prog ops Q (op :: rest) a w)) : wpList Tryz.prog ops Q (op :: rest) a w := h.out
theorem fin1_eq (v cv : Value) (S : Pms) (D : Pans) (hD : D.act ≠ 0) : (((rmCells v cv { S with last := S.last + 1 }).toList.take 2 ++ (ansV D).toList ++ (rmCells v cv { S with last := S.last + 1 }).toList.drop (2 + (ansV D).toList.length)).toArray.toList.take 1 ++ [Value.bool true] ++ ((rmCells v cv { S with last := S.last + 1 }).toList.take 2 ++ (ansV D).toList ++ (rmCells v cv { S with last := S.last + 1 }).toList.drop (2 + (ansV D).toList.length)).toArray.toList.drop (1 + [Value.bool true].length)).toArray = rmCells v cv { S with last := S.last + 1, pend := D } := by
  simp [rmCells, ansV, hD]
theorem fin2_eq (v cv : Value) (S : Pms) (D : Pans) (hD : D.act ≠ 0) : (((rmCells v cv { S with last := S.last + 1 }).toList.take 1 ++ [Value.bool true] ++ (rmCells v cv { S with last := S.last + 1 }).toList.drop (1 + [Value.bool true].length)).toArray.toList.take 2 ++ (ansV D).toList ++ ((rmCells v cv { S with last := S.last + 1 }).toList.take 1 ++ [Value.bool true] ++ (rmCells v cv { S with last := S.last + 1 }).toList.drop (1 + [Value.bool true].length)).toArray.toList.drop (2 + (ansV D).toList.length)).toArray = rmCells v cv { S with last := S.last + 1, pend := D } := by
  simp [rmCells, ansV, hD]
set_option maxRecDepth 100000 in
set_option maxHeartbeats 16000000 in
theorem rmplan_w (w : World) (r : Nat) (S : Pms) (h : RmIs w r S) (ok : OkM S) (hl : S.last < 1073741824) (C : Pcmd) (ca : Option Addr) (cn cc : Nat) (la : Option Addr) (ln lc : Nat) (sa : Option Addr) (sn sc : Nat) (ha1 : 1 ≤ C.act) (ha3 : C.act ≤ 3) :
    Calls Tryz.prog 29 #[.pointer (some ⟨r, 0, none⟩), .agg #[.int .i64 C.kind, .int .i64 C.op.kind, .string C.op.row, .string C.op.hi, .bool C.op.cd.has, .bool C.op.cd.want, .string C.op.cd.col, .int .i64 C.op.cd.v.kind, .slice ca cn cc, .float .f64 C.op.cd.v.n, .slice la ln lc, .int .i64 C.op.most, .string C.lo, .string C.hi, .int .i64 C.gen, .string C.at', .int .i64 C.to, .int .i64 C.act, .slice sa sn sc]] w fun e w' => e = .returned (.agg (ansV (mBegin S C.act C.at' C.to).1)) ∧ RmIs w' r (mBegin S C.act C.at' C.to).2 ∧ Moves [r] w w' := by
  have a1 := heap_alloc_new w (.cells #[.int .i64 C.kind, .int .i64 C.op.kind, .string C.op.row, .string C.op.hi, .bool C.op.cd.has, .bool C.op.cd.want, .string C.op.cd.col, .int .i64 C.op.cd.v.kind, .slice ca cn cc, .float .f64 C.op.cd.v.n, .slice la ln lc, .int .i64 C.op.most, .string C.lo, .string C.hi, .int .i64 C.gen, .string C.at', .int .i64 C.to, .int .i64 C.act, .slice sa sn sc] 39)
  obtain ⟨w2, hw2⟩ : ∃ w2, w.alloc (.cells #[.int .i64 C.kind, .int .i64 C.op.kind, .string C.op.row, .string C.op.hi, .bool C.op.cd.has, .bool C.op.cd.want, .string C.op.cd.col, .int .i64 C.op.cd.v.kind, .slice ca cn cc, .float .f64 C.op.cd.v.n, .slice la ln lc, .int .i64 C.op.most, .string C.lo, .string C.hi, .int .i64 C.gen, .string C.at', .int .i64 C.to, .int .i64 C.act, .slice sa sn sc] 39) = w2 := ⟨_, rfl⟩
  have s2 : w2.heap.size = w.heap.size + 1 := by rw [← hw2]; simp
  have n2 : Moves [] w w2 := by rw [← hw2]; exact (Moves.refl _ _).alloc _
  rw [hw2] at a1
  have a2 := heap_alloc_new w2 (.cells #[.int .i64 0, .slice none 0 0, .string ⟨#[]⟩, .string ⟨#[]⟩, .int .i64 0, .int .i64 0, .int .i64 0, .int .i64 0, .int .i64 0, .string ⟨#[]⟩, .slice none 0 0] 48)
  obtain ⟨w3, hw3⟩ : ∃ w3, w2.alloc (.cells #[.int .i64 0, .slice none 0 0, .string ⟨#[]⟩, .string ⟨#[]⟩, .int .i64 0, .int .i64 0, .int .i64 0, .int .i64 0, .int .i64 0, .string ⟨#[]⟩, .slice none 0 0] 48) = w3 := ⟨_, rfl⟩
  have n3 : Moves [] w2 w3 := by rw [← hw3]; exact (Moves.refl _ _).alloc _
  rw [hw3] at a2
  have m03 := n2.then n3
  have b1 := n3.at a1 (by simp)
  rw [s2] at a2
  obtain ⟨B1, hB1⟩ : ∃ B1, w.heap.size = B1 := ⟨_, rfl⟩
  rw [hB1] at b1 a2
  have HM : Hid (Moves [] w w3) := m03
  have HR : Hid (RmIs w3 r S) := h.moves0 m03
  have HL : Hid (r < w.heap.size) := h.lt
  obtain ⟨v, cv, m, k1, k2, k3, k4⟩ := h.moves0 m03
  obtain ⟨x0, x1, x2, x3, x4, x5, x6, x7, x8, x9, x10, x11, x12, x13, x14, x15⟩ := c16 (show w3.heap[r]? = some (.cells #[v, .bool (decide (S.pend.act ≠ 0)), .int .i64 S.pend.code, .slice none 0 0, .string S.pend.lo, .string S.pend.hi, .int .i64 S.pend.grp, .int .i64 S.pend.gen, .int .i64 S.pend.old, .int .i64 S.pend.to, .int .i64 S.pend.act, .string S.pend.at', .slice none 0 0, .int .i64 S.last, .int .i64 S.grps, cv] 79 (0, 0)) from k1)
  obtain ⟨-, -, -, -, -, -, -, -, -, -, -, -, -, -, -, y15, y16, y17, -⟩ := c19 b1
  have HK1 : Hid _ := k1
  have HY15w : Hid _ := y15
  have HK2 : Hid (OwnT w3 v S.xs) := k2
  have HK3 : Hid (EntsAt w3 cv m ∧ Agree S.ca m) := ⟨k3, k4⟩
  have HB1 : Hid _ := b1
  have HA2 : Hid _ := a2
  have HSZ : Hid (w.heap.size = B1) := hB1
  have HSZ3 : Hid (B1 + 1 < w3.heap.size) := lt_of_block a2
  have HOK : Hid (OkM S) := ok
  obtain ⟨R, hR⟩ : ∃ R, mBegin S C.act C.at' C.to = R := ⟨_, rfl⟩
  rw [hR]
  unfold mBegin at hR
  have hfin : ∀ (u z : World) (A : Pans) (S' : Pms), R = (A, S') → RmIs u r S' → Moves [r] w3 u → Moves [B1 + 1] u z → Ending.returned (.agg (ansV A)) = Ending.returned (.agg (ansV R.1)) ∧ RmIs z r R.2 ∧ Moves [r] w z := by
    intro u z A S' e hI hm hz
    subst e
    refine ⟨rfl, ?_, (HM.out.mono (by simp)).then hm |>.trans hz (fun x hx => .inr (by have := HSZ.out; simp at hx; omega))⟩
    refine hI.moves hz (fun k hk c t fz hc => ?_)
    simp at hk
    subst hk
    have hb := hm.at HA2.out (by simp; have := HL.out; have := HSZ.out; omega)
    rw [hb] at hc
    simp at hc
    rw [← hc.2.1]
    decide
  have HFIN : Hid _ := hfin
  clear hfin k1 k2 k3 k4 b1 a2 ok h n2 n3 m03 a1
  by_cases hbusy : S.pend.act ≠ 0
  · rw [if_pos hbusy] at hR
    rw [decide_eq_true hbusy] at x1
    have HRR : Hid (R = (pTold 4, S)) := hR.symm
    clear hR hbusy
    go_enter Tryz.func29, Tryz.ntmps29
    go_wp2_with (with_reducible refine stopA _ _ rfl ?_)
    try rw [hw2]
    try rw [hw3]
    try rw [s2]
    try rw [hB1]
    try go_wp2_with (with_reducible refine stopA _ _ rfl ?_)
    unfold Hid
    refine wpList_storeAns rfl _ _ rfl (B1 + 1) (ansV (pTold 4)).toList rfl rfl rfl (ansV_one _) HA2.out rfl ?_
    intro w99 h99 m99
    go_wp2_with fail
    refine bodyPost_ret (ret_ansL rfl _ _ _ _ rfl rfl h99) rfl ?_
    exact HFIN.out _ _ _ _ HRR.out HR.out (Moves.refl _ _) m99
  · rw [if_neg hbusy] at hR
    rw [decide_eq_false hbusy] at x1
    have hfind := fun w4 (mv : Moves [] w3 w4) => rmfind_w w4 r (v.ownBlock.getD 0) v S.xs (mv.cell x0) ((HK2.out.moves mv (by simp)).tbl (fun k hk => by rw [hk]; rfl)) HOK.out.cov HOK.out.few C.at'
    obtain ⟨ad, n, cap, rfl, hn⟩ := HK2.out.open
    obtain ⟨ix, hix⟩ : ∃ i, mIx S.xs C.at' = i := ⟨_, rfl⟩
    have hget := mTb_get HOK.out.cov C.at'
    obtain ⟨t, ht⟩ : ∃ t, mTb S.xs C.at' = t := ⟨_, rfl⟩
    rw [hix, ht] at hget
    have hixl : ix < n := by rw [hn.out]; exact (List.getElem?_eq_some_iff.1 hget).1
    have hn16 : n ≤ 16 := by rw [hn.out]; exact HOK.out.few
    obtain ⟨off, hva, tb0, tb1, tb2, tb3⟩ := (HK2.out.tbl (g := (Value.slice ad n cap).ownBlock.getD 0) (fun k hk => by rw [hk]; rfl)).at hget
    obtain ⟨G, hG⟩ : ∃ G, (Value.slice ad n cap).ownBlock.getD 0 = G := ⟨_, rfl⟩
    rw [hG] at hva tb0 tb1 tb2 tb3
    have hgl : G < w3.heap.size := lt_of_cell tb0
    have htl : TbL w3 G (.slice ad n cap) S.xs := HK2.out.tbl (fun k hk => by rw [hk] at hG; exact hG)
    clear hG
    subst hva
    rw [hix] at hfind
    have HGET : Hid (S.xs[ix]? = some t) := hget
    have HGL : Hid (G < w3.heap.size) := hgl
    have HTL : Hid (TbL w3 G (.slice (some ⟨G, off, none⟩) n cap) S.xs) := htl
    have HIX : Hid (mIx S.xs C.at' = ix) := hix
    have HT : Hid (mTb S.xs C.at' = t) := ht
    have HR0 : Hid _ := hR
    clear htl hgl hget hix ht hR hbusy x2 x3 x4 x5 x6 x7 x8 x9 x10 x11 x12 x13 x14 x15
    go_enter Tryz.func29, Tryz.ntmps29
    go_wp2_with fail
    try rw [hw2]
    try rw [hw3]
    try rw [s2]
    try rw [hB1]
    refine (hfind _ (Moves.refl _ _)).mono ?_
    rintro _ w4 ⟨rfl, m4⟩
    clear hfind hw2 hw3 s2 hB1
    have a3 := heap_alloc_new w4 (.cells #[.string ⟨#[]⟩, .string ⟨#[]⟩, .int .i64 0, .int .i64 0] 54)
    obtain ⟨w5, hw5⟩ : ∃ w5, w4.alloc (.cells #[.string ⟨#[]⟩, .string ⟨#[]⟩, .int .i64 0, .int .i64 0] 54) = w5 := ⟨_, rfl⟩
    have n5 : Moves [] w4 w5 := by rw [← hw5]; exact (Moves.refl _ _).alloc _
    rw [hw5] at a3
    obtain ⟨B2, hB2⟩ : ∃ B2, w4.heap.size = B2 := ⟨_, rfl⟩
    rw [hB2] at a3
    have HSZ4 : Hid (w4.heap.size = B2) := hB2
    obtain ⟨_, _, _, _, f0, f1, f2, f3⟩ := four_cells a3
    obtain ⟨ti, mS0⟩ := four_info a3 (.string t.lo) (.string t.hi) (.int .i64 t.g) (.int .i64 t.n)
    obtain ⟨w6, hw6⟩ : ∃ w6, (((w5.setCell ⟨B2, 0, none⟩ (.string t.lo)).setCell ⟨B2, 1, none⟩ (.string t.hi)).setCell ⟨B2, 2, none⟩ (.int .i64 t.g)).setCell ⟨B2, 3, none⟩ (.int .i64 t.n) = w6 := ⟨_, rfl⟩
    rw [hw6] at ti mS0
    have m46 : Moves [] w4 w6 := n5.trans mS0 (fun x hx => .inr (by have := HSZ4.out; simp at hx; omega))
    have M6 : Moves [] w3 w6 := m4.then m46
    obtain ⟨t0, t1, t2, t3, _, _, _, _⟩ := four_cells ti
    have hpb := heap_alloc_new w6 (.cells #[.int .i64 0, .slice none 0 0, .string ⟨#[]⟩, .string ⟨#[]⟩, .int .i64 0, .int .i64 0, .int .i64 0, .int .i64 0, .int .i64 0, .string ⟨#[]⟩, .slice none 0 0] 48)
    obtain ⟨w7, hw7⟩ : ∃ w7, w6.alloc (.cells #[.int .i64 0, .slice none 0 0, .string ⟨#[]⟩, .string ⟨#[]⟩, .int .i64 0, .int .i64 0, .int .i64 0, .int .i64 0, .int .i64 0, .string ⟨#[]⟩, .slice none 0 0] 48) = w7 := ⟨_, rfl⟩
    have n7 : Moves [] w6 w7 := by rw [← hw7]; exact (Moves.refl _ _).alloc _
    rw [hw7] at hpb
    obtain ⟨B3, hB3⟩ : ∃ B3, w6.heap.size = B3 := ⟨_, rfl⟩
    rw [hB3] at hpb
    have HB3' : Hid (w6.heap.size = B3) := hB3
    have x0 := m4.cell x0
    have tb0 := m4.cell tb0
    have tb1 := m4.cell tb1
    have tb2 := m4.cell tb2
    have tb3 := m4.cell tb3
    have y15 := M6.cell y15
    have y17 := M6.cell y17
    have HM6 : Hid (Moves [] w3 w6) := M6
    have HN7 : Hid (Moves [] w6 w7) := n7
    have HTI : Hid _ := ti
    have HPB : Hid _ := hpb
    clear ti a3 n5 mS0 m46 M6 n7 hpb
    have hixl' : (ix : Int) < n := by omega
    go_wp2_with (with_reducible refine stopA _ _ rfl ?_)
    try rw [hw5]
    try rw [hB2]
    try rw [hw6]
    try rw [hw7]
    try rw [hB3]
    unfold Hid
    refine wpList_storeAns rfl _ _ rfl B3 (ansV ⟨0, [], t.lo, t.hi, t.g, 0, t.n, 0, C.act, C.at', []⟩).toList rfl rfl rfl (ansV_one _) HPB.out rfl ?_
    intro w8 h8 m8
    clear hw5 hB2 hw6 hw7 hB3
    have HB2B : Hid (B1 + 1 < B2 ∧ B2 < B3 ∧ r < B1) := by
      have e1 := m4.size
      have e2 := HSZ3.out
      have e3 := HSZ4.out
      have e4 := HL.out
      have e5 := HSZ.out
      have e6 := lt_of_block HTI.out
      have e7 := HB3'.out
      exact ⟨by omega, by omega, by omega⟩
    have HZ3 : Hid (w3.heap.size ≤ B3) := by have := HM6.out.size; have := HB3'.out; unfold Hid; omega
    have M8 : Moves [] w3 w8 := (HM6.out.then HN7.out).trans m8 (fun x hx => .inr (by have := HB2B.out; have := HSZ3.out; have := HM6.out.size; have := HB3'.out; simp at hx; omega))
    have m68 : Moves [B3] w6 w8 := (HN7.out.mono (by simp)).then m8
    have h2 := m68.at HTI.out (by have := HB2B.out; simp; omega)
    have HH8 : Hid _ := h8
    have HM8 : Hid (Moves [] w3 w8) := M8
    obtain ⟨t0, t1, t2, t3, _, _, _, _⟩ := four_cells h2
    have HY15 : Hid _ := HY15w.out
    have y16 := M8.cell y16
    have y17 := m68.cellOf y17 (by have := HB2B.out; show B1 ∉ [B3]; simp; omega)
    obtain ⟨x0, x1, x13, x14, x15⟩ := rm_cells (M8.at HK1.out (by simp))
    clear h8 m68 M8 h2 m8 y15
    have hbad : ∀ c, c ≠ 0 → mDraw S C.act C.at' C.to = pTold c → R = (pTold c, S) := fun c hc e => by
      rw [e, if_pos (show (pTold c).code ≠ 0 from hc)] at HR0
      exact HR0.out.symm
    have hgood : ∀ P : Pans, P.code = 0 → mDraw S C.act C.at' C.to = P → R = ({ P with gen := S.last + 1 }, { S with last := S.last + 1, pend := { P with gen := S.last + 1 } }) := fun P hc e => by
      rw [e, if_neg (show ¬ P.code ≠ 0 by simp [hc]), if_neg (by omega)] at HR0
      exact HR0.out.symm
    have HBAD : Hid _ := hbad
    have HGOOD : Hid _ := hgood
    clear hbad hgood
    by_cases hk1 : C.act = 1
    · have e1 : (C.act == 1) = true := beq_iff_eq.2 hk1
      have hDr : mDraw S C.act C.at' C.to = (if (1 ≤ C.to ∧ C.to ≤ S.grps) ∧ C.to ≠ t.g then pPl t.lo t.hi t.g 0 t.n C.to 1 C.at' else pTold 1) := by
        unfold mDraw
        rw [if_pos hk1, HT.out]
      have HDR : Hid _ := hDr
      clear hDr
      by_cases q1 : C.to < 1
      · have HRR : Hid (R = (pTold 1, S)) := HBAD.out 1 (by omega) (by rw [HDR.out, if_neg (by omega)])
        clear hk1 t0 t1 t3 x0 x1 x13 x15
        go_wp2_with fail
        have n1 : C.to < 1 := q1
        clear q1
        go_region
        have HX : Hid (Moves [] w3 w8.drew) := HM8.out.drew
        go_wp2_with (with_reducible refine stopA _ _ rfl ?_)
        unfold Hid
        refine wpList_storeAns rfl _ _ rfl (B1 + 1) (ansV (pTold 1)).toList rfl rfl rfl (ansV_one _) (HX.out.at HA2.out (by simp)) rfl ?_
        intro w99 h99 m99
        go_wp2_with fail
        refine bodyPost_ret (ret_ansL rfl _ _ _ _ rfl rfl h99) rfl ?_
        exact HFIN.out _ _ _ _ HRR.out (HR.out.moves0 HX.out) (HX.out.mono (by simp)) m99
      · by_cases q2 : C.to > S.grps
        · have HRR : Hid (R = (pTold 1, S)) := HBAD.out 1 (by omega) (by rw [HDR.out, if_neg (by omega)])
          clear hk1 t0 t1 t3 x0 x1 x13 x15
          go_wp2_with fail
          have n1 : ¬ C.to < 1 := by omega
          have n2 : C.to > S.grps := by omega
          clear q1 q2
          go_region
          have HX : Hid (Moves [] w3 w8.drew) := HM8.out.drew
          go_wp2_with (with_reducible refine stopA _ _ rfl ?_)
          unfold Hid
          refine wpList_storeAns rfl _ _ rfl (B1 + 1) (ansV (pTold 1)).toList rfl rfl rfl (ansV_one _) (HX.out.at HA2.out (by simp)) rfl ?_
          intro w99 h99 m99
          go_wp2_with fail
          refine bodyPost_ret (ret_ansL rfl _ _ _ _ rfl rfl h99) rfl ?_
          exact HFIN.out _ _ _ _ HRR.out (HR.out.moves0 HX.out) (HX.out.mono (by simp)) m99
        · by_cases q3 : C.to = t.g
          · have HRR : Hid (R = (pTold 1, S)) := HBAD.out 1 (by omega) (by rw [HDR.out, if_neg (by omega)])
            have q3' : (C.to == t.g) = true := beq_iff_eq.2 q3
            clear hk1 t0 t1 t3 x0 x1 x13 x15 q3
            go_wp2_with fail
            have n1 : ¬ C.to < 1 := by omega
            have n2 : ¬ C.to > S.grps := by omega
            clear q1 q2
            go_region
            have HX : Hid (Moves [] w3 w8.drew) := HM8.out.drew
            go_wp2_with (with_reducible refine stopA _ _ rfl ?_)
            unfold Hid
            refine wpList_storeAns rfl _ _ rfl (B1 + 1) (ansV (pTold 1)).toList rfl rfl rfl (ansV_one _) (HX.out.at HA2.out (by simp)) rfl ?_
            intro w99 h99 m99
            go_wp2_with fail
            refine bodyPost_ret (ret_ansL rfl _ _ _ _ rfl rfl h99) rfl ?_
            exact HFIN.out _ _ _ _ HRR.out (HR.out.moves0 HX.out) (HX.out.mono (by simp)) m99
          · have q3' : (C.to == t.g) = false := beq_eq_false_iff_ne.2 q3
            have HRR := HGOOD.out ⟨0, [], t.lo, t.hi, t.g, 0, t.n, C.to, C.act, C.at', []⟩ rfl (by rw [HDR.out, if_pos ⟨⟨by omega, by omega⟩, q3⟩, hk1]; rfl)
            replace HRR : Hid _ := HRR
            clear hk1 t0 t1 t3 x0 x1 x13 x15 q3
            go_wp2_with fail
            have n1 : ¬ C.to < 1 := by omega
            have n2 : ¬ C.to > S.grps := by omega
            clear q1 q2
            go_region
            have HX : Hid (Moves [] w3 w8.drew) := HM8.out.drew
            go_wp2_with (with_reducible refine stopI _ _ rfl ?_)
            unfold Hid
            refine wpList_storeAt rfl _ _ _ rfl B3 7 _ [.int .i64 C.to] rfl rfl rfl Tryz.size3 (show w8.drew.heap[B3]? = _ from HH8.out) (by show 8 ≤ 11; omega) (by simp [Value.oneCell']) (ansV ⟨0, [], t.lo, t.hi, t.g, 0, t.n, C.to, C.act, C.at', []⟩) rfl ?_
            intro w9 h9 m9
            have HD : Hid _ := h9
            have HMz : Hid (Moves [] w3 w9) := HX.out.trans m9 (fun x hx => .inr (by have := HB2B.out; have := HSZ3.out; simp at hx; have := HZ3.out; omega))
            clear h9 m9 n1 n2 y16 y17 x14 t2
            have hx := HMz.out.at HK1.out (by simp)
            obtain ⟨-, -, x13, -, -⟩ := rm_cells hx
            have hwr : IntKind.i64.wrap (S.last + 1) = S.last + 1 := by rw [IntKind.wrap_i64]; have := HOK.out.l0; omega
            replace hx : Hid _ := hx
            go_wp2_with (with_reducible refine stopI _ _ rfl ?_)
            unfold Hid
            refine wpList_storeAt rfl _ _ _ rfl r 13 _ [.int .i64 (S.last + 1)] rfl rfl rfl Tryz.size3 hx.out (by show 14 ≤ 16; omega) (by simp [Value.oneCell']) (rmCells (.slice (some ⟨G, off, none⟩) n cap) cv { S with last := S.last + 1 }) rfl ?_
            intro w11 h11 m11
            have HD11 : Hid _ := m11.at HD.out (by have := HB2B.out; simp; omega)
            have HM11 : Hid (Moves [r] w3 w11) := (HMz.out.mono (by simp)).then m11
            have HH11 : Hid _ := h11
            clear x13
            obtain ⟨-, -, x13, -, -⟩ := rm_cells h11
            dsimp only at x13
            clear h11 m11 hwr
            go_wp2_with (with_reducible refine stopI _ _ rfl ?_)
            unfold Hid
            refine wpList_storeAt rfl _ _ _ rfl B3 5 _ [.int .i64 (S.last + 1)] rfl rfl rfl Tryz.size3 HD11.out (by show 6 ≤ 11; omega) (by simp [Value.oneCell']) (ansV (⟨0, [], t.lo, t.hi, t.g, S.last + 1, t.n, C.to, C.act, C.at', []⟩ : Pans)) rfl ?_
            intro w12 h12 m12
            have HH12 : Hid _ := m12.at HH11.out (by have := HB2B.out; simp; omega)
            have HM12 : Hid (Moves [r] w3 w12) := HM11.out.trans m12 (fun x hx => .inr (by have := HZ3.out; simp at hx; omega))
            have HD12 : Hid _ := h12
            obtain ⟨y0, y1, y2, y3, y4, y5, y6, y7, y8, y9, y10⟩ := eleven_cells h12
            dsimp only at y0 y1 y2 y3 y4 y5 y6 y7 y8 y9 y10
            clear h12 m12 x13
            go_wp2_with fail
            have hne3 : B3 ∉ [r] := by have := HB2B.out; simp; omega
            have hfinal1 := fin1_eq (.slice (some ⟨G, off, none⟩) n cap) cv S (⟨0, [], t.lo, t.hi, t.g, S.last + 1, t.n, C.to, C.act, C.at', []⟩ : Pans) (by show C.act ≠ 0; omega)
            have hfinal2 := fin2_eq (.slice (some ⟨G, off, none⟩) n cap) cv S (⟨0, [], t.lo, t.hi, t.g, S.last + 1, t.n, C.to, C.act, C.at', []⟩ : Pans) (by show C.act ≠ 0; omega)
            refine wp_region_noPanic ?_
            refine wp_region_held_drew (S := (fun w' => w'.cell? ⟨B3, 0, none⟩ = some (.int .i64 0) ∧ w'.cell? ⟨B3, 1, none⟩ = some (.slice none 0 0) ∧ w'.cell? ⟨B3, 2, none⟩ = some (.string t.lo) ∧ w'.cell? ⟨B3, 3, none⟩ = some (.string t.hi) ∧ w'.cell? ⟨B3, 4, none⟩ = some (.int .i64 t.g) ∧ w'.cell? ⟨B3, 5, none⟩ = some (.int .i64 (S.last + 1)) ∧ w'.cell? ⟨B3, 6, none⟩ = some (.int .i64 t.n) ∧ w'.cell? ⟨B3, 7, none⟩ = some (.int .i64 C.to) ∧ w'.cell? ⟨B3, 8, none⟩ = some (.int .i64 C.act) ∧ w'.cell? ⟨B3, 9, none⟩ = some (.string C.at') ∧ w'.cell? ⟨B3, 10, none⟩ = some (.slice none 0 0))) (by kernel_rfl) ?_ (fun hHeld => ?_)
            · first | (go_keep; done) | first | exact ⟨y0, y1, y2, y3, y4, y5, y6, y7, y8, y9, y10⟩ | exact ⟨mm13.cellOf y0 hne3, mm13.cellOf y1 hne3, mm13.cellOf y2 hne3, mm13.cellOf y3 hne3, mm13.cellOf y4 hne3, mm13.cellOf y5 hne3, mm13.cellOf y6 hne3, mm13.cellOf y7 hne3, mm13.cellOf y8 hne3, mm13.cellOf y9 hne3, mm13.cellOf y10 hne3⟩ | exact ⟨mm14.cellOf y0 hne3, mm14.cellOf y1 hne3, mm14.cellOf y2 hne3, mm14.cellOf y3 hne3, mm14.cellOf y4 hne3, mm14.cellOf y5 hne3, mm14.cellOf y6 hne3, mm14.cellOf y7 hne3, mm14.cellOf y8 hne3, mm14.cellOf y9 hne3, mm14.cellOf y10 hne3⟩
            refine wpT 0 ⟨some 142, .move (.tmp 0), 25, "ref.go:97", #[], none⟩ ?_
            refine wpT 1 ⟨some 143, .move (.tmp 0), 25, "ref.go:97", #[{ on := 5, ground := Ground.gcOnly Departure.lateStores }], none⟩ ?_
            refine wpT 2 ⟨some 144, .load 48 (.tmp 7), 48, "ref.go:97", #[{ on := 5, ground := Ground.gcOnly Departure.lateStores }], none⟩ ?_
            refine wpT 3 ⟨some 145, .nilCheck (.tmp 142), 0, "ref.go:97", #[⟨0, .data⟩, ⟨0, .phase⟩, { on := 1, ground := Ground.textOnly Departure.lateStores }, { on := 2, ground := Ground.textOnly Departure.lateStores }], none⟩ ?_
            refine wpT 4 ⟨some 146, .fieldAddr 79 (.tmp 145) 1, 0, "ref.go:97", #[⟨3, .data⟩, ⟨0, .phase⟩, { on := 1, ground := Ground.textOnly Departure.lateStores }, { on := 2, ground := Ground.textOnly Departure.lateStores }], none⟩ ?_
            refine wpR 5 ⟨none, .store 4 (.tmp 146) (.const (.bool true)), 0, "ref.go:97", #[⟨4, .data⟩, ⟨0, .phase⟩, { on := 1, ground := Ground.textOnly Departure.lateStores }, { on := 2, ground := Ground.textOnly Departure.lateStores }], none⟩ (fun K hK => ?_)
            refine store_step 4 _ _ rfl r 1 _ [.bool true] rfl rfl rfl Tryz.size4 (by rfl) (show w12.drew.heap[r]? = _ from HH12.out) (by show 2 ≤ 16; omega) (by simp [Value.oneCell']) _ rfl ?_
            intro w13 h13 m13
            have mm13 : Moves [r] w12 w13 := ((Moves.refl [r] w12).drew).then m13
            refine hK.out _ _ ?_ (fun hHeld => ?_)
            · first | exact ⟨y0, y1, y2, y3, y4, y5, y6, y7, y8, y9, y10⟩ | exact ⟨mm13.cellOf y0 hne3, mm13.cellOf y1 hne3, mm13.cellOf y2 hne3, mm13.cellOf y3 hne3, mm13.cellOf y4 hne3, mm13.cellOf y5 hne3, mm13.cellOf y6 hne3, mm13.cellOf y7 hne3, mm13.cellOf y8 hne3, mm13.cellOf y9 hne3, mm13.cellOf y10 hne3⟩ | exact ⟨mm14.cellOf y0 hne3, mm14.cellOf y1 hne3, mm14.cellOf y2 hne3, mm14.cellOf y3 hne3, mm14.cellOf y4 hne3, mm14.cellOf y5 hne3, mm14.cellOf y6 hne3, mm14.cellOf y7 hne3, mm14.cellOf y8 hne3, mm14.cellOf y9 hne3, mm14.cellOf y10 hne3⟩
            clear hK K
            refine wpT 6 ⟨some 147, .nilCheck (.tmp 143), 0, "ref.go:97", #[⟨1, .data⟩, ⟨0, .phase⟩, ⟨1, .phase⟩, ⟨2, .phase⟩, ⟨3, .phase⟩, ⟨4, .phase⟩, ⟨5, .phase⟩], none⟩ ?_
            refine wpT 7 ⟨some 148, .fieldAddr 79 (.tmp 147) 2, 0, "ref.go:97", #[⟨6, .data⟩, ⟨0, .phase⟩, ⟨1, .phase⟩, ⟨2, .phase⟩, ⟨3, .phase⟩, ⟨4, .phase⟩, ⟨5, .phase⟩], none⟩ ?_
            refine wpR 8 ⟨none, .store 48 (.tmp 148) (.tmp 144), 0, "ref.go:97", #[⟨7, .data⟩, ⟨2, .data⟩, ⟨5, .chain⟩, ⟨0, .phase⟩, ⟨1, .phase⟩, ⟨2, .phase⟩, ⟨3, .phase⟩, ⟨4, .phase⟩, ⟨5, .phase⟩], none⟩ (fun K hK => ?_)
            refine store_step 48 _ _ rfl r 2 _ (ansV (⟨0, [], t.lo, t.hi, t.g, S.last + 1, t.n, C.to, C.act, C.at', []⟩ : Pans)).toList rfl rfl rfl (by rw [show (ansV (⟨0, [], t.lo, t.hi, t.g, S.last + 1, t.n, C.to, C.act, C.at', []⟩ : Pans)).toList.length = 11 from rfl]; exact Tryz.size48) (by rfl) h13 (by show 13 ≤ 16; omega) (ansV_one _) (rmCells (.slice (some ⟨G, off, none⟩) n cap) cv { S with last := S.last + 1, pend := (⟨0, [], t.lo, t.hi, t.g, S.last + 1, t.n, C.to, C.act, C.at', []⟩ : Pans) }) hfinal2 ?_
            intro w14 h14 m14
            have mm14 : Moves [r] w12 w14 := mm13.then m14
            refine hK.out _ _ ?_ (fun hHeld => ?_)
            · first | exact ⟨y0, y1, y2, y3, y4, y5, y6, y7, y8, y9, y10⟩ | exact ⟨mm13.cellOf y0 hne3, mm13.cellOf y1 hne3, mm13.cellOf y2 hne3, mm13.cellOf y3 hne3, mm13.cellOf y4 hne3, mm13.cellOf y5 hne3, mm13.cellOf y6 hne3, mm13.cellOf y7 hne3, mm13.cellOf y8 hne3, mm13.cellOf y9 hne3, mm13.cellOf y10 hne3⟩ | exact ⟨mm14.cellOf y0 hne3, mm14.cellOf y1 hne3, mm14.cellOf y2 hne3, mm14.cellOf y3 hne3, mm14.cellOf y4 hne3, mm14.cellOf y5 hne3, mm14.cellOf y6 hne3, mm14.cellOf y7 hne3, mm14.cellOf y8 hne3, mm14.cellOf y9 hne3, mm14.cellOf y10 hne3⟩
            clear hK K
            refine wpAnyH_done (by kernel_rfl) ?_ _
            refine NoPanic.normal ?_
            have HD14 : Hid _ := mm14.at HD12.out (by have := HB2B.out; simp; omega)
            have HM14 : Hid (Moves [r] w3 w14) := HM12.out.then mm14
            have HH14 : Hid _ := h14
            clear mm13 mm14 m13 m14 h13 h14
            clear y0 y1 y2 y3 y4 y5 y6 y7 y8 y9 y10
            obtain ⟨y0, y1, y2, y3, y4, y5, y6, y7, y8, y9, y10⟩ := eleven_cells HD14.out
            dsimp only at y0 y1 y2 y3 y4 y5 y6 y7 y8 y9 y10
            go_wp2_with (with_reducible refine stopA _ _ rfl ?_)
            unfold Hid
            refine wpList_storeAns rfl _ _ rfl (B1 + 1) (ansV (⟨0, [], t.lo, t.hi, t.g, S.last + 1, t.n, C.to, C.act, C.at', []⟩ : Pans)).toList rfl rfl rfl (ansV_one _) (HM14.out.at HA2.out (by have := HB2B.out; simp; omega)) rfl ?_
            intro w99 h99 m99
            go_wp2_with fail
            refine bodyPost_ret (ret_ansL rfl _ _ _ _ rfl rfl h99) rfl ?_
            exact HFIN.out _ _ _ _ HRR.out (RmIs.wrote HK1.out HM14.out HH14.out HK2.out HK3.out.1 HK3.out.2) HM14.out m99
    · have e1 : (C.act == 1) = false := beq_eq_false_iff_ne.2 hk1
      by_cases hk2 : C.act = 2
      · have e2 : (C.act == 2) = true := beq_iff_eq.2 hk2
        have HDR : Hid (mDraw S C.act C.at' C.to = (if spC t.sp C.at' = true then (if 16 ≤ S.xs.length then pTold 13 else pPl t.lo t.hi t.g 0 t.n 0 2 C.at') else pTold 1)) := by
          unfold Hid mDraw
          rw [if_neg hk1, if_pos hk2, HT.out]
        have y15 := HM8.out.cell HY15.out
        have HAC : Hid (C.act = 2) := hk2
        clear hk1 hk2 t2 t3 x1 x13 x14 x15 y16
        cases hc : spC t.sp C.at' with
        | false =>
          have HRR : Hid (R = (pTold 1, S)) := HBAD.out 1 (by omega) (by rw [HDR.out, hc]; rfl)
          have hsp := fun w9 => rfSplit7_no t.lo t.hi C.at' w9 hc
          clear hc
          go_wp2_with fail
          refine (hsp _).mono ?_
          rintro _ w9 ⟨rfl, m9⟩
          have bx := spBoxes2 w9 #[.string ⟨#[]⟩, .string ⟨#[]⟩] #[.string ⟨#[]⟩, .string ⟨#[]⟩] 37
          obtain ⟨wA, hwA⟩ : ∃ wA, (w9.alloc (.cells #[.string ⟨#[]⟩, .string ⟨#[]⟩] 37)).alloc (.cells #[.string ⟨#[]⟩, .string ⟨#[]⟩] 37) = wA := ⟨_, rfl⟩
          rw [hwA] at bx
          obtain ⟨BA, hBA⟩ : ∃ BA, w9.heap.size = BA := ⟨_, rfl⟩
          rw [hBA] at bx
          have HBX : Hid _ := bx
          have HBA : Hid (w9.heap.size = BA) := hBA
          have HM9 : Hid (Moves [] w3 w9) := HM8.out.then m9
          have HM89 : Hid (Moves [] w8 w9) := m9
          clear bx m9
          go_wp2_with (with_reducible refine stopSp _ _ rfl ?_)
          try rw [hwA]
          try rw [hBA]
          unfold Hid
          refine wpList_storeAt rfl _ _ _ rfl BA 0 _ [.string ⟨#[]⟩, .string ⟨#[]⟩] rfl rfl rfl Tryz.size37 HBX.out.2.1 (by show 2 ≤ 2; omega) (by simp [Value.oneCell']) #[.string ⟨#[]⟩, .string ⟨#[]⟩] rfl ?_
          intro wB hB mB
          have HBX2 : Hid _ := mB.at HBX.out.2.2 (by simp)
          have mAB : Moves [] w9 wB := HBX.out.1.trans mB (fun x hx => .inr (by have := HBA.out; simp at hx; omega))
          have HMB : Hid (Moves [] w9 wB) := mAB
          clear hB mB hwA hBA mAB
          go_wp2_with (with_reducible refine stopSp _ _ rfl ?_)
          unfold Hid
          refine wpList_storeAt rfl _ _ _ rfl (BA + 1) 0 _ [.string ⟨#[]⟩, .string ⟨#[]⟩] rfl rfl rfl Tryz.size37 HBX2.out (by show 2 ≤ 2; omega) (by simp [Value.oneCell']) #[.string ⟨#[]⟩, .string ⟨#[]⟩] rfl ?_
          intro wz hz mz
          have mv9z : Moves [] w9 wz := HMB.out.trans mz (fun x hx => .inr (by have := HBA.out; simp at hx; omega))
          have HX : Hid (Moves [] w3 wz) := HM9.out.then mv9z
          clear hz mz HBX2 HBX
          go_wp2_with (with_reducible refine stopA _ _ rfl ?_)
          unfold Hid
          refine wpList_storeAns rfl _ _ rfl (B1 + 1) (ansV (pTold 1)).toList rfl rfl rfl (ansV_one _) (HX.out.at HA2.out (by simp)) rfl ?_
          intro w99 h99 m99
          go_wp2_with fail
          refine bodyPost_ret (ret_ansL rfl _ _ _ _ rfl rfl h99) rfl ?_
          exact HFIN.out _ _ _ _ HRR.out (HR.out.moves0 HX.out) (HX.out.mono (by simp)) m99
        | true =>
          have hsp := fun w9 => rfSplit7_yes t.lo t.hi C.at' w9 hc
          have HC : Hid (spC t.sp C.at' = true) := hc
          clear hc
          go_wp2_with fail
          refine (hsp _).mono ?_
          rintro _ w9 ⟨rfl, m9⟩
          have bx := spBoxes2 w9 #[.string ⟨#[]⟩, .string ⟨#[]⟩] #[.string ⟨#[]⟩, .string ⟨#[]⟩] 37
          obtain ⟨wA, hwA⟩ : ∃ wA, (w9.alloc (.cells #[.string ⟨#[]⟩, .string ⟨#[]⟩] 37)).alloc (.cells #[.string ⟨#[]⟩, .string ⟨#[]⟩] 37) = wA := ⟨_, rfl⟩
          rw [hwA] at bx
          obtain ⟨BA, hBA⟩ : ∃ BA, w9.heap.size = BA := ⟨_, rfl⟩
          rw [hBA] at bx
          have HBX : Hid _ := bx
          have HBA : Hid (w9.heap.size = BA) := hBA
          have HM9 : Hid (Moves [] w3 w9) := HM8.out.then m9
          have HM89 : Hid (Moves [] w8 w9) := m9
          clear bx m9
          go_wp2_with (with_reducible refine stopSp _ _ rfl ?_)
          try rw [hwA]
          try rw [hBA]
          unfold Hid
          refine wpList_storeAt rfl _ _ _ rfl BA 0 _ [.string t.lo, .string C.at'] rfl rfl rfl Tryz.size37 HBX.out.2.1 (by show 2 ≤ 2; omega) (by simp [Value.oneCell']) #[.string t.lo, .string C.at'] rfl ?_
          intro wB hB mB
          have HBX2 : Hid _ := mB.at HBX.out.2.2 (by simp)
          have mAB : Moves [] w9 wB := HBX.out.1.trans mB (fun x hx => .inr (by have := HBA.out; simp at hx; omega))
          have HMB : Hid (Moves [] w9 wB) := mAB
          clear hB mB hwA hBA mAB
          go_wp2_with (with_reducible refine stopSp _ _ rfl ?_)
          unfold Hid
          refine wpList_storeAt rfl _ _ _ rfl (BA + 1) 0 _ [.string C.at', .string t.hi] rfl rfl rfl Tryz.size37 HBX2.out (by show 2 ≤ 2; omega) (by simp [Value.oneCell']) #[.string C.at', .string t.hi] rfl ?_
          intro wz hz mz
          have mv9z : Moves [] w9 wz := HMB.out.trans mz (fun x hx => .inr (by have := HBA.out; simp at hx; omega))
          have HX : Hid (Moves [] w3 wz) := HM9.out.then mv9z
          clear hz mz HBX2 HBX
          have x0 := (HM89.out.then mv9z).cell x0
          have HD : Hid _ := (HM89.out.then mv9z).at HH8.out (by simp)
          clear mv9z
          by_cases h16 : 16 ≤ n
          · have h16' : (n : Int) ≥ 16 := by omega
            have HRR : Hid (R = (pTold 13, S)) := HBAD.out 13 (by omega) (by rw [HDR.out, HC.out, if_pos rfl, if_pos (by rw [← hn.out]; exact h16)])
            go_wp2_with (with_reducible refine stopA _ _ rfl ?_)
            unfold Hid
            refine wpList_storeAns rfl _ _ rfl (B1 + 1) (ansV (pTold 13)).toList rfl rfl rfl (ansV_one _) (HX.out.at HA2.out (by simp)) rfl ?_
            intro w99 h99 m99
            go_wp2_with fail
            refine bodyPost_ret (ret_ansL rfl _ _ _ _ rfl rfl h99) rfl ?_
            exact HFIN.out _ _ _ _ HRR.out (HR.out.moves0 HX.out) (HX.out.mono (by simp)) m99
          · have h16' : ¬ (n : Int) ≥ 16 := by omega
            have HRR := HGOOD.out ⟨0, [], t.lo, t.hi, t.g, 0, t.n, 0, C.act, C.at', []⟩ rfl (by rw [HDR.out, HC.out, if_pos rfl, if_neg (by rw [← hn.out]; exact h16), HAC.out]; rfl)
            replace HRR : Hid _ := HRR
            have HMz : Hid (Moves [] w3 wz) := HX.out
            clear h16
            have hx := HMz.out.at HK1.out (by simp)
            obtain ⟨-, -, x13, -, -⟩ := rm_cells hx
            have hwr : IntKind.i64.wrap (S.last + 1) = S.last + 1 := by rw [IntKind.wrap_i64]; have := HOK.out.l0; omega
            replace hx : Hid _ := hx
            go_wp2_with (with_reducible refine stopI _ _ rfl ?_)
            unfold Hid
            refine wpList_storeAt rfl _ _ _ rfl r 13 _ [.int .i64 (S.last + 1)] rfl rfl rfl Tryz.size3 hx.out (by show 14 ≤ 16; omega) (by simp [Value.oneCell']) (rmCells (.slice (some ⟨G, off, none⟩) n cap) cv { S with last := S.last + 1 }) rfl ?_
            intro w11 h11 m11
            have HD11 : Hid _ := m11.at HD.out (by have := HB2B.out; simp; omega)
            have HM11 : Hid (Moves [r] w3 w11) := (HMz.out.mono (by simp)).then m11
            have HH11 : Hid _ := h11
            clear x13
            obtain ⟨-, -, x13, -, -⟩ := rm_cells h11
            dsimp only at x13
            clear h11 m11 hwr
            go_wp2_with (with_reducible refine stopI _ _ rfl ?_)
            unfold Hid
            refine wpList_storeAt rfl _ _ _ rfl B3 5 _ [.int .i64 (S.last + 1)] rfl rfl rfl Tryz.size3 HD11.out (by show 6 ≤ 11; omega) (by simp [Value.oneCell']) (ansV (⟨0, [], t.lo, t.hi, t.g, S.last + 1, t.n, 0, C.act, C.at', []⟩ : Pans)) rfl ?_
            intro w12 h12 m12
            have HH12 : Hid _ := m12.at HH11.out (by have := HB2B.out; simp; omega)
            have HM12 : Hid (Moves [r] w3 w12) := HM11.out.trans m12 (fun x hx => .inr (by have := HZ3.out; simp at hx; omega))
            have HD12 : Hid _ := h12
            obtain ⟨y0, y1, y2, y3, y4, y5, y6, y7, y8, y9, y10⟩ := eleven_cells h12
            dsimp only at y0 y1 y2 y3 y4 y5 y6 y7 y8 y9 y10
            clear h12 m12 x13
            go_wp2_with fail
            have hne3 : B3 ∉ [r] := by have := HB2B.out; simp; omega
            have hfinal1 := fin1_eq (.slice (some ⟨G, off, none⟩) n cap) cv S (⟨0, [], t.lo, t.hi, t.g, S.last + 1, t.n, 0, C.act, C.at', []⟩ : Pans) (by show C.act ≠ 0; omega)
            have hfinal2 := fin2_eq (.slice (some ⟨G, off, none⟩) n cap) cv S (⟨0, [], t.lo, t.hi, t.g, S.last + 1, t.n, 0, C.act, C.at', []⟩ : Pans) (by show C.act ≠ 0; omega)
            refine wp_region_noPanic ?_
            refine wp_region_held_drew (S := (fun w' => w'.cell? ⟨B3, 0, none⟩ = some (.int .i64 0) ∧ w'.cell? ⟨B3, 1, none⟩ = some (.slice none 0 0) ∧ w'.cell? ⟨B3, 2, none⟩ = some (.string t.lo) ∧ w'.cell? ⟨B3, 3, none⟩ = some (.string t.hi) ∧ w'.cell? ⟨B3, 4, none⟩ = some (.int .i64 t.g) ∧ w'.cell? ⟨B3, 5, none⟩ = some (.int .i64 (S.last + 1)) ∧ w'.cell? ⟨B3, 6, none⟩ = some (.int .i64 t.n) ∧ w'.cell? ⟨B3, 7, none⟩ = some (.int .i64 0) ∧ w'.cell? ⟨B3, 8, none⟩ = some (.int .i64 C.act) ∧ w'.cell? ⟨B3, 9, none⟩ = some (.string C.at') ∧ w'.cell? ⟨B3, 10, none⟩ = some (.slice none 0 0))) (by kernel_rfl) ?_ (fun hHeld => ?_)
            · first | (go_keep; done) | first | exact ⟨y0, y1, y2, y3, y4, y5, y6, y7, y8, y9, y10⟩ | exact ⟨mm13.cellOf y0 hne3, mm13.cellOf y1 hne3, mm13.cellOf y2 hne3, mm13.cellOf y3 hne3, mm13.cellOf y4 hne3, mm13.cellOf y5 hne3, mm13.cellOf y6 hne3, mm13.cellOf y7 hne3, mm13.cellOf y8 hne3, mm13.cellOf y9 hne3, mm13.cellOf y10 hne3⟩ | exact ⟨mm14.cellOf y0 hne3, mm14.cellOf y1 hne3, mm14.cellOf y2 hne3, mm14.cellOf y3 hne3, mm14.cellOf y4 hne3, mm14.cellOf y5 hne3, mm14.cellOf y6 hne3, mm14.cellOf y7 hne3, mm14.cellOf y8 hne3, mm14.cellOf y9 hne3, mm14.cellOf y10 hne3⟩
            refine wpT 0 ⟨some 142, .move (.tmp 0), 25, "ref.go:97", #[], none⟩ ?_
            refine wpT 1 ⟨some 143, .move (.tmp 0), 25, "ref.go:97", #[{ on := 5, ground := Ground.gcOnly Departure.lateStores }], none⟩ ?_
            refine wpT 2 ⟨some 144, .load 48 (.tmp 7), 48, "ref.go:97", #[{ on := 5, ground := Ground.gcOnly Departure.lateStores }], none⟩ ?_
            refine wpT 3 ⟨some 145, .nilCheck (.tmp 142), 0, "ref.go:97", #[⟨0, .data⟩, ⟨0, .phase⟩, { on := 1, ground := Ground.textOnly Departure.lateStores }, { on := 2, ground := Ground.textOnly Departure.lateStores }], none⟩ ?_
            refine wpT 4 ⟨some 146, .fieldAddr 79 (.tmp 145) 1, 0, "ref.go:97", #[⟨3, .data⟩, ⟨0, .phase⟩, { on := 1, ground := Ground.textOnly Departure.lateStores }, { on := 2, ground := Ground.textOnly Departure.lateStores }], none⟩ ?_
            refine wpR 5 ⟨none, .store 4 (.tmp 146) (.const (.bool true)), 0, "ref.go:97", #[⟨4, .data⟩, ⟨0, .phase⟩, { on := 1, ground := Ground.textOnly Departure.lateStores }, { on := 2, ground := Ground.textOnly Departure.lateStores }], none⟩ (fun K hK => ?_)
            refine store_step 4 _ _ rfl r 1 _ [.bool true] rfl rfl rfl Tryz.size4 (by rfl) (show w12.drew.heap[r]? = _ from HH12.out) (by show 2 ≤ 16; omega) (by simp [Value.oneCell']) _ rfl ?_
            intro w13 h13 m13
            have mm13 : Moves [r] w12 w13 := ((Moves.refl [r] w12).drew).then m13
            refine hK.out _ _ ?_ (fun hHeld => ?_)
            · first | exact ⟨y0, y1, y2, y3, y4, y5, y6, y7, y8, y9, y10⟩ | exact ⟨mm13.cellOf y0 hne3, mm13.cellOf y1 hne3, mm13.cellOf y2 hne3, mm13.cellOf y3 hne3, mm13.cellOf y4 hne3, mm13.cellOf y5 hne3, mm13.cellOf y6 hne3, mm13.cellOf y7 hne3, mm13.cellOf y8 hne3, mm13.cellOf y9 hne3, mm13.cellOf y10 hne3⟩ | exact ⟨mm14.cellOf y0 hne3, mm14.cellOf y1 hne3, mm14.cellOf y2 hne3, mm14.cellOf y3 hne3, mm14.cellOf y4 hne3, mm14.cellOf y5 hne3, mm14.cellOf y6 hne3, mm14.cellOf y7 hne3, mm14.cellOf y8 hne3, mm14.cellOf y9 hne3, mm14.cellOf y10 hne3⟩
            clear hK K
            refine wpT 6 ⟨some 147, .nilCheck (.tmp 143), 0, "ref.go:97", #[⟨1, .data⟩, ⟨0, .phase⟩, ⟨1, .phase⟩, ⟨2, .phase⟩, ⟨3, .phase⟩, ⟨4, .phase⟩, ⟨5, .phase⟩], none⟩ ?_
            refine wpT 7 ⟨some 148, .fieldAddr 79 (.tmp 147) 2, 0, "ref.go:97", #[⟨6, .data⟩, ⟨0, .phase⟩, ⟨1, .phase⟩, ⟨2, .phase⟩, ⟨3, .phase⟩, ⟨4, .phase⟩, ⟨5, .phase⟩], none⟩ ?_
            refine wpR 8 ⟨none, .store 48 (.tmp 148) (.tmp 144), 0, "ref.go:97", #[⟨7, .data⟩, ⟨2, .data⟩, ⟨5, .chain⟩, ⟨0, .phase⟩, ⟨1, .phase⟩, ⟨2, .phase⟩, ⟨3, .phase⟩, ⟨4, .phase⟩, ⟨5, .phase⟩], none⟩ (fun K hK => ?_)
            refine store_step 48 _ _ rfl r 2 _ (ansV (⟨0, [], t.lo, t.hi, t.g, S.last + 1, t.n, 0, C.act, C.at', []⟩ : Pans)).toList rfl rfl rfl (by rw [show (ansV (⟨0, [], t.lo, t.hi, t.g, S.last + 1, t.n, 0, C.act, C.at', []⟩ : Pans)).toList.length = 11 from rfl]; exact Tryz.size48) (by rfl) h13 (by show 13 ≤ 16; omega) (ansV_one _) (rmCells (.slice (some ⟨G, off, none⟩) n cap) cv { S with last := S.last + 1, pend := (⟨0, [], t.lo, t.hi, t.g, S.last + 1, t.n, 0, C.act, C.at', []⟩ : Pans) }) hfinal2 ?_
            intro w14 h14 m14
            have mm14 : Moves [r] w12 w14 := mm13.then m14
            refine hK.out _ _ ?_ (fun hHeld => ?_)
            · first | exact ⟨y0, y1, y2, y3, y4, y5, y6, y7, y8, y9, y10⟩ | exact ⟨mm13.cellOf y0 hne3, mm13.cellOf y1 hne3, mm13.cellOf y2 hne3, mm13.cellOf y3 hne3, mm13.cellOf y4 hne3, mm13.cellOf y5 hne3, mm13.cellOf y6 hne3, mm13.cellOf y7 hne3, mm13.cellOf y8 hne3, mm13.cellOf y9 hne3, mm13.cellOf y10 hne3⟩ | exact ⟨mm14.cellOf y0 hne3, mm14.cellOf y1 hne3, mm14.cellOf y2 hne3, mm14.cellOf y3 hne3, mm14.cellOf y4 hne3, mm14.cellOf y5 hne3, mm14.cellOf y6 hne3, mm14.cellOf y7 hne3, mm14.cellOf y8 hne3, mm14.cellOf y9 hne3, mm14.cellOf y10 hne3⟩
            clear hK K
            refine wpAnyH_done (by kernel_rfl) ?_ _
            refine NoPanic.normal ?_
            have HD14 : Hid _ := mm14.at HD12.out (by have := HB2B.out; simp; omega)
            have HM14 : Hid (Moves [r] w3 w14) := HM12.out.then mm14
            have HH14 : Hid _ := h14
            clear mm13 mm14 m13 m14 h13 h14
            clear y0 y1 y2 y3 y4 y5 y6 y7 y8 y9 y10
            obtain ⟨y0, y1, y2, y3, y4, y5, y6, y7, y8, y9, y10⟩ := eleven_cells HD14.out
            dsimp only at y0 y1 y2 y3 y4 y5 y6 y7 y8 y9 y10
            go_wp2_with (with_reducible refine stopA _ _ rfl ?_)
            unfold Hid
            refine wpList_storeAns rfl _ _ rfl (B1 + 1) (ansV (⟨0, [], t.lo, t.hi, t.g, S.last + 1, t.n, 0, C.act, C.at', []⟩ : Pans)).toList rfl rfl rfl (ansV_one _) (HM14.out.at HA2.out (by have := HB2B.out; simp; omega)) rfl ?_
            intro w99 h99 m99
            go_wp2_with fail
            refine bodyPost_ret (ret_ansL rfl _ _ _ _ rfl rfl h99) rfl ?_
            exact HFIN.out _ _ _ _ HRR.out (RmIs.wrote HK1.out HM14.out HH14.out HK2.out HK3.out.1 HK3.out.2) HM14.out m99
      · have hk3 : C.act = 3 := by omega
        have e2 : (C.act == 2) = false := beq_eq_false_iff_ne.2 hk2
        have e3 : (C.act == 3) = true := beq_iff_eq.2 hk3
        have HDR : Hid (mDraw S C.act C.at' C.to = (if (t.lo = C.at' ∧ 0 < ix) ∧ (mAhead S.xs C.at').g = t.g then pPl (mAhead S.xs C.at').lo t.hi t.g 0 0 0 3 C.at' else pTold 1)) := by
          unfold Hid mDraw
          rw [if_neg hk1, if_neg hk2, HT.out, HIX.out]
        have HAC : Hid (C.act = 3) := hk3
        have HZ0 : Hid (bz t.lo = decide (ix = 0)) := last_first HOK.out.cov HGET.out
        have HNE0 : Hid (0 < ix → t.lo ≠ ⟨#[]⟩) := fun h0 e => by
          have := HZ0.out
          rw [bz_iff.2 e, decide_eq_false (by omega)] at this
          simp at this
        have HZ1 : Hid (t.lo ≠ ⟨#[]⟩ → 0 < ix) := fun h0 => by
          rcases Nat.eq_zero_or_pos ix with e | e
          · exact absurd (bz_iff.1 (by rw [HZ0.out]; exact decide_eq_true e)) h0
          · exact e
        obtain ⟨u, hu⟩ : ∃ u, mAhead S.xs C.at' = u := ⟨_, rfl⟩
        have HU : Hid (0 < ix → S.xs[ix - 1]? = some u) := fun h0 => by
          rw [← hu]
          unfold mAhead
          rw [if_neg (by rw [HIX.out]; omega), HIX.out, List.getElem?_eq_getElem (by have := (List.getElem?_eq_some_iff.1 HGET.out).1; omega)]
          rfl
        rw [hu] at HDR
        clear hu
        have y15 := HM8.out.cell HY15.out
        clear hk1 hk2 hk3 t3 x1 x13 x14 x15 y16
        by_cases q1 : C.at' = ⟨#[]⟩
        · have HRR : Hid (R = (pTold 1, S)) := HBAD.out 1 (by omega) (by rw [HDR.out, if_neg (fun h => HNE0.out h.1.2 (by rw [← h.1.1.symm]; exact q1))])
          have q1' : bz C.at' = true := bz_iff.2 q1
          unfold bz at q1'
          clear q1 t0 t1 t2
          go_wp2_with fail
          go_region
          have HX : Hid (Moves [] w3 w8.drew) := HM8.out.drew
          go_wp2_with (with_reducible refine stopA _ _ rfl ?_)
          unfold Hid
          refine wpList_storeAns rfl _ _ rfl (B1 + 1) (ansV (pTold 1)).toList rfl rfl rfl (ansV_one _) (HX.out.at HA2.out (by simp)) rfl ?_
          intro w99 h99 m99
          go_wp2_with fail
          refine bodyPost_ret (ret_ansL rfl _ _ _ _ rfl rfl h99) rfl ?_
          exact HFIN.out _ _ _ _ HRR.out (HR.out.moves0 HX.out) (HX.out.mono (by simp)) m99
        · have q1' : bz C.at' = false := by
            cases e : bz C.at' with
            | false => rfl
            | true => exact absurd (bz_iff.1 e) q1
          unfold bz at q1'
          by_cases q2 : t.lo = C.at'
          · have hpos : 0 < ix := HZ1.out (by rw [q2]; exact q1)
            obtain ⟨j, rfl⟩ : ∃ j, ix = j + 1 := ⟨ix - 1, by omega⟩
            have hgu := HU.out hpos
            rw [Nat.add_sub_cancel] at hgu
            obtain ⟨off', e9, ub0, ub1, ub2, ub3⟩ := (HTL.out.moves HM8.out (by simp)).at hgu
            simp only [Option.some.injEq, Addr.mk.injEq, true_and, and_true] at e9
            subst e9
            have hjn : (j : Int) < n := by omega
            have hj0 : (0 : Int) ≤ j := by omega
            have q2' : zeq t.lo C.at' = true := zeq_iff.2 q2
            unfold zeq at q2'
            by_cases q3 : u.g = t.g
            · have HRR := HGOOD.out ⟨0, [], u.lo, t.hi, t.g, 0, 0, 0, C.act, C.at', []⟩ rfl (by rw [HDR.out, if_pos ⟨⟨q2, by omega⟩, q3⟩, HAC.out]; rfl)
              replace HRR : Hid _ := HRR
              have q3' : (u.g == t.g) = true := beq_iff_eq.2 q3
              have q3'' : (u.g != t.g) = false := by simp [q3]
              clear q1 q2 q3 hgu
              go_wp2_with fail
              go_region
              go_wp2_with fail
              have n1 : r ∉ [B3] := by have := HB2B.out; simp; omega
              have n2 : G ∉ [B3] := by
                have := HGL.out
                have := HB2B.out
                have := HZ3.out
                simp; omega
              have n3 : B2 ∉ [B3] := by have := HB2B.out; simp; omega
              have hwj : IntKind.i64.wrap (j : Int) = j := by rw [IntKind.wrap_i64]; omega
              have hwj1 : IntKind.i64.wrap ((j : Int) + 1 - 1) = j := by rw [IntKind.wrap_i64]; omega
              have hji : ((j : Int) + 1 - 1) = j := by omega
              refine wp_region_noPanic ?_
              refine wp_region_held_drew (S := (fun w' => w'.cell? ⟨r, 0, none⟩ = some (.slice (some ⟨G, off, none⟩) n cap) ∧ w'.cell? ⟨G, off + j * 4, none⟩ = some (.string u.lo) ∧ w'.cell? ⟨B2, 1, none⟩ = some (.string t.hi))) (by kernel_rfl) ?_ (fun hHeld => ?_)
              · first | (go_keep; done) | first | exact ⟨x0, ub0, t1⟩ | exact ⟨mm13.cellOf x0 n1, mm13.cellOf ub0 n2, mm13.cellOf t1 n3⟩ | exact ⟨mm14.cellOf x0 n1, mm14.cellOf ub0 n2, mm14.cellOf t1 n3⟩
              refine wpT 0 ⟨some 114, .move (.tmp 0), 25, "ref.go:93", #[], none⟩ ?_
              refine wpT 1 ⟨some 115, .nilCheck (.tmp 114), 0, "ref.go:93", #[⟨0, .data⟩], none⟩ ?_
              refine wpT 2 ⟨some 116, .fieldAddr 79 (.tmp 115) 0, 0, "ref.go:93", #[⟨1, .data⟩], none⟩ ?_
              refine wpT 3 ⟨some 117, .load 51 (.tmp 116), 51, "ref.go:93", #[⟨2, .data⟩], none⟩ ?_
              refine wpT 4 ⟨some 118, .move (.tmp 5), 3, "ref.go:93", #[], none⟩ ?_
              refine wpT 5 ⟨some 119, .binOp .sub 3 (.tmp 118) (.const (.int .i64 1)) 3, 3, "ref.go:93", #[⟨4, .data⟩], none⟩ ?_
              refine wpT 6 ⟨some 120, .indexAddr 51 (.tmp 117) (.tmp 119), 0, "ref.go:93", #[⟨3, .data⟩, ⟨5, .data⟩], none⟩ ?_
              refine wpT 7 ⟨some 121, .fieldAddr 54 (.tmp 120) 0, 0, "ref.go:93", #[⟨6, .data⟩], none⟩ ?_
              refine wpT 8 ⟨some 122, .fieldAddr 37 (.tmp 121) 0, 0, "ref.go:93", #[⟨7, .data⟩], none⟩ ?_
              refine wpT 9 ⟨some 123, .load 9 (.tmp 122), 9, "ref.go:93", #[⟨8, .data⟩], none⟩ ?_
              refine wpT 10 ⟨some 124, .fieldAddr 54 (.tmp 6) 0, 0, "ref.go:93", #[], none⟩ ?_
              refine wpT 11 ⟨some 125, .fieldAddr 37 (.tmp 124) 1, 0, "ref.go:93", #[⟨10, .data⟩], none⟩ ?_
              refine wpT 12 ⟨some 126, .load 9 (.tmp 125), 9, "ref.go:93", #[⟨11, .data⟩], none⟩ ?_
              refine wpT 13 ⟨some 127, .build 37 #[(0, .tmp 123), (1, .tmp 126)], 37, "ref.go:93", #[⟨9, .data⟩, ⟨12, .data⟩], none⟩ ?_
              refine wpT 14 ⟨some 128, .fieldAddr 48 (.tmp 7) 2, 0, "ref.go:93", #[⟨0, .phase⟩, ⟨1, .phase⟩, ⟨2, .phase⟩, ⟨3, .phase⟩, ⟨4, .phase⟩, ⟨5, .phase⟩, ⟨6, .phase⟩, ⟨7, .phase⟩, ⟨8, .phase⟩, ⟨9, .phase⟩, ⟨10, .phase⟩, ⟨11, .phase⟩, ⟨12, .phase⟩, ⟨13, .phase⟩], none⟩ ?_
              refine wpR 15 ⟨none, .store 37 (.tmp 128) (.tmp 127), 0, "ref.go:93", #[⟨14, .data⟩, ⟨13, .data⟩, ⟨0, .phase⟩, ⟨1, .phase⟩, ⟨2, .phase⟩, ⟨3, .phase⟩, ⟨4, .phase⟩, ⟨5, .phase⟩, ⟨6, .phase⟩, ⟨7, .phase⟩, ⟨8, .phase⟩, ⟨9, .phase⟩, ⟨10, .phase⟩, ⟨11, .phase⟩, ⟨12, .phase⟩, ⟨13, .phase⟩], none⟩ (fun K hK => ?_)
              refine store_step 37 _ _ rfl B3 2 _ [.string u.lo, .string t.hi] rfl rfl rfl Tryz.size37 (by rfl) (show w8.drew.drew.heap[B3]? = _ from HH8.out) (by show 4 ≤ 11; omega) (by simp [Value.oneCell']) _ rfl ?_
              intro w13 h13 m13
              have mm13 : Moves [B3] w8 w13 := ((Moves.refl [B3] w8).drew.drew).then m13
              refine hK.out _ _ ?_ (fun hHeld => ?_)
              · first | exact ⟨x0, ub0, t1⟩ | exact ⟨mm13.cellOf x0 n1, mm13.cellOf ub0 n2, mm13.cellOf t1 n3⟩ | exact ⟨mm14.cellOf x0 n1, mm14.cellOf ub0 n2, mm14.cellOf t1 n3⟩
              clear hK K
              refine wpT 16 ⟨some 129, .fieldAddr 48 (.tmp 7) 5, 0, "ref.go:93", #[⟨0, .phase⟩, ⟨1, .phase⟩, ⟨2, .phase⟩, ⟨3, .phase⟩, ⟨4, .phase⟩, ⟨5, .phase⟩, ⟨6, .phase⟩, ⟨7, .phase⟩, ⟨8, .phase⟩, ⟨9, .phase⟩, ⟨10, .phase⟩, ⟨11, .phase⟩, ⟨12, .phase⟩, ⟨13, .phase⟩, ⟨14, .phase⟩, ⟨15, .phase⟩], none⟩ ?_
              refine wpR 17 ⟨none, .store 3 (.tmp 129) (.const (.int .i64 0)), 0, "ref.go:93", #[⟨16, .data⟩, ⟨15, .chain⟩, ⟨0, .phase⟩, ⟨1, .phase⟩, ⟨2, .phase⟩, ⟨3, .phase⟩, ⟨4, .phase⟩, ⟨5, .phase⟩, ⟨6, .phase⟩, ⟨7, .phase⟩, ⟨8, .phase⟩, ⟨9, .phase⟩, ⟨10, .phase⟩, ⟨11, .phase⟩, ⟨12, .phase⟩, ⟨13, .phase⟩, ⟨14, .phase⟩, ⟨15, .phase⟩], none⟩ (fun K hK => ?_)
              refine store_step 3 _ _ rfl B3 6 _ [.int .i64 0] rfl rfl rfl Tryz.size3 (by rfl) h13 (by show 7 ≤ 11; omega) (by simp [Value.oneCell']) (ansV (⟨0, [], u.lo, t.hi, t.g, 0, 0, 0, C.act, C.at', []⟩ : Pans)) rfl ?_
              intro w14 h14 m14
              have mm14 : Moves [B3] w8 w14 := mm13.then m14
              refine hK.out _ _ ?_ (fun hHeld => ?_)
              · first | exact ⟨x0, ub0, t1⟩ | exact ⟨mm13.cellOf x0 n1, mm13.cellOf ub0 n2, mm13.cellOf t1 n3⟩ | exact ⟨mm14.cellOf x0 n1, mm14.cellOf ub0 n2, mm14.cellOf t1 n3⟩
              clear hK K
              refine wpAnyH_done (by kernel_rfl) ?_ _
              refine NoPanic.normal ?_
              have HD : Hid _ := h14
              have HMz : Hid (Moves [] w3 w14) := HM8.out.trans mm14 (fun x hx => .inr (by have := HZ3.out; simp at hx; omega))
              clear mm13 mm14 m13 m14 h13 h14 x0 ub0 ub1 ub2 ub3 t0 t1 t2
              have hx := HMz.out.at HK1.out (by simp)
              obtain ⟨-, -, x13, -, -⟩ := rm_cells hx
              have hwr : IntKind.i64.wrap (S.last + 1) = S.last + 1 := by rw [IntKind.wrap_i64]; have := HOK.out.l0; omega
              replace hx : Hid _ := hx
              go_wp2_with (with_reducible refine stopI _ _ rfl ?_)
              unfold Hid
              refine wpList_storeAt rfl _ _ _ rfl r 13 _ [.int .i64 (S.last + 1)] rfl rfl rfl Tryz.size3 hx.out (by show 14 ≤ 16; omega) (by simp [Value.oneCell']) (rmCells (.slice (some ⟨G, off, none⟩) n cap) cv { S with last := S.last + 1 }) rfl ?_
              intro w11 h11 m11
              have HD11 : Hid _ := m11.at HD.out (by have := HB2B.out; simp; omega)
              have HM11 : Hid (Moves [r] w3 w11) := (HMz.out.mono (by simp)).then m11
              have HH11 : Hid _ := h11
              clear x13
              obtain ⟨-, -, x13, -, -⟩ := rm_cells h11
              dsimp only at x13
              clear h11 m11 hwr
              go_wp2_with (with_reducible refine stopI _ _ rfl ?_)
              unfold Hid
              refine wpList_storeAt rfl _ _ _ rfl B3 5 _ [.int .i64 (S.last + 1)] rfl rfl rfl Tryz.size3 HD11.out (by show 6 ≤ 11; omega) (by simp [Value.oneCell']) (ansV (⟨0, [], u.lo, t.hi, t.g, S.last + 1, 0, 0, C.act, C.at', []⟩ : Pans)) rfl ?_
              intro w12 h12 m12
              have HH12 : Hid _ := m12.at HH11.out (by have := HB2B.out; simp; omega)
              have HM12 : Hid (Moves [r] w3 w12) := HM11.out.trans m12 (fun x hx => .inr (by have := HZ3.out; simp at hx; omega))
              have HD12 : Hid _ := h12
              obtain ⟨y0, y1, y2, y3, y4, y5, y6, y7, y8, y9, y10⟩ := eleven_cells h12
              dsimp only at y0 y1 y2 y3 y4 y5 y6 y7 y8 y9 y10
              clear h12 m12 x13
              go_wp2_with fail
              have hne3 : B3 ∉ [r] := by have := HB2B.out; simp; omega
              have hfinal1 := fin1_eq (.slice (some ⟨G, off, none⟩) n cap) cv S (⟨0, [], u.lo, t.hi, t.g, S.last + 1, 0, 0, C.act, C.at', []⟩ : Pans) (by show C.act ≠ 0; omega)
              have hfinal2 := fin2_eq (.slice (some ⟨G, off, none⟩) n cap) cv S (⟨0, [], u.lo, t.hi, t.g, S.last + 1, 0, 0, C.act, C.at', []⟩ : Pans) (by show C.act ≠ 0; omega)
              refine wp_region_noPanic ?_
              refine wp_region_held_drew (S := (fun w' => w'.cell? ⟨B3, 0, none⟩ = some (.int .i64 0) ∧ w'.cell? ⟨B3, 1, none⟩ = some (.slice none 0 0) ∧ w'.cell? ⟨B3, 2, none⟩ = some (.string u.lo) ∧ w'.cell? ⟨B3, 3, none⟩ = some (.string t.hi) ∧ w'.cell? ⟨B3, 4, none⟩ = some (.int .i64 t.g) ∧ w'.cell? ⟨B3, 5, none⟩ = some (.int .i64 (S.last + 1)) ∧ w'.cell? ⟨B3, 6, none⟩ = some (.int .i64 0) ∧ w'.cell? ⟨B3, 7, none⟩ = some (.int .i64 0) ∧ w'.cell? ⟨B3, 8, none⟩ = some (.int .i64 C.act) ∧ w'.cell? ⟨B3, 9, none⟩ = some (.string C.at') ∧ w'.cell? ⟨B3, 10, none⟩ = some (.slice none 0 0))) (by kernel_rfl) ?_ (fun hHeld => ?_)
              · first | (go_keep; done) | first | exact ⟨y0, y1, y2, y3, y4, y5, y6, y7, y8, y9, y10⟩ | exact ⟨mm13.cellOf y0 hne3, mm13.cellOf y1 hne3, mm13.cellOf y2 hne3, mm13.cellOf y3 hne3, mm13.cellOf y4 hne3, mm13.cellOf y5 hne3, mm13.cellOf y6 hne3, mm13.cellOf y7 hne3, mm13.cellOf y8 hne3, mm13.cellOf y9 hne3, mm13.cellOf y10 hne3⟩ | exact ⟨mm14.cellOf y0 hne3, mm14.cellOf y1 hne3, mm14.cellOf y2 hne3, mm14.cellOf y3 hne3, mm14.cellOf y4 hne3, mm14.cellOf y5 hne3, mm14.cellOf y6 hne3, mm14.cellOf y7 hne3, mm14.cellOf y8 hne3, mm14.cellOf y9 hne3, mm14.cellOf y10 hne3⟩
              refine wpT 0 ⟨some 142, .move (.tmp 0), 25, "ref.go:97", #[], none⟩ ?_
              refine wpT 1 ⟨some 143, .move (.tmp 0), 25, "ref.go:97", #[{ on := 5, ground := Ground.gcOnly Departure.lateStores }], none⟩ ?_
              refine wpT 2 ⟨some 144, .load 48 (.tmp 7), 48, "ref.go:97", #[{ on := 5, ground := Ground.gcOnly Departure.lateStores }], none⟩ ?_
              refine wpT 3 ⟨some 145, .nilCheck (.tmp 142), 0, "ref.go:97", #[⟨0, .data⟩, ⟨0, .phase⟩, { on := 1, ground := Ground.textOnly Departure.lateStores }, { on := 2, ground := Ground.textOnly Departure.lateStores }], none⟩ ?_
              refine wpT 4 ⟨some 146, .fieldAddr 79 (.tmp 145) 1, 0, "ref.go:97", #[⟨3, .data⟩, ⟨0, .phase⟩, { on := 1, ground := Ground.textOnly Departure.lateStores }, { on := 2, ground := Ground.textOnly Departure.lateStores }], none⟩ ?_
              refine wpR 5 ⟨none, .store 4 (.tmp 146) (.const (.bool true)), 0, "ref.go:97", #[⟨4, .data⟩, ⟨0, .phase⟩, { on := 1, ground := Ground.textOnly Departure.lateStores }, { on := 2, ground := Ground.textOnly Departure.lateStores }], none⟩ (fun K hK => ?_)
              refine store_step 4 _ _ rfl r 1 _ [.bool true] rfl rfl rfl Tryz.size4 (by rfl) (show w12.drew.heap[r]? = _ from HH12.out) (by show 2 ≤ 16; omega) (by simp [Value.oneCell']) _ rfl ?_
              intro w13 h13 m13
              have mm13 : Moves [r] w12 w13 := ((Moves.refl [r] w12).drew).then m13
              refine hK.out _ _ ?_ (fun hHeld => ?_)
              · first | exact ⟨y0, y1, y2, y3, y4, y5, y6, y7, y8, y9, y10⟩ | exact ⟨mm13.cellOf y0 hne3, mm13.cellOf y1 hne3, mm13.cellOf y2 hne3, mm13.cellOf y3 hne3, mm13.cellOf y4 hne3, mm13.cellOf y5 hne3, mm13.cellOf y6 hne3, mm13.cellOf y7 hne3, mm13.cellOf y8 hne3, mm13.cellOf y9 hne3, mm13.cellOf y10 hne3⟩ | exact ⟨mm14.cellOf y0 hne3, mm14.cellOf y1 hne3, mm14.cellOf y2 hne3, mm14.cellOf y3 hne3, mm14.cellOf y4 hne3, mm14.cellOf y5 hne3, mm14.cellOf y6 hne3, mm14.cellOf y7 hne3, mm14.cellOf y8 hne3, mm14.cellOf y9 hne3, mm14.cellOf y10 hne3⟩
              clear hK K
              refine wpT 6 ⟨some 147, .nilCheck (.tmp 143), 0, "ref.go:97", #[⟨1, .data⟩, ⟨0, .phase⟩, ⟨1, .phase⟩, ⟨2, .phase⟩, ⟨3, .phase⟩, ⟨4, .phase⟩, ⟨5, .phase⟩], none⟩ ?_
              refine wpT 7 ⟨some 148, .fieldAddr 79 (.tmp 147) 2, 0, "ref.go:97", #[⟨6, .data⟩, ⟨0, .phase⟩, ⟨1, .phase⟩, ⟨2, .phase⟩, ⟨3, .phase⟩, ⟨4, .phase⟩, ⟨5, .phase⟩], none⟩ ?_
              refine wpR 8 ⟨none, .store 48 (.tmp 148) (.tmp 144), 0, "ref.go:97", #[⟨7, .data⟩, ⟨2, .data⟩, ⟨5, .chain⟩, ⟨0, .phase⟩, ⟨1, .phase⟩, ⟨2, .phase⟩, ⟨3, .phase⟩, ⟨4, .phase⟩, ⟨5, .phase⟩], none⟩ (fun K hK => ?_)
              refine store_step 48 _ _ rfl r 2 _ (ansV (⟨0, [], u.lo, t.hi, t.g, S.last + 1, 0, 0, C.act, C.at', []⟩ : Pans)).toList rfl rfl rfl (by rw [show (ansV (⟨0, [], u.lo, t.hi, t.g, S.last + 1, 0, 0, C.act, C.at', []⟩ : Pans)).toList.length = 11 from rfl]; exact Tryz.size48) (by rfl) h13 (by show 13 ≤ 16; omega) (ansV_one _) (rmCells (.slice (some ⟨G, off, none⟩) n cap) cv { S with last := S.last + 1, pend := (⟨0, [], u.lo, t.hi, t.g, S.last + 1, 0, 0, C.act, C.at', []⟩ : Pans) }) hfinal2 ?_
              intro w14 h14 m14
              have mm14 : Moves [r] w12 w14 := mm13.then m14
              refine hK.out _ _ ?_ (fun hHeld => ?_)
              · first | exact ⟨y0, y1, y2, y3, y4, y5, y6, y7, y8, y9, y10⟩ | exact ⟨mm13.cellOf y0 hne3, mm13.cellOf y1 hne3, mm13.cellOf y2 hne3, mm13.cellOf y3 hne3, mm13.cellOf y4 hne3, mm13.cellOf y5 hne3, mm13.cellOf y6 hne3, mm13.cellOf y7 hne3, mm13.cellOf y8 hne3, mm13.cellOf y9 hne3, mm13.cellOf y10 hne3⟩ | exact ⟨mm14.cellOf y0 hne3, mm14.cellOf y1 hne3, mm14.cellOf y2 hne3, mm14.cellOf y3 hne3, mm14.cellOf y4 hne3, mm14.cellOf y5 hne3, mm14.cellOf y6 hne3, mm14.cellOf y7 hne3, mm14.cellOf y8 hne3, mm14.cellOf y9 hne3, mm14.cellOf y10 hne3⟩
              clear hK K
              refine wpAnyH_done (by kernel_rfl) ?_ _
              refine NoPanic.normal ?_
              have HD14 : Hid _ := mm14.at HD12.out (by have := HB2B.out; simp; omega)
              have HM14 : Hid (Moves [r] w3 w14) := HM12.out.then mm14
              have HH14 : Hid _ := h14
              clear mm13 mm14 m13 m14 h13 h14
              clear y0 y1 y2 y3 y4 y5 y6 y7 y8 y9 y10
              obtain ⟨y0, y1, y2, y3, y4, y5, y6, y7, y8, y9, y10⟩ := eleven_cells HD14.out
              dsimp only at y0 y1 y2 y3 y4 y5 y6 y7 y8 y9 y10
              go_wp2_with (with_reducible refine stopA _ _ rfl ?_)
              unfold Hid
              refine wpList_storeAns rfl _ _ rfl (B1 + 1) (ansV (⟨0, [], u.lo, t.hi, t.g, S.last + 1, 0, 0, C.act, C.at', []⟩ : Pans)).toList rfl rfl rfl (ansV_one _) (HM14.out.at HA2.out (by have := HB2B.out; simp; omega)) rfl ?_
              intro w99 h99 m99
              go_wp2_with fail
              refine bodyPost_ret (ret_ansL rfl _ _ _ _ rfl rfl h99) rfl ?_
              exact HFIN.out _ _ _ _ HRR.out (RmIs.wrote HK1.out HM14.out HH14.out HK2.out HK3.out.1 HK3.out.2) HM14.out m99
            · have HRR : Hid (R = (pTold 1, S)) := HBAD.out 1 (by omega) (by rw [HDR.out, if_neg (fun h => q3 h.2)])
              have q3' : (u.g == t.g) = false := beq_eq_false_iff_ne.2 q3
              have q3'' : (u.g != t.g) = true := by simp [q3]
              clear q1 q2 q3 hgu t1
              go_wp2_with fail
              go_region
              have HX : Hid (Moves [] w3 w8.drew) := HM8.out.drew
              go_wp2_with (with_reducible refine stopA _ _ rfl ?_)
              unfold Hid
              refine wpList_storeAns rfl _ _ rfl (B1 + 1) (ansV (pTold 1)).toList rfl rfl rfl (ansV_one _) (HX.out.at HA2.out (by simp)) rfl ?_
              intro w99 h99 m99
              go_wp2_with fail
              refine bodyPost_ret (ret_ansL rfl _ _ _ _ rfl rfl h99) rfl ?_
              exact HFIN.out _ _ _ _ HRR.out (HR.out.moves0 HX.out) (HX.out.mono (by simp)) m99
          · have HRR : Hid (R = (pTold 1, S)) := HBAD.out 1 (by omega) (by rw [HDR.out, if_neg (fun h => q2 h.1.1)])
            have q2' : zeq t.lo C.at' = false := by
              cases e : zeq t.lo C.at' with
              | false => rfl
              | true => exact absurd (zeq_iff.1 e) q2
            unfold zeq at q2'
            clear q1 q2 t1 t2
            go_wp2_with fail
            go_region
            have HX : Hid (Moves [] w3 w8.drew) := HM8.out.drew
            go_wp2_with (with_reducible refine stopA _ _ rfl ?_)
            unfold Hid
            refine wpList_storeAns rfl _ _ rfl (B1 + 1) (ansV (pTold 1)).toList rfl rfl rfl (ansV_one _) (HX.out.at HA2.out (by simp)) rfl ?_
            intro w99 h99 m99
            go_wp2_with fail
            refine bodyPost_ret (ret_ansL rfl _ _ _ _ rfl rfl h99) rfl ?_
            exact HFIN.out _ _ _ _ HRR.out (HR.out.moves0 HX.out) (HX.out.mono (by simp)) m99
end Go.Proofs.YtilbbnmhnacnlaaGreat
