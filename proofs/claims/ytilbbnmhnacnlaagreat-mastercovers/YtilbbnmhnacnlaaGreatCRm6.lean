/- ours -/
import Derived.Test.YtilbbnmhnacnlaaGreatCRm5
import Derived.Deep.MidRow
namespace Go.Proofs.YtilbbnmhnacnlaaGreat
open Go.RowKit

theorem c28 {w : World} {p : Nat} {x0 x1 x2 x3 x4 x5 x6 x7 x8 x9 x10 x11 x12 x13 x14 x15 x16 x17 x18 x19 x20 x21 x22 x23 x24 x25 x26 x27 : Value} {t : TypeId} (h : w.heap[p]? = some (.cells #[x0, x1, x2, x3, x4, x5, x6, x7, x8, x9, x10, x11, x12, x13, x14, x15, x16, x17, x18, x19, x20, x21, x22, x23, x24, x25, x26, x27] t (0, 0))) : w.cell? ⟨p, 0, none⟩ = some x0 ∧ w.cell? ⟨p, 1, none⟩ = some x1 ∧ w.cell? ⟨p, 2, none⟩ = some x2 ∧ w.cell? ⟨p, 3, none⟩ = some x3 ∧ w.cell? ⟨p, 4, none⟩ = some x4 ∧ w.cell? ⟨p, 5, none⟩ = some x5 ∧ w.cell? ⟨p, 6, none⟩ = some x6 ∧ w.cell? ⟨p, 7, none⟩ = some x7 ∧ w.cell? ⟨p, 8, none⟩ = some x8 ∧ w.cell? ⟨p, 9, none⟩ = some x9 ∧ w.cell? ⟨p, 10, none⟩ = some x10 ∧ w.cell? ⟨p, 11, none⟩ = some x11 ∧ w.cell? ⟨p, 12, none⟩ = some x12 ∧ w.cell? ⟨p, 13, none⟩ = some x13 ∧ w.cell? ⟨p, 14, none⟩ = some x14 ∧ w.cell? ⟨p, 15, none⟩ = some x15 ∧ w.cell? ⟨p, 16, none⟩ = some x16 ∧ w.cell? ⟨p, 17, none⟩ = some x17 ∧ w.cell? ⟨p, 18, none⟩ = some x18 ∧ w.cell? ⟨p, 19, none⟩ = some x19 ∧ w.cell? ⟨p, 20, none⟩ = some x20 ∧ w.cell? ⟨p, 21, none⟩ = some x21 ∧ w.cell? ⟨p, 22, none⟩ = some x22 ∧ w.cell? ⟨p, 23, none⟩ = some x23 ∧ w.cell? ⟨p, 24, none⟩ = some x24 ∧ w.cell? ⟨p, 25, none⟩ = some x25 ∧ w.cell? ⟨p, 26, none⟩ = some x26 ∧ w.cell? ⟨p, 27, none⟩ = some x27 := by
  simp [World.cell?, h]
set_option maxRecDepth 100000 in
theorem withinB_w (n lo hi : Int) (h0 : -1000 ≤ lo) (h1 : lo ≤ hi) (h3 : 0 ≤ hi) (h2 : hi ≤ 1099511627776) (w : World) :
    Calls Tryz.prog 23 #[.int .i64 n, .int .i64 lo, .int .i64 hi] w fun e w' => ∃ r : Int, (lo ≤ r ∧ r ≤ hi) ∧ e = .returned (.int .i64 r) ∧ w = w' := by
  have hz : ¬ hi - lo + 1 = 0 := by omega
  have t : -(hi - lo + 1) < n.tmod (hi - lo + 1) ∧ n.tmod (hi - lo + 1) < hi - lo + 1 := by
    have h1 := Int.tmod_lt_of_pos n (show 0 < hi - lo + 1 by omega)
    have h2 := Int.tmod_lt_of_pos (-n) (show 0 < hi - lo + 1 by omega)
    rw [Int.neg_tmod] at h2
    omega
  by_cases hA : lo ≤ n
  · by_cases hB : n ≤ hi
    · go_enter Tryz.func23, Tryz.ntmps23
      go_wp2
      go_ret
      exact ⟨n, ⟨hA, hB⟩, rfl, rfl⟩
    · have t1 := Int.emod_nonneg n (show hi - lo + 1 ≠ 0 by omega)
      have t2 := Int.emod_lt_of_pos n (show 0 < hi - lo + 1 by omega)
      clear t
      go_enter Tryz.func23, Tryz.ntmps23
      go_wp2
      all_goals go_ret
      all_goals refine ⟨_, ?_, rfl, rfl⟩
      all_goals generalize n % (hi - lo + 1) = m at *
      all_goals try unfold wrap64
      all_goals omega
  · go_enter Tryz.func23, Tryz.ntmps23
    go_wp2
    all_goals go_ret
    all_goals refine ⟨_, ?_, rfl, rfl⟩
    all_goals generalize n.tmod (hi - lo + 1) = m at *
    all_goals try unfold wrap64
    all_goals omega
theorem within21_w (n : Int) (w : World) : Calls Tryz.prog 23 #[.int .i64 n, .int .i64 (-2), .int .i64 1] w fun e w' => ∃ r : Int, (-2 ≤ r ∧ r ≤ 1) ∧ e = .returned (.int .i64 r) ∧ w = w' := withinB_w n (-2) 1 (by omega) (by omega) (by omega) (by omega) w
theorem range_tail {w : World} {b : Nat} {xs ys : List Value} {t : TypeId} {fz : Nat × Nat} (h : w.heap[b]? = some (.cells (xs ++ ys).toArray t fz)) : w.rangeAt b xs.length ys := fun j v hj => by
  have e : (xs ++ ys)[xs.length + j]? = some v := by rw [List.getElem?_append_right (by omega), Nat.add_sub_cancel_left]; exact hj
  simp only [World.cell?, h]
  simpa using e
theorem wpList_loadCmdAt {ops : Array Oper} {rest : List Oper} {op : Oper} {a : Act} {w : World} {Q : Exit → Act → World → Prop} (hgd : op.guard = none) (x : Operand) (ho : op.op = .load 39 x) (b k : Nat) (hx : a.eval x = .pointer (some ⟨b, k, none⟩)) (cs : List Value) (hc : w.rangeAt b k cs) (hn : cs.length = 19)
    (h : wpList Tryz.prog ops Q rest (a.put op.dst (.agg cs.toArray)) w) : wpList Tryz.prog ops Q (op :: rest) a w :=
  wpList_plain hgd fun _ hK => by
    have := run_loadVar_mid (P := Tryz.prog) w b k 39 cs _ hc Tryz.underlying39 rfl (by rw [hn]; exact Tryz.size39)
    unfold Oper.wp execOp
    simp only [ho, hx, Instr.loadAt, Instr.sureAddr, Sem.run_bind, Sem.run_pure, Result.andThen_ok, this]
    exact hK _ _ h
def locC (s : ByteArray) : Pcmd := ⟨7, opz, ⟨#[]⟩, ⟨#[]⟩, 0, s, 0, 0, []⟩
def locV (s : ByteArray) : Array Value := #[.int .i64 7, .int .i64 0, .string ⟨#[]⟩, .string ⟨#[]⟩, .bool false, .bool false, .string ⟨#[]⟩, .int .i64 0, .slice none 0 0, .float .f64 0, .slice none 0 0, .int .i64 0, .string ⟨#[]⟩, .string ⟨#[]⟩, .int .i64 0, .string s, .int .i64 0, .int .i64 0, .slice none 0 0]
theorem locC_c (w : World) (s : ByteArray) : CmdW w (locV s).toList (locC s) :=
  ⟨none, 0, 0, none, 0, 0, none, 0, 0, rfl⟩
theorem rem8 (n : Int) : ∃ x, (pwithin n).tmod 8 = x ∧ 0 ≤ x ∧ x < 8 := by
  have hb := pwithin_b n
  refine ⟨_, rfl, ?_, ?_⟩ <;> rw [Int.tmod_eq_emod_of_nonneg hb.1] <;> omega
set_option maxRecDepth 100000 in
set_option maxHeartbeats 16000000 in
theorem cmd12_w (w : World) (r : Nat) (S : Pms) (h : RmIs w r S) (d0 d1 d2 d3 d4 d5 d6 d7 d8 : Int) (C : Pcmd) (ca : Option Addr) (cn cc : Nat) (la : Option Addr) (ln lc : Nat) (sa : Option Addr) (sn sc : Nat) (hC : CmdW w #[.int .i64 C.kind, .int .i64 C.op.kind, .string C.op.row, .string C.op.hi, .bool C.op.cd.has, .bool C.op.cd.want, .string C.op.cd.col, .int .i64 C.op.cd.v.kind, .slice ca cn cc, .float .f64 C.op.cd.v.n, .slice la ln lc, .int .i64 C.op.most, .string C.lo, .string C.hi, .int .i64 C.gen, .string C.at', .int .i64 C.to, .int .i64 C.act, .slice sa sn sc].toList C) :
    Calls Tryz.prog 8 #[.pointer (some ⟨r, 0, none⟩), .agg #[.int .i64 d0, .int .i64 d1, .int .i64 d2, .int .i64 d3, .int .i64 d4, .int .i64 d5, .int .i64 d6, .int .i64 d7, .int .i64 d8, .int .i64 C.kind, .int .i64 C.op.kind, .string C.op.row, .string C.op.hi, .bool C.op.cd.has, .bool C.op.cd.want, .string C.op.cd.col, .int .i64 C.op.cd.v.kind, .slice ca cn cc, .float .f64 C.op.cd.v.n, .slice la ln lc, .int .i64 C.op.most, .string C.lo, .string C.hi, .int .i64 C.gen, .string C.at', .int .i64 C.to, .int .i64 C.act, .slice sa sn sc]] w fun e w' => ∃ cs D, e = .returned (.agg cs) ∧ CmdW w' cs.toList D ∧ Moves [] w w' := by
  have a1 := heap_alloc_new w (.cells #[.int .i64 d0, .int .i64 d1, .int .i64 d2, .int .i64 d3, .int .i64 d4, .int .i64 d5, .int .i64 d6, .int .i64 d7, .int .i64 d8, .int .i64 C.kind, .int .i64 C.op.kind, .string C.op.row, .string C.op.hi, .bool C.op.cd.has, .bool C.op.cd.want, .string C.op.cd.col, .int .i64 C.op.cd.v.kind, .slice ca cn cc, .float .f64 C.op.cd.v.n, .slice la ln lc, .int .i64 C.op.most, .string C.lo, .string C.hi, .int .i64 C.gen, .string C.at', .int .i64 C.to, .int .i64 C.act, .slice sa sn sc] 44)
  obtain ⟨w2, hw2⟩ : ∃ w2, w.alloc (.cells #[.int .i64 d0, .int .i64 d1, .int .i64 d2, .int .i64 d3, .int .i64 d4, .int .i64 d5, .int .i64 d6, .int .i64 d7, .int .i64 d8, .int .i64 C.kind, .int .i64 C.op.kind, .string C.op.row, .string C.op.hi, .bool C.op.cd.has, .bool C.op.cd.want, .string C.op.cd.col, .int .i64 C.op.cd.v.kind, .slice ca cn cc, .float .f64 C.op.cd.v.n, .slice la ln lc, .int .i64 C.op.most, .string C.lo, .string C.hi, .int .i64 C.gen, .string C.at', .int .i64 C.to, .int .i64 C.act, .slice sa sn sc] 44) = w2 := ⟨_, rfl⟩
  have s2 : w2.heap.size = w.heap.size + 1 := by rw [← hw2]; simp
  have n2 : Moves [] w w2 := by rw [← hw2]; exact (Moves.refl _ _).alloc _
  rw [hw2] at a1
  have a2 := heap_alloc_new w2 (.cells #[.int .i64 0, .int .i64 0, .string ⟨#[]⟩, .string ⟨#[]⟩, .bool false, .bool false, .string ⟨#[]⟩, .int .i64 0, .slice none 0 0, .float .f64 0, .slice none 0 0, .int .i64 0, .string ⟨#[]⟩, .string ⟨#[]⟩, .int .i64 0, .string ⟨#[]⟩, .int .i64 0, .int .i64 0, .slice none 0 0] 39)
  obtain ⟨w3, hw3⟩ : ∃ w3, w2.alloc (.cells #[.int .i64 0, .int .i64 0, .string ⟨#[]⟩, .string ⟨#[]⟩, .bool false, .bool false, .string ⟨#[]⟩, .int .i64 0, .slice none 0 0, .float .f64 0, .slice none 0 0, .int .i64 0, .string ⟨#[]⟩, .string ⟨#[]⟩, .int .i64 0, .string ⟨#[]⟩, .int .i64 0, .int .i64 0, .slice none 0 0] 39) = w3 := ⟨_, rfl⟩
  have n3 : Moves [] w2 w3 := by rw [← hw3]; exact (Moves.refl _ _).alloc _
  rw [hw3] at a2
  have m03 := n2.then n3
  have b1 := n3.at a1 (by simp)
  rw [s2] at a2
  obtain ⟨B1, hB1⟩ : ∃ B1, w.heap.size = B1 := ⟨_, rfl⟩
  rw [hB1] at b1 a2
  have hrg : w3.rangeAt B1 9 (#[.int .i64 C.kind, .int .i64 C.op.kind, .string C.op.row, .string C.op.hi, .bool C.op.cd.has, .bool C.op.cd.want, .string C.op.cd.col, .int .i64 C.op.cd.v.kind, .slice ca cn cc, .float .f64 C.op.cd.v.n, .slice la ln lc, .int .i64 C.op.most, .string C.lo, .string C.hi, .int .i64 C.gen, .string C.at', .int .i64 C.to, .int .i64 C.act, .slice sa sn sc] : Array Value).toList := range_tail (xs := [.int .i64 d0, .int .i64 d1, .int .i64 d2, .int .i64 d3, .int .i64 d4, .int .i64 d5, .int .i64 d6, .int .i64 d7, .int .i64 d8]) (ys := (#[.int .i64 C.kind, .int .i64 C.op.kind, .string C.op.row, .string C.op.hi, .bool C.op.cd.has, .bool C.op.cd.want, .string C.op.cd.col, .int .i64 C.op.cd.v.kind, .slice ca cn cc, .float .f64 C.op.cd.v.n, .slice la ln lc, .int .i64 C.op.most, .string C.lo, .string C.hi, .int .i64 C.gen, .string C.at', .int .i64 C.to, .int .i64 C.act, .slice sa sn sc] : Array Value).toList) b1
  have HRG : Hid (w3.rangeAt B1 9 (#[.int .i64 C.kind, .int .i64 C.op.kind, .string C.op.row, .string C.op.hi, .bool C.op.cd.has, .bool C.op.cd.want, .string C.op.cd.col, .int .i64 C.op.cd.v.kind, .slice ca cn cc, .float .f64 C.op.cd.v.n, .slice la ln lc, .int .i64 C.op.most, .string C.lo, .string C.hi, .int .i64 C.gen, .string C.at', .int .i64 C.to, .int .i64 C.act, .slice sa sn sc] : Array Value).toList) := hrg
  clear hrg
  have HM : Hid (Moves [] w w3) := m03
  have HSZ : Hid (w.heap.size = B1) := hB1
  have HA2 : Hid _ := a2
  have HLR : Hid (r < w.heap.size) := h.lt
  obtain ⟨v, cv, m, k1, -, -, -⟩ := h.moves0 m03
  obtain ⟨-, -, x13, -, -⟩ := rm_cells k1
  obtain ⟨y0, y1, y2, y3, y4, y5, y6, y7, y8, y9, y10, y11, y12, y13, y14, y15, y16, y17, y18, y19, y20, y21, y22, y23, y24, y25, y26, y27⟩ := c28 b1
  have HC : Hid (CmdW w #[.int .i64 C.kind, .int .i64 C.op.kind, .string C.op.row, .string C.op.hi, .bool C.op.cd.has, .bool C.op.cd.want, .string C.op.cd.col, .int .i64 C.op.cd.v.kind, .slice ca cn cc, .float .f64 C.op.cd.v.n, .slice la ln lc, .int .i64 C.op.most, .string C.lo, .string C.hi, .int .i64 C.gen, .string C.at', .int .i64 C.to, .int .i64 C.act, .slice sa sn sc].toList C) := hC
  have hfin : ∀ (u z : World) (cs : Array Value) (D : Pcmd), (∀ w', Moves [] w w' → CmdW w' cs.toList D) → Moves [] w3 u → Moves [B1 + 1] u z → ∃ cs' D, Ending.returned (.agg cs) = Ending.returned (.agg cs') ∧ CmdW z cs'.toList D ∧ Moves [] w z := by
    intro u z cs D hD hu hz
    have M : Moves [] w z := (HM.out.then hu).trans hz (fun x hx => .inr (by have := HSZ.out; simp at hx; omega))
    exact ⟨cs, D, rfl, hD z M, M⟩
  have HFIN : Hid _ := hfin
  obtain ⟨x, hx, hx0, hx8⟩ := rem8 d0
  have hwi := fun w9 => within_d d0 w9
  clear hfin a1 a2 n2 n3 m03 b1 k1 h hC
  have hx' : x = 0 ∨ x = 1 ∨ x = 2 ∨ x = 3 ∨ x = 4 ∨ x = 5 ∨ x = 6 ∨ x = 7 := by omega
  clear hx0 hx8
  rcases hx' with rfl | rfl | rfl | rfl | rfl | rfl | rfl | rfl
  · clear y2 y3 y4 y5 y6 y7 y8 y9 y10 y11 y12 y13 y14 y15 y16 y17 y18 y19 y20 y21 y22 y23 y24 y25 y26 y27 x13
    obtain ⟨s, -, hrow⟩ := row_ds d1
    go_enter Tryz.func8, Tryz.ntmps8
    go_wp2_with fail
    try rw [hw2]
    try rw [hw3]
    try rw [s2]
    try rw [hB1]
    refine (hwi _).mono ?_
    rintro _ _ ⟨rfl, rfl⟩
    clear hwi
    go_wp2_with fail
    refine (hrow _).mono ?_
    rintro _ w9 ⟨rfl, m9⟩
    have HX : Hid (Moves [] w3 w9) := m9
    go_wp2_with (with_reducible refine stopStore _ _ rfl ?_)
    try rw [hw2]
    try rw [hw3]
    try rw [s2]
    try rw [hB1]
    unfold Hid
    refine wpList_storeCmd rfl _ _ rfl (B1 + 1) (locV s) rfl rfl (HX.out.at HA2.out (by simp)) rfl rfl (by simp [locV, Value.oneCell']) ?_
    intro w99 h99 m99
    go_wp2_with fail
    refine bodyPost_ret (ret_cmd rfl _ _ _ _ rfl rfl h99) rfl ?_
    exact HFIN.out _ _ _ _ (fun w' _ => locC_c w' s) (HX.out) m99
  · clear y1 y2 y3 y4 y5 y9 y10 y11 y12 y13 y14 y15 y16 y17 y18 y19 y20 y21 y22 y23 y24 y25 y26 y27 x13
    obtain ⟨pa, ps, pt, -, hpl⟩ := keepPlan_w d6 d7 d8
    go_enter Tryz.func8, Tryz.ntmps8
    go_wp2_with fail
    try rw [hw2]
    try rw [hw3]
    try rw [s2]
    try rw [hB1]
    refine (hwi _).mono ?_
    rintro _ _ ⟨rfl, rfl⟩
    clear hwi
    go_wp2_with fail
    refine (hpl _).mono ?_
    rintro _ w9 ⟨rfl, m9⟩
    have HX : Hid (Moves [] w3 w9) := m9
    go_wp2_with (with_reducible refine stopStore _ _ rfl ?_)
    try rw [hw2]
    try rw [hw3]
    try rw [s2]
    try rw [hB1]
    unfold Hid
    refine wpList_storeCmd rfl _ _ rfl (B1 + 1) (plV pa ps pt) rfl rfl (HX.out.at HA2.out (by simp)) rfl rfl (by simp [plV, Value.oneCell']) ?_
    intro w99 h99 m99
    go_wp2_with fail
    refine bodyPost_ret (ret_cmd rfl _ _ _ _ rfl rfl h99) rfl ?_
    exact HFIN.out _ _ _ _ (fun w' _ => plC_c w' pa ps pt) (HX.out) m99
  · clear y1 y2 y3 y4 y5 y9 y10 y11 y12 y13 y14 y15 y16 y17 y18 y19 y20 y21 y22 y23 y24 y25 y26 y27 x13
    obtain ⟨pa, ps, pt, -, hpl⟩ := keepPlan_w d6 d7 d8
    go_enter Tryz.func8, Tryz.ntmps8
    go_wp2_with fail
    try rw [hw2]
    try rw [hw3]
    try rw [s2]
    try rw [hB1]
    refine (hwi _).mono ?_
    rintro _ _ ⟨rfl, rfl⟩
    clear hwi
    go_wp2_with fail
    refine (hpl _).mono ?_
    rintro _ w9 ⟨rfl, m9⟩
    have HX : Hid (Moves [] w3 w9) := m9
    go_wp2_with (with_reducible refine stopStore _ _ rfl ?_)
    try rw [hw2]
    try rw [hw3]
    try rw [s2]
    try rw [hB1]
    unfold Hid
    refine wpList_storeCmd rfl _ _ rfl (B1 + 1) (plV pa ps pt) rfl rfl (HX.out.at HA2.out (by simp)) rfl rfl (by simp [plV, Value.oneCell']) ?_
    intro w99 h99 m99
    go_wp2_with fail
    refine bodyPost_ret (ret_cmd rfl _ _ _ _ rfl rfl h99) rfl ?_
    exact HFIN.out _ _ _ _ (fun w' _ => plC_c w' pa ps pt) (HX.out) m99
  · clear y1 y2 y3 y4 y5 y9 y10 y11 y12 y13 y14 y15 y16 y17 y18 y19 y20 y21 y22 y23 y24 y25 y26 y27 x13
    obtain ⟨pa, ps, pt, -, hpl⟩ := keepPlan_w d6 d7 d8
    go_enter Tryz.func8, Tryz.ntmps8
    go_wp2_with fail
    try rw [hw2]
    try rw [hw3]
    try rw [s2]
    try rw [hB1]
    refine (hwi _).mono ?_
    rintro _ _ ⟨rfl, rfl⟩
    clear hwi
    go_wp2_with fail
    refine (hpl _).mono ?_
    rintro _ w9 ⟨rfl, m9⟩
    have HX : Hid (Moves [] w3 w9) := m9
    go_wp2_with (with_reducible refine stopStore _ _ rfl ?_)
    try rw [hw2]
    try rw [hw3]
    try rw [s2]
    try rw [hB1]
    unfold Hid
    refine wpList_storeCmd rfl _ _ rfl (B1 + 1) (plV pa ps pt) rfl rfl (HX.out.at HA2.out (by simp)) rfl rfl (by simp [plV, Value.oneCell']) ?_
    intro w99 h99 m99
    go_wp2_with fail
    refine bodyPost_ret (ret_cmd rfl _ _ _ _ rfl rfl h99) rfl ?_
    exact HFIN.out _ _ _ _ (fun w' _ => plC_c w' pa ps pt) (HX.out) m99
  · clear y1 y2 y3 y4 y5 y6 y7 y8 y9 y10 y11 y12 y13 y14 y15 y16 y17 y18 y19 y20 y21 y22 y23 y24 y25 y26 y27 x13
    have HX : Hid (Moves [] w3 w3) := Moves.refl _ _
    go_enter Tryz.func8, Tryz.ntmps8
    go_wp2_with fail
    try rw [hw2]
    try rw [hw3]
    try rw [s2]
    try rw [hB1]
    refine (hwi _).mono ?_
    rintro _ _ ⟨rfl, rfl⟩
    clear hwi
    go_wp2_with (with_reducible refine stopStore _ _ rfl ?_)
    try rw [hw2]
    try rw [hw3]
    try rw [s2]
    try rw [hB1]
    unfold Hid
    refine wpList_storeCmd rfl _ _ rfl (B1 + 1) (plV 0 ⟨#[]⟩ 0) rfl rfl (HX.out.at HA2.out (by simp)) rfl rfl (by simp [plV, Value.oneCell']) ?_
    intro w99 h99 m99
    go_wp2_with fail
    refine bodyPost_ret (ret_cmd rfl _ _ _ _ rfl rfl h99) rfl ?_
    exact HFIN.out _ _ _ _ (fun w' _ => plC_c w' 0 ⟨#[]⟩ 0) (HX.out) m99
  · clear y1 y2 y4 y5 y6 y7 y8 y9 y10 y11 y12 y13 y14 y15 y16 y17 y18 y19 y20 y21 y22 y23 y24 y25 y26 y27
    go_enter Tryz.func8, Tryz.ntmps8
    go_wp2_with fail
    try rw [hw2]
    try rw [hw3]
    try rw [s2]
    try rw [hB1]
    refine (hwi _).mono ?_
    rintro _ _ ⟨rfl, rfl⟩
    clear hwi
    have hne1 : r ∉ [B1 + 1] := by
      have := HLR.out
      have := HSZ.out
      simp; omega
    have hne2 : B1 ∉ [B1 + 1] := by simp
    go_wp2_with fail
    refine wp_region_noPanic ?_
    refine wp_region_held_drew (S := (fun w' => w'.cell? ⟨r, 13, none⟩ = some (.int .i64 S.last) ∧ w'.cell? ⟨B1, 3, none⟩ = some (.int .i64 d3))) (by kernel_rfl) ?_ (fun hHeld => ?_)
    · first | (go_keep; done) | first | exact ⟨x13, y3⟩ | exact ⟨m99.cellOf x13 hne1, m99.cellOf y3 hne2⟩
    refine wpT 0 ⟨some 27, .move (.tmp 0), 25, "law.go:42", #[], none⟩ ?_
    refine wpT 1 ⟨some 28, .nilCheck (.tmp 27), 0, "law.go:42", #[⟨0, .data⟩], none⟩ ?_
    refine wpT 2 ⟨some 29, .fieldAddr 79 (.tmp 28) 3, 0, "law.go:42", #[⟨1, .data⟩], none⟩ ?_
    refine wpT 3 ⟨some 30, .load 3 (.tmp 29), 3, "law.go:42", #[⟨2, .data⟩], none⟩ ?_
    refine wpT 4 ⟨some 31, .fieldAddr 44 (.tmp 3) 3, 0, "law.go:42", #[], none⟩ ?_
    refine wpT 5 ⟨some 32, .load 3 (.tmp 31), 3, "law.go:42", #[⟨4, .data⟩], none⟩ ?_
    refine wpR 6 ⟨some 33, .call ⟨.value (.func 23), #[.tmp 32, .const (.int .i64 (-2)), .const (.int .i64 1)], #[3, 3, 3]⟩, 3, "law.go:42", #[⟨5, .data⟩], none⟩ (fun K hK => ?_)
    go_simp
    go_at_call 23
    refine (within21_w d3 _).mono ?_
    rintro _ w9 ⟨z, -, rfl, rfl⟩
    have m9 : Moves [] w3 w3.drew := (Moves.refl [] w3).drew
    refine hK.out _ _ ?_ (fun hHeld => ?_)
    · first | exact ⟨x13, y3⟩ | exact ⟨m99.cellOf x13 hne1, m99.cellOf y3 hne2⟩
    clear hK K
    try simp only [Act.put, sp1, sp2, sp3]
    refine wpT 7 ⟨some 34, .binOp .add 3 (.tmp 30) (.tmp 33) 3, 3, "law.go:42", #[⟨3, .data⟩, ⟨6, .data⟩], none⟩ ?_
    refine wpT 8 ⟨some 35, .build 39 #[(0, .const (.int .i64 9)), (3, .tmp 34)], 39, "law.go:42", #[⟨7, .data⟩], none⟩ ?_
    refine wpR 9 ⟨none, .store 39 (.tmp 4) (.tmp 35), 0, "law.go:42", #[⟨8, .data⟩, ⟨6, .chain⟩, ⟨0, .phase⟩, ⟨1, .phase⟩, ⟨2, .phase⟩, ⟨3, .phase⟩, ⟨4, .phase⟩, ⟨5, .phase⟩, ⟨6, .phase⟩, ⟨7, .phase⟩, ⟨8, .phase⟩], none⟩ (fun K hK => ?_)
    refine store_step 39 _ _ rfl (B1 + 1) 0 _ (pubV _ _).toList rfl rfl rfl Tryz.size39 (by rfl) (show w3.drew.heap[B1 + 1]? = _ from HA2.out) (by show 19 ≤ 19; omega) (by simp [pubV, Value.oneCell']) (pubV _ _) rfl ?_
    intro w99 h99 m99
    refine hK.out _ _ ?_ (fun hHeld => ?_)
    · first | exact ⟨x13, y3⟩ | exact ⟨m99.cellOf x13 hne1, m99.cellOf y3 hne2⟩
    clear hK K
    refine wpAnyH_done (by kernel_rfl) ?_ _
    refine NoPanic.normal ?_
    go_wp2_with fail
    refine bodyPost_ret (ret_cmd rfl _ _ _ _ rfl rfl h99) rfl ?_
    exact HFIN.out _ _ _ _ (fun w' _ => pubC_c w' _ _) (Moves.refl [] w3).drew m99
  · clear y1 y3 y4 y5 y6 y7 y8 y9 y10 y11 y12 y13 y14 y15 y16 y17 y18 y19 y20 y21 y22 y23 y24 y25 y26 y27
    go_enter Tryz.func8, Tryz.ntmps8
    go_wp2_with fail
    try rw [hw2]
    try rw [hw3]
    try rw [s2]
    try rw [hB1]
    refine (hwi _).mono ?_
    rintro _ _ ⟨rfl, rfl⟩
    clear hwi
    have hne1 : r ∉ [B1 + 1] := by
      have := HLR.out
      have := HSZ.out
      simp; omega
    have hne2 : B1 ∉ [B1 + 1] := by simp
    go_wp2_with fail
    refine wp_region_noPanic ?_
    refine wp_region_held_drew (S := (fun w' => w'.cell? ⟨r, 13, none⟩ = some (.int .i64 S.last) ∧ w'.cell? ⟨B1, 2, none⟩ = some (.int .i64 d2))) (by kernel_rfl) ?_ (fun hHeld => ?_)
    · first | (go_keep; done) | first | exact ⟨x13, y2⟩ | exact ⟨m99.cellOf x13 hne1, m99.cellOf y2 hne2⟩
    refine wpT 0 ⟨some 38, .move (.tmp 0), 25, "law.go:44", #[], none⟩ ?_
    refine wpT 1 ⟨some 39, .nilCheck (.tmp 38), 0, "law.go:44", #[⟨0, .data⟩], none⟩ ?_
    refine wpT 2 ⟨some 40, .fieldAddr 79 (.tmp 39) 3, 0, "law.go:44", #[⟨1, .data⟩], none⟩ ?_
    refine wpT 3 ⟨some 41, .load 3 (.tmp 40), 3, "law.go:44", #[⟨2, .data⟩], none⟩ ?_
    refine wpT 4 ⟨some 42, .fieldAddr 44 (.tmp 3) 2, 0, "law.go:44", #[], none⟩ ?_
    refine wpT 5 ⟨some 43, .load 3 (.tmp 42), 3, "law.go:44", #[⟨4, .data⟩], none⟩ ?_
    refine wpT 6 ⟨some 44, .binOp .and 3 (.tmp 43) (.const (.int .i64 1)) 3, 3, "law.go:44", #[⟨5, .data⟩], none⟩ ?_
    refine wpT 7 ⟨some 45, .unOp .neg 3 (.tmp 44), 3, "law.go:44", #[⟨6, .data⟩], none⟩ ?_
    refine wpT 8 ⟨some 46, .build 39 #[(0, .const (.int .i64 9)), (3, .tmp 41), (5, .tmp 45)], 39, "law.go:44", #[⟨3, .data⟩, ⟨7, .data⟩], none⟩ ?_
    refine wpR 9 ⟨none, .store 39 (.tmp 4) (.tmp 46), 0, "law.go:44", #[⟨8, .data⟩, ⟨0, .phase⟩, ⟨1, .phase⟩, ⟨2, .phase⟩, ⟨3, .phase⟩, ⟨4, .phase⟩, ⟨5, .phase⟩, ⟨6, .phase⟩, ⟨7, .phase⟩, ⟨8, .phase⟩], none⟩ (fun K hK => ?_)
    refine store_step 39 _ _ rfl (B1 + 1) 0 _ (pubV _ _).toList rfl rfl rfl Tryz.size39 (by rfl) (show w3.drew.heap[B1 + 1]? = _ from HA2.out) (by show 19 ≤ 19; omega) (by simp [pubV, Value.oneCell']) (pubV _ _) rfl ?_
    intro w99 h99 m99
    refine hK.out _ _ ?_ (fun hHeld => ?_)
    · first | exact ⟨x13, y2⟩ | exact ⟨m99.cellOf x13 hne1, m99.cellOf y2 hne2⟩
    clear hK K
    refine wpAnyH_done (by kernel_rfl) ?_ _
    refine NoPanic.normal ?_
    go_wp2_with fail
    refine bodyPost_ret (ret_cmd rfl _ _ _ _ rfl rfl h99) rfl ?_
    exact HFIN.out _ _ _ _ (fun w' _ => pubC_c w' _ _) (Moves.refl [] w3).drew m99
  · clear y1 y2 y3 y4 y5 y6 y7 y8 y9 y10 y11 y12 y13 y14 y15 y16 y17 y18 y19 y20 y21 y22 y23 y24 y25 y26 y27 x13
    have HX : Hid (Moves [] w3 w3) := Moves.refl _ _
    go_enter Tryz.func8, Tryz.ntmps8
    go_wp2_with fail
    try rw [hw2]
    try rw [hw3]
    try rw [s2]
    try rw [hB1]
    refine (hwi _).mono ?_
    rintro _ _ ⟨rfl, rfl⟩
    clear hwi
    go_wp2_with (with_reducible refine stopLoad _ rfl ?_)
    unfold Hid
    refine wpList_loadCmdAt rfl _ rfl B1 9 rfl (#[.int .i64 C.kind, .int .i64 C.op.kind, .string C.op.row, .string C.op.hi, .bool C.op.cd.has, .bool C.op.cd.want, .string C.op.cd.col, .int .i64 C.op.cd.v.kind, .slice ca cn cc, .float .f64 C.op.cd.v.n, .slice la ln lc, .int .i64 C.op.most, .string C.lo, .string C.hi, .int .i64 C.gen, .string C.at', .int .i64 C.to, .int .i64 C.act, .slice sa sn sc] : Array Value).toList HRG.out rfl ?_
    go_wp2_with (with_reducible refine stopStore _ _ rfl ?_)
    try rw [hw2]
    try rw [hw3]
    try rw [s2]
    try rw [hB1]
    unfold Hid
    refine wpList_storeCmd rfl _ _ rfl (B1 + 1) #[.int .i64 C.kind, .int .i64 C.op.kind, .string C.op.row, .string C.op.hi, .bool C.op.cd.has, .bool C.op.cd.want, .string C.op.cd.col, .int .i64 C.op.cd.v.kind, .slice ca cn cc, .float .f64 C.op.cd.v.n, .slice la ln lc, .int .i64 C.op.most, .string C.lo, .string C.hi, .int .i64 C.gen, .string C.at', .int .i64 C.to, .int .i64 C.act, .slice sa sn sc] rfl rfl (HX.out.at HA2.out (by simp)) rfl rfl (by simp [Value.oneCell']) ?_
    intro w99 h99 m99
    go_wp2_with fail
    refine bodyPost_ret (ret_cmd rfl _ _ _ _ rfl rfl h99) rfl ?_
    exact HFIN.out _ _ _ _ (fun w' mv => HC.out.moves mv) (HX.out) m99
end Go.Proofs.YtilbbnmhnacnlaaGreat
