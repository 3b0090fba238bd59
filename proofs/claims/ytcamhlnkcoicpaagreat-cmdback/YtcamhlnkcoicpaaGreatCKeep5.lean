/-
  A change as it is drawn: one that may be; the law's own made: a row by the document's own changes.
-/
import Derived.Test.YtcamhlnkcoicpaaGreatCB19
import Derived.Test.YtcamhlnkcoicpaaGreatCB16
namespace Go.Proofs.YtcamhlnkcoicpaaGreat
open Go.RowKit

theorem tmod31 (n : Int) : -30 ≤ n.tmod 31 ∧ n.tmod 31 ≤ 30 := by
  rcases Int.le_total 0 n with h | h
  · rw [Int.tmod_eq_emod_of_nonneg h]; omega
  · have e : n.tmod 31 = -((-n).tmod 31) := by rw [Int.neg_tmod, Int.neg_neg]
    rw [e, Int.tmod_eq_emod_of_nonneg (by omega)]; omega
theorem within30_w (n : Int) (w : World) :
    Calls Tryz.prog 19 #[.int .i64 n, .int .i64 0, .int .i64 30] w fun e w' => ∃ r : Int, (0 ≤ r ∧ r ≤ 30) ∧ e = .returned (.int .i64 r) ∧ w = w' := by
  go_enter Tryz.func19, Tryz.ntmps19
  go_wp2
  all_goals go_ret
  all_goals refine ⟨_, ?_, rfl, rfl⟩
  all_goals have t := tmod31 n
  all_goals generalize n.tmod 31 = m at *
  all_goals try unfold wrap64
  all_goals omega
theorem six_frozen {w : World} {p : Nat} {x0 x1 x2 x3 x4 x5 : Value} {t : TypeId} (h : w.heap[p]? = some (.cells #[x0, x1, x2, x3, x4, x5] t (0, 0))) : w.cell? ⟨p, 0, none⟩ = some x0 ∧ w.cell? ⟨p, 1, none⟩ = some x1 ∧ w.cell? ⟨p, 2, none⟩ = some x2 ∧ w.cell? ⟨p, 3, none⟩ = some x3 ∧ w.cell? ⟨p, 4, none⟩ = some x4 ∧ w.cell? ⟨p, 5, none⟩ = some x5 ∧ w.frozen? ⟨p, 0, none⟩ = false ∧ w.frozen? ⟨p, 1, none⟩ = false ∧ w.frozen? ⟨p, 2, none⟩ = false ∧ w.frozen? ⟨p, 3, none⟩ = false ∧ w.frozen? ⟨p, 4, none⟩ = false ∧ w.frozen? ⟨p, 5, none⟩ = false := by
  simp [World.cell?, World.frozen?, h]
theorem seven_cells {w : World} {p : Nat} {x0 x1 x2 x3 x4 x5 x6 : Value} {t : TypeId} (h : w.heap[p]? = some (.cells #[x0, x1, x2, x3, x4, x5, x6] t (0, 0))) : w.cell? ⟨p, 0, none⟩ = some x0 ∧ w.cell? ⟨p, 1, none⟩ = some x1 ∧ w.cell? ⟨p, 2, none⟩ = some x2 ∧ w.cell? ⟨p, 3, none⟩ = some x3 ∧ w.cell? ⟨p, 4, none⟩ = some x4 ∧ w.cell? ⟨p, 5, none⟩ = some x5 ∧ w.cell? ⟨p, 6, none⟩ = some x6 := by
  simp [World.cell?, h]
theorem stored6 {w0 w : World} {p : Nat} {a0 a1 a2 a3 a4 a5 : Value} {t : TypeId} (hp : w.heap[p]? = some (.cells #[a0, a1, a2, a3, a4, a5] t (0, 0))) (m : Moves [] w0 w) (hlt : w0.heap.size ≤ p) (x0 x1 x2 x3 x4 x5 : Value) :
    ((((((w.setCell ⟨p, 0, none⟩ (x0)).setCell ⟨p, 1, none⟩ (x1)).setCell ⟨p, 2, none⟩ (x2)).setCell ⟨p, 3, none⟩ (x3)).setCell ⟨p, 4, none⟩ (x4)).setCell ⟨p, 5, none⟩ (x5)).heap[p]? = some (.cells #[x0, x1, x2, x3, x4, x5] t (0, 0)) ∧ Moves [] w0 ((((((w.setCell ⟨p, 0, none⟩ (x0)).setCell ⟨p, 1, none⟩ (x1)).setCell ⟨p, 2, none⟩ (x2)).setCell ⟨p, 3, none⟩ (x3)).setCell ⟨p, 4, none⟩ (x4)).setCell ⟨p, 5, none⟩ (x5)) := by
  have hm : Moves [p] w ((((((w.setCell ⟨p, 0, none⟩ (x0)).setCell ⟨p, 1, none⟩ (x1)).setCell ⟨p, 2, none⟩ (x2)).setCell ⟨p, 3, none⟩ (x3)).setCell ⟨p, 4, none⟩ (x4)).setCell ⟨p, 5, none⟩ (x5)) := (((((moves_set _ _ _ _).then (moves_set _ _ _ _)).then (moves_set _ _ _ _)).then (moves_set _ _ _ _)).then (moves_set _ _ _ _)).then (moves_set _ _ _ _)
  refine ⟨?_, m.trans hm (fun k hk => .inr (by simp at hk; omega))⟩
  exact heap_set (i := 5) (heap_set (i := 4) (heap_set (i := 3) (heap_set (i := 2) (heap_set (i := 1) (heap_set (i := 0) hp x0) x1) x2) x3) x4) x5
theorem Tryz.size27 : (Tryz.prog.info? 27).map (·.size) = some 6 := by kernel_rfl
theorem ret_chg {fn : Func} {p : Tmp} (h : fn.results = #[.cell p 27]) (tmps : Array Value) (w : World) (g : Nat) (x0 x1 x2 x3 x4 x5 : Value) (hp : tmps.getD p undef = .pointer (some ⟨g, 0, none⟩)) (hg : w.heap[g]? = some (.cells #[x0, x1, x2, x3, x4, x5] 27 (0, 0))) :
    (results fn tmps).run Tryz.prog w = .ok (.agg #[x0, x1, x2, x3, x4, x5]) w :=
  results_cell_row h tmps w g 27 _ (0, 0) _ hp hg Tryz.underlying27 rfl Tryz.size27
theorem colNames_name {s : ByteArray} (h : s ∈ colNames) : pname s = true := by
  simp only [colNames, List.mem_cons, List.not_mem_nil, or_false] at h
  rcases h with rfl | rfl | rfl | rfl | rfl <;> decide
def bTurned : ByteArray := ⟨#[116, 117, 114, 110, 101, 100]⟩
theorem colNames_turned {s : ByteArray} (h : s ∈ colNames) : s ≠ bTurned := by
  simp only [colNames, List.mem_cons, List.not_mem_nil, or_false] at h
  rcases h with rfl | rfl | rfl | rfl | rfl <;> decide
/-- A change that is drawn may be. -/
theorem drawn_right {c : Pchg} (hk : 1 ≤ c.kind ∧ c.kind ≤ 5) (h1 : c.kind ≠ 4 → pname c.col = true) (h2 : 0 ≤ c.t ∧ c.t ≤ 30) (h3 : c.kind = 1 → pvr c.v = true) (h4 : c.kind = 5 → ∃ x, c.v = pnum x) : cRight c = 0 := by
  have ht : ptime c.t = true := by unfold ptime; simp; omega
  unfold cRight
  rw [if_neg (by simp; omega)]
  by_cases k4 : c.kind = 4
  · rw [if_pos k4]
  · rw [if_neg k4, if_neg (by simp [h1 k4])]
    by_cases k3 : c.kind = 3
    · rw [if_pos k3]
    · rw [if_neg k3, if_neg (by simp [ht])]
      by_cases k2 : c.kind = 2
      · rw [if_pos k2]
      · rw [if_neg k2]
        by_cases k5 : c.kind = 5
        · obtain ⟨x, hx⟩ := h4 k5
          rw [hx, if_neg (by simp [pvr_num]), if_neg (by simp [pnum])]
        · rw [if_neg (by simp [h3 (by omega)]), if_neg (by simp [k5])]

set_option maxRecDepth 100000 in
set_option maxHeartbeats 16000000 in
theorem keepChange_n (W w : World) (ki co ti : Int) (tb : Bool) (tn : Int) (tx : Nat) (a2 : Option Addr) (l2 c2 : Nat) (hK : KArg W (.agg #[.bool tb, .int .i64 tn, .float .f64 tx, .slice a2 l2 c2])) :
    Calls Tryz.prog 141 #[.agg #[.int .i64 ki, .int .i64 co, .int .i64 ti, .bool tb, .int .i64 tn, .float .f64 tx, .slice a2 l2 c2]] w fun e w' => ∃ (c : Pchg) (a : Option Addr) (n cap : Nat), e = .returned (.agg #[.int .i64 c.kind, .string c.col, .int .i64 c.t, .int .i64 c.v.kind, .slice a n cap, .float .f64 c.v.n]) ∧ VA W [.int .i64 c.v.kind, .slice a n cap, .float .f64 c.v.n] c.v ∧ cRight c = 0 ∧ c.col ≠ bTurned ∧ Moves [] w w' := by
  have HK : Hid (KArg W (.agg #[.bool tb, .int .i64 tn, .float .f64 tx, .slice a2 l2 c2])) := hK
  obtain ⟨_, _, _, _, _, _, _, _, hKe, htx0, _⟩ := hK.out
  have htx : Pl.Fits tx := by
    simp only [Value.agg.injEq, Array.mk.injEq, List.cons.injEq, Value.float.injEq, and_true, true_and] at hKe
    rw [hKe.2.2.1]
    exact htx0
  clear hKe htx0 hK
  go_enter Tryz.func141, Tryz.ntmps141
  go_wp2_with fail
  obtain ⟨wq, hwq⟩ : ∃ wq, (w.alloc (.cells #[.int .i64 ki, .int .i64 co, .int .i64 ti, .bool tb, .int .i64 tn, .float .f64 tx, .slice a2 l2 c2] 180)).alloc (.cells #[.int .i64 0, .string ⟨#[]⟩, .int .i64 0, .int .i64 0, .slice none 0 0, .float .f64 0] 27) = wq := ⟨_, rfl⟩
  obtain ⟨p0, p1, m1⟩ : wq.heap[w.heap.size]? = some (.cells #[.int .i64 ki, .int .i64 co, .int .i64 ti, .bool tb, .int .i64 tn, .float .f64 tx, .slice a2 l2 c2] 180 (0, 0)) ∧ wq.heap[w.heap.size + 1]? = some (.cells #[.int .i64 0, .string ⟨#[]⟩, .int .i64 0, .int .i64 0, .slice none 0 0, .float .f64 0] 27 (0, 0)) ∧ Moves [] w wq := by rw [← hwq]; exact boxes (Moves.refl _ _)
  rw [hwq]
  obtain ⟨pr, hpr⟩ : ∃ pr, w.heap.size + 1 = pr := ⟨_, rfl⟩
  obtain ⟨pa, hpa⟩ : ∃ pa, w.heap.size = pa := ⟨_, rfl⟩
  rw [hpr] at p1
  rw [hpa] at p0
  rw [hpr, hpa]
  have hpr' : w.heap.size ≤ pr := by omega
  have hlr : pr < wq.heap.size := lt_of_block p1
  obtain ⟨d0, d1, d2, d3, d4, d5, d6⟩ := seven_cells p0
  have hS : ∀ w', Moves [] wq w' → ((fun w' => w'.cell? ⟨pa, 0, none⟩ = some (.int .i64 ki) ∧ w'.cell? ⟨pa, 1, none⟩ = some (.int .i64 co) ∧ w'.cell? ⟨pa, 2, none⟩ = some (.int .i64 ti) ∧ w'.cell? ⟨pa, 3, none⟩ = some (.bool tb) ∧ w'.cell? ⟨pa, 4, none⟩ = some (.int .i64 tn) ∧ w'.cell? ⟨pa, 5, none⟩ = some (.float .f64 tx) ∧ w'.cell? ⟨pa, 6, none⟩ = some (.slice a2 l2 c2)) w') := fun w' m' => ⟨m'.cell d0, m'.cell d1, m'.cell d2, m'.cell d3, m'.cell d4, m'.cell d5, m'.cell d6⟩
  have mW : Moves [] wq wq.drew := (Moves.refl _ _).drew
  clear hwq hpr hpa
  refine wp_some [4, 5, 6, 7, 8, 9, 10, 11, 12, 13, 14, 15, 16, 17, 18, 3] (fun u w' => ∃ (j : Nat) (s : ByteArray) (r2 : Int) (A : Vm) (adA : Option Addr) (lenA capA pb : Nat), j < 5 ∧ s ∈ colNames ∧ (0 ≤ r2 ∧ r2 ≤ 30) ∧ VA W [.int .i64 A.kind, .slice adA lenA capA, .float .f64 A.n] A.pv ∧ pvr A.pv = true ∧ u 3 = .pointer (some ⟨pb, 0, none⟩) ∧ w'.heap[pb]? = some (.cells #[.int .i64 (1 + (j : Int)), .string s, .int .i64 r2, .int .i64 A.kind, .slice adA lenA capA, .float .f64 A.n] 27 (0, 0)) ∧ wq.heap.size ≤ pb ∧ Moves [] wq w') ?_ ?_
  · refine wp_region_noPanic ?_
    refine wp_region_held_drew (S := (fun w' => w'.cell? ⟨pa, 0, none⟩ = some (.int .i64 ki) ∧ w'.cell? ⟨pa, 1, none⟩ = some (.int .i64 co) ∧ w'.cell? ⟨pa, 2, none⟩ = some (.int .i64 ti) ∧ w'.cell? ⟨pa, 3, none⟩ = some (.bool tb) ∧ w'.cell? ⟨pa, 4, none⟩ = some (.int .i64 tn) ∧ w'.cell? ⟨pa, 5, none⟩ = some (.float .f64 tx) ∧ w'.cell? ⟨pa, 6, none⟩ = some (.slice a2 l2 c2))) (by kernel_rfl) ?_ (fun hHeld => ?_)
    · first | (go_keep; done) | first | exact hS _ st2 | exact hS _ mW
    refine wpAnyH_take (i := 0) (oi := { dst := some 4, op := Op.fieldAddr 180 (Operand.tmp 1) 0, type := 0, pos := "same.go:82", after := #[], guard := none }) (v := ?_) rfl (by kernel_rfl) (by kernel_rfl) (by kernel_rfl) (fun _ _ _ h => h) (Or.inl ⟨by rfl, ?_⟩) (by assumption) ?_
    rotate_left
    · (intro w hSw; (try dsimp only at hSw); go_simp; try (with_reducible rfl))
    try simp only [Act.put, List.setIfInBounds_toArray, List.set_cons_zero, List.set_cons_succ]
    refine wpAnyH_take (i := 1) (oi := { dst := some 5, op := Op.load 3 (Operand.tmp 4), type := 3, pos := "same.go:82", after := #[{ on := 0, ground := Ground.data }], guard := none }) (v := ?_) rfl (by kernel_rfl) (by kernel_rfl) (by kernel_rfl) (fun _ _ _ h => h) (Or.inl ⟨by rfl, ?_⟩) (by assumption) ?_
    rotate_left
    · (intro w hSw; (try dsimp only at hSw); go_simp; try (with_reducible rfl))
    try simp only [Act.put, List.setIfInBounds_toArray, List.set_cons_zero, List.set_cons_succ]
    refine wpAnyH_take (i := 5) (oi := { dst := some 9, op := Op.fieldAddr 180 (Operand.tmp 1) 1, type := 0, pos := "same.go:82", after := #[], guard := none }) (v := ?_) rfl (by kernel_rfl) (by kernel_rfl) (by kernel_rfl) (fun _ _ _ h => h) (Or.inl ⟨by rfl, ?_⟩) (by assumption) ?_
    rotate_left
    · (intro w hSw; (try dsimp only at hSw); go_simp; try (with_reducible rfl))
    try simp only [Act.put, List.setIfInBounds_toArray, List.set_cons_zero, List.set_cons_succ]
    refine wpAnyH_take (i := 6) (oi := { dst := some 10, op := Op.load 3 (Operand.tmp 9), type := 3, pos := "same.go:82", after := #[{ on := 5, ground := Ground.data }], guard := none }) (v := ?_) rfl (by kernel_rfl) (by kernel_rfl) (by kernel_rfl) (fun _ _ _ h => h) (Or.inl ⟨by rfl, ?_⟩) (by assumption) ?_
    rotate_left
    · (intro w hSw; (try dsimp only at hSw); go_simp; try (with_reducible rfl))
    try simp only [Act.put, List.setIfInBounds_toArray, List.set_cons_zero, List.set_cons_succ]
    refine wpAnyH_take (i := 8) (oi := { dst := some 12, op := Op.fieldAddr 180 (Operand.tmp 1) 2, type := 0, pos := "same.go:82", after := #[], guard := none }) (v := ?_) rfl (by kernel_rfl) (by kernel_rfl) (by kernel_rfl) (fun _ _ _ h => h) (Or.inl ⟨by rfl, ?_⟩) (by assumption) ?_
    rotate_left
    · (intro w hSw; (try dsimp only at hSw); go_simp; try (with_reducible rfl))
    try simp only [Act.put, List.setIfInBounds_toArray, List.set_cons_zero, List.set_cons_succ]
    refine wpAnyH_take (i := 9) (oi := { dst := some 13, op := Op.load 2 (Operand.tmp 12), type := 2, pos := "same.go:82", after := #[{ on := 8, ground := Ground.data }], guard := none }) (v := ?_) rfl (by kernel_rfl) (by kernel_rfl) (by kernel_rfl) (fun _ _ _ h => h) (Or.inl ⟨by rfl, ?_⟩) (by assumption) ?_
    rotate_left
    · (intro w hSw; (try dsimp only at hSw); go_simp; try (with_reducible rfl))
    try simp only [Act.put, List.setIfInBounds_toArray, List.set_cons_zero, List.set_cons_succ]
    refine wpAnyH_take (i := 11) (oi := { dst := some 15, op := Op.fieldAddr 180 (Operand.tmp 1) 3, type := 0, pos := "same.go:82", after := #[], guard := none }) (v := ?_) rfl (by kernel_rfl) (by kernel_rfl) (by kernel_rfl) (fun _ _ _ h => h) (Or.inl ⟨by rfl, ?_⟩) (by assumption) ?_
    rotate_left
    · (intro w hSw; (try dsimp only at hSw); go_simp; try (with_reducible rfl))
    try simp only [Act.put, List.setIfInBounds_toArray, List.set_cons_zero, List.set_cons_succ]
    refine wpAnyH_take (i := 12) (oi := { dst := some 16, op := Op.load 46 (Operand.tmp 15), type := 46, pos := "same.go:82", after := #[{ on := 11, ground := Ground.data }], guard := none }) (v := ?_) rfl (by kernel_rfl) (by kernel_rfl) (by kernel_rfl) (fun _ _ _ h => h) (Or.inl ⟨by rfl, ?_⟩) (by assumption) ?_
    rotate_left
    · (intro w hSw; (try dsimp only at hSw); go_simp; try (with_reducible rfl))
    try simp only [Act.put, List.setIfInBounds_toArray, List.set_cons_zero, List.set_cons_succ]
    refine wpAnyH_ready (rs := [2, 15]) (by kernel_rfl) (by simp) ?_
    refine AllReadyH.cons (o := { dst := some 6, op := Op.call { callee := Callee.value (Operand.func 19), args := #[Operand.tmp 5, Operand.const (Value.int IntKind.i64 0), Operand.const (Value.int IntKind.i64 1048576)], argTypes := #[3, 3, 3] }, type := 3, pos := "same.go:82", after := #[{ on := 1, ground := Ground.data }], guard := none }) rfl (fun K hK => ?_) (AllReadyH.cons (o := { dst := some 3, op := Op.alloc 27, type := 0, pos := "same.go:82", after := #[], guard := none }) rfl (fun K hK => ?_) AllReadyH.nil)
    · go_simp
      go_at_call 19
      refine (within_w _ _).mono ?_
      rintro _ _ ⟨r, hr, rfl, rfl⟩
      obtain ⟨j, hj, hje⟩ := tmod5 hr
      have hj1 : IntKind.i64.wrap (1 + (j : Int)) = 1 + (j : Int) := by rw [IntWalk.i64_in _ (by omega)]
      refine hK.out _ _ ?_ (fun hHeld => ?_)
      · first | exact hS _ st2 | exact hS _ mW
      clear hK K
      try simp only [Act.put, List.setIfInBounds_toArray, List.set_cons_zero, List.set_cons_succ]
      refine wpAnyH_take (i := 3) (oi := { dst := some 7, op := Op.binOp BinOp.rem 3 (Operand.tmp 6) (Operand.const (Value.int IntKind.i64 5)) 3, type := 3, pos := "same.go:82", after := #[{ on := 2, ground := Ground.data }], guard := none }) (v := ?_) rfl (by kernel_rfl) (by kernel_rfl) (by kernel_rfl) (fun _ _ _ h => h) (Or.inl ⟨by rfl, ?_⟩) (by assumption) ?_
      rotate_left
      · (intro w hSw; (try dsimp only at hSw); go_simp; try (with_reducible rfl))
      try simp only [Act.put, List.setIfInBounds_toArray, List.set_cons_zero, List.set_cons_succ]
      refine wpAnyH_take (i := 4) (oi := { dst := some 8, op := Op.binOp BinOp.add 3 (Operand.const (Value.int IntKind.i64 1)) (Operand.tmp 7) 3, type := 3, pos := "same.go:82", after := #[{ on := 3, ground := Ground.data }], guard := none }) (v := ?_) rfl (by kernel_rfl) (by kernel_rfl) (by kernel_rfl) (fun _ _ _ h => h) (Or.inl ⟨by rfl, ?_⟩) (by assumption) ?_
      rotate_left
      · (intro w hSw; (try dsimp only at hSw); go_simp; try (with_reducible rfl))
      try simp only [Act.put, List.setIfInBounds_toArray, List.set_cons_zero, List.set_cons_succ]
      refine wpAnyH_ready (rs := [7, 15]) (by kernel_rfl) (by simp) ?_
      refine AllReadyH.cons (o := { dst := some 11, op := Op.call { callee := Callee.value (Operand.func 38), args := #[Operand.tmp 10], argTypes := #[3] }, type := 9, pos := "same.go:82", after := #[{ on := 6, ground := Ground.data }, { on := 2, ground := Ground.chain }], guard := none }) rfl (fun K hK => ?_) (AllReadyH.cons (o := { dst := some 3, op := Op.alloc 27, type := 0, pos := "same.go:82", after := #[], guard := none }) rfl (fun K hK => ?_) AllReadyH.nil)
      · go_simp
        go_at_call 38
        refine (keepCol_w _ _).mono ?_
        rintro _ w7 ⟨s, rfl, hs, m7⟩
        replace mW := mW.then m7
        refine hK.out _ _ ?_ (fun hHeld => ?_)
        · first | exact hS _ st2 | exact hS _ mW
        clear hK K
        try simp only [Act.put, List.setIfInBounds_toArray, List.set_cons_zero, List.set_cons_succ]
        refine wpAnyH_ready (rs := [10, 15]) (by kernel_rfl) (by simp) ?_
        refine AllReadyH.cons (o := { dst := some 14, op := Op.call { callee := Callee.value (Operand.func 19), args := #[Operand.tmp 13, Operand.const (Value.int IntKind.i64 0), Operand.const (Value.int IntKind.i64 30)], argTypes := #[3, 3, 3] }, type := 3, pos := "same.go:82", after := #[{ on := 9, ground := Ground.data }, { on := 7, ground := Ground.chain }], guard := none }) rfl (fun K hK => ?_) (AllReadyH.cons (o := { dst := some 3, op := Op.alloc 27, type := 0, pos := "same.go:82", after := #[], guard := none }) rfl (fun K hK => ?_) AllReadyH.nil)
        · go_simp
          go_at_call 19
          refine (within30_w _ _).mono ?_
          rintro _ _ ⟨r2, hr2, rfl, rfl⟩
          refine hK.out _ _ ?_ (fun hHeld => ?_)
          · first | exact hS _ st2 | exact hS _ mW
          clear hK K
          try simp only [Act.put, List.setIfInBounds_toArray, List.set_cons_zero, List.set_cons_succ]
          refine wpAnyH_ready (rs := [13, 15]) (by kernel_rfl) (by simp) ?_
          refine AllReadyH.cons (o := { dst := some 17, op := Op.call { callee := Callee.value (Operand.func 39), args := #[Operand.tmp 16], argTypes := #[46] }, type := 25, pos := "same.go:82", after := #[{ on := 12, ground := Ground.data }, { on := 10, ground := Ground.chain }], guard := none }) rfl (fun K hK => ?_) (AllReadyH.cons (o := { dst := some 3, op := Op.alloc 27, type := 0, pos := "same.go:82", after := #[], guard := none }) rfl (fun K hK => ?_) AllReadyH.nil)
          · go_simp
            go_at_call 39
            refine (keep_b' W _ _ HK.out).mono ?_
            rintro _ w13 ⟨A, adA, lenA, capA, rfl, hA, yA, m13⟩
            have HA : Hid (VA W [.int .i64 A.kind, .slice adA lenA capA, .float .f64 A.n] A.pv) := hA.va (by have := yA.len16; omega)
            have HY : Hid (pvr A.pv = true) := yA.right
            clear hA yA
            replace mW := mW.then m13
            refine hK.out _ _ ?_ (fun hHeld => ?_)
            · first | exact hS _ st2 | exact hS _ mW
            clear hK K
            try simp only [Act.put, List.setIfInBounds_toArray, List.set_cons_zero, List.set_cons_succ]
            refine wpAnyH_take (i := 14) (oi := { dst := some 18, op := Op.build 27 #[(0, Operand.tmp 8), (1, Operand.tmp 11), (2, Operand.tmp 14), (3, Operand.tmp 17)], type := 27, pos := "same.go:82", after := #[{ on := 4, ground := Ground.data }, { on := 7, ground := Ground.data }, { on := 10, ground := Ground.data }, { on := 13, ground := Ground.data }], guard := none }) (v := ?_) rfl (by kernel_rfl) (by kernel_rfl) (by kernel_rfl) (fun _ _ _ h => h) (Or.inl ⟨by rfl, ?_⟩) (by assumption) ?_
            rotate_left
            · (intro w hSw; (try dsimp only at hSw); go_simp; try (with_reducible rfl))
            try simp only [Act.put, List.setIfInBounds_toArray, List.set_cons_zero, List.set_cons_succ]
            refine wpAnyH_ready (rs := [15]) (by kernel_rfl) (by simp) ?_
            refine AllReadyH.cons (o := { dst := some 3, op := Op.alloc 27, type := 0, pos := "same.go:82", after := #[], guard := none }) rfl (fun K hK => ?_) AllReadyH.nil
            go_simp
            have hle := mW.size
            obtain ⟨w15, hwa⟩ : ∃ w15, w13.alloc (.cells #[.int .i64 0, .string ⟨#[]⟩, .int .i64 0, .int .i64 0, .slice none 0 0, .float .f64 0] 27) = w15 := ⟨_, rfl⟩
            have hb : w15.heap[w13.heap.size]? = some (.cells #[.int .i64 0, .string ⟨#[]⟩, .int .i64 0, .int .i64 0, .slice none 0 0, .float .f64 0] 27 (0, 0)) := by rw [← hwa]; exact heap_alloc_new w13 _
            have mA : Moves [] w13 w15 := by rw [← hwa]; exact (Moves.refl _ _).alloc _
            rw [hwa]
            obtain ⟨pb, hpb⟩ : ∃ pb, w13.heap.size = pb := ⟨_, rfl⟩
            rw [hpb] at hb ⊢
            have hle : wq.heap.size ≤ pb := by rw [← hpb]; first | exact hle | exact Nat.le_refl _
            replace mW := mW.then mA
            clear hwa hpb
            refine hK.out _ _ ?_ (fun hHeld => ?_)
            · first | exact hS _ st2 | exact hS _ mW
            clear hK K
            try simp only [Act.put, List.setIfInBounds_toArray, List.set_cons_zero, List.set_cons_succ]
            refine wpAnyH_ready (rs := [16]) (by kernel_rfl) (by simp) ?_
            refine AllReadyH.cons (o := { dst := none, op := Op.store 27 (Operand.tmp 3) (Operand.tmp 18), type := 0, pos := "same.go:82", after := #[{ on := 15, ground := Ground.data }, { on := 14, ground := Ground.data }, { on := 13, ground := Ground.chain }, { on := 0, ground := Ground.phase }, { on := 1, ground := Ground.phase }, { on := 2, ground := Ground.phase }, { on := 3, ground := Ground.phase }, { on := 4, ground := Ground.phase }, { on := 5, ground := Ground.phase }, { on := 6, ground := Ground.phase }, { on := 7, ground := Ground.phase }, { on := 8, ground := Ground.phase }, { on := 9, ground := Ground.phase }, { on := 10, ground := Ground.phase }, { on := 11, ground := Ground.phase }, { on := 12, ground := Ground.phase }, { on := 13, ground := Ground.phase }, { on := 14, ground := Ground.phase }, { on := 15, ground := Ground.phase }], guard := none }) rfl (fun K hK => ?_) AllReadyH.nil
            obtain ⟨x0, x1, x2, x3, x4, x5, y0, y1, y2, y3, y4, y5⟩ := six_frozen hb
            obtain ⟨st1, st2⟩ := stored6 hb mW hle (.int .i64 (1 + (j : Int))) (.string s) (.int .i64 r2) (.int .i64 A.kind) (.slice adA lenA capA) (.float .f64 A.n)
            go_simp
            refine hK.out _ _ ?_ (fun hHeld => ?_)
            · first | exact hS _ st2 | exact hS _ mW
            clear hK K
            refine wpAnyH_done (by kernel_rfl) ?_ _
            refine NoPanic.normal ?_
            exact ⟨rfl, by kernel_rfl, j, s, r2, A, adA, lenA, capA, pb, hj, hs, hr2, HA.out, HY.out, by kernel_rfl, st1, hle, st2⟩
          · go_simp
            have hle := mW.size
            obtain ⟨w15, hwa⟩ : ∃ w15, w7.alloc (.cells #[.int .i64 0, .string ⟨#[]⟩, .int .i64 0, .int .i64 0, .slice none 0 0, .float .f64 0] 27) = w15 := ⟨_, rfl⟩
            have hb : w15.heap[w7.heap.size]? = some (.cells #[.int .i64 0, .string ⟨#[]⟩, .int .i64 0, .int .i64 0, .slice none 0 0, .float .f64 0] 27 (0, 0)) := by rw [← hwa]; exact heap_alloc_new w7 _
            have mA : Moves [] w7 w15 := by rw [← hwa]; exact (Moves.refl _ _).alloc _
            rw [hwa]
            obtain ⟨pb, hpb⟩ : ∃ pb, w7.heap.size = pb := ⟨_, rfl⟩
            rw [hpb] at hb ⊢
            have hle : wq.heap.size ≤ pb := by rw [← hpb]; first | exact hle | exact Nat.le_refl _
            replace mW := mW.then mA
            clear hwa hpb
            refine hK.out _ _ ?_ (fun hHeld => ?_)
            · first | exact hS _ st2 | exact hS _ mW
            clear hK K
            try simp only [Act.put, List.setIfInBounds_toArray, List.set_cons_zero, List.set_cons_succ]
            refine wpAnyH_ready (rs := [13]) (by kernel_rfl) (by simp) ?_
            refine AllReadyH.cons (o := { dst := some 17, op := Op.call { callee := Callee.value (Operand.func 39), args := #[Operand.tmp 16], argTypes := #[46] }, type := 25, pos := "same.go:82", after := #[{ on := 12, ground := Ground.data }, { on := 10, ground := Ground.chain }], guard := none }) rfl (fun K hK => ?_) AllReadyH.nil
            go_simp
            go_at_call 39
            refine (keep_b' W _ _ HK.out).mono ?_
            rintro _ w13 ⟨A, adA, lenA, capA, rfl, hA, yA, m13⟩
            have HA : Hid (VA W [.int .i64 A.kind, .slice adA lenA capA, .float .f64 A.n] A.pv) := hA.va (by have := yA.len16; omega)
            have HY : Hid (pvr A.pv = true) := yA.right
            clear hA yA
            replace mW := mW.then m13
            have hb := m13.at hb (by simp)
            refine hK.out _ _ ?_ (fun hHeld => ?_)
            · first | exact hS _ st2 | exact hS _ mW
            clear hK K
            try simp only [Act.put, List.setIfInBounds_toArray, List.set_cons_zero, List.set_cons_succ]
            refine wpAnyH_take (i := 14) (oi := { dst := some 18, op := Op.build 27 #[(0, Operand.tmp 8), (1, Operand.tmp 11), (2, Operand.tmp 14), (3, Operand.tmp 17)], type := 27, pos := "same.go:82", after := #[{ on := 4, ground := Ground.data }, { on := 7, ground := Ground.data }, { on := 10, ground := Ground.data }, { on := 13, ground := Ground.data }], guard := none }) (v := ?_) rfl (by kernel_rfl) (by kernel_rfl) (by kernel_rfl) (fun _ _ _ h => h) (Or.inl ⟨by rfl, ?_⟩) (by assumption) ?_
            rotate_left
            · (intro w hSw; (try dsimp only at hSw); go_simp; try (with_reducible rfl))
            try simp only [Act.put, List.setIfInBounds_toArray, List.set_cons_zero, List.set_cons_succ]
            refine wpAnyH_ready (rs := [16]) (by kernel_rfl) (by simp) ?_
            refine AllReadyH.cons (o := { dst := none, op := Op.store 27 (Operand.tmp 3) (Operand.tmp 18), type := 0, pos := "same.go:82", after := #[{ on := 15, ground := Ground.data }, { on := 14, ground := Ground.data }, { on := 13, ground := Ground.chain }, { on := 0, ground := Ground.phase }, { on := 1, ground := Ground.phase }, { on := 2, ground := Ground.phase }, { on := 3, ground := Ground.phase }, { on := 4, ground := Ground.phase }, { on := 5, ground := Ground.phase }, { on := 6, ground := Ground.phase }, { on := 7, ground := Ground.phase }, { on := 8, ground := Ground.phase }, { on := 9, ground := Ground.phase }, { on := 10, ground := Ground.phase }, { on := 11, ground := Ground.phase }, { on := 12, ground := Ground.phase }, { on := 13, ground := Ground.phase }, { on := 14, ground := Ground.phase }, { on := 15, ground := Ground.phase }], guard := none }) rfl (fun K hK => ?_) AllReadyH.nil
            obtain ⟨x0, x1, x2, x3, x4, x5, y0, y1, y2, y3, y4, y5⟩ := six_frozen hb
            obtain ⟨st1, st2⟩ := stored6 hb mW hle (.int .i64 (1 + (j : Int))) (.string s) (.int .i64 r2) (.int .i64 A.kind) (.slice adA lenA capA) (.float .f64 A.n)
            go_simp
            refine hK.out _ _ ?_ (fun hHeld => ?_)
            · first | exact hS _ st2 | exact hS _ mW
            clear hK K
            refine wpAnyH_done (by kernel_rfl) ?_ _
            refine NoPanic.normal ?_
            exact ⟨rfl, by kernel_rfl, j, s, r2, A, adA, lenA, capA, pb, hj, hs, hr2, HA.out, HY.out, by kernel_rfl, st1, hle, st2⟩
        · go_simp
          have hle := mW.size
          obtain ⟨w15, hwa⟩ : ∃ w15, w7.alloc (.cells #[.int .i64 0, .string ⟨#[]⟩, .int .i64 0, .int .i64 0, .slice none 0 0, .float .f64 0] 27) = w15 := ⟨_, rfl⟩
          have hb : w15.heap[w7.heap.size]? = some (.cells #[.int .i64 0, .string ⟨#[]⟩, .int .i64 0, .int .i64 0, .slice none 0 0, .float .f64 0] 27 (0, 0)) := by rw [← hwa]; exact heap_alloc_new w7 _
          have mA : Moves [] w7 w15 := by rw [← hwa]; exact (Moves.refl _ _).alloc _
          rw [hwa]
          obtain ⟨pb, hpb⟩ : ∃ pb, w7.heap.size = pb := ⟨_, rfl⟩
          rw [hpb] at hb ⊢
          have hle : wq.heap.size ≤ pb := by rw [← hpb]; first | exact hle | exact Nat.le_refl _
          replace mW := mW.then mA
          clear hwa hpb
          refine hK.out _ _ ?_ (fun hHeld => ?_)
          · first | exact hS _ st2 | exact hS _ mW
          clear hK K
          try simp only [Act.put, List.setIfInBounds_toArray, List.set_cons_zero, List.set_cons_succ]
          refine wpAnyH_ready (rs := [10]) (by kernel_rfl) (by simp) ?_
          refine AllReadyH.cons (o := { dst := some 14, op := Op.call { callee := Callee.value (Operand.func 19), args := #[Operand.tmp 13, Operand.const (Value.int IntKind.i64 0), Operand.const (Value.int IntKind.i64 30)], argTypes := #[3, 3, 3] }, type := 3, pos := "same.go:82", after := #[{ on := 9, ground := Ground.data }, { on := 7, ground := Ground.chain }], guard := none }) rfl (fun K hK => ?_) AllReadyH.nil
          go_simp
          go_at_call 19
          refine (within30_w _ _).mono ?_
          rintro _ _ ⟨r2, hr2, rfl, rfl⟩
          refine hK.out _ _ ?_ (fun hHeld => ?_)
          · first | exact hS _ st2 | exact hS _ mW
          clear hK K
          try simp only [Act.put, List.setIfInBounds_toArray, List.set_cons_zero, List.set_cons_succ]
          refine wpAnyH_ready (rs := [13]) (by kernel_rfl) (by simp) ?_
          refine AllReadyH.cons (o := { dst := some 17, op := Op.call { callee := Callee.value (Operand.func 39), args := #[Operand.tmp 16], argTypes := #[46] }, type := 25, pos := "same.go:82", after := #[{ on := 12, ground := Ground.data }, { on := 10, ground := Ground.chain }], guard := none }) rfl (fun K hK => ?_) AllReadyH.nil
          go_simp
          go_at_call 39
          refine (keep_b' W _ _ HK.out).mono ?_
          rintro _ w13 ⟨A, adA, lenA, capA, rfl, hA, yA, m13⟩
          have HA : Hid (VA W [.int .i64 A.kind, .slice adA lenA capA, .float .f64 A.n] A.pv) := hA.va (by have := yA.len16; omega)
          have HY : Hid (pvr A.pv = true) := yA.right
          clear hA yA
          replace mW := mW.then m13
          have hb := m13.at hb (by simp)
          refine hK.out _ _ ?_ (fun hHeld => ?_)
          · first | exact hS _ st2 | exact hS _ mW
          clear hK K
          try simp only [Act.put, List.setIfInBounds_toArray, List.set_cons_zero, List.set_cons_succ]
          refine wpAnyH_take (i := 14) (oi := { dst := some 18, op := Op.build 27 #[(0, Operand.tmp 8), (1, Operand.tmp 11), (2, Operand.tmp 14), (3, Operand.tmp 17)], type := 27, pos := "same.go:82", after := #[{ on := 4, ground := Ground.data }, { on := 7, ground := Ground.data }, { on := 10, ground := Ground.data }, { on := 13, ground := Ground.data }], guard := none }) (v := ?_) rfl (by kernel_rfl) (by kernel_rfl) (by kernel_rfl) (fun _ _ _ h => h) (Or.inl ⟨by rfl, ?_⟩) (by assumption) ?_
          rotate_left
          · (intro w hSw; (try dsimp only at hSw); go_simp; try (with_reducible rfl))
          try simp only [Act.put, List.setIfInBounds_toArray, List.set_cons_zero, List.set_cons_succ]
          refine wpAnyH_ready (rs := [16]) (by kernel_rfl) (by simp) ?_
          refine AllReadyH.cons (o := { dst := none, op := Op.store 27 (Operand.tmp 3) (Operand.tmp 18), type := 0, pos := "same.go:82", after := #[{ on := 15, ground := Ground.data }, { on := 14, ground := Ground.data }, { on := 13, ground := Ground.chain }, { on := 0, ground := Ground.phase }, { on := 1, ground := Ground.phase }, { on := 2, ground := Ground.phase }, { on := 3, ground := Ground.phase }, { on := 4, ground := Ground.phase }, { on := 5, ground := Ground.phase }, { on := 6, ground := Ground.phase }, { on := 7, ground := Ground.phase }, { on := 8, ground := Ground.phase }, { on := 9, ground := Ground.phase }, { on := 10, ground := Ground.phase }, { on := 11, ground := Ground.phase }, { on := 12, ground := Ground.phase }, { on := 13, ground := Ground.phase }, { on := 14, ground := Ground.phase }, { on := 15, ground := Ground.phase }], guard := none }) rfl (fun K hK => ?_) AllReadyH.nil
          obtain ⟨x0, x1, x2, x3, x4, x5, y0, y1, y2, y3, y4, y5⟩ := six_frozen hb
          obtain ⟨st1, st2⟩ := stored6 hb mW hle (.int .i64 (1 + (j : Int))) (.string s) (.int .i64 r2) (.int .i64 A.kind) (.slice adA lenA capA) (.float .f64 A.n)
          go_simp
          refine hK.out _ _ ?_ (fun hHeld => ?_)
          · first | exact hS _ st2 | exact hS _ mW
          clear hK K
          refine wpAnyH_done (by kernel_rfl) ?_ _
          refine NoPanic.normal ?_
          exact ⟨rfl, by kernel_rfl, j, s, r2, A, adA, lenA, capA, pb, hj, hs, hr2, HA.out, HY.out, by kernel_rfl, st1, hle, st2⟩
      · go_simp
        have hle := mW.size
        obtain ⟨w15, hwa⟩ : ∃ w15, (wq.alloc (.cells #[.int .i64 0, .string ⟨#[]⟩, .int .i64 0, .int .i64 0, .slice none 0 0, .float .f64 0] 27)).drew = w15 := ⟨_, rfl⟩
        have hb : w15.heap[wq.heap.size]? = some (.cells #[.int .i64 0, .string ⟨#[]⟩, .int .i64 0, .int .i64 0, .slice none 0 0, .float .f64 0] 27 (0, 0)) := by rw [← hwa]; exact heap_alloc_new wq _
        have mA : Moves [] wq w15 := by rw [← hwa]; exact ((Moves.refl _ _).alloc _).drew
        rw [hwa]
        obtain ⟨pb, hpb⟩ : ∃ pb, wq.heap.size = pb := ⟨_, rfl⟩
        rw [hpb] at hb ⊢
        have hle : wq.heap.size ≤ pb := by rw [← hpb]; first | exact hle | exact Nat.le_refl _
        replace mW := mA
        clear hwa hpb
        refine hK.out _ _ ?_ (fun hHeld => ?_)
        · first | exact hS _ st2 | exact hS _ mW
        clear hK K
        try simp only [Act.put, List.setIfInBounds_toArray, List.set_cons_zero, List.set_cons_succ]
        refine wpAnyH_ready (rs := [7]) (by kernel_rfl) (by simp) ?_
        refine AllReadyH.cons (o := { dst := some 11, op := Op.call { callee := Callee.value (Operand.func 38), args := #[Operand.tmp 10], argTypes := #[3] }, type := 9, pos := "same.go:82", after := #[{ on := 6, ground := Ground.data }, { on := 2, ground := Ground.chain }], guard := none }) rfl (fun K hK => ?_) AllReadyH.nil
        go_simp
        go_at_call 38
        refine (keepCol_w _ _).mono ?_
        rintro _ w7 ⟨s, rfl, hs, m7⟩
        replace mW := mW.then m7
        have hb := m7.at hb (by simp)
        refine hK.out _ _ ?_ (fun hHeld => ?_)
        · first | exact hS _ st2 | exact hS _ mW
        clear hK K
        try simp only [Act.put, List.setIfInBounds_toArray, List.set_cons_zero, List.set_cons_succ]
        refine wpAnyH_ready (rs := [10]) (by kernel_rfl) (by simp) ?_
        refine AllReadyH.cons (o := { dst := some 14, op := Op.call { callee := Callee.value (Operand.func 19), args := #[Operand.tmp 13, Operand.const (Value.int IntKind.i64 0), Operand.const (Value.int IntKind.i64 30)], argTypes := #[3, 3, 3] }, type := 3, pos := "same.go:82", after := #[{ on := 9, ground := Ground.data }, { on := 7, ground := Ground.chain }], guard := none }) rfl (fun K hK => ?_) AllReadyH.nil
        go_simp
        go_at_call 19
        refine (within30_w _ _).mono ?_
        rintro _ _ ⟨r2, hr2, rfl, rfl⟩
        refine hK.out _ _ ?_ (fun hHeld => ?_)
        · first | exact hS _ st2 | exact hS _ mW
        clear hK K
        try simp only [Act.put, List.setIfInBounds_toArray, List.set_cons_zero, List.set_cons_succ]
        refine wpAnyH_ready (rs := [13]) (by kernel_rfl) (by simp) ?_
        refine AllReadyH.cons (o := { dst := some 17, op := Op.call { callee := Callee.value (Operand.func 39), args := #[Operand.tmp 16], argTypes := #[46] }, type := 25, pos := "same.go:82", after := #[{ on := 12, ground := Ground.data }, { on := 10, ground := Ground.chain }], guard := none }) rfl (fun K hK => ?_) AllReadyH.nil
        go_simp
        go_at_call 39
        refine (keep_b' W _ _ HK.out).mono ?_
        rintro _ w13 ⟨A, adA, lenA, capA, rfl, hA, yA, m13⟩
        have HA : Hid (VA W [.int .i64 A.kind, .slice adA lenA capA, .float .f64 A.n] A.pv) := hA.va (by have := yA.len16; omega)
        have HY : Hid (pvr A.pv = true) := yA.right
        clear hA yA
        replace mW := mW.then m13
        have hb := m13.at hb (by simp)
        refine hK.out _ _ ?_ (fun hHeld => ?_)
        · first | exact hS _ st2 | exact hS _ mW
        clear hK K
        try simp only [Act.put, List.setIfInBounds_toArray, List.set_cons_zero, List.set_cons_succ]
        refine wpAnyH_take (i := 14) (oi := { dst := some 18, op := Op.build 27 #[(0, Operand.tmp 8), (1, Operand.tmp 11), (2, Operand.tmp 14), (3, Operand.tmp 17)], type := 27, pos := "same.go:82", after := #[{ on := 4, ground := Ground.data }, { on := 7, ground := Ground.data }, { on := 10, ground := Ground.data }, { on := 13, ground := Ground.data }], guard := none }) (v := ?_) rfl (by kernel_rfl) (by kernel_rfl) (by kernel_rfl) (fun _ _ _ h => h) (Or.inl ⟨by rfl, ?_⟩) (by assumption) ?_
        rotate_left
        · (intro w hSw; (try dsimp only at hSw); go_simp; try (with_reducible rfl))
        try simp only [Act.put, List.setIfInBounds_toArray, List.set_cons_zero, List.set_cons_succ]
        refine wpAnyH_ready (rs := [16]) (by kernel_rfl) (by simp) ?_
        refine AllReadyH.cons (o := { dst := none, op := Op.store 27 (Operand.tmp 3) (Operand.tmp 18), type := 0, pos := "same.go:82", after := #[{ on := 15, ground := Ground.data }, { on := 14, ground := Ground.data }, { on := 13, ground := Ground.chain }, { on := 0, ground := Ground.phase }, { on := 1, ground := Ground.phase }, { on := 2, ground := Ground.phase }, { on := 3, ground := Ground.phase }, { on := 4, ground := Ground.phase }, { on := 5, ground := Ground.phase }, { on := 6, ground := Ground.phase }, { on := 7, ground := Ground.phase }, { on := 8, ground := Ground.phase }, { on := 9, ground := Ground.phase }, { on := 10, ground := Ground.phase }, { on := 11, ground := Ground.phase }, { on := 12, ground := Ground.phase }, { on := 13, ground := Ground.phase }, { on := 14, ground := Ground.phase }, { on := 15, ground := Ground.phase }], guard := none }) rfl (fun K hK => ?_) AllReadyH.nil
        obtain ⟨x0, x1, x2, x3, x4, x5, y0, y1, y2, y3, y4, y5⟩ := six_frozen hb
        obtain ⟨st1, st2⟩ := stored6 hb mW hle (.int .i64 (1 + (j : Int))) (.string s) (.int .i64 r2) (.int .i64 A.kind) (.slice adA lenA capA) (.float .f64 A.n)
        go_simp
        refine hK.out _ _ ?_ (fun hHeld => ?_)
        · first | exact hS _ st2 | exact hS _ mW
        clear hK K
        refine wpAnyH_done (by kernel_rfl) ?_ _
        refine NoPanic.normal ?_
        exact ⟨rfl, by kernel_rfl, j, s, r2, A, adA, lenA, capA, pb, hj, hs, hr2, HA.out, HY.out, by kernel_rfl, st1, hle, st2⟩
    · go_simp
      have hle := mW.size
      obtain ⟨w15, hwa⟩ : ∃ w15, (wq.alloc (.cells #[.int .i64 0, .string ⟨#[]⟩, .int .i64 0, .int .i64 0, .slice none 0 0, .float .f64 0] 27)).drew = w15 := ⟨_, rfl⟩
      have hb : w15.heap[wq.heap.size]? = some (.cells #[.int .i64 0, .string ⟨#[]⟩, .int .i64 0, .int .i64 0, .slice none 0 0, .float .f64 0] 27 (0, 0)) := by rw [← hwa]; exact heap_alloc_new wq _
      have mA : Moves [] wq w15 := by rw [← hwa]; exact ((Moves.refl _ _).alloc _).drew
      rw [hwa]
      obtain ⟨pb, hpb⟩ : ∃ pb, wq.heap.size = pb := ⟨_, rfl⟩
      rw [hpb] at hb ⊢
      have hle : wq.heap.size ≤ pb := by rw [← hpb]; first | exact hle | exact Nat.le_refl _
      replace mW := mA
      clear hwa hpb
      refine hK.out _ _ ?_ (fun hHeld => ?_)
      · first | exact hS _ st2 | exact hS _ mW
      clear hK K
      try simp only [Act.put, List.setIfInBounds_toArray, List.set_cons_zero, List.set_cons_succ]
      refine wpAnyH_ready (rs := [2]) (by kernel_rfl) (by simp) ?_
      refine AllReadyH.cons (o := { dst := some 6, op := Op.call { callee := Callee.value (Operand.func 19), args := #[Operand.tmp 5, Operand.const (Value.int IntKind.i64 0), Operand.const (Value.int IntKind.i64 1048576)], argTypes := #[3, 3, 3] }, type := 3, pos := "same.go:82", after := #[{ on := 1, ground := Ground.data }], guard := none }) rfl (fun K hK => ?_) AllReadyH.nil
      go_simp
      go_at_call 19
      refine (within_w _ _).mono ?_
      rintro _ _ ⟨r, hr, rfl, rfl⟩
      obtain ⟨j, hj, hje⟩ := tmod5 hr
      have hj1 : IntKind.i64.wrap (1 + (j : Int)) = 1 + (j : Int) := by rw [IntWalk.i64_in _ (by omega)]
      refine hK.out _ _ ?_ (fun hHeld => ?_)
      · first | exact hS _ st2 | exact hS _ mW
      clear hK K
      try simp only [Act.put, List.setIfInBounds_toArray, List.set_cons_zero, List.set_cons_succ]
      refine wpAnyH_take (i := 3) (oi := { dst := some 7, op := Op.binOp BinOp.rem 3 (Operand.tmp 6) (Operand.const (Value.int IntKind.i64 5)) 3, type := 3, pos := "same.go:82", after := #[{ on := 2, ground := Ground.data }], guard := none }) (v := ?_) rfl (by kernel_rfl) (by kernel_rfl) (by kernel_rfl) (fun _ _ _ h => h) (Or.inl ⟨by rfl, ?_⟩) (by assumption) ?_
      rotate_left
      · (intro w hSw; (try dsimp only at hSw); go_simp; try (with_reducible rfl))
      try simp only [Act.put, List.setIfInBounds_toArray, List.set_cons_zero, List.set_cons_succ]
      refine wpAnyH_take (i := 4) (oi := { dst := some 8, op := Op.binOp BinOp.add 3 (Operand.const (Value.int IntKind.i64 1)) (Operand.tmp 7) 3, type := 3, pos := "same.go:82", after := #[{ on := 3, ground := Ground.data }], guard := none }) (v := ?_) rfl (by kernel_rfl) (by kernel_rfl) (by kernel_rfl) (fun _ _ _ h => h) (Or.inl ⟨by rfl, ?_⟩) (by assumption) ?_
      rotate_left
      · (intro w hSw; (try dsimp only at hSw); go_simp; try (with_reducible rfl))
      try simp only [Act.put, List.setIfInBounds_toArray, List.set_cons_zero, List.set_cons_succ]
      refine wpAnyH_ready (rs := [7]) (by kernel_rfl) (by simp) ?_
      refine AllReadyH.cons (o := { dst := some 11, op := Op.call { callee := Callee.value (Operand.func 38), args := #[Operand.tmp 10], argTypes := #[3] }, type := 9, pos := "same.go:82", after := #[{ on := 6, ground := Ground.data }, { on := 2, ground := Ground.chain }], guard := none }) rfl (fun K hK => ?_) AllReadyH.nil
      go_simp
      go_at_call 38
      refine (keepCol_w _ _).mono ?_
      rintro _ w7 ⟨s, rfl, hs, m7⟩
      replace mW := mW.then m7
      have hb := m7.at hb (by simp)
      refine hK.out _ _ ?_ (fun hHeld => ?_)
      · first | exact hS _ st2 | exact hS _ mW
      clear hK K
      try simp only [Act.put, List.setIfInBounds_toArray, List.set_cons_zero, List.set_cons_succ]
      refine wpAnyH_ready (rs := [10]) (by kernel_rfl) (by simp) ?_
      refine AllReadyH.cons (o := { dst := some 14, op := Op.call { callee := Callee.value (Operand.func 19), args := #[Operand.tmp 13, Operand.const (Value.int IntKind.i64 0), Operand.const (Value.int IntKind.i64 30)], argTypes := #[3, 3, 3] }, type := 3, pos := "same.go:82", after := #[{ on := 9, ground := Ground.data }, { on := 7, ground := Ground.chain }], guard := none }) rfl (fun K hK => ?_) AllReadyH.nil
      go_simp
      go_at_call 19
      refine (within30_w _ _).mono ?_
      rintro _ _ ⟨r2, hr2, rfl, rfl⟩
      refine hK.out _ _ ?_ (fun hHeld => ?_)
      · first | exact hS _ st2 | exact hS _ mW
      clear hK K
      try simp only [Act.put, List.setIfInBounds_toArray, List.set_cons_zero, List.set_cons_succ]
      refine wpAnyH_ready (rs := [13]) (by kernel_rfl) (by simp) ?_
      refine AllReadyH.cons (o := { dst := some 17, op := Op.call { callee := Callee.value (Operand.func 39), args := #[Operand.tmp 16], argTypes := #[46] }, type := 25, pos := "same.go:82", after := #[{ on := 12, ground := Ground.data }, { on := 10, ground := Ground.chain }], guard := none }) rfl (fun K hK => ?_) AllReadyH.nil
      go_simp
      go_at_call 39
      refine (keep_b' W _ _ HK.out).mono ?_
      rintro _ w13 ⟨A, adA, lenA, capA, rfl, hA, yA, m13⟩
      have HA : Hid (VA W [.int .i64 A.kind, .slice adA lenA capA, .float .f64 A.n] A.pv) := hA.va (by have := yA.len16; omega)
      have HY : Hid (pvr A.pv = true) := yA.right
      clear hA yA
      replace mW := mW.then m13
      have hb := m13.at hb (by simp)
      refine hK.out _ _ ?_ (fun hHeld => ?_)
      · first | exact hS _ st2 | exact hS _ mW
      clear hK K
      try simp only [Act.put, List.setIfInBounds_toArray, List.set_cons_zero, List.set_cons_succ]
      refine wpAnyH_take (i := 14) (oi := { dst := some 18, op := Op.build 27 #[(0, Operand.tmp 8), (1, Operand.tmp 11), (2, Operand.tmp 14), (3, Operand.tmp 17)], type := 27, pos := "same.go:82", after := #[{ on := 4, ground := Ground.data }, { on := 7, ground := Ground.data }, { on := 10, ground := Ground.data }, { on := 13, ground := Ground.data }], guard := none }) (v := ?_) rfl (by kernel_rfl) (by kernel_rfl) (by kernel_rfl) (fun _ _ _ h => h) (Or.inl ⟨by rfl, ?_⟩) (by assumption) ?_
      rotate_left
      · (intro w hSw; (try dsimp only at hSw); go_simp; try (with_reducible rfl))
      try simp only [Act.put, List.setIfInBounds_toArray, List.set_cons_zero, List.set_cons_succ]
      refine wpAnyH_ready (rs := [16]) (by kernel_rfl) (by simp) ?_
      refine AllReadyH.cons (o := { dst := none, op := Op.store 27 (Operand.tmp 3) (Operand.tmp 18), type := 0, pos := "same.go:82", after := #[{ on := 15, ground := Ground.data }, { on := 14, ground := Ground.data }, { on := 13, ground := Ground.chain }, { on := 0, ground := Ground.phase }, { on := 1, ground := Ground.phase }, { on := 2, ground := Ground.phase }, { on := 3, ground := Ground.phase }, { on := 4, ground := Ground.phase }, { on := 5, ground := Ground.phase }, { on := 6, ground := Ground.phase }, { on := 7, ground := Ground.phase }, { on := 8, ground := Ground.phase }, { on := 9, ground := Ground.phase }, { on := 10, ground := Ground.phase }, { on := 11, ground := Ground.phase }, { on := 12, ground := Ground.phase }, { on := 13, ground := Ground.phase }, { on := 14, ground := Ground.phase }, { on := 15, ground := Ground.phase }], guard := none }) rfl (fun K hK => ?_) AllReadyH.nil
      obtain ⟨x0, x1, x2, x3, x4, x5, y0, y1, y2, y3, y4, y5⟩ := six_frozen hb
      obtain ⟨st1, st2⟩ := stored6 hb mW hle (.int .i64 (1 + (j : Int))) (.string s) (.int .i64 r2) (.int .i64 A.kind) (.slice adA lenA capA) (.float .f64 A.n)
      go_simp
      refine hK.out _ _ ?_ (fun hHeld => ?_)
      · first | exact hS _ st2 | exact hS _ mW
      clear hK K
      refine wpAnyH_done (by kernel_rfl) ?_ _
      refine NoPanic.normal ?_
      exact ⟨rfl, by kernel_rfl, j, s, r2, A, adA, lenA, capA, pb, hj, hs, hr2, HA.out, HY.out, by kernel_rfl, st1, hle, st2⟩
  · rintro u wx ⟨j, s, r2, A, adA, lenA, capA, pb, hj, hs, hr2, hA, hY, hu3, qb, hle, mx⟩
    simp only [List.foldl_cons, List.foldl_nil, List.setIfInBounds_toArray, List.set_cons_zero, List.set_cons_succ, hu3]
    clear hu3
    generalize u 4 = u4
    generalize u 5 = u5
    generalize u 6 = u6
    generalize u 7 = u7
    generalize u 8 = u8
    generalize u 9 = u9
    generalize u 10 = u10
    generalize u 11 = u11
    generalize u 12 = u12
    generalize u 13 = u13
    generalize u 14 = u14
    generalize u 15 = u15
    generalize u 16 = u16
    generalize u 17 = u17
    generalize u 18 = u18
    have HA : Hid (VA W [.int .i64 A.kind, .slice adA lenA capA, .float .f64 A.n] A.pv) := hA
    have HY : Hid (pvr A.pv = true) := hY
    have HS : Hid (pname s = true) := colNames_name hs
    have HSn : Hid (s ≠ bTurned) := colNames_turned hs
    have qr := mx.at p1 (by simp)
    have ne1 : ¬ pb = pr := by omega
    have ne2 : ¬ pr = pb := by omega
    have M := m1.then mx
    clear hA hY hs hS mW
    obtain ⟨K, hKe⟩ : ∃ K : Int, 1 + (j : Int) = K := ⟨_, rfl⟩
    have hways : K = 1 ∨ K = 2 ∨ K = 3 ∨ K = 4 ∨ K = 5 := by omega
    rw [hKe] at qb
    clear hKe
    obtain ⟨e0, e1, e2, e3, e4, e5, e6, e7, e8, e9, e10, e11⟩ := six_frozen qb
    obtain ⟨f0, f1, f2, f3, f4, f5, f6, f7, f8, f9, f10, f11⟩ := six_frozen qr
    rcases hways with rfl | rfl | rfl | rfl | rfl
    · obtain ⟨rt1, rt2⟩ := stored6 qr M hpr' (.int .i64 1) (.string s) (.int .i64 r2) (.int .i64 A.kind) (.slice adA lenA capA) (.float .f64 A.n)
      go_wp2_with fail
      try simp only [Exit.inBlock, Exit.then]
      exact bodyPost_ret (ret_chg rfl _ _ _ _ _ _ _ _ _ rfl rt1) rfl ⟨⟨1, s, r2, A.pv⟩, _, _, _, rfl, HA.out, drawn_right (by simp) (fun _ => HS.out) hr2 (fun _ => HY.out) (fun h => by simp at h), HSn.out, rt2⟩
    · have hm5 : Moves [pb] wx (((wx.setCell ⟨pb, 3, none⟩ (.int .i64 0)).setCell ⟨pb, 4, none⟩ (.slice none 0 0)).setCell ⟨pb, 5, none⟩ (.float .f64 0)) := (((moves_set _ _ _ _).then (moves_set _ _ _ _)).then (moves_set _ _ _ _))
      have hb5 : (((wx.setCell ⟨pb, 3, none⟩ (.int .i64 0)).setCell ⟨pb, 4, none⟩ (.slice none 0 0)).setCell ⟨pb, 5, none⟩ (.float .f64 0)).heap[pb]? = some (.cells #[.int .i64 2, .string s, .int .i64 r2, .int .i64 0, .slice none 0 0, .float .f64 0] 27 (0, 0)) := (heap_set (i := 5) (heap_set (i := 4) (heap_set (i := 3) qb (.int .i64 0)) (.slice none 0 0)) (.float .f64 0))
      have qr5 := hm5.at qr (by simp; omega)
      have M5 : Moves [] w (((wx.setCell ⟨pb, 3, none⟩ (.int .i64 0)).setCell ⟨pb, 4, none⟩ (.slice none 0 0)).setCell ⟨pb, 5, none⟩ (.float .f64 0)) := M.trans hm5 (fun k hk => .inr (by simp at hk; subst hk; have := m1.size; omega))
      obtain ⟨g0, g1, g2, g3, g4, g5, g6, g7, g8, g9, g10, g11⟩ := six_frozen hb5
      obtain ⟨h0, h1, h2, h3, h4, h5, h6, h7, h8, h9, h10, h11⟩ := six_frozen qr5
      go_wp2_with fail
      try simp only [Exit.inBlock, Exit.then]
      obtain ⟨rt1, rt2⟩ := stored6 qr5 M5 hpr' (.int .i64 2) (.string s) (.int .i64 r2) (.int .i64 0) (.slice none 0 0) (.float .f64 0)
      exact bodyPost_ret (ret_chg rfl _ _ _ _ _ _ _ _ _ rfl rt1) rfl ⟨⟨2, s, r2, ⟨0, [], 0⟩⟩, _, _, _, rfl, ⟨none, 0, 0, 0, rfl, isB_nil _ _, fits_zero, by simp, by simp⟩, drawn_right (by simp) (fun _ => HS.out) hr2 (fun h => by simp at h) (fun h => by simp at h), HSn.out, rt2⟩
    · have hm5 : Moves [pb] wx ((((wx.setCell ⟨pb, 3, none⟩ (.int .i64 0)).setCell ⟨pb, 4, none⟩ (.slice none 0 0)).setCell ⟨pb, 5, none⟩ (.float .f64 0)).setCell ⟨pb, 2, none⟩ (.int .i64 0)) := ((((moves_set _ _ _ _).then (moves_set _ _ _ _)).then (moves_set _ _ _ _)).then (moves_set _ _ _ _))
      have hb5 : ((((wx.setCell ⟨pb, 3, none⟩ (.int .i64 0)).setCell ⟨pb, 4, none⟩ (.slice none 0 0)).setCell ⟨pb, 5, none⟩ (.float .f64 0)).setCell ⟨pb, 2, none⟩ (.int .i64 0)).heap[pb]? = some (.cells #[.int .i64 3, .string s, .int .i64 0, .int .i64 0, .slice none 0 0, .float .f64 0] 27 (0, 0)) := (heap_set (i := 2) (heap_set (i := 5) (heap_set (i := 4) (heap_set (i := 3) qb (.int .i64 0)) (.slice none 0 0)) (.float .f64 0)) (.int .i64 0))
      have qr5 := hm5.at qr (by simp; omega)
      have M5 : Moves [] w ((((wx.setCell ⟨pb, 3, none⟩ (.int .i64 0)).setCell ⟨pb, 4, none⟩ (.slice none 0 0)).setCell ⟨pb, 5, none⟩ (.float .f64 0)).setCell ⟨pb, 2, none⟩ (.int .i64 0)) := M.trans hm5 (fun k hk => .inr (by simp at hk; subst hk; have := m1.size; omega))
      obtain ⟨g0, g1, g2, g3, g4, g5, g6, g7, g8, g9, g10, g11⟩ := six_frozen hb5
      obtain ⟨h0, h1, h2, h3, h4, h5, h6, h7, h8, h9, h10, h11⟩ := six_frozen qr5
      go_wp2_with fail
      try simp only [Exit.inBlock, Exit.then]
      obtain ⟨rt1, rt2⟩ := stored6 qr5 M5 hpr' (.int .i64 3) (.string s) (.int .i64 0) (.int .i64 0) (.slice none 0 0) (.float .f64 0)
      exact bodyPost_ret (ret_chg rfl _ _ _ _ _ _ _ _ _ rfl rt1) rfl ⟨⟨3, s, 0, ⟨0, [], 0⟩⟩, _, _, _, rfl, ⟨none, 0, 0, 0, rfl, isB_nil _ _, fits_zero, by simp, by simp⟩, drawn_right (by simp) (fun _ => HS.out) (by simp) (fun h => by simp at h) (fun h => by simp at h), HSn.out, rt2⟩
    · have hm5 : Moves [pb] wx ((((((wx.setCell ⟨pb, 0, none⟩ (.int .i64 4)).setCell ⟨pb, 1, none⟩ (.string ⟨#[]⟩)).setCell ⟨pb, 2, none⟩ (.int .i64 0)).setCell ⟨pb, 3, none⟩ (.int .i64 0)).setCell ⟨pb, 4, none⟩ (.slice none 0 0)).setCell ⟨pb, 5, none⟩ (.float .f64 0)) := ((((((moves_set _ _ _ _).then (moves_set _ _ _ _)).then (moves_set _ _ _ _)).then (moves_set _ _ _ _)).then (moves_set _ _ _ _)).then (moves_set _ _ _ _))
      have hb5 : ((((((wx.setCell ⟨pb, 0, none⟩ (.int .i64 4)).setCell ⟨pb, 1, none⟩ (.string ⟨#[]⟩)).setCell ⟨pb, 2, none⟩ (.int .i64 0)).setCell ⟨pb, 3, none⟩ (.int .i64 0)).setCell ⟨pb, 4, none⟩ (.slice none 0 0)).setCell ⟨pb, 5, none⟩ (.float .f64 0)).heap[pb]? = some (.cells #[.int .i64 4, .string ⟨#[]⟩, .int .i64 0, .int .i64 0, .slice none 0 0, .float .f64 0] 27 (0, 0)) := (heap_set (i := 5) (heap_set (i := 4) (heap_set (i := 3) (heap_set (i := 2) (heap_set (i := 1) (heap_set (i := 0) qb (.int .i64 4)) (.string ⟨#[]⟩)) (.int .i64 0)) (.int .i64 0)) (.slice none 0 0)) (.float .f64 0))
      have qr5 := hm5.at qr (by simp; omega)
      have M5 : Moves [] w ((((((wx.setCell ⟨pb, 0, none⟩ (.int .i64 4)).setCell ⟨pb, 1, none⟩ (.string ⟨#[]⟩)).setCell ⟨pb, 2, none⟩ (.int .i64 0)).setCell ⟨pb, 3, none⟩ (.int .i64 0)).setCell ⟨pb, 4, none⟩ (.slice none 0 0)).setCell ⟨pb, 5, none⟩ (.float .f64 0)) := M.trans hm5 (fun k hk => .inr (by simp at hk; subst hk; have := m1.size; omega))
      obtain ⟨g0, g1, g2, g3, g4, g5, g6, g7, g8, g9, g10, g11⟩ := six_frozen hb5
      obtain ⟨h0, h1, h2, h3, h4, h5, h6, h7, h8, h9, h10, h11⟩ := six_frozen qr5
      go_wp2_with fail
      try simp only [Exit.inBlock, Exit.then]
      obtain ⟨rt1, rt2⟩ := stored6 qr5 M5 hpr' (.int .i64 4) (.string ⟨#[]⟩) (.int .i64 0) (.int .i64 0) (.slice none 0 0) (.float .f64 0)
      exact bodyPost_ret (ret_chg rfl _ _ _ _ _ _ _ _ _ rfl rt1) rfl ⟨⟨4, ⟨#[]⟩, 0, ⟨0, [], 0⟩⟩, _, _, _, rfl, ⟨none, 0, 0, 0, rfl, isB_nil _ _, fits_zero, by simp, by simp⟩, drawn_right (by simp) (fun h => by simp at h) (by simp) (fun h => by simp at h) (fun h => by simp at h), (by decide), rt2⟩
    · have fa4 := mx.cell d4
      have fa5 := mx.cell d5
      go_wp2_with (go_at_call 84; refine (float_w _ _ htx _).mono ?_; rintro _ _ ⟨y, hy, rfl, rfl⟩; have hm5 : Moves [pb] wx (((wx.setCell ⟨pb, 3, none⟩ (.int .i64 2)).setCell ⟨pb, 4, none⟩ (.slice none 0 0)).setCell ⟨pb, 5, none⟩ (.float .f64 y)) := (((moves_set _ _ _ _).then (moves_set _ _ _ _)).then (moves_set _ _ _ _)); have hb5 : (((wx.setCell ⟨pb, 3, none⟩ (.int .i64 2)).setCell ⟨pb, 4, none⟩ (.slice none 0 0)).setCell ⟨pb, 5, none⟩ (.float .f64 y)).heap[pb]? = some (.cells #[.int .i64 5, .string s, .int .i64 r2, .int .i64 2, .slice none 0 0, .float .f64 y] 27 (0, 0)) := heap_set (i := 5) (heap_set (i := 4) (heap_set (i := 3) qb (.int .i64 2)) (.slice none 0 0)) (.float .f64 y); have qr5 := hm5.at qr (by simp; omega); have M5 : Moves [] w (((wx.setCell ⟨pb, 3, none⟩ (.int .i64 2)).setCell ⟨pb, 4, none⟩ (.slice none 0 0)).setCell ⟨pb, 5, none⟩ (.float .f64 y)) := M.trans hm5 (fun k hk => .inr (by simp at hk; subst hk; have := m1.size; omega)); obtain ⟨g0, g1, g2, g3, g4, g5, g6, g7, g8, g9, g10, g11⟩ := six_frozen hb5; obtain ⟨h0, h1, h2, h3, h4, h5, h6, h7, h8, h9, h10, h11⟩ := six_frozen qr5)
      try simp only [Exit.inBlock, Exit.then]
      obtain ⟨rt1, rt2⟩ := stored6 qr5 M5 hpr' (.int .i64 5) (.string s) (.int .i64 r2) (.int .i64 2) (.slice none 0 0) (.float .f64 y)
      exact bodyPost_ret (ret_chg rfl _ _ _ _ _ _ _ _ _ rfl rt1) rfl ⟨⟨5, s, r2, pnum y⟩, _, _, _, rfl, (VC.num W hy).va, drawn_right (by simp) (fun _ => HS.out) hr2 (fun h => by simp at h) (fun _ => ⟨y, rfl⟩), HSn.out, rt2⟩
theorem keepChange_w (W w : World) (ki co ti : Int) (tb : Bool) (tn : Int) (tx : Nat) (a2 : Option Addr) (l2 c2 : Nat) (hK : KArg W (.agg #[.bool tb, .int .i64 tn, .float .f64 tx, .slice a2 l2 c2])) :
    Calls Tryz.prog 141 #[.agg #[.int .i64 ki, .int .i64 co, .int .i64 ti, .bool tb, .int .i64 tn, .float .f64 tx, .slice a2 l2 c2]] w fun e w' => ∃ (c : Pchg) (a : Option Addr) (n cap : Nat), e = .returned (.agg #[.int .i64 c.kind, .string c.col, .int .i64 c.t, .int .i64 c.v.kind, .slice a n cap, .float .f64 c.v.n]) ∧ VA W [.int .i64 c.v.kind, .slice a n cap, .float .f64 c.v.n] c.v ∧ cRight c = 0 ∧ Moves [] w w' :=
  (keepChange_n W w ki co ti tb tn tx a2 l2 c2 hK).mono (by
    rintro e w' ⟨c, a, n, cap, h1, h2, h3, _, h5⟩
    exact ⟨c, a, n, cap, h1, h2, h3, h5⟩)
end Go.Proofs.YtcamhlnkcoicpaaGreat
