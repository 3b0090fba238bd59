/- ours -/
import Derived.Test.YtcngllcifcpbkaaGreatCBaseZ
import Derived.Test.YtcngllcifcpbkaaGreatCBaseS
namespace Go.Proofs.YtcngllcifcpbkaaGreat
open Go.RowKit

theorem tmod31 (n : Int) : -30 ≤ n.tmod 31 ∧ n.tmod 31 ≤ 30 := by
 rcases Int.le_total 0 n with h | h
 ·rw [Int.tmod_eq_emod_of_nonneg h]; omega
 ·have e : n.tmod 31 = -((-n).tmod 31) := by rw [Int.neg_tmod, Int.neg_neg]
  rw [e, Int.tmod_eq_emod_of_nonneg (by omega)]; omega
theorem within30_w (n : Int) (w : World) :
  Calls Tryz.prog 93 #[.int .i64 n, .int .i64 0, .int .i64 30] w fun e w' => ∃ r : Int, (0 ≤ r ∧ r ≤ 30) ∧ e = .returned (.int .i64 r) ∧ w = w' := by
 go_enter Tryz.func93, Tryz.ntmps93
 go_wp2
 all_goals go_ret
 all_goals refine ⟨_, ?_, rfl, rfl⟩
 all_goals have t := tmod31 n
 all_goals generalize n.tmod 31 = m at *
 all_goals try unfold wrap64
 all_goals omega
theorem six_frozen {w : World} {p : Nat} {x0 x1 x2 x3 x4 x5 : Value} {t : TypeId} (h : w.heap[p]? = some (.cells #[x0, x1, x2, x3, x4, x5] t (0, 0))) : w.cell? ⟨p, 0, none⟩ = some x0 ∧ w.cell? ⟨p, 1, none⟩ = some x1 ∧ w.cell? ⟨p, 2, none⟩ = some x2 ∧ w.cell? ⟨p, 3, none⟩ = some x3 ∧ w.cell? ⟨p, 4, none⟩ = some x4 ∧ w.cell? ⟨p, 5, none⟩ = some x5 ∧ w.frozen? ⟨p, 0, none⟩ = false ∧ w.frozen? ⟨p, 1, none⟩ = false ∧ w.frozen? ⟨p, 2, none⟩ = false ∧ w.frozen? ⟨p, 3, none⟩ = false ∧ w.frozen? ⟨p, 4, none⟩ = false ∧ w.frozen? ⟨p, 5, none⟩ = false := by
 simp [World.cell?, World.frozen?, h]
theorem seven_cells {w : World} {p : Nat} {x0 x1 x2 x3 x4 x5 x6 : Value} {t : TypeId} (h : w.heap[p]? = some (.cells #[x0, x1, x2, x3, x4, x5, x6] t (0, 0))) : w.cell? ⟨p, 0, none⟩ = some x0 ∧ w.cell? ⟨p, 1, none⟩ = some x1 ∧ w.cell? ⟨p, 2, none⟩ = some x2 ∧ w.cell? ⟨p, 3, none⟩ = some x3 ∧ w.cell? ⟨p, 4, none⟩ = some x4 ∧ w.cell? ⟨p, 5, none⟩ = some x5 ∧ w.cell? ⟨p, 6, none⟩ = some x6 := by
 simp [World.cell?, h]
theorem stored6 {w0 w : World} {p : Nat} {a0 a1 a2 a3 a4 a5 : Value} {t : TypeId} (hp : w.heap[p]? = some (.cells #[a0, a1, a2, a3, a4, a5] t (0, 0))) (m : Moves [] w0 w) (hlt : w0.heap.size ≤ p) (x0 x1 x2 x3 x4 x5 : Value) :
  ((((((w.setCell ⟨p, 0, none⟩ (x0)).setCell ⟨p, 1, none⟩ (x1)).setCell ⟨p, 2, none⟩ (x2)).setCell ⟨p, 3, none⟩ (x3)).setCell ⟨p, 4, none⟩ (x4)).setCell ⟨p, 5, none⟩ (x5)).heap[p]? = some (.cells #[x0, x1, x2, x3, x4, x5] t (0, 0)) ∧ Moves [] w0 ((((((w.setCell ⟨p, 0, none⟩ (x0)).setCell ⟨p, 1, none⟩ (x1)).setCell ⟨p, 2, none⟩ (x2)).setCell ⟨p, 3, none⟩ (x3)).setCell ⟨p, 4, none⟩ (x4)).setCell ⟨p, 5, none⟩ (x5)) := by
 have hm : Moves [p] w ((((((w.setCell ⟨p, 0, none⟩ (x0)).setCell ⟨p, 1, none⟩ (x1)).setCell ⟨p, 2, none⟩ (x2)).setCell ⟨p, 3, none⟩ (x3)).setCell ⟨p, 4, none⟩ (x4)).setCell ⟨p, 5, none⟩ (x5)) := (((((moves_set _ _ _ _).then (moves_set _ _ _ _)).then (moves_set _ _ _ _)).then (moves_set _ _ _ _)).then (moves_set _ _ _ _)).then (moves_set _ _ _ _)
 refine ⟨?_, m.trans hm (fun k hk => .inr (by simp at hk; omega))⟩
 exact heap_set (i := 5) (heap_set (i := 4) (heap_set (i := 3) (heap_set (i := 2) (heap_set (i := 1) (heap_set (i := 0) hp x0) x1) x2) x3) x4) x5
theorem Tryz.size101 : (Tryz.prog.info? 101).map (·.size) = some 6 := by kernel_rfl
theorem ret_chg {fn : Func} {p : Tmp} (h : fn.results = #[.cell p 101]) (tmps : Array Value) (w : World) (g : Nat) (x0 x1 x2 x3 x4 x5 : Value) (hp : tmps.getD p undef = .pointer (some ⟨g, 0, none⟩)) (hg : w.heap[g]? = some (.cells #[x0, x1, x2, x3, x4, x5] 101 (0, 0))) :
  (results fn tmps).run Tryz.prog w = .ok (.agg #[x0, x1, x2, x3, x4, x5]) w :=
 results_cell_row h tmps w g 101 _ (0, 0) _ hp hg Tryz.underlying101 rfl Tryz.size101
theorem colNames_name {s : ByteArray} (h : s ∈ colNames) : pname s = true := by
 simp only [colNames, List.mem_cons, List.not_mem_nil, or_false] at h
 rcases h with rfl | rfl | rfl | rfl | rfl <;> decide
def bTurned : ByteArray := ⟨#[116, 117, 114, 110, 101, 100]⟩
def NT (R : List Pcol) : Prop := ∀ c ∈ R, c.name ≠ bTurned
theorem colNames_turned {s : ByteArray} (h : s ∈ colNames) : s ≠ bTurned := by
 simp only [colNames, List.mem_cons, List.not_mem_nil, or_false] at h
 rcases h with rfl | rfl | rfl | rfl | rfl <;> decide
theorem NT.nil : NT [] := fun _ h => by simp at h
theorem NT.copy {R : List Pcol} (h : NT R) : NT (pcopy R) := fun c hc => by
 unfold pcopy pasked at hc
 obtain ⟨y, hy, rfl⟩ := List.mem_map.1 hc
 split at hy
 ·exact h y hy
 ·simp at hy
theorem NT.with {R : List Pcol} (h : NT R) {s : ByteArray} (hs : s ≠ bTurned) (l : List Pver) : NT (pwith R s l) := fun c hc => by
 unfold pwith at hc
 simp only [List.mem_append] at hc
 rcases hc with (hc | hc) | hc
 ·exact h c (List.mem_filter.1 hc).1
 ·split at hc
  ·simp at hc
  ·simp at hc
   rw [hc]
   exact hs
 ·exact h c (List.mem_filter.1 hc).1
theorem NT.put {R : List Pcol} (h : NT R) {s : ByteArray} (hs : s ≠ bTurned) (t : Int) (v : Pv) : NT (pPut R s t v) := by
 unfold pPut
 split
 ·exact h.copy.with hs _
 ·exact NT.nil
theorem NT.ap {R : List Pcol} (h : NT R) {c : Pchg} (hs : c.col ≠ bTurned) : NT (cAp R c) := by
 unfold cAp
 split
 ·exact h.put hs _ _
 ·split
  ·exact h.copy.with hs _
  ·split
   ·exact h.copy.with hs _
   ·split
    ·unfold cAdd
     repeat (first | exact NT.nil | exact h.put hs _ _ | split)
    ·exact NT.nil
theorem NT.apply {R : List Pcol} (h : NT R) {c : Pchg} (hs : c.col ≠ bTurned) : NT (cApply R [c]) := by
 unfold cApply
 split
 ·unfold cFold
  split
  ·unfold cFold
   exact h.copy.ap hs
  ·exact NT.nil
 ·exact NT.nil
theorem drawn_right {c : Pchg} (hk : 1 ≤ c.kind ∧ c.kind ≤ 5) (h1 : c.kind ≠ 4 → pname c.col = true) (h2 : 0 ≤ c.t ∧ c.t ≤ 30) (h3 : c.kind = 1 → pvr c.v = true) (h4 : c.kind = 5 → ∃ x, c.v = pnum x) : cRight c = 0 := by
 have ht : ptime c.t = true := by unfold ptime; simp; omega
 unfold cRight
 rw [if_neg (by simp; omega)]
 by_cases k4 : c.kind = 4
 ·rw [if_pos k4]
 ·rw [if_neg k4, if_neg (by simp [h1 k4])]
  by_cases k3 : c.kind = 3
  ·rw [if_pos k3]
  ·rw [if_neg k3, if_neg (by simp [ht])]
   by_cases k2 : c.kind = 2
   ·rw [if_pos k2]
   ·rw [if_neg k2]
    by_cases k5 : c.kind = 5
    ·obtain ⟨x, hx⟩ := h4 k5
     rw [hx, if_neg (by simp [pvr_num]), if_neg (by simp [pnum])]
    ·rw [if_neg (by simp [h3 (by omega)]), if_neg (by simp [k5])]

set_option maxRecDepth 100000 in
set_option maxHeartbeats 16000000 in
theorem keepChange_n (W w : World) (ki co ti : Int) (tb : Bool) (tn : Int) (tx : Nat) (a2 : Option Addr) (l2 c2 : Nat) (hK : KArg W (.agg #[.bool tb, .int .i64 tn, .float .f64 tx, .slice a2 l2 c2])) :
  Calls Tryz.prog 49 #[.agg #[.int .i64 ki, .int .i64 co, .int .i64 ti, .bool tb, .int .i64 tn, .float .f64 tx, .slice a2 l2 c2]] w fun e w' => ∃ (c : Pchg) (a : Option Addr) (n cap : Nat), e = .returned (.agg #[.int .i64 c.kind, .string c.col, .int .i64 c.t, .int .i64 c.v.kind, .slice a n cap, .float .f64 c.v.n]) ∧ VA W [.int .i64 c.v.kind, .slice a n cap, .float .f64 c.v.n] c.v ∧ cRight c = 0 ∧ c.col ≠ bTurned ∧ Moves [] w w' := by
 have HK : Hid (KArg W (.agg #[.bool tb, .int .i64 tn, .float .f64 tx, .slice a2 l2 c2])) := hK
 obtain ⟨_, _, _, _, _, _, _, _, hKe, htx0, _⟩ := hK.out
 have htx : Pl.Fits tx := by
  simp only [Value.agg.injEq, Array.mk.injEq, List.cons.injEq, Value.float.injEq, and_true, true_and] at hKe
  rw [hKe.2.2.1]
  exact htx0
 clear hKe htx0 hK
 go_enter Tryz.func49, Tryz.ntmps49
 go_wp2_with fail
 obtain ⟨wq, hwq⟩ : ∃ wq, (w.alloc (.cells #[.int .i64 ki, .int .i64 co, .int .i64 ti, .bool tb, .int .i64 tn, .float .f64 tx, .slice a2 l2 c2] 106)).alloc (.cells #[.int .i64 0, .string ⟨#[]⟩, .int .i64 0, .int .i64 0, .slice none 0 0, .float .f64 0] 101) = wq := ⟨_, rfl⟩
 obtain ⟨p0, p1, m1⟩ : wq.heap[w.heap.size]? = some (.cells #[.int .i64 ki, .int .i64 co, .int .i64 ti, .bool tb, .int .i64 tn, .float .f64 tx, .slice a2 l2 c2] 106 (0, 0)) ∧ wq.heap[w.heap.size + 1]? = some (.cells #[.int .i64 0, .string ⟨#[]⟩, .int .i64 0, .int .i64 0, .slice none 0 0, .float .f64 0] 101 (0, 0)) ∧ Moves [] w wq := by rw [← hwq]; exact boxes (Moves.refl _ _)
 rw [hwq]
 obtain ⟨pr, hpr⟩ : ∃ pr, w.heap.size + 1 = pr := ⟨_, rfl⟩
 obtain ⟨pa, hpa⟩ : ∃ pa, w.heap.size = pa := ⟨_, rfl⟩
 rw [hpr] at p1
 rw [hpa] at p0
 rw [hpr, hpa]
 have hpr' : w.heap.size ≤ pr := by omega
 have hlr : pr < wq.heap.size := lt_of_block p1
 obtain ⟨d0, d1, d2, d3, d4, d5, d6⟩ := seven_cells p0
 have hS : ∀ w', Moves [] wq w' → ((fun w' => w'.cell? ⟨pa, 0, none⟩ = some (.int .i64 ki) ∧ w'.cell? ⟨pa, 1, none⟩ = some (.int .i64 co) ∧ w'.cell? ⟨pa, 2, none⟩ = some (.int .i64 ti) ∧ w'.cell? ⟨pa, 3, none⟩ = some (.bool tb) ∧ w'.cell? ⟨pa, 4, none⟩ = some (.int .i64 tn) ∧ w'.cell? ⟨pa, 5, none⟩ = some (.float .f64 tx) ∧ w'.cell? ⟨pa, 6, none⟩ = some (.slice a2 l2 c2)) w') := fun w' m' => ⟨m'.cell d0, m'.cell d1, m'.cell d2, m'.cell d3, m'.cell d4, m'.cell d5, m'.cell d6⟩
 have mW : Moves [] wq wq.drew := (Moves.refl _ _).drew
 clear hwq hpr hpa
 refine wp_some [4, 5, 6, 7, 8, 9, 10, 11, 12, 13, 14, 15, 16, 17, 18, 3] (fun u w' => ∃ (j : Nat) (s : ByteArray) (r2 : Int) (A : Vm) (adA : Option Addr) (lenA capA pb : Nat), j < 5 ∧ s ∈ colNames ∧ (0 ≤ r2 ∧ r2 ≤ 30) ∧ VA W [.int .i64 A.kind, .slice adA lenA capA, .float .f64 A.n] A.pv ∧ pvr A.pv = true ∧ u 3 = .pointer (some ⟨pb, 0, none⟩) ∧ w'.heap[pb]? = some (.cells #[.int .i64 (1 + (j : Int)), .string s, .int .i64 r2, .int .i64 A.kind, .slice adA lenA capA, .float .f64 A.n] 101 (0, 0)) ∧ wq.heap.size ≤ pb ∧ Moves [] wq w') ?_ ?_
 ·refine wp_region_noPanic ?_
  refine wp_region_held_drew (S := (fun w' => w'.cell? ⟨pa, 0, none⟩ = some (.int .i64 ki) ∧ w'.cell? ⟨pa, 1, none⟩ = some (.int .i64 co) ∧ w'.cell? ⟨pa, 2, none⟩ = some (.int .i64 ti) ∧ w'.cell? ⟨pa, 3, none⟩ = some (.bool tb) ∧ w'.cell? ⟨pa, 4, none⟩ = some (.int .i64 tn) ∧ w'.cell? ⟨pa, 5, none⟩ = some (.float .f64 tx) ∧ w'.cell? ⟨pa, 6, none⟩ = some (.slice a2 l2 c2))) (by kernel_rfl) ?_ (fun hHeld => ?_)
  ·first | (go_keep; done) | first | exact hS _ st2 | exact hS _ mW
  refine wpT 0 ⟨some 4, .fieldAddr 106 (.tmp 1) 0, 0, "same.go:82", #[], none⟩ ?_
  refine wpT 1 ⟨some 5, .load 3 (.tmp 4), 3, "same.go:82", #[⟨0, .data⟩], none⟩ ?_
  refine wpT 5 ⟨some 9, .fieldAddr 106 (.tmp 1) 1, 0, "same.go:82", #[], none⟩ ?_
  refine wpT 6 ⟨some 10, .load 3 (.tmp 9), 3, "same.go:82", #[⟨5, .data⟩], none⟩ ?_
  refine wpT 8 ⟨some 12, .fieldAddr 106 (.tmp 1) 2, 0, "same.go:82", #[], none⟩ ?_
  refine wpT 9 ⟨some 13, .load 2 (.tmp 12), 2, "same.go:82", #[⟨8, .data⟩], none⟩ ?_
  refine wpT 11 ⟨some 15, .fieldAddr 106 (.tmp 1) 3, 0, "same.go:82", #[], none⟩ ?_
  refine wpT 12 ⟨some 16, .load 104 (.tmp 15), 104, "same.go:82", #[⟨11, .data⟩], none⟩ ?_
  refine wpAnyH_ready (rs := [2, 15]) (by kernel_rfl) (by simp) ?_
  refine AllReadyH.cons (o := ⟨some 6, .call ⟨.value (.func 93), #[.tmp 5, .const (.int .i64 0), .const (.int .i64 1048576)], #[3, 3, 3]⟩, 3, "same.go:82", #[⟨1, .data⟩], none⟩) rfl (fun K hK => ?_) (AllReadyH.cons (o := ⟨some 3, .alloc 101, 0, "same.go:82", #[], none⟩) rfl (fun K hK => ?_) AllReadyH.nil)
  ·go_simp
   go_at_call 93
   refine (within_w _ _).mono ?_
   rintro _ _ ⟨r, hr, rfl, rfl⟩
   obtain ⟨j, hj, hje⟩ := tmod5 hr
   have hj1 : IntKind.i64.wrap (1 + (j : Int)) = 1 + (j : Int) := by rw [IntWalk.i64_in _ (by omega)]
   refine hK.out _ _ ?_ (fun hHeld => ?_)
   ·first | exact hS _ st2 | exact hS _ mW
   clear hK K
   refine wpT 3 ⟨some 7, .binOp .rem 3 (.tmp 6) (.const (.int .i64 5)) 3, 3, "same.go:82", #[⟨2, .data⟩], none⟩ ?_
   refine wpT 4 ⟨some 8, .binOp .add 3 (.const (.int .i64 1)) (.tmp 7) 3, 3, "same.go:82", #[⟨3, .data⟩], none⟩ ?_
   refine wpAnyH_ready (rs := [7, 15]) (by kernel_rfl) (by simp) ?_
   refine AllReadyH.cons (o := ⟨some 11, .call ⟨.value (.func 94), #[.tmp 10], #[3]⟩, 9, "same.go:82", #[⟨6, .data⟩, ⟨2, .chain⟩], none⟩) rfl (fun K hK => ?_) (AllReadyH.cons (o := ⟨some 3, .alloc 101, 0, "same.go:82", #[], none⟩) rfl (fun K hK => ?_) AllReadyH.nil)
   ·go_simp
    go_at_call 94
    refine (keepCol_w _ _).mono ?_
    rintro _ w7 ⟨s, rfl, hs, m7⟩
    replace mW := mW.then m7
    refine hK.out _ _ ?_ (fun hHeld => ?_)
    ·first | exact hS _ st2 | exact hS _ mW
    clear hK K
    refine wpAnyH_ready (rs := [10, 15]) (by kernel_rfl) (by simp) ?_
    refine AllReadyH.cons (o := ⟨some 14, .call ⟨.value (.func 93), #[.tmp 13, .const (.int .i64 0), .const (.int .i64 30)], #[3, 3, 3]⟩, 3, "same.go:82", #[⟨9, .data⟩, ⟨7, .chain⟩], none⟩) rfl (fun K hK => ?_) (AllReadyH.cons (o := ⟨some 3, .alloc 101, 0, "same.go:82", #[], none⟩) rfl (fun K hK => ?_) AllReadyH.nil)
    ·go_simp
     go_at_call 93
     refine (within30_w _ _).mono ?_
     rintro _ _ ⟨r2, hr2, rfl, rfl⟩
     refine hK.out _ _ ?_ (fun hHeld => ?_)
     ·first | exact hS _ st2 | exact hS _ mW
     clear hK K
     refine wpAnyH_ready (rs := [13, 15]) (by kernel_rfl) (by simp) ?_
     refine AllReadyH.cons (o := ⟨some 17, .call ⟨.value (.func 95), #[.tmp 16], #[104]⟩, 99, "same.go:82", #[⟨12, .data⟩, ⟨10, .chain⟩], none⟩) rfl (fun K hK => ?_) (AllReadyH.cons (o := ⟨some 3, .alloc 101, 0, "same.go:82", #[], none⟩) rfl (fun K hK => ?_) AllReadyH.nil)
     ·go_simp
      go_at_call 95
      refine (keep_b' W _ _ HK.out).mono ?_
      rintro _ w13 ⟨A, adA, lenA, capA, rfl, hA, yA, m13⟩
      have HA : Hid (VA W [.int .i64 A.kind, .slice adA lenA capA, .float .f64 A.n] A.pv) := hA.va (by have := yA.len16; omega)
      have HY : Hid (pvr A.pv = true) := yA.right
      clear hA yA
      replace mW := mW.then m13
      refine hK.out _ _ ?_ (fun hHeld => ?_)
      ·first | exact hS _ st2 | exact hS _ mW
      clear hK K
      refine wpT 14 ⟨some 18, .build 101 #[(0, .tmp 8), (1, .tmp 11), (2, .tmp 14), (3, .tmp 17)], 101, "same.go:82", #[⟨4, .data⟩, ⟨7, .data⟩, ⟨10, .data⟩, ⟨13, .data⟩], none⟩ ?_
      refine wpR 15 ⟨some 3, .alloc 101, 0, "same.go:82", #[], none⟩ (fun K hK => ?_)
      go_simp
      have hle := mW.size
      obtain ⟨w15, hwa⟩ : ∃ w15, w13.alloc (.cells #[.int .i64 0, .string ⟨#[]⟩, .int .i64 0, .int .i64 0, .slice none 0 0, .float .f64 0] 101) = w15 := ⟨_, rfl⟩
      have hb : w15.heap[w13.heap.size]? = some (.cells #[.int .i64 0, .string ⟨#[]⟩, .int .i64 0, .int .i64 0, .slice none 0 0, .float .f64 0] 101 (0, 0)) := by rw [← hwa]; exact heap_alloc_new w13 _
      have mA : Moves [] w13 w15 := by rw [← hwa]; exact (Moves.refl _ _).alloc _
      rw [hwa]
      obtain ⟨pb, hpb⟩ : ∃ pb, w13.heap.size = pb := ⟨_, rfl⟩
      rw [hpb] at hb ⊢
      have hle : wq.heap.size ≤ pb := by rw [← hpb]; first | exact hle | exact Nat.le_refl _
      replace mW := mW.then mA
      clear hwa hpb
      refine hK.out _ _ ?_ (fun hHeld => ?_)
      ·first | exact hS _ st2 | exact hS _ mW
      clear hK K
      refine wpR 16 ⟨none, .store 101 (.tmp 3) (.tmp 18), 0, "same.go:82", #[⟨15, .data⟩, ⟨14, .data⟩, ⟨13, .chain⟩, ⟨0, .phase⟩, ⟨1, .phase⟩, ⟨2, .phase⟩, ⟨3, .phase⟩, ⟨4, .phase⟩, ⟨5, .phase⟩, ⟨6, .phase⟩, ⟨7, .phase⟩, ⟨8, .phase⟩, ⟨9, .phase⟩, ⟨10, .phase⟩, ⟨11, .phase⟩, ⟨12, .phase⟩, ⟨13, .phase⟩, ⟨14, .phase⟩, ⟨15, .phase⟩], none⟩ (fun K hK => ?_)
      obtain ⟨x0, x1, x2, x3, x4, x5, y0, y1, y2, y3, y4, y5⟩ := six_frozen hb
      obtain ⟨st1, st2⟩ := stored6 hb mW hle (.int .i64 (1 + (j : Int))) (.string s) (.int .i64 r2) (.int .i64 A.kind) (.slice adA lenA capA) (.float .f64 A.n)
      go_simp
      refine hK.out _ _ ?_ (fun hHeld => ?_)
      ·first | exact hS _ st2 | exact hS _ mW
      clear hK K
      refine wpAnyH_done (by kernel_rfl) ?_ _
      refine NoPanic.normal ?_
      exact ⟨rfl, by kernel_rfl, j, s, r2, A, adA, lenA, capA, pb, hj, hs, hr2, HA.out, HY.out, by kernel_rfl, st1, hle, st2⟩
     ·go_simp
      have hle := mW.size
      obtain ⟨w15, hwa⟩ : ∃ w15, w7.alloc (.cells #[.int .i64 0, .string ⟨#[]⟩, .int .i64 0, .int .i64 0, .slice none 0 0, .float .f64 0] 101) = w15 := ⟨_, rfl⟩
      have hb : w15.heap[w7.heap.size]? = some (.cells #[.int .i64 0, .string ⟨#[]⟩, .int .i64 0, .int .i64 0, .slice none 0 0, .float .f64 0] 101 (0, 0)) := by rw [← hwa]; exact heap_alloc_new w7 _
      have mA : Moves [] w7 w15 := by rw [← hwa]; exact (Moves.refl _ _).alloc _
      rw [hwa]
      obtain ⟨pb, hpb⟩ : ∃ pb, w7.heap.size = pb := ⟨_, rfl⟩
      rw [hpb] at hb ⊢
      have hle : wq.heap.size ≤ pb := by rw [← hpb]; first | exact hle | exact Nat.le_refl _
      replace mW := mW.then mA
      clear hwa hpb
      refine hK.out _ _ ?_ (fun hHeld => ?_)
      ·first | exact hS _ st2 | exact hS _ mW
      clear hK K
      refine wpR 13 ⟨some 17, .call ⟨.value (.func 95), #[.tmp 16], #[104]⟩, 99, "same.go:82", #[⟨12, .data⟩, ⟨10, .chain⟩], none⟩ (fun K hK => ?_)
      go_simp
      go_at_call 95
      refine (keep_b' W _ _ HK.out).mono ?_
      rintro _ w13 ⟨A, adA, lenA, capA, rfl, hA, yA, m13⟩
      have HA : Hid (VA W [.int .i64 A.kind, .slice adA lenA capA, .float .f64 A.n] A.pv) := hA.va (by have := yA.len16; omega)
      have HY : Hid (pvr A.pv = true) := yA.right
      clear hA yA
      replace mW := mW.then m13
      have hb := m13.at hb (by simp)
      refine hK.out _ _ ?_ (fun hHeld => ?_)
      ·first | exact hS _ st2 | exact hS _ mW
      clear hK K
      refine wpT 14 ⟨some 18, .build 101 #[(0, .tmp 8), (1, .tmp 11), (2, .tmp 14), (3, .tmp 17)], 101, "same.go:82", #[⟨4, .data⟩, ⟨7, .data⟩, ⟨10, .data⟩, ⟨13, .data⟩], none⟩ ?_
      refine wpR 16 ⟨none, .store 101 (.tmp 3) (.tmp 18), 0, "same.go:82", #[⟨15, .data⟩, ⟨14, .data⟩, ⟨13, .chain⟩, ⟨0, .phase⟩, ⟨1, .phase⟩, ⟨2, .phase⟩, ⟨3, .phase⟩, ⟨4, .phase⟩, ⟨5, .phase⟩, ⟨6, .phase⟩, ⟨7, .phase⟩, ⟨8, .phase⟩, ⟨9, .phase⟩, ⟨10, .phase⟩, ⟨11, .phase⟩, ⟨12, .phase⟩, ⟨13, .phase⟩, ⟨14, .phase⟩, ⟨15, .phase⟩], none⟩ (fun K hK => ?_)
      obtain ⟨x0, x1, x2, x3, x4, x5, y0, y1, y2, y3, y4, y5⟩ := six_frozen hb
      obtain ⟨st1, st2⟩ := stored6 hb mW hle (.int .i64 (1 + (j : Int))) (.string s) (.int .i64 r2) (.int .i64 A.kind) (.slice adA lenA capA) (.float .f64 A.n)
      go_simp
      refine hK.out _ _ ?_ (fun hHeld => ?_)
      ·first | exact hS _ st2 | exact hS _ mW
      clear hK K
      refine wpAnyH_done (by kernel_rfl) ?_ _
      refine NoPanic.normal ?_
      exact ⟨rfl, by kernel_rfl, j, s, r2, A, adA, lenA, capA, pb, hj, hs, hr2, HA.out, HY.out, by kernel_rfl, st1, hle, st2⟩
    ·go_simp
     have hle := mW.size
     obtain ⟨w15, hwa⟩ : ∃ w15, w7.alloc (.cells #[.int .i64 0, .string ⟨#[]⟩, .int .i64 0, .int .i64 0, .slice none 0 0, .float .f64 0] 101) = w15 := ⟨_, rfl⟩
     have hb : w15.heap[w7.heap.size]? = some (.cells #[.int .i64 0, .string ⟨#[]⟩, .int .i64 0, .int .i64 0, .slice none 0 0, .float .f64 0] 101 (0, 0)) := by rw [← hwa]; exact heap_alloc_new w7 _
     have mA : Moves [] w7 w15 := by rw [← hwa]; exact (Moves.refl _ _).alloc _
     rw [hwa]
     obtain ⟨pb, hpb⟩ : ∃ pb, w7.heap.size = pb := ⟨_, rfl⟩
     rw [hpb] at hb ⊢
     have hle : wq.heap.size ≤ pb := by rw [← hpb]; first | exact hle | exact Nat.le_refl _
     replace mW := mW.then mA
     clear hwa hpb
     refine hK.out _ _ ?_ (fun hHeld => ?_)
     ·first | exact hS _ st2 | exact hS _ mW
     clear hK K
     refine wpR 10 ⟨some 14, .call ⟨.value (.func 93), #[.tmp 13, .const (.int .i64 0), .const (.int .i64 30)], #[3, 3, 3]⟩, 3, "same.go:82", #[⟨9, .data⟩, ⟨7, .chain⟩], none⟩ (fun K hK => ?_)
     go_simp
     go_at_call 93
     refine (within30_w _ _).mono ?_
     rintro _ _ ⟨r2, hr2, rfl, rfl⟩
     refine hK.out _ _ ?_ (fun hHeld => ?_)
     ·first | exact hS _ st2 | exact hS _ mW
     clear hK K
     refine wpR 13 ⟨some 17, .call ⟨.value (.func 95), #[.tmp 16], #[104]⟩, 99, "same.go:82", #[⟨12, .data⟩, ⟨10, .chain⟩], none⟩ (fun K hK => ?_)
     go_simp
     go_at_call 95
     refine (keep_b' W _ _ HK.out).mono ?_
     rintro _ w13 ⟨A, adA, lenA, capA, rfl, hA, yA, m13⟩
     have HA : Hid (VA W [.int .i64 A.kind, .slice adA lenA capA, .float .f64 A.n] A.pv) := hA.va (by have := yA.len16; omega)
     have HY : Hid (pvr A.pv = true) := yA.right
     clear hA yA
     replace mW := mW.then m13
     have hb := m13.at hb (by simp)
     refine hK.out _ _ ?_ (fun hHeld => ?_)
     ·first | exact hS _ st2 | exact hS _ mW
     clear hK K
     refine wpT 14 ⟨some 18, .build 101 #[(0, .tmp 8), (1, .tmp 11), (2, .tmp 14), (3, .tmp 17)], 101, "same.go:82", #[⟨4, .data⟩, ⟨7, .data⟩, ⟨10, .data⟩, ⟨13, .data⟩], none⟩ ?_
     refine wpR 16 ⟨none, .store 101 (.tmp 3) (.tmp 18), 0, "same.go:82", #[⟨15, .data⟩, ⟨14, .data⟩, ⟨13, .chain⟩, ⟨0, .phase⟩, ⟨1, .phase⟩, ⟨2, .phase⟩, ⟨3, .phase⟩, ⟨4, .phase⟩, ⟨5, .phase⟩, ⟨6, .phase⟩, ⟨7, .phase⟩, ⟨8, .phase⟩, ⟨9, .phase⟩, ⟨10, .phase⟩, ⟨11, .phase⟩, ⟨12, .phase⟩, ⟨13, .phase⟩, ⟨14, .phase⟩, ⟨15, .phase⟩], none⟩ (fun K hK => ?_)
     obtain ⟨x0, x1, x2, x3, x4, x5, y0, y1, y2, y3, y4, y5⟩ := six_frozen hb
     obtain ⟨st1, st2⟩ := stored6 hb mW hle (.int .i64 (1 + (j : Int))) (.string s) (.int .i64 r2) (.int .i64 A.kind) (.slice adA lenA capA) (.float .f64 A.n)
     go_simp
     refine hK.out _ _ ?_ (fun hHeld => ?_)
     ·first | exact hS _ st2 | exact hS _ mW
     clear hK K
     refine wpAnyH_done (by kernel_rfl) ?_ _
     refine NoPanic.normal ?_
     exact ⟨rfl, by kernel_rfl, j, s, r2, A, adA, lenA, capA, pb, hj, hs, hr2, HA.out, HY.out, by kernel_rfl, st1, hle, st2⟩
   ·go_simp
    have hle := mW.size
    obtain ⟨w15, hwa⟩ : ∃ w15, (wq.alloc (.cells #[.int .i64 0, .string ⟨#[]⟩, .int .i64 0, .int .i64 0, .slice none 0 0, .float .f64 0] 101)).drew = w15 := ⟨_, rfl⟩
    have hb : w15.heap[wq.heap.size]? = some (.cells #[.int .i64 0, .string ⟨#[]⟩, .int .i64 0, .int .i64 0, .slice none 0 0, .float .f64 0] 101 (0, 0)) := by rw [← hwa]; exact heap_alloc_new wq _
    have mA : Moves [] wq w15 := by rw [← hwa]; exact ((Moves.refl _ _).alloc _).drew
    rw [hwa]
    obtain ⟨pb, hpb⟩ : ∃ pb, wq.heap.size = pb := ⟨_, rfl⟩
    rw [hpb] at hb ⊢
    have hle : wq.heap.size ≤ pb := by rw [← hpb]; first | exact hle | exact Nat.le_refl _
    replace mW := mA
    clear hwa hpb
    refine hK.out _ _ ?_ (fun hHeld => ?_)
    ·first | exact hS _ st2 | exact hS _ mW
    clear hK K
    refine wpR 7 ⟨some 11, .call ⟨.value (.func 94), #[.tmp 10], #[3]⟩, 9, "same.go:82", #[⟨6, .data⟩, ⟨2, .chain⟩], none⟩ (fun K hK => ?_)
    go_simp
    go_at_call 94
    refine (keepCol_w _ _).mono ?_
    rintro _ w7 ⟨s, rfl, hs, m7⟩
    replace mW := mW.then m7
    have hb := m7.at hb (by simp)
    refine hK.out _ _ ?_ (fun hHeld => ?_)
    ·first | exact hS _ st2 | exact hS _ mW
    clear hK K
    refine wpR 10 ⟨some 14, .call ⟨.value (.func 93), #[.tmp 13, .const (.int .i64 0), .const (.int .i64 30)], #[3, 3, 3]⟩, 3, "same.go:82", #[⟨9, .data⟩, ⟨7, .chain⟩], none⟩ (fun K hK => ?_)
    go_simp
    go_at_call 93
    refine (within30_w _ _).mono ?_
    rintro _ _ ⟨r2, hr2, rfl, rfl⟩
    refine hK.out _ _ ?_ (fun hHeld => ?_)
    ·first | exact hS _ st2 | exact hS _ mW
    clear hK K
    refine wpR 13 ⟨some 17, .call ⟨.value (.func 95), #[.tmp 16], #[104]⟩, 99, "same.go:82", #[⟨12, .data⟩, ⟨10, .chain⟩], none⟩ (fun K hK => ?_)
    go_simp
    go_at_call 95
    refine (keep_b' W _ _ HK.out).mono ?_
    rintro _ w13 ⟨A, adA, lenA, capA, rfl, hA, yA, m13⟩
    have HA : Hid (VA W [.int .i64 A.kind, .slice adA lenA capA, .float .f64 A.n] A.pv) := hA.va (by have := yA.len16; omega)
    have HY : Hid (pvr A.pv = true) := yA.right
    clear hA yA
    replace mW := mW.then m13
    have hb := m13.at hb (by simp)
    refine hK.out _ _ ?_ (fun hHeld => ?_)
    ·first | exact hS _ st2 | exact hS _ mW
    clear hK K
    refine wpT 14 ⟨some 18, .build 101 #[(0, .tmp 8), (1, .tmp 11), (2, .tmp 14), (3, .tmp 17)], 101, "same.go:82", #[⟨4, .data⟩, ⟨7, .data⟩, ⟨10, .data⟩, ⟨13, .data⟩], none⟩ ?_
    refine wpR 16 ⟨none, .store 101 (.tmp 3) (.tmp 18), 0, "same.go:82", #[⟨15, .data⟩, ⟨14, .data⟩, ⟨13, .chain⟩, ⟨0, .phase⟩, ⟨1, .phase⟩, ⟨2, .phase⟩, ⟨3, .phase⟩, ⟨4, .phase⟩, ⟨5, .phase⟩, ⟨6, .phase⟩, ⟨7, .phase⟩, ⟨8, .phase⟩, ⟨9, .phase⟩, ⟨10, .phase⟩, ⟨11, .phase⟩, ⟨12, .phase⟩, ⟨13, .phase⟩, ⟨14, .phase⟩, ⟨15, .phase⟩], none⟩ (fun K hK => ?_)
    obtain ⟨x0, x1, x2, x3, x4, x5, y0, y1, y2, y3, y4, y5⟩ := six_frozen hb
    obtain ⟨st1, st2⟩ := stored6 hb mW hle (.int .i64 (1 + (j : Int))) (.string s) (.int .i64 r2) (.int .i64 A.kind) (.slice adA lenA capA) (.float .f64 A.n)
    go_simp
    refine hK.out _ _ ?_ (fun hHeld => ?_)
    ·first | exact hS _ st2 | exact hS _ mW
    clear hK K
    refine wpAnyH_done (by kernel_rfl) ?_ _
    refine NoPanic.normal ?_
    exact ⟨rfl, by kernel_rfl, j, s, r2, A, adA, lenA, capA, pb, hj, hs, hr2, HA.out, HY.out, by kernel_rfl, st1, hle, st2⟩
  ·go_simp
   have hle := mW.size
   obtain ⟨w15, hwa⟩ : ∃ w15, (wq.alloc (.cells #[.int .i64 0, .string ⟨#[]⟩, .int .i64 0, .int .i64 0, .slice none 0 0, .float .f64 0] 101)).drew = w15 := ⟨_, rfl⟩
   have hb : w15.heap[wq.heap.size]? = some (.cells #[.int .i64 0, .string ⟨#[]⟩, .int .i64 0, .int .i64 0, .slice none 0 0, .float .f64 0] 101 (0, 0)) := by rw [← hwa]; exact heap_alloc_new wq _
   have mA : Moves [] wq w15 := by rw [← hwa]; exact ((Moves.refl _ _).alloc _).drew
   rw [hwa]
   obtain ⟨pb, hpb⟩ : ∃ pb, wq.heap.size = pb := ⟨_, rfl⟩
   rw [hpb] at hb ⊢
   have hle : wq.heap.size ≤ pb := by rw [← hpb]; first | exact hle | exact Nat.le_refl _
   replace mW := mA
   clear hwa hpb
   refine hK.out _ _ ?_ (fun hHeld => ?_)
   ·first | exact hS _ st2 | exact hS _ mW
   clear hK K
   refine wpR 2 ⟨some 6, .call ⟨.value (.func 93), #[.tmp 5, .const (.int .i64 0), .const (.int .i64 1048576)], #[3, 3, 3]⟩, 3, "same.go:82", #[⟨1, .data⟩], none⟩ (fun K hK => ?_)
   go_simp
   go_at_call 93
   refine (within_w _ _).mono ?_
   rintro _ _ ⟨r, hr, rfl, rfl⟩
   obtain ⟨j, hj, hje⟩ := tmod5 hr
   have hj1 : IntKind.i64.wrap (1 + (j : Int)) = 1 + (j : Int) := by rw [IntWalk.i64_in _ (by omega)]
   refine hK.out _ _ ?_ (fun hHeld => ?_)
   ·first | exact hS _ st2 | exact hS _ mW
   clear hK K
   refine wpT 3 ⟨some 7, .binOp .rem 3 (.tmp 6) (.const (.int .i64 5)) 3, 3, "same.go:82", #[⟨2, .data⟩], none⟩ ?_
   refine wpT 4 ⟨some 8, .binOp .add 3 (.const (.int .i64 1)) (.tmp 7) 3, 3, "same.go:82", #[⟨3, .data⟩], none⟩ ?_
   refine wpR 7 ⟨some 11, .call ⟨.value (.func 94), #[.tmp 10], #[3]⟩, 9, "same.go:82", #[⟨6, .data⟩, ⟨2, .chain⟩], none⟩ (fun K hK => ?_)
   go_simp
   go_at_call 94
   refine (keepCol_w _ _).mono ?_
   rintro _ w7 ⟨s, rfl, hs, m7⟩
   replace mW := mW.then m7
   have hb := m7.at hb (by simp)
   refine hK.out _ _ ?_ (fun hHeld => ?_)
   ·first | exact hS _ st2 | exact hS _ mW
   clear hK K
   refine wpR 10 ⟨some 14, .call ⟨.value (.func 93), #[.tmp 13, .const (.int .i64 0), .const (.int .i64 30)], #[3, 3, 3]⟩, 3, "same.go:82", #[⟨9, .data⟩, ⟨7, .chain⟩], none⟩ (fun K hK => ?_)
   go_simp
   go_at_call 93
   refine (within30_w _ _).mono ?_
   rintro _ _ ⟨r2, hr2, rfl, rfl⟩
   refine hK.out _ _ ?_ (fun hHeld => ?_)
   ·first | exact hS _ st2 | exact hS _ mW
   clear hK K
   refine wpR 13 ⟨some 17, .call ⟨.value (.func 95), #[.tmp 16], #[104]⟩, 99, "same.go:82", #[⟨12, .data⟩, ⟨10, .chain⟩], none⟩ (fun K hK => ?_)
   go_simp
   go_at_call 95
   refine (keep_b' W _ _ HK.out).mono ?_
   rintro _ w13 ⟨A, adA, lenA, capA, rfl, hA, yA, m13⟩
   have HA : Hid (VA W [.int .i64 A.kind, .slice adA lenA capA, .float .f64 A.n] A.pv) := hA.va (by have := yA.len16; omega)
   have HY : Hid (pvr A.pv = true) := yA.right
   clear hA yA
   replace mW := mW.then m13
   have hb := m13.at hb (by simp)
   refine hK.out _ _ ?_ (fun hHeld => ?_)
   ·first | exact hS _ st2 | exact hS _ mW
   clear hK K
   refine wpT 14 ⟨some 18, .build 101 #[(0, .tmp 8), (1, .tmp 11), (2, .tmp 14), (3, .tmp 17)], 101, "same.go:82", #[⟨4, .data⟩, ⟨7, .data⟩, ⟨10, .data⟩, ⟨13, .data⟩], none⟩ ?_
   refine wpR 16 ⟨none, .store 101 (.tmp 3) (.tmp 18), 0, "same.go:82", #[⟨15, .data⟩, ⟨14, .data⟩, ⟨13, .chain⟩, ⟨0, .phase⟩, ⟨1, .phase⟩, ⟨2, .phase⟩, ⟨3, .phase⟩, ⟨4, .phase⟩, ⟨5, .phase⟩, ⟨6, .phase⟩, ⟨7, .phase⟩, ⟨8, .phase⟩, ⟨9, .phase⟩, ⟨10, .phase⟩, ⟨11, .phase⟩, ⟨12, .phase⟩, ⟨13, .phase⟩, ⟨14, .phase⟩, ⟨15, .phase⟩], none⟩ (fun K hK => ?_)
   obtain ⟨x0, x1, x2, x3, x4, x5, y0, y1, y2, y3, y4, y5⟩ := six_frozen hb
   obtain ⟨st1, st2⟩ := stored6 hb mW hle (.int .i64 (1 + (j : Int))) (.string s) (.int .i64 r2) (.int .i64 A.kind) (.slice adA lenA capA) (.float .f64 A.n)
   go_simp
   refine hK.out _ _ ?_ (fun hHeld => ?_)
   ·first | exact hS _ st2 | exact hS _ mW
   clear hK K
   refine wpAnyH_done (by kernel_rfl) ?_ _
   refine NoPanic.normal ?_
   exact ⟨rfl, by kernel_rfl, j, s, r2, A, adA, lenA, capA, pb, hj, hs, hr2, HA.out, HY.out, by kernel_rfl, st1, hle, st2⟩
 ·rintro u wx ⟨j, s, r2, A, adA, lenA, capA, pb, hj, hs, hr2, hA, hY, hu3, qb, hle, mx⟩
  simp only [List.foldl_cons, List.foldl_nil, List.setIfInBounds_toArray, List.set_cons_zero, List.set_cons_succ, hu3]
  clear hu3
  generalize u 4 = u4
  generalize u 5 = u5
  generalize u 6 = u6
  generalize u 7 = u7
  generalize u 8 = u8
  generalize u 9 = u9
  generalize u 10 = u10
  generalize u 11 = u11
  generalize u 12 = u12
  generalize u 13 = u13
  generalize u 14 = u14
  generalize u 15 = u15
  generalize u 16 = u16
  generalize u 17 = u17
  generalize u 18 = u18
  have HA : Hid (VA W [.int .i64 A.kind, .slice adA lenA capA, .float .f64 A.n] A.pv) := hA
  have HY : Hid (pvr A.pv = true) := hY
  have HS : Hid (pname s = true) := colNames_name hs
  have HSn : Hid (s ≠ bTurned) := colNames_turned hs
  have qr := mx.at p1 (by simp)
  have ne1 : ¬ pb = pr := by omega
  have ne2 : ¬ pr = pb := by omega
  have M := m1.then mx
  clear hA hY hs hS mW
  obtain ⟨K, hKe⟩ : ∃ K : Int, 1 + (j : Int) = K := ⟨_, rfl⟩
  have hways : K = 1 ∨ K = 2 ∨ K = 3 ∨ K = 4 ∨ K = 5 := by omega
  rw [hKe] at qb
  clear hKe
  obtain ⟨e0, e1, e2, e3, e4, e5, e6, e7, e8, e9, e10, e11⟩ := six_frozen qb
  obtain ⟨f0, f1, f2, f3, f4, f5, f6, f7, f8, f9, f10, f11⟩ := six_frozen qr
  rcases hways with rfl | rfl | rfl | rfl | rfl
  ·obtain ⟨rt1, rt2⟩ := stored6 qr M hpr' (.int .i64 1) (.string s) (.int .i64 r2) (.int .i64 A.kind) (.slice adA lenA capA) (.float .f64 A.n)
   go_wp2_with fail
   try simp only [Exit.inBlock, Exit.then]
   exact bodyPost_ret (ret_chg rfl _ _ _ _ _ _ _ _ _ rfl rt1) rfl ⟨⟨1, s, r2, A.pv⟩, _, _, _, rfl, HA.out, drawn_right (by simp) (fun _ => HS.out) hr2 (fun _ => HY.out) (fun h => by simp at h), HSn.out, rt2⟩
  ·have hm5 : Moves [pb] wx (((wx.setCell ⟨pb, 3, none⟩ (.int .i64 0)).setCell ⟨pb, 4, none⟩ (.slice none 0 0)).setCell ⟨pb, 5, none⟩ (.float .f64 0)) := (((moves_set _ _ _ _).then (moves_set _ _ _ _)).then (moves_set _ _ _ _))
   have hb5 : (((wx.setCell ⟨pb, 3, none⟩ (.int .i64 0)).setCell ⟨pb, 4, none⟩ (.slice none 0 0)).setCell ⟨pb, 5, none⟩ (.float .f64 0)).heap[pb]? = some (.cells #[.int .i64 2, .string s, .int .i64 r2, .int .i64 0, .slice none 0 0, .float .f64 0] 101 (0, 0)) := (heap_set (i := 5) (heap_set (i := 4) (heap_set (i := 3) qb (.int .i64 0)) (.slice none 0 0)) (.float .f64 0))
   have qr5 := hm5.at qr (by simp; omega)
   have M5 : Moves [] w (((wx.setCell ⟨pb, 3, none⟩ (.int .i64 0)).setCell ⟨pb, 4, none⟩ (.slice none 0 0)).setCell ⟨pb, 5, none⟩ (.float .f64 0)) := M.trans hm5 (fun k hk => .inr (by simp at hk; subst hk; have := m1.size; omega))
   obtain ⟨g0, g1, g2, g3, g4, g5, g6, g7, g8, g9, g10, g11⟩ := six_frozen hb5
   obtain ⟨h0, h1, h2, h3, h4, h5, h6, h7, h8, h9, h10, h11⟩ := six_frozen qr5
   go_wp2_with fail
   try simp only [Exit.inBlock, Exit.then]
   obtain ⟨rt1, rt2⟩ := stored6 qr5 M5 hpr' (.int .i64 2) (.string s) (.int .i64 r2) (.int .i64 0) (.slice none 0 0) (.float .f64 0)
   exact bodyPost_ret (ret_chg rfl _ _ _ _ _ _ _ _ _ rfl rt1) rfl ⟨⟨2, s, r2, ⟨0, [], 0⟩⟩, _, _, _, rfl, ⟨none, 0, 0, 0, rfl, isB_nil _ _, fits_zero, by simp, by simp⟩, drawn_right (by simp) (fun _ => HS.out) hr2 (fun h => by simp at h) (fun h => by simp at h), HSn.out, rt2⟩
  ·have hm5 : Moves [pb] wx ((((wx.setCell ⟨pb, 3, none⟩ (.int .i64 0)).setCell ⟨pb, 4, none⟩ (.slice none 0 0)).setCell ⟨pb, 5, none⟩ (.float .f64 0)).setCell ⟨pb, 2, none⟩ (.int .i64 0)) := ((((moves_set _ _ _ _).then (moves_set _ _ _ _)).then (moves_set _ _ _ _)).then (moves_set _ _ _ _))
   have hb5 : ((((wx.setCell ⟨pb, 3, none⟩ (.int .i64 0)).setCell ⟨pb, 4, none⟩ (.slice none 0 0)).setCell ⟨pb, 5, none⟩ (.float .f64 0)).setCell ⟨pb, 2, none⟩ (.int .i64 0)).heap[pb]? = some (.cells #[.int .i64 3, .string s, .int .i64 0, .int .i64 0, .slice none 0 0, .float .f64 0] 101 (0, 0)) := (heap_set (i := 2) (heap_set (i := 5) (heap_set (i := 4) (heap_set (i := 3) qb (.int .i64 0)) (.slice none 0 0)) (.float .f64 0)) (.int .i64 0))
   have qr5 := hm5.at qr (by simp; omega)
   have M5 : Moves [] w ((((wx.setCell ⟨pb, 3, none⟩ (.int .i64 0)).setCell ⟨pb, 4, none⟩ (.slice none 0 0)).setCell ⟨pb, 5, none⟩ (.float .f64 0)).setCell ⟨pb, 2, none⟩ (.int .i64 0)) := M.trans hm5 (fun k hk => .inr (by simp at hk; subst hk; have := m1.size; omega))
   obtain ⟨g0, g1, g2, g3, g4, g5, g6, g7, g8, g9, g10, g11⟩ := six_frozen hb5
   obtain ⟨h0, h1, h2, h3, h4, h5, h6, h7, h8, h9, h10, h11⟩ := six_frozen qr5
   go_wp2_with fail
   try simp only [Exit.inBlock, Exit.then]
   obtain ⟨rt1, rt2⟩ := stored6 qr5 M5 hpr' (.int .i64 3) (.string s) (.int .i64 0) (.int .i64 0) (.slice none 0 0) (.float .f64 0)
   exact bodyPost_ret (ret_chg rfl _ _ _ _ _ _ _ _ _ rfl rt1) rfl ⟨⟨3, s, 0, ⟨0, [], 0⟩⟩, _, _, _, rfl, ⟨none, 0, 0, 0, rfl, isB_nil _ _, fits_zero, by simp, by simp⟩, drawn_right (by simp) (fun _ => HS.out) (by simp) (fun h => by simp at h) (fun h => by simp at h), HSn.out, rt2⟩
  ·have hm5 : Moves [pb] wx ((((((wx.setCell ⟨pb, 0, none⟩ (.int .i64 4)).setCell ⟨pb, 1, none⟩ (.string ⟨#[]⟩)).setCell ⟨pb, 2, none⟩ (.int .i64 0)).setCell ⟨pb, 3, none⟩ (.int .i64 0)).setCell ⟨pb, 4, none⟩ (.slice none 0 0)).setCell ⟨pb, 5, none⟩ (.float .f64 0)) := ((((((moves_set _ _ _ _).then (moves_set _ _ _ _)).then (moves_set _ _ _ _)).then (moves_set _ _ _ _)).then (moves_set _ _ _ _)).then (moves_set _ _ _ _))
   have hb5 : ((((((wx.setCell ⟨pb, 0, none⟩ (.int .i64 4)).setCell ⟨pb, 1, none⟩ (.string ⟨#[]⟩)).setCell ⟨pb, 2, none⟩ (.int .i64 0)).setCell ⟨pb, 3, none⟩ (.int .i64 0)).setCell ⟨pb, 4, none⟩ (.slice none 0 0)).setCell ⟨pb, 5, none⟩ (.float .f64 0)).heap[pb]? = some (.cells #[.int .i64 4, .string ⟨#[]⟩, .int .i64 0, .int .i64 0, .slice none 0 0, .float .f64 0] 101 (0, 0)) := (heap_set (i := 5) (heap_set (i := 4) (heap_set (i := 3) (heap_set (i := 2) (heap_set (i := 1) (heap_set (i := 0) qb (.int .i64 4)) (.string ⟨#[]⟩)) (.int .i64 0)) (.int .i64 0)) (.slice none 0 0)) (.float .f64 0))
   have qr5 := hm5.at qr (by simp; omega)
   have M5 : Moves [] w ((((((wx.setCell ⟨pb, 0, none⟩ (.int .i64 4)).setCell ⟨pb, 1, none⟩ (.string ⟨#[]⟩)).setCell ⟨pb, 2, none⟩ (.int .i64 0)).setCell ⟨pb, 3, none⟩ (.int .i64 0)).setCell ⟨pb, 4, none⟩ (.slice none 0 0)).setCell ⟨pb, 5, none⟩ (.float .f64 0)) := M.trans hm5 (fun k hk => .inr (by simp at hk; subst hk; have := m1.size; omega))
   obtain ⟨g0, g1, g2, g3, g4, g5, g6, g7, g8, g9, g10, g11⟩ := six_frozen hb5
   obtain ⟨h0, h1, h2, h3, h4, h5, h6, h7, h8, h9, h10, h11⟩ := six_frozen qr5
   go_wp2_with fail
   try simp only [Exit.inBlock, Exit.then]
   obtain ⟨rt1, rt2⟩ := stored6 qr5 M5 hpr' (.int .i64 4) (.string ⟨#[]⟩) (.int .i64 0) (.int .i64 0) (.slice none 0 0) (.float .f64 0)
   exact bodyPost_ret (ret_chg rfl _ _ _ _ _ _ _ _ _ rfl rt1) rfl ⟨⟨4, ⟨#[]⟩, 0, ⟨0, [], 0⟩⟩, _, _, _, rfl, ⟨none, 0, 0, 0, rfl, isB_nil _ _, fits_zero, by simp, by simp⟩, drawn_right (by simp) (fun h => by simp at h) (by simp) (fun h => by simp at h) (fun h => by simp at h), (by decide), rt2⟩
  ·have fa4 := mx.cell d4
   have fa5 := mx.cell d5
   go_wp2_with (go_at_call 96; refine (float_w _ _ htx _).mono ?_; rintro _ _ ⟨y, hy, rfl, rfl⟩; have hm5 : Moves [pb] wx (((wx.setCell ⟨pb, 3, none⟩ (.int .i64 2)).setCell ⟨pb, 4, none⟩ (.slice none 0 0)).setCell ⟨pb, 5, none⟩ (.float .f64 y)) := (((moves_set _ _ _ _).then (moves_set _ _ _ _)).then (moves_set _ _ _ _)); have hb5 : (((wx.setCell ⟨pb, 3, none⟩ (.int .i64 2)).setCell ⟨pb, 4, none⟩ (.slice none 0 0)).setCell ⟨pb, 5, none⟩ (.float .f64 y)).heap[pb]? = some (.cells #[.int .i64 5, .string s, .int .i64 r2, .int .i64 2, .slice none 0 0, .float .f64 y] 101 (0, 0)) := heap_set (i := 5) (heap_set (i := 4) (heap_set (i := 3) qb (.int .i64 2)) (.slice none 0 0)) (.float .f64 y); have qr5 := hm5.at qr (by simp; omega); have M5 : Moves [] w (((wx.setCell ⟨pb, 3, none⟩ (.int .i64 2)).setCell ⟨pb, 4, none⟩ (.slice none 0 0)).setCell ⟨pb, 5, none⟩ (.float .f64 y)) := M.trans hm5 (fun k hk => .inr (by simp at hk; subst hk; have := m1.size; omega)); obtain ⟨g0, g1, g2, g3, g4, g5, g6, g7, g8, g9, g10, g11⟩ := six_frozen hb5; obtain ⟨h0, h1, h2, h3, h4, h5, h6, h7, h8, h9, h10, h11⟩ := six_frozen qr5)
   try simp only [Exit.inBlock, Exit.then]
   obtain ⟨rt1, rt2⟩ := stored6 qr5 M5 hpr' (.int .i64 5) (.string s) (.int .i64 r2) (.int .i64 2) (.slice none 0 0) (.float .f64 y)
   exact bodyPost_ret (ret_chg rfl _ _ _ _ _ _ _ _ _ rfl rt1) rfl ⟨⟨5, s, r2, pnum y⟩, _, _, _, rfl, (VC.num W hy).va, drawn_right (by simp) (fun _ => HS.out) hr2 (fun h => by simp at h) (fun _ => ⟨y, rfl⟩), HSn.out, rt2⟩
end Go.Proofs.YtcngllcifcpbkaaGreat
