/-
  Cho, StA: our texts of these names, laid into one.
-/
import Derived.Test.YtcamhlnkcoicpaaGreatCB21
import Derived.Test.YtcamhlnkcoicpaaGreatCLi0
/-
  keep.Changes of four at most.
-/
namespace Go.Proofs.YtcamhlnkcoicpaaGreat
open Go.RowKit

/-- A list of changes; what their values point at lies in an elder world. -/
def ChgsL (V w : World) (v : Value) (cs : List Pchg) : Prop := ∃ css, Lies w 27 6 v css ∧ All2 (ChgC V V) css cs
theorem GrowX.l {V W w : World} {v : Value} {xs : List Pchg} (h : GrowX V W w v xs) : ChgsL V w v xs := by
  obtain ⟨_, css, h1, h2⟩ := h
  exact ⟨css, Lies.ofOwn h1, h2⟩
theorem ChgsL.nil (V w : World) : ChgsL V w (.slice none 0 0) [] := ⟨[], Lies.nil _ _ _, trivial⟩
theorem ChgsL.stay {V w w' : World} {v : Value} {cs : List Pchg} (h : ChgsL V w v cs) (hs : Stay (fun t => t = 27) w w') : ChgsL V w' v cs := by
  obtain ⟨css, h1, h2⟩ := h
  exact ⟨css, h1.stay hs rfl, h2⟩
theorem ChgsL.moves0 {V w w' : World} {v : Value} {cs : List Pchg} (h : ChgsL V w v cs) (m : Moves [] w w') : ChgsL V w' v cs :=
  h.stay (Stay.ofMovesS m (fun k hk => by simp at hk))
theorem ChgsL.chgs {V w : World} {ad : Option Addr} {n cap : Nat} {cs : List Pchg} (h : ChgsL V w (.slice ad n cap) cs) (m : Moves [] V w) : ChgsAt w ad cs ∧ n = cs.length := by
  obtain ⟨css, hL, h2⟩ := h
  obtain ⟨_, _, e, _⟩ := hL.slice
  simp only [Value.slice.injEq] at e
  refine ⟨fun k c hc => ?_, by rw [e.2.1]; exact h2.length⟩
  obtain ⟨cs, hcs, a, n', cap', rfl, hv⟩ := h2.get hc
  obtain ⟨g, off, e2, h4⟩ := hL.at hcs
  exact ⟨g, off, a, n', cap', e2, h4 0 _ rfl, h4 1 _ rfl, h4 2 _ rfl, h4 3 _ rfl, h4 4 _ rfl, h4 5 _ rfl, hv.moves m⟩
set_option maxRecDepth 100000 in
set_option maxHeartbeats 8000000 in
theorem keepChanges4_w (W w : World) (u0 : Value) (h0 : ChArgs W u0) (m : Moves [] W w) :
    Calls Tryz.prog 97 #[u0, .int .i64 4] w fun e w' => ∃ ad n cap cs, e = .returned (.slice ad n cap) ∧ GrowX W w w' (.slice ad n cap) cs ∧ cs.length ≤ 4 ∧ Moves [] w w' := by
  obtain ⟨adv, nv, cv, rfl, hcv, hV⟩ := h0
  have HVs := hV
  have HW : Hid (Moves [] W w) := m
  clear hV m
  go_enter Tryz.func97, Tryz.ntmps97
  go_wp2_with fail
  go_loopw [5, 6] (fun l i wr => ∃ (k : Nat) (cs : List Pchg), (k ≤ 4 ∧ k ≤ nv) ∧ i = .int .i64 k ∧ Moves [] w wr ∧ GrowX W w wr l cs ∧ cs.length = k ∧ ∀ c ∈ cs, cRight c = 0) (fun _ i _ => 4 - (intOf i).toNat)
  case atStart => exact ⟨0, [], ⟨by omega, by omega⟩, rfl, Moves.refl _ _, GrowX.nil _ _ _, rfl, by simp⟩
  case round =>
    obtain ⟨k, cs, ⟨hk1, hk2⟩, rfl, mr, hG, hl, hr⟩ := hrel
    obtain ⟨adl, nl, capl, rfl, hnl⟩ := hG.open
    have HG : Hid (GrowX W w wr (.slice adl nl capl) cs) := hG
    have HL : Hid (cs.length = k) := hl
    have HR : Hid (∀ c ∈ cs, cRight c = 0) := hr
    clear hG hl hr
    by_cases hc : k < nv ∧ k < 4
    · obtain ⟨hc1, hc2⟩ := hc
      have hc1' : (k : Int) < nv := by omega
      have hc2' : (k : Int) < 4 := by omega
      obtain ⟨b, off, tk, tc, tm, tb, tn, tx, a2, l2, c2, rfl, v0, v1, v2, v3, v4, v5, v6, hK⟩ := HVs k hc1
      have MWr := HW.out.then mr
      have vr0 := MWr.cell v0
      have vr1 := MWr.cell v1
      have vr2 := MWr.cell v2
      have vr3 := MWr.cell v3
      have vr4 := MWr.cell v4
      have vr5 := MWr.cell v5
      have vr6 := MWr.cell v6
      have hKC := keepChange_w W wr tk tc tm tb tn tx a2 l2 c2 hK
      have hbd : cs.length + 1 ≤ 1048576 := by have := HL.out; omega
      clear v0 v1 v2 v3 v4 v5 v6 hK MWr
      go_wp2_with (first | (go_at_call 141; refine hKC.mono ?_; rintro _ w5 ⟨cc, a, n, cap, rfl, hva, hcr, m5⟩; obtain ⟨ds, hd, hys⟩ := chg_new W w5 cc a n cap hva; have HCR : Hid (cRight cc = 0) := hcr; clear hcr hva; have ma : Moves [] w5 (w5.alloc (.cells #[.int .i64 cc.kind, .string cc.col, .int .i64 cc.t, .int .i64 cc.v.kind, .slice a n cap, .float .f64 cc.v.n] 27)) := (Moves.refl _ _).alloc _; have hG7 := HG.out.moves0 (m5.then ma); have hM7 := mr.then (m5.then ma)) | (at_builtin; refine growX_append (.tmp 18) (.tmp 24) rfl _ _ _ [cc] ds rfl rfl (by rfl) hG7 hd hys hM7 hbd ?_; intro v9 w9 hG9 M9; have hsl := hG9.open; obtain ⟨ad9, n9, cap9, rfl, hn9⟩ := hsl))
      go_roundw
      case rel => exact ⟨k + 1, cs ++ [cc], ⟨by omega, by omega⟩, by go_num, M9, hG9, by rw [List.length_append, HL.out]; rfl, fun c hc => by
        rcases List.mem_append.1 hc with hc | hc
        · exact HR.out c hc
        · simp at hc; subst hc; exact HCR.out⟩
      case measure => simp [intOf]; omega
    · have hways : (¬ (k : Int) < nv) ∨ ((k : Int) < nv ∧ ¬ (k : Int) < 4) := by omega
      have hl4 : Hid (cs.length ≤ 4) := by unfold Hid; rw [HL.out]; exact hk1
      clear HVs
      rcases hways with g1 | ⟨g1, g2⟩
      all_goals go_wp2_with fail
      all_goals go_ret
      all_goals exact ⟨adl, nl, capl, rfl, cs, HG.out, hl4.out, mr⟩
end Go.Proofs.YtcamhlnkcoicpaaGreat
/-
  A whole struct, or a part of one, stored in a box of the call's own.
-/
namespace Go.Proofs.YtcamhlnkcoicpaaGreat
open Go.RowKit

theorem wp_stAt {op : Oper} {a : Act} {w : World} {K : Act → World → Prop} {Q : Exit → Act → World → Prop} (ty : TypeId) (x y : Operand) (ho : op.op = .store ty x y) (b k : Nat) (v : Value) (vs : List Value) (hx : a.eval x = .pointer (some ⟨b, k, none⟩)) (hy : a.eval y = v) (hv : v.cells.toList = vs) (hs : (Tryz.prog.info? ty).map (·.size) = some vs.length) {old : Array Value} {t : TypeId} (hg : w.heap[b]? = some (.cells old t (0, 0))) (hfit : k + vs.length ≤ old.size) (h1 : ∀ u ∈ vs, u.oneCell' = true) (new : Array Value) (hnew : (old.toList.take k ++ vs ++ old.toList.drop (k + vs.length)).toArray = new)
    (h : ∀ w', w'.heap[b]? = some (.cells new t (0, 0)) → Moves [b] w w' → K (a.put op.dst undef) w') : op.wp Tryz.prog a w K Q := by
  have hst := run_storeCells_at (P := Tryz.prog) b k t vs 0 old w hg (by simpa using hfit) h1
  have hsz : v.cells.size = vs.length := by rw [← hv]; simp
  subst hnew
  unfold Oper.wp execOp
  cases hq : Tryz.prog.info? ty with
  | none => simp [hq] at hs
  | some i =>
    have hi : i.size = vs.length := by simpa [hq] using hs
    have hrun : (storeVar ty ⟨b, k, none⟩ v).run Tryz.prog w = .ok () (w.setRow b (old.toList.take k ++ vs ++ old.toList.drop (k + vs.length)).toArray) := by
      simp [storeVar, sizeOf, typeInfo, hq, hsz, hi, hv, hst]
    simp only [ho, hx, hy, Instr.storeAt, Instr.sureAddr, Sem.run_bind, Sem.run_pure, Result.andThen_ok, hrun]
    exact h _ (setRow_heap w b old _ t (0, 0) hg) (moves_row _ _ _)
theorem wpList_stAt {ops : Array Oper} {rest : List Oper} {op : Oper} {a : Act} {w : World} {Q : Exit → Act → World → Prop} (hgd : op.guard = none) (ty : TypeId) (x y : Operand) (ho : op.op = .store ty x y) (b k : Nat) (v : Value) (vs : List Value) (hx : a.eval x = .pointer (some ⟨b, k, none⟩)) (hy : a.eval y = v) (hv : v.cells.toList = vs) (hs : (Tryz.prog.info? ty).map (·.size) = some vs.length) {old : Array Value} {t : TypeId} (hg : w.heap[b]? = some (.cells old t (0, 0))) (hfit : k + vs.length ≤ old.size) (h1 : ∀ u ∈ vs, u.oneCell' = true) (new : Array Value) (hnew : (old.toList.take k ++ vs ++ old.toList.drop (k + vs.length)).toArray = new)
    (h : ∀ w', w'.heap[b]? = some (.cells new t (0, 0)) → Moves [b] w w' → wpList Tryz.prog ops Q rest (a.put op.dst undef) w') : wpList Tryz.prog ops Q (op :: rest) a w :=
  wpList_plain hgd fun _ hK => wp_stAt ty x y ho b k v vs hx hy hv hs hg hfit h1 new hnew (fun w' a1 a2 => hK _ _ (h w' a1 a2))
end Go.Proofs.YtcamhlnkcoicpaaGreat
