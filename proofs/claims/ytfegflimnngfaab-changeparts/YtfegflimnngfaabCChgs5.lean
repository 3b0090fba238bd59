/-
  A list of changes of the call's own that grows; keep.Changes.
-/
import Derived.Test.YtfegflimnngfaabCMade5
namespace Go.Proofs.Ytfegflimnngfaab
open Go.RowKit

/-- The six cells of a change; what its value points at lies in an elder world. -/
def ChgC (V : World) (_ : World) (c : List Value) (x : Pchg) : Prop := ∃ a n cap, c = [.int .i64 x.kind, .string x.col, .int .i64 x.t, .int .i64 x.v.kind, .slice a n cap, .float .f64 x.v.n] ∧ VA V [.int .i64 x.v.kind, .slice a n cap, .float .f64 x.v.n] x.v
def GrowX (V W w : World) (v : Value) (xs : List Pchg) : Prop := Grow (ChgC V) 37 6 W w v xs
theorem chg_info : (Try.prog.info? 37).map (fun i => (i.zero, i.size, i.bytes)) = some (some (.agg #[.int .i64 0, .string ByteArray.empty, .int .i64 0, .int .i64 0, .slice none 0 0, .float .f64 0]), 6, 72) := by kernel_rfl
theorem ChgC.one {V w : World} {c : List Value} {x : Pchg} (h : ChgC V w c x) : ∀ u ∈ c, u.oneCell' = true := by
  obtain ⟨a, n, cap, rfl, _⟩ := h
  intro u hu
  simp only [List.mem_cons, List.not_mem_nil, or_false] at hu
  rcases hu with rfl | rfl | rfl | rfl | rfl | rfl <;> rfl
theorem GrowX.moves0 {V W w w' : World} (m : Moves [] w w') {v : Value} {xs : List Pchg} (h : GrowX V W w v xs) : GrowX V W w' v xs := by
  obtain ⟨h0, css, h1, h2⟩ := h
  exact ⟨h0, css, h1.moves m (by simp), h2⟩
theorem GrowX.nil (V W w : World) : GrowX V W w (.slice none 0 0) [] := ⟨Fresh.nil _, [], OwnL.nil _ _ _, trivial⟩
theorem GrowX.open {V W w : World} {v : Value} {xs : List Pchg} (h : GrowX V W w v xs) : ∃ ad n cap, v = .slice ad n cap ∧ Hid (n = xs.length) := by
  obtain ⟨_, css, h1, h2⟩ := h
  obtain ⟨ad, cap, e, _⟩ := (Lies.ofOwn h1).slice
  exact ⟨ad, css.length, cap, e, h2.length⟩
/-- One new change. -/
theorem chg_new (V w : World) (x : Pchg) (a : Option Addr) (n cap : Nat) (hv : VA V [.int .i64 x.v.kind, .slice a n cap, .float .f64 x.v.n] x.v) : ∃ ds, Lies (w.alloc (.cells #[.int .i64 x.kind, .string x.col, .int .i64 x.t, .int .i64 x.v.kind, .slice a n cap, .float .f64 x.v.n] 37)) 37 6 (.slice (some ⟨w.heap.size, 0, none⟩) 1 1) ds ∧ All2 (ChgC V (w.alloc (.cells #[.int .i64 x.kind, .string x.col, .int .i64 x.t, .int .i64 x.v.kind, .slice a n cap, .float .f64 x.v.n] 37))) ds [x] := by
  refine ⟨[[.int .i64 x.kind, .string x.col, .int .i64 x.t, .int .i64 x.v.kind, .slice a n cap, .float .f64 x.v.n]], ⟨by simp, _, 1, rfl, by simp, fun h => by simp at h, .inr ⟨_, 0, _, _, rfl, heap_alloc_new _ _, fun k c hk j u hj => ?_⟩⟩, ⟨a, n, cap, rfl, hv⟩, trivial⟩
  cases k with
  | zero =>
    simp at hk
    subst hk
    simpa using hj
  | succ k => simp at hk
theorem growX_append {ops : Array Oper} {rest : List Oper} {o : Oper} {a : Act} {Q : Exit → Act → World → Prop} {V W w : World} (s x : Operand)
    (ho : o.op = .call { callee := .builtin .append, args := #[s, x], argTypes := #[27, 27] })
    (v yv : Value) (xs ys : List Pchg) (ds : List (List Value)) (hs : a.eval s = v) (hx : a.eval x = yv) (hw : Region.wanted o (yielded ops a.tmps) = true)
    (hv : GrowX V W w v xs) (hd : Lies w 37 6 yv ds) (hys : All2 (ChgC V w) ds ys) (hm : Moves [] W w) (hb : xs.length + ys.length ≤ 1048576)
    (h : ∀ v' w', GrowX V W w' v' (xs ++ ys) → Moves [] W w' → wpList Try.prog ops Q rest (a.put o.dst v') w') :
    wpList Try.prog ops Q (o :: rest) a w := by
  refine wpList_wanted hw (wpList_plain rfl fun K hK => ?_)
  exact grow_append s x _ 37 _ 6 72 chg_info Try.underlying27 rfl (by omega) (by omega) (fun _ _ _ h => h.one) (fun _ _ _ _ h _ => h) ho v yv xs ys ds hs hx hv hd hys hm hb (fun v' w' h1 h2 _ _ _ => hK _ _ (h v' w' h1 h2))
theorem GrowX.chgs {V W w : World} {ad : Option Addr} {n cap : Nat} {xs : List Pchg} (h : GrowX V W w (.slice ad n cap) xs) (m : Moves [] V w) : ChgsAt w ad xs ∧ n = xs.length := by
  obtain ⟨_, css, h1, h2⟩ := h
  have hL := Lies.ofOwn h1
  obtain ⟨_, _, e, _⟩ := hL.slice
  simp only [Value.slice.injEq] at e
  refine ⟨fun k c hc => ?_, by rw [e.2.1]; exact h2.length⟩
  obtain ⟨cs, hcs, a, n', cap', rfl, hv⟩ := h2.get hc
  obtain ⟨g, off, e2, h4⟩ := hL.at hcs
  exact ⟨g, off, a, n', cap', e2, h4 0 _ rfl, h4 1 _ rfl, h4 2 _ rfl, h4 3 _ rfl, h4 4 _ rfl, h4 5 _ rfl, hv.moves m⟩

set_option maxRecDepth 100000 in
set_option maxHeartbeats 8000000 in
theorem keepChanges_w (W w : World) (u0 : Value) (h0 : ChArgs W u0) (m : Moves [] W w) :
    Calls Try.prog 7 #[u0, .int .i64 8] w fun e w' => ∃ ad n cap cs, e = .returned (.slice ad n cap) ∧ ChgsAt w' ad cs ∧ n = cs.length ∧ cs.length ≤ 8 ∧ (∀ c ∈ cs, cRight c = 0) ∧ Moves [] w w' := by
  obtain ⟨adv, nv, cv, rfl, hcv, hV⟩ := h0
  have HVs := hV
  have HW : Hid (Moves [] W w) := m
  clear hV m
  go_enter Try.func7, Try.ntmps7
  go_wp2_with fail
  go_loopw [5, 6] (fun l i wr => ∃ (k : Nat) (cs : List Pchg), (k ≤ 8 ∧ k ≤ nv) ∧ i = .int .i64 k ∧ Moves [] w wr ∧ GrowX W w wr l cs ∧ cs.length = k ∧ ∀ c ∈ cs, cRight c = 0) (fun _ i _ => 8 - (intOf i).toNat)
  case atStart => exact ⟨0, [], ⟨by omega, by omega⟩, rfl, Moves.refl _ _, GrowX.nil _ _ _, rfl, by simp⟩
  case round =>
    obtain ⟨k, cs, ⟨hk1, hk2⟩, rfl, mr, hG, hl, hr⟩ := hrel
    obtain ⟨adl, nl, capl, rfl, hnl⟩ := hG.open
    have HG : Hid (GrowX W w wr (.slice adl nl capl) cs) := hG
    have HL : Hid (cs.length = k) := hl
    have HR : Hid (∀ c ∈ cs, cRight c = 0) := hr
    clear hG hl hr
    by_cases hc : k < nv ∧ k < 8
    · obtain ⟨hc1, hc2⟩ := hc
      have hc1' : (k : Int) < nv := by omega
      have hc2' : (k : Int) < 8 := by omega
      obtain ⟨b, off, tk, tc, tm, tb, tn, tx, a2, l2, c2, rfl, v0, v1, v2, v3, v4, v5, v6, hK⟩ := HVs k hc1
      have MWr := HW.out.then mr
      have vr0 := MWr.cell v0
      have vr1 := MWr.cell v1
      have vr2 := MWr.cell v2
      have vr3 := MWr.cell v3
      have vr4 := MWr.cell v4
      have vr5 := MWr.cell v5
      have vr6 := MWr.cell v6
      have hKC := keepChange_w W wr tk tc tm tb tn tx a2 l2 c2 hK
      have hbd : cs.length + 1 ≤ 1048576 := by have := HL.out; omega
      clear v0 v1 v2 v3 v4 v5 v6 hK MWr
      go_wp2_with (first | (go_at_call 20; refine hKC.mono ?_; rintro _ w5 ⟨cc, a, n, cap, rfl, hva, hcr, m5⟩; obtain ⟨ds, hd, hys⟩ := chg_new W w5 cc a n cap hva; have HCR : Hid (cRight cc = 0) := hcr; clear hcr hva; have ma : Moves [] w5 (w5.alloc (.cells #[.int .i64 cc.kind, .string cc.col, .int .i64 cc.t, .int .i64 cc.v.kind, .slice a n cap, .float .f64 cc.v.n] 37)) := (Moves.refl _ _).alloc _; have hG7 := HG.out.moves0 (m5.then ma); have hM7 := mr.then (m5.then ma)) | (at_builtin; refine growX_append (.tmp 18) (.tmp 24) rfl _ _ _ [cc] ds rfl rfl (by rfl) hG7 hd hys hM7 hbd ?_; intro v9 w9 hG9 M9; have hsl := hG9.open; obtain ⟨ad9, n9, cap9, rfl, hn9⟩ := hsl))
      go_roundw
      case rel => exact ⟨k + 1, cs ++ [cc], ⟨by omega, by omega⟩, by go_num, M9, hG9, by rw [List.length_append, HL.out]; rfl, fun c hc => by
        rcases List.mem_append.1 hc with hc | hc
        · exact HR.out c hc
        · simp at hc; subst hc; exact HCR.out⟩
      case measure => simp [intOf]; omega
    · have hways : (¬ (k : Int) < nv) ∨ ((k : Int) < nv ∧ ¬ (k : Int) < 8) := by omega
      obtain ⟨hC, hn⟩ := HG.out.chgs (HW.out.then mr)
      have HC : Hid (ChgsAt wr adl cs) := hC
      have Hn : Hid (nl = cs.length) := hn
      have hl8 : Hid (cs.length ≤ 8) := by unfold Hid; rw [HL.out]; exact hk1
      clear hC hn
      clear HVs
      rcases hways with g1 | ⟨g1, g2⟩
      all_goals go_wp2_with fail
      all_goals go_ret
      all_goals exact ⟨adl, nl, ⟨capl, rfl⟩, cs, HC.out, Hn.out, hl8.out, HR.out, mr⟩
end Go.Proofs.Ytfegflimnngfaab
