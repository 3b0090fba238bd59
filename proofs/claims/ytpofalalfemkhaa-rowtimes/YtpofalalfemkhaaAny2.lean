/-
  The operations of 'x1, .., xn := f1(y1), .., fn(yn)' over boxed values, each by what it does to a state and a world.
-/
import Derived.Test.YtpofalalfemkhaaAny
import Derived.Laws.Tables
namespace Go.Proofs.Ytpofalalfemkhaa
open Go.RowKit

theorem wpOp_of_wp {P : Program} {ops : Array Oper} {Q : Exit → Act → World → Prop} {i : Nat} {o : Oper} {a : Act} {w : World} {K : Act → World → Prop} (hi : ops[i]? = some o) (hg : o.guard = none) (h : o.wp P a w K Q) : wpOp P ops Q i K a w := by
  unfold wpOp
  simp only [hi]
  rw [if_pos (by simp [Region.wanted, hg])]
  exact .inl h

theorem wp_call1 {P : Program} {o : Oper} {a : Act} {w : World} {K : Act → World → Prop} {Q : Exit → Act → World → Prop} (F : FuncId) (s : Tmp) (ts : Array TypeId) (ho : o.op = .call { callee := .value (.func F), args := #[.tmp s], argTypes := ts }) (v : Value) (hv : a.tmps.getD s undef = v)
    (hf : ∀ (args : Array Value) (w : World), (callFunc F args).run P w = .ok (.enter F args) w)
    (hc : Calls P F #[v] w fun e w' => ∃ r, e = .returned r ∧ K (a.put o.dst r) w') : o.wp P a w K Q := by
  unfold Oper.wp execOp
  simp only [ho]
  simp [resolve, Deferred.ofValue, Act.eval, go_sem, hf]
  have e : a.tmps[s]?.getD undef = v := by simpa using hv
  rw [e]
  exact hc.mono fun e w' ⟨r, he, hk⟩ => by subst he; exact hk

/-- That one waits for that other. -/
def waits (ops : Array Oper) (i k : Nat) : Bool := ((ops[i]?).map fun o => o.after.toList.any fun e => Region.binds .any e && e.on == k).getD false
theorem waits_up {ops : Array Oper} {i k : Nat} (h : waits ops i k = true) {l : Array Bool} (hi : i ∈ Region.ready .any ops l) : up l k := by
  obtain ⟨_, o, ho, hall⟩ := mem_ready.1 hi
  unfold waits at h
  rw [ho] at h
  simp only [Option.map_some, Option.getD_some, List.any_eq_true, Bool.and_eq_true, beq_iff_eq] at h
  obtain ⟨e, he, hb, rfl⟩ := h
  have := hall e (by simpa using he) hb
  unfold up
  rw [Array.getD_eq_getD_getElem?] at this
  cases hq : l[e.on]? with
  | none => rw [hq] at this; simp at this
  | some b => rw [hq] at this; simp at this; rw [this]

theorem wp_alloc1 {P : Program} {o : Oper} {a : Act} {w : World} {K : Act → World → Prop} {Q : Exit → Act → World → Prop} (T : TypeId) (Z : Array Value) (ho : o.op = .alloc T)
    (hr : ∀ w : World, (Instr.alloc T true (.tuple #[])).run P w = .ok (.pointer (some ⟨w.heap.size, 0, none⟩)) (w.alloc (.cells Z T)))
    (h : K (a.put o.dst (.pointer (some ⟨w.heap.size, 0, none⟩))) (w.alloc (.cells Z T))) : o.wp P a w K Q := by
  unfold Oper.wp execOp
  simp only [ho]
  simp only [Sem.run_bind, hr, Result.andThen_ok, Sem.run_pure]
  exact h

/-- The operations themselves, and the contracts of what is called. -/
structure ParBox (P : Program) (ops : Array Oper) (a0 : Act) (W : World) (n : Nat) (F : Nat → FuncId) (S L C D : Nat → Nat) (tv T : TypeId) (Z : Array Value) (B : Nat → Nat) (scs : Nat → Array Value) (R : Nat → Array Value → Prop) : Prop where
  size : ops.size = 4 * n
  ok : follows_ok ops = true
  waits : (List.range n).all (fun j => waits ops (2 * j + 1) (2 * j) && waits ops (3 * n + j) (2 * j + 1) && waits ops (3 * n + j) (2 * n + j)) = true
  slots : ∀ j, j < n → L j < a0.tmps.size ∧ C j < a0.tmps.size ∧ D j < a0.tmps.size
  apartL : ∀ j k, j < n → k < n → L j ≠ C k ∧ L j ≠ D k ∧ C j ≠ D k
  apartJ : ∀ j k, j < n → k < n → j ≠ k → L j ≠ L k ∧ C j ≠ C k ∧ D j ≠ D k
  apartS : ∀ j k, j < n → k < n → S j ≠ L k ∧ S j ≠ C k ∧ S j ≠ D k
  opL : ∀ j, j < n → ∃ o, ops[2 * j]? = some o ∧ o.guard = none ∧ o.dst = some (L j) ∧ o.op = .load tv (.tmp (S j))
  opC : ∀ j, j < n → ∃ o ts, ops[2 * j + 1]? = some o ∧ o.guard = none ∧ o.dst = some (C j) ∧ o.op = .call { callee := .value (.func (F j)), args := #[.tmp (L j)], argTypes := ts }
  opD : ∀ j, j < n → ∃ o, ops[2 * n + j]? = some o ∧ o.guard = none ∧ o.dst = some (D j) ∧ o.op = .alloc T
  opS : ∀ j, j < n → ∃ o, ops[3 * n + j]? = some o ∧ o.guard = none ∧ o.dst = none ∧ o.op = .store T (.tmp (D j)) (.tmp (C j))
  box : ∀ j, j < n → a0.tmps.getD (S j) undef = .pointer (some ⟨B j, 0, none⟩) ∧ W.heap[B j]? = some (.cells (scs j) tv (0, 0)) ∧ (P.info? tv).map (·.size) = some (scs j).size
  strct : ∃ fs, P.underlying tv = some (.struct fs)
  enter : ∀ j, j < n → ∀ (args : Array Value) (w : World), (callFunc (F j) args).run P w = .ok (.enter (F j) args) w
  made : ∀ w : World, (Instr.alloc T true (.tuple #[])).run P w = .ok (.pointer (some ⟨w.heap.size, 0, none⟩)) (w.alloc (.cells Z T))
  fits : (P.info? T).map (·.size) = some Z.size
  calls : ∀ j, j < n → ∀ w, Moves [] W w → Calls P (F j) #[.agg (scs j)] w fun e w' => ∃ cs, e = .returned (.agg cs) ∧ R j cs ∧ cs.size = Z.size ∧ cs.all (·.oneCell') = true ∧ Moves [] w w'

theorem heap_setRow {w : World} {g : Nat} {cs old : Array Value} {t : TypeId} (h : w.heap[g]? = some (.cells old t (0, 0))) : (w.setRow g cs).heap[g]? = some (.cells cs t (0, 0)) ∧ Moves [g] w (w.setRow g cs) :=
  ⟨setRow_heap w g old cs t (0, 0) h, ⟨rfl, rfl, rfl, by simp [World.setRow], fun k _ hn => by
    simp only [List.mem_singleton] at hn
    show (w.heap.modify g _)[k]? = _
    rw [Array.getElem?_modify, if_neg (fun e => hn e.symm)]⟩⟩

theorem ParBox.par {P : Program} {ops : Array Oper} {Q : Exit → Act → World → Prop} {a0 : Act} {W : World} {n : Nat} {F : Nat → FuncId} {S L C D : Nat → Nat} {tv T : TypeId} {Z : Array Value} {B : Nat → Nat} {scs : Nat → Array Value} {R : Nat → Array Value → Prop} (h : ParBox P ops a0 W n F S L C D tv T Z B scs R) :
    Par P ops Q a0 W n L C D T Z (fun j => .agg (scs j)) (fun j v cs => v = .agg cs ∧ R j cs ∧ cs.size = Z.size ∧ cs.all (·.oneCell') = true) := by
  have hw := fun j (hj : j < n) => List.all_eq_true.1 h.waits j (List.mem_range.2 hj)
  simp only [Bool.and_eq_true] at hw
  refine ⟨h.size, h.ok, fun j hj l hl => waits_up (hw j hj).1.1 hl, fun j hj l hl => ⟨waits_up (hw j hj).1.2 hl, waits_up (hw j hj).2 hl⟩, h.slots, h.apartL, h.apartJ, ?_, ?_, ?_, ?_⟩
  · intro j hj K a w m _ hold hK
    obtain ⟨o, h1, h2, h3, h4⟩ := h.opL j hj
    obtain ⟨b1, b2, b3⟩ := h.box j hj
    obtain ⟨fs, d1⟩ := h.strct
    refine wpOp_of_wp h1 h2 (wp_load_row tv (.tmp (S j)) h4 (B j) ?_ tv (scs j) (0, 0) (.struct fs) (m.at b2 (by simp)) d1 rfl b3 (by rw [h3]; exact hK))
    exact (hold (S j) (fun k hk => h.apartS j k hj hk)).trans b1
  · intro j hj K a w m hv hK
    obtain ⟨o, ts, h1, h2, h3, h4⟩ := h.opC j hj
    refine wpOp_of_wp h1 h2 (wp_call1 (F j) (L j) ts h4 (.agg (scs j)) hv (h.enter j hj) ?_)
    refine (h.calls j hj w m).mono ?_
    rintro e w' ⟨cs, rfl, k1, k2, k3, k4⟩
    exact ⟨.agg cs, rfl, by rw [h3]; exact hK _ cs w' ⟨rfl, k1, k2, k3⟩ k4⟩
  · intro j hj K a w hK
    obtain ⟨o, h1, h2, h3, h4⟩ := h.opD j hj
    exact wpOp_of_wp h1 h2 (wp_alloc1 T Z h4 h.made (by rw [h3]; exact hK))
  · intro j hj K a w p v cs hD hC hR hp hK
    obtain ⟨rfl, k1, k2, k3⟩ := hR
    obtain ⟨o, h1, h2, h3, h4⟩ := h.opS j hj
    obtain ⟨s1, s2⟩ := heap_setRow (cs := cs) hp
    refine wpOp_of_wp h1 h2 (wp_store_row T (.tmp (D j)) (.tmp (C j)) h4 p cs hD hC T Z hp (by rw [h.fits, k2]) k2.symm k3 ?_)
    rw [h3]
    exact hK _ s2 s1

theorem sets_get {a : Array Value} : ∀ (sl : List Nat) (t : Array Value), t.size = a.size → (sl.foldl (fun t s => t.setIfInBounds s (a.getD s undef)) t).size = a.size ∧ ∀ i, i < a.size → (sl.foldl (fun t s => t.setIfInBounds s (a.getD s undef)) t)[i]? = if i ∈ sl then a[i]? else t[i]?
  | [], t, h => ⟨h, fun i _ => by simp⟩
  | s :: sl, t, h => by
    have ih := sets_get sl (t.setIfInBounds s (a.getD s undef)) (by simpa using h)
    refine ⟨by simpa using ih.1, fun i hi => ?_⟩
    rw [List.foldl_cons, ih.2 i hi]
    by_cases h1 : i ∈ sl
    · simp [h1]
    · by_cases h2 : s = i
      · subst h2
        have hlt : s < t.size := by omega
        rw [if_neg h1, Array.getElem?_setIfInBounds_self_of_lt hlt]
        simp [hi]
      · rw [if_neg h1, Array.getElem?_setIfInBounds_ne h2]
        simp [h1, Ne.symm h2]
theorem tmps_sets {a a0 : Array Value} (hsz : a.size = a0.size) (sl : List Nat) (h : ∀ s, s ∉ sl → a.getD s undef = a0.getD s undef) : a = sl.foldl (fun t s => t.setIfInBounds s (a.getD s undef)) a0 := by
  obtain ⟨g1, g2⟩ := sets_get (a := a) sl a0 hsz.symm
  apply Array.ext_getElem?
  intro i
  by_cases hi : i < a.size
  · rw [g2 i hi]
    by_cases hm : i ∈ sl
    · rw [if_pos hm]
    · rw [if_neg hm]
      have := h i hm
      rw [Array.getD_eq_getD_getElem?, Array.getD_eq_getD_getElem?, Array.getElem?_eq_getElem hi, Array.getElem?_eq_getElem (by omega)] at this
      rw [Array.getElem?_eq_getElem hi, Array.getElem?_eq_getElem (by omega)]
      simpa using this
  · rw [Array.getElem?_eq_none (by omega), Array.getElem?_eq_none (by omega)]

theorem par2_wp {P : Program} {ops : Array Oper} {Q : Exit → Act → World → Prop} {a0 : Act} {W : World} {F : Nat → FuncId} {S L C D : Nat → Nat} {tv T : TypeId} {Z : Array Value} {B : Nat → Nat} {scs : Nat → Array Value} {R : Nat → Array Value → Prop} {id : Nat} {w0 : World} (hm : P.follows .mixedOrders = true) (hp : ParBox P ops a0 W 2 F S L C D tv T Z B scs R) (hW : Moves [] W w0)
    (hQ : ∀ (l0 c0 l1 c1 : Value) (p0 p1 : Nat) (cs0 cs1 : Array Value) (w : World), Moves [] W w → R 0 cs0 → W.heap.size ≤ p0 → w.heap[p0]? = some (.cells cs0 T (0, 0)) → R 1 cs1 → W.heap.size ≤ p1 → w.heap[p1]? = some (.cells cs1 T (0, 0)) → Q .normal { tmps := ((((((a0.tmps.setIfInBounds (L 0) l0).setIfInBounds (C 0) c0).setIfInBounds (D 0) (.pointer (some ⟨p0, 0, none⟩))).setIfInBounds (L 1) l1).setIfInBounds (C 1) c1).setIfInBounds (D 1) (.pointer (some ⟨p1, 0, none⟩))), defers := a0.defers } w) :
    (Code.region id ops true).wp P Q a0 w0 := by
  refine par_wp hm hp.par hW ?_
  intro a w hsz hdf hold mv hx _
  obtain ⟨p0, cs0, d0, q0, ⟨_, r0, _⟩, b0⟩ := hx 0 (by omega)
  obtain ⟨p1, cs1, d1, q1, ⟨_, r1, _⟩, b1⟩ := hx 1 (by omega)
  have e := tmps_sets hsz [L 0, C 0, D 0, L 1, C 1, D 1] (fun s hs => hold s (fun k hk => by
    match k, hk with
    | 0, _ => exact ⟨fun e => hs (by simp [e]), fun e => hs (by simp [e]), fun e => hs (by simp [e])⟩ | 1, _ => exact ⟨fun e => hs (by simp [e]), fun e => hs (by simp [e]), fun e => hs (by simp [e])⟩))
  simp only [List.foldl_cons, List.foldl_nil, d0, d1] at e
  have key := hQ (a.tmps.getD (L 0) undef) (a.tmps.getD (C 0) undef) (a.tmps.getD (L 1) undef) (a.tmps.getD (C 1) undef) p0 p1 cs0 cs1 w mv r0 q0 b0 r1 q1 b1
  rw [← e, ← hdf] at key
  exact key

theorem par3_wp {P : Program} {ops : Array Oper} {Q : Exit → Act → World → Prop} {a0 : Act} {W : World} {F : Nat → FuncId} {S L C D : Nat → Nat} {tv T : TypeId} {Z : Array Value} {B : Nat → Nat} {scs : Nat → Array Value} {R : Nat → Array Value → Prop} {id : Nat} {w0 : World} (hm : P.follows .mixedOrders = true) (hp : ParBox P ops a0 W 3 F S L C D tv T Z B scs R) (hW : Moves [] W w0)
    (hQ : ∀ (l0 c0 l1 c1 l2 c2 : Value) (p0 p1 p2 : Nat) (cs0 cs1 cs2 : Array Value) (w : World), Moves [] W w → R 0 cs0 → W.heap.size ≤ p0 → w.heap[p0]? = some (.cells cs0 T (0, 0)) → R 1 cs1 → W.heap.size ≤ p1 → w.heap[p1]? = some (.cells cs1 T (0, 0)) → R 2 cs2 → W.heap.size ≤ p2 → w.heap[p2]? = some (.cells cs2 T (0, 0)) → Q .normal { tmps := (((((((((a0.tmps.setIfInBounds (L 0) l0).setIfInBounds (C 0) c0).setIfInBounds (D 0) (.pointer (some ⟨p0, 0, none⟩))).setIfInBounds (L 1) l1).setIfInBounds (C 1) c1).setIfInBounds (D 1) (.pointer (some ⟨p1, 0, none⟩))).setIfInBounds (L 2) l2).setIfInBounds (C 2) c2).setIfInBounds (D 2) (.pointer (some ⟨p2, 0, none⟩))), defers := a0.defers } w) :
    (Code.region id ops true).wp P Q a0 w0 := by
  refine par_wp hm hp.par hW ?_
  intro a w hsz hdf hold mv hx _
  obtain ⟨p0, cs0, d0, q0, ⟨_, r0, _⟩, b0⟩ := hx 0 (by omega)
  obtain ⟨p1, cs1, d1, q1, ⟨_, r1, _⟩, b1⟩ := hx 1 (by omega)
  obtain ⟨p2, cs2, d2, q2, ⟨_, r2, _⟩, b2⟩ := hx 2 (by omega)
  have e := tmps_sets hsz [L 0, C 0, D 0, L 1, C 1, D 1, L 2, C 2, D 2] (fun s hs => hold s (fun k hk => by
    match k, hk with
    | 0, _ => exact ⟨fun e => hs (by simp [e]), fun e => hs (by simp [e]), fun e => hs (by simp [e])⟩ | 1, _ => exact ⟨fun e => hs (by simp [e]), fun e => hs (by simp [e]), fun e => hs (by simp [e])⟩ | 2, _ => exact ⟨fun e => hs (by simp [e]), fun e => hs (by simp [e]), fun e => hs (by simp [e])⟩))
  simp only [List.foldl_cons, List.foldl_nil, d0, d1, d2] at e
  have key := hQ (a.tmps.getD (L 0) undef) (a.tmps.getD (C 0) undef) (a.tmps.getD (L 1) undef) (a.tmps.getD (C 1) undef) (a.tmps.getD (L 2) undef) (a.tmps.getD (C 2) undef) p0 p1 p2 cs0 cs1 cs2 w mv r0 q0 b0 r1 q1 b1 r2 q2 b2
  rw [← e, ← hdf] at key
  exact key
end Go.Proofs.Ytpofalalfemkhaa
