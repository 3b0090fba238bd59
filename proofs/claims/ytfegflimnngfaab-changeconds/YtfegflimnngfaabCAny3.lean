/-
  'x1, .., xn := f1(y1), .., fn(yn)' over boxes once more, where what is handed back lies in new memory: what is said of it is said of the world.
-/
import Derived.Test.YtfegflimnngfaabCBaseG
namespace Go.Proofs.Ytfegflimnngfaab
open Go.RowKit

/-- x1, .., xn := f1(y1), .., fn(yn), the x's boxed: what the operations are, by what each does to a state and a world. -/
structure ParW (P : Program) (ops : Array Oper) (Q : Exit → Act → World → Prop) (a0 : Act) (W : World) (n : Nat) (L C D : Nat → Nat) (T : TypeId) (Z : Array Value) (src : Nat → Value) (Res : World → Nat → Value → Array Value → Prop) : Prop where
  size : ops.size = 4 * n
  ok : follows_ok ops = true
  waitC : ∀ j, j < n → ∀ l, (2 * j + 1) ∈ Region.ready .any ops l → up l (2 * j)
  waitS : ∀ j, j < n → ∀ l, (3 * n + j) ∈ Region.ready .any ops l → up l (2 * j + 1) ∧ up l (2 * n + j)
  slots : ∀ j, j < n → L j < a0.tmps.size ∧ C j < a0.tmps.size ∧ D j < a0.tmps.size
  apartL : ∀ j k, j < n → k < n → L j ≠ C k ∧ L j ≠ D k ∧ C j ≠ D k
  apartJ : ∀ j k, j < n → k < n → j ≠ k → L j ≠ L k ∧ C j ≠ C k ∧ D j ≠ D k
  load : ∀ j, j < n → ∀ (K : Act → World → Prop) a w, Moves [] W w → a.tmps.size = a0.tmps.size → (∀ s, (∀ k, k < n → s ≠ L k ∧ s ≠ C k ∧ s ≠ D k) → a.tmps.getD s undef = a0.tmps.getD s undef) → K (a.put (some (L j)) (src j)) w → wpOp P ops Q (2 * j) K a w
  call : ∀ j, j < n → ∀ (K : Act → World → Prop) a w, Moves [] W w → a.tmps.getD (L j) undef = src j → (∀ v cs w', Res w' j v cs → Moves [] w w' → K (a.put (some (C j)) v) w') → wpOp P ops Q (2 * j + 1) K a w
  alloc : ∀ j, j < n → ∀ (K : Act → World → Prop) a w, K (a.put (some (D j)) (.pointer (some ⟨w.heap.size, 0, none⟩))) (w.alloc (.cells Z T)) → wpOp P ops Q (2 * n + j) K a w
  store : ∀ j, j < n → ∀ (K : Act → World → Prop) a w p v cs, a.tmps.getD (D j) undef = .pointer (some ⟨p, 0, none⟩) → a.tmps.getD (C j) undef = v → Res w j v cs → w.heap[p]? = some (.cells Z T (0, 0)) → (∀ w', Moves [p] w w' → w'.heap[p]? = some (.cells cs T (0, 0)) → K a w') → wpOp P ops Q (3 * n + j) K a w
  stab0 : ∀ j v cs w w', Res w j v cs → Moves [] w w' → Res w' j v cs
  stabS : ∀ j v cs w w' p Z', Res w j v cs → w.heap[p]? = some (.cells Z' T (0, 0)) → Moves [p] w w' → Res w' j v cs

/-- What holds while they come up, in whatever order. -/
structure ParWInv (a0 : Act) (W : World) (n : Nat) (L C D : Nat → Nat) (T : TypeId) (Z : Array Value) (src : Nat → Value) (Res : World → Nat → Value → Array Value → Prop) (l : Array Bool) (a : Act) (w : World) : Prop where
  lsize : l.size = 4 * n
  size : a.tmps.size = a0.tmps.size
  defers : a.defers = a0.defers
  old : ∀ s, (∀ k, k < n → s ≠ L k ∧ s ≠ C k ∧ s ≠ D k) → a.tmps.getD s undef = a0.tmps.getD s undef
  moves : Moves [] W w
  loaded : ∀ j, j < n → up l (2 * j) → a.tmps.getD (L j) undef = src j
  called : ∀ j, j < n → up l (2 * j + 1) → ∃ cs, Res w j (a.tmps.getD (C j) undef) cs
  laid : ∀ j, j < n → up l (2 * n + j) → ∃ p, a.tmps.getD (D j) undef = .pointer (some ⟨p, 0, none⟩) ∧ W.heap.size ≤ p ∧ (¬ up l (3 * n + j) → w.heap[p]? = some (.cells Z T (0, 0))) ∧ (up l (3 * n + j) → ∃ cs, Res w j (a.tmps.getD (C j) undef) cs ∧ w.heap[p]? = some (.cells cs T (0, 0)))
  late : ∀ j, j < n → up l (3 * n + j) → up l (2 * j + 1) ∧ up l (2 * n + j)
  apart : ∀ j k, j < n → k < n → j ≠ k → up l (2 * n + j) → up l (2 * n + k) → a.tmps.getD (D j) undef ≠ a.tmps.getD (D k) undef

section
variable {P : Program} {ops : Array Oper} {Q : Exit → Act → World → Prop} {a0 : Act} {W : World} {n : Nat} {L C D : Nat → Nat} {T : TypeId} {Z : Array Value} {src : Nat → Value} {Res : World → Nat → Value → Array Value → Prop}

/-- A slot is written that nobody else looks at: all but what it holds stays. -/
theorem ParWInv.putL (hp : ParW P ops Q a0 W n L C D T Z src Res) {l : Array Bool} {a : Act} {w : World} (h : ParWInv a0 W n L C D T Z src Res l a w) {j : Nat} (hj : j < n) :
    ParWInv a0 W n L C D T Z src Res (l.setIfInBounds (2 * j) true) (a.put (some (L j)) (src j)) w := by
  have hs := (hp.slots j hj).1
  refine ⟨by simpa using h.lsize, by rw [size_put]; exact h.size, by rw [defers_put]; exact h.defers, fun s hs => ?_, h.moves, fun k hk hu => ?_, fun k hk hu => ?_, fun k hk hu => ?_, fun k hk hu => ?_, fun k m hk hm hne hu hv => ?_⟩
  · rw [getD_put (hs j hj).1]; exact h.old s hs
  · by_cases e : k = j
    · subst e; exact getD_put_self (by rw [h.size]; exact hs)
    · rw [getD_put (hp.apartJ k j hk hj e).1]
      exact h.loaded k hk (up_of hu (by omega))
  · rw [getD_put (Ne.symm (hp.apartL j k hj hk).1)]
    exact h.called k hk (up_of hu (by omega))
  · rw [getD_put (Ne.symm (hp.apartL j k hj hk).2.1), getD_put (Ne.symm (hp.apartL j k hj hk).1)]
    obtain ⟨p, h1, h2, h3, h4⟩ := h.laid k hk (up_of hu (by omega))
    exact ⟨p, h1, h2, fun hn => h3 (fun hx => hn (up_mono hx)), fun hx => h4 (up_of hx (by omega))⟩
  · have := h.late k hk (up_of hu (by omega))
    exact ⟨up_mono this.1, up_mono this.2⟩
  · rw [getD_put (Ne.symm (hp.apartL j k hj hk).2.1), getD_put (Ne.symm (hp.apartL j m hj hm).2.1)]
    exact h.apart k m hk hm hne (up_of hu (by omega)) (up_of hv (by omega))

theorem ParWInv.putC (hp : ParW P ops Q a0 W n L C D T Z src Res) {l : Array Bool} {a : Act} {w w' : World} (h : ParWInv a0 W n L C D T Z src Res l a w) {j : Nat} (hj : j < n) (hun : ¬ up l (2 * j + 1)) (m : Moves [] w w') {v : Value} {cs : Array Value} (hv : Res w' j v cs) :
    ParWInv a0 W n L C D T Z src Res (l.setIfInBounds (2 * j + 1) true) (a.put (some (C j)) v) w' := by
  have hs := (hp.slots j hj).2.1
  refine ⟨by simpa using h.lsize, by rw [size_put]; exact h.size, by rw [defers_put]; exact h.defers, fun s hs => ?_, h.moves.then m, fun k hk hu => ?_, fun k hk hu => ?_, fun k hk hu => ?_, fun k hk hu => ?_, fun k q hk hq hne hu hv => ?_⟩
  · rw [getD_put (hs j hj).2.1]; exact h.old s hs
  · rw [getD_put (hp.apartL k j hk hj).1]
    exact h.loaded k hk (up_of hu (by omega))
  · by_cases e : k = j
    · subst e
      rw [getD_put_self (by rw [h.size]; exact hs)]
      exact ⟨cs, hv⟩
    · rw [getD_put (hp.apartJ k j hk hj e).2.1]
      obtain ⟨cs', h5⟩ := h.called k hk (up_of hu (by omega))
      exact ⟨cs', hp.stab0 _ _ _ _ _ h5 m⟩
  · have hu' := up_of hu (by omega)
    obtain ⟨p, h1, h2, h3, h4⟩ := h.laid k hk hu'
    rw [getD_put (Ne.symm (hp.apartL j k hj hk).2.2)]
    refine ⟨p, h1, h2, fun hn => m.at (h3 (fun hx => hn (up_mono hx))) (by simp), fun hx => ?_⟩
    have hx' := up_of hx (by omega)
    have hc := (h.late k hk hx').1
    have e : k ≠ j := fun e => by subst e; exact hun hc
    obtain ⟨cs', h5, h6⟩ := h4 hx'
    rw [getD_put (hp.apartJ k j hk hj e).2.1]
    exact ⟨cs', hp.stab0 _ _ _ _ _ h5 m, m.at h6 (by simp)⟩
  · have := h.late k hk (up_of hu (by omega))
    exact ⟨up_mono this.1, up_mono this.2⟩
  · rw [getD_put (Ne.symm (hp.apartL j k hj hk).2.2), getD_put (Ne.symm (hp.apartL j q hj hq).2.2)]
    exact h.apart k q hk hq hne (up_of hu (by omega)) (up_of hv (by omega))

theorem ParWInv.putD (hp : ParW P ops Q a0 W n L C D T Z src Res) {l : Array Bool} {a : Act} {w : World} (h : ParWInv a0 W n L C D T Z src Res l a w) {j : Nat} (hj : j < n) (hun : ¬ up l (2 * n + j)) :
    ParWInv a0 W n L C D T Z src Res (l.setIfInBounds (2 * n + j) true) (a.put (some (D j)) (.pointer (some ⟨w.heap.size, 0, none⟩))) (w.alloc (.cells Z T)) := by
  have hs := (hp.slots j hj).2.2
  have m : Moves [] w (w.alloc (.cells Z T)) := (Moves.refl _ _).alloc _
  have fresh : ∀ k, k < n → k ≠ j → up l (2 * n + k) → a.tmps.getD (D k) undef ≠ .pointer (some ⟨w.heap.size, 0, none⟩) := fun k hk _ hu he => by
    obtain ⟨p, h1, h2, h3, h4⟩ := h.laid k hk hu
    rw [h1] at he
    simp at he
    subst he
    have hlt : w.heap.size < w.heap.size := by
      by_cases hx : up l (3 * n + k)
      · obtain ⟨cs, _, h6⟩ := h4 hx
        exact lt_of_block h6
      · exact lt_of_block (h3 hx)
    omega
  refine ⟨by simpa using h.lsize, by rw [size_put]; exact h.size, by rw [defers_put]; exact h.defers, fun s hs => ?_, h.moves.then m, fun k hk hu => ?_, fun k hk hu => ?_, fun k hk hu => ?_, fun k hk hu => ?_, fun k q hk hq hne hu hv => ?_⟩
  · rw [getD_put (hs j hj).2.2]; exact h.old s hs
  · rw [getD_put (hp.apartL k j hk hj).2.1]
    exact h.loaded k hk (up_of hu (by omega))
  · rw [getD_put (hp.apartL k j hk hj).2.2]
    obtain ⟨cs', h5⟩ := h.called k hk (up_of hu (by omega))
    exact ⟨cs', hp.stab0 _ _ _ _ _ h5 m⟩
  · rw [getD_put (hp.apartL k j hk hj).2.2]
    by_cases e : k = j
    · subst e
      rw [getD_put_self (by rw [h.size]; exact hs)]
      refine ⟨w.heap.size, rfl, h.moves.size, fun _ => heap_alloc_new _ _, fun hx => ?_⟩
      exact absurd (h.late k hk (up_of hx (by omega))).2 hun
    · rw [getD_put (hp.apartJ k j hk hj e).2.2]
      obtain ⟨p, h1, h2, h3, h4⟩ := h.laid k hk (up_of hu (by omega))
      refine ⟨p, h1, h2, fun hn => m.at (h3 (fun hx => hn (up_mono hx))) (by simp), fun hx => ?_⟩
      obtain ⟨cs', h5, h6⟩ := h4 (up_of hx (by omega))
      exact ⟨cs', hp.stab0 _ _ _ _ _ h5 m, m.at h6 (by simp)⟩
  · have := h.late k hk (up_of hu (by omega))
    exact ⟨up_mono this.1, up_mono this.2⟩
  · by_cases e : k = j
    · subst e
      have e' : q ≠ k := Ne.symm hne
      rw [getD_put_self (by rw [h.size]; exact hs), getD_put (hp.apartJ q k hq hk e').2.2]
      exact Ne.symm (fresh q hq e' (up_of hv (by omega)))
    · by_cases e' : q = j
      · subst e'
        rw [getD_put_self (by rw [h.size]; exact hs), getD_put (hp.apartJ k q hk hq e).2.2]
        exact fresh k hk e (up_of hu (by omega))
      · rw [getD_put (hp.apartJ k j hk hj e).2.2, getD_put (hp.apartJ q j hq hj e').2.2]
        exact h.apart k q hk hq hne (up_of hu (by omega)) (up_of hv (by omega))

theorem ParWInv.putS (hp : ParW P ops Q a0 W n L C D T Z src Res) {l : Array Bool} {a : Act} {w w' : World} (h : ParWInv a0 W n L C D T Z src Res l a w) {j p : Nat} (hj : j < n) (h1 : up l (2 * j + 1)) (h2 : up l (2 * n + j)) (hD : a.tmps.getD (D j) undef = .pointer (some ⟨p, 0, none⟩)) (hW : W.heap.size ≤ p) {cs : Array Value} (hv : Res w j (a.tmps.getD (C j) undef) cs) (hz : w.heap[p]? = some (.cells Z T (0, 0))) (m : Moves [p] w w') (hw' : w'.heap[p]? = some (.cells cs T (0, 0))) :
    ParWInv a0 W n L C D T Z src Res (l.setIfInBounds (3 * n + j) true) a w' := by
  refine ⟨by simpa using h.lsize, h.size, h.defers, h.old, h.moves.trans m (fun x hx => .inr (by simp at hx; omega)), fun k hk hu => h.loaded k hk (up_of hu (by omega)), fun k hk hu => by obtain ⟨cs', h5⟩ := h.called k hk (up_of hu (by omega)); exact ⟨cs', hp.stabS _ _ _ _ _ _ _ h5 hz m⟩, fun k hk hu => ?_, fun k hk hu => ?_, fun k q hk hq hne hu hv => h.apart k q hk hq hne (up_of hu (by omega)) (up_of hv (by omega))⟩
  · by_cases e : k = j
    · subst e
      have hlt : 3 * n + k < l.size := by rw [h.lsize]; omega
      refine ⟨p, hD, hW, fun hn => absurd ?_ hn, fun _ => ⟨cs, hp.stabS _ _ _ _ _ _ _ hv hz m, hw'⟩⟩
      unfold up
      rw [Array.getElem?_setIfInBounds_self_of_lt hlt]
    · have hu' := up_of hu (by omega)
      obtain ⟨p', k1, k2, k3, k4⟩ := h.laid k hk hu'
      have hne := h.apart k j hk hj e hu' h2
      have hpp : p' ∉ [p] := by
        rw [k1, hD] at hne
        simp only [List.mem_singleton]
        intro e'
        subst e'
        exact hne rfl
      refine ⟨p', k1, k2, fun hn => m.at (k3 (fun hx => hn (up_mono hx))) hpp, fun hx => ?_⟩
      obtain ⟨cs', k5, k6⟩ := k4 (up_of hx (by omega))
      exact ⟨cs', hp.stabS _ _ _ _ _ _ _ k5 hz m, m.at k6 hpp⟩
  · by_cases e : k = j
    · subst e
      exact ⟨up_mono h1, up_mono h2⟩
    · have := h.late k hk (up_of hu (by omega))
      exact ⟨up_mono this.1, up_mono this.2⟩

end
/-- The operations themselves, and the contracts of what is called. -/
structure ParBoxW (P : Program) (ops : Array Oper) (a0 : Act) (W : World) (n : Nat) (F : Nat → FuncId) (S L C D : Nat → Nat) (tv T : TypeId) (Z : Array Value) (B : Nat → Nat) (scs : Nat → Array Value) (R : World → Nat → Array Value → Prop) : Prop where
  size : ops.size = 4 * n
  ok : follows_ok ops = true
  waits : (List.range n).all (fun j => waits ops (2 * j + 1) (2 * j) && waits ops (3 * n + j) (2 * j + 1) && waits ops (3 * n + j) (2 * n + j)) = true
  slots : ∀ j, j < n → L j < a0.tmps.size ∧ C j < a0.tmps.size ∧ D j < a0.tmps.size
  apartL : ∀ j k, j < n → k < n → L j ≠ C k ∧ L j ≠ D k ∧ C j ≠ D k
  apartJ : ∀ j k, j < n → k < n → j ≠ k → L j ≠ L k ∧ C j ≠ C k ∧ D j ≠ D k
  apartS : ∀ j k, j < n → k < n → S j ≠ L k ∧ S j ≠ C k ∧ S j ≠ D k
  opL : ∀ j, j < n → ∃ o, ops[2 * j]? = some o ∧ o.guard = none ∧ o.dst = some (L j) ∧ o.op = .load tv (.tmp (S j))
  opC : ∀ j, j < n → ∃ o ts, ops[2 * j + 1]? = some o ∧ o.guard = none ∧ o.dst = some (C j) ∧ o.op = .call { callee := .value (.func (F j)), args := #[.tmp (L j)], argTypes := ts }
  opD : ∀ j, j < n → ∃ o, ops[2 * n + j]? = some o ∧ o.guard = none ∧ o.dst = some (D j) ∧ o.op = .alloc T
  opS : ∀ j, j < n → ∃ o, ops[3 * n + j]? = some o ∧ o.guard = none ∧ o.dst = none ∧ o.op = .store T (.tmp (D j)) (.tmp (C j))
  box : ∀ j, j < n → a0.tmps.getD (S j) undef = .pointer (some ⟨B j, 0, none⟩) ∧ W.heap[B j]? = some (.cells (scs j) tv (0, 0)) ∧ (P.info? tv).map (·.size) = some (scs j).size
  strct : ∃ fs, P.underlying tv = some (.struct fs)
  enter : ∀ j, j < n → ∀ (args : Array Value) (w : World), (callFunc (F j) args).run P w = .ok (.enter (F j) args) w
  made : ∀ w : World, (Instr.alloc T true (.tuple #[])).run P w = .ok (.pointer (some ⟨w.heap.size, 0, none⟩)) (w.alloc (.cells Z T))
  fits : (P.info? T).map (·.size) = some Z.size
  calls : ∀ j, j < n → ∀ w, Moves [] W w → Calls P (F j) #[.agg (scs j)] w fun e w' => ∃ cs, e = .returned (.agg cs) ∧ R w' j cs ∧ cs.size = Z.size ∧ cs.all (·.oneCell') = true ∧ Moves [] w w'
  stab0 : ∀ j cs w w', R w j cs → Moves [] w w' → R w' j cs
  stabS : ∀ j cs w w' p Z', R w j cs → w.heap[p]? = some (.cells Z' T (0, 0)) → Moves [p] w w' → R w' j cs

theorem ParBoxW.par {P : Program} {ops : Array Oper} {Q : Exit → Act → World → Prop} {a0 : Act} {W : World} {n : Nat} {F : Nat → FuncId} {S L C D : Nat → Nat} {tv T : TypeId} {Z : Array Value} {B : Nat → Nat} {scs : Nat → Array Value} {R : World → Nat → Array Value → Prop} (h : ParBoxW P ops a0 W n F S L C D tv T Z B scs R) :
    ParW P ops Q a0 W n L C D T Z (fun j => .agg (scs j)) (fun w j v cs => v = .agg cs ∧ R w j cs ∧ cs.size = Z.size ∧ cs.all (·.oneCell') = true) := by
  have hw := fun j (hj : j < n) => List.all_eq_true.1 h.waits j (List.mem_range.2 hj)
  simp only [Bool.and_eq_true] at hw
  refine ⟨h.size, h.ok, fun j hj l hl => waits_up (hw j hj).1.1 hl, fun j hj l hl => ⟨waits_up (hw j hj).1.2 hl, waits_up (hw j hj).2 hl⟩, h.slots, h.apartL, h.apartJ, ?_, ?_, ?_, ?_, fun j v cs w w' hr m => ⟨hr.1, h.stab0 _ _ _ _ hr.2.1 m, hr.2.2⟩, fun j v cs w w' p Z' hr hz m => ⟨hr.1, h.stabS _ _ _ _ _ _ hr.2.1 hz m, hr.2.2⟩⟩
  · intro j hj K a w m _ hold hK
    obtain ⟨o, h1, h2, h3, h4⟩ := h.opL j hj
    obtain ⟨b1, b2, b3⟩ := h.box j hj
    obtain ⟨fs, d1⟩ := h.strct
    refine wpOp_of_wp h1 h2 (wp_load_row tv (.tmp (S j)) h4 (B j) ?_ tv (scs j) (0, 0) (.struct fs) (m.at b2 (by simp)) d1 rfl b3 (by rw [h3]; exact hK))
    exact (hold (S j) (fun k hk => h.apartS j k hj hk)).trans b1
  · intro j hj K a w m hv hK
    obtain ⟨o, ts, h1, h2, h3, h4⟩ := h.opC j hj
    refine wpOp_of_wp h1 h2 (wp_call1 (F j) (L j) ts h4 (.agg (scs j)) hv (h.enter j hj) ?_)
    refine (h.calls j hj w m).mono ?_
    rintro e w' ⟨cs, rfl, k1, k2, k3, k4⟩
    exact ⟨.agg cs, rfl, by rw [h3]; exact hK _ cs w' ⟨rfl, k1, k2, k3⟩ k4⟩
  · intro j hj K a w hK
    obtain ⟨o, h1, h2, h3, h4⟩ := h.opD j hj
    exact wpOp_of_wp h1 h2 (wp_alloc1 T Z h4 h.made (by rw [h3]; exact hK))
  · intro j hj K a w p v cs hD hC hR hp hK
    obtain ⟨rfl, k1, k2, k3⟩ := hR
    obtain ⟨o, h1, h2, h3, h4⟩ := h.opS j hj
    obtain ⟨s1, s2⟩ := heap_setRow (cs := cs) hp
    refine wpOp_of_wp h1 h2 (wp_store_row T (.tmp (D j)) (.tmp (C j)) h4 p cs hD hC T Z hp (by rw [h.fits, k2]) k2.symm k3 ?_)
    rw [h3]
    exact hK _ s2 s1

end Go.Proofs.Ytfegflimnngfaab
