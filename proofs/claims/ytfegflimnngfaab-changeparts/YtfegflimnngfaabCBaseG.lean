/-
  Any, Any2, Val7, Par3: our texts of these names, laid into one.
-/
import Derived.Test.YtfegflimnngfaabCBaseF
import Derived.Orders
import Derived.Laws.Tables
import Derived.Deep.Slices
import Derived.Deep.Fields
/-
  A region that draws its order, by one condition that every operation keeps, whichever comes up: plain laws over the guide's own, no program in sight.
-/
namespace Go.Proofs.Ytfegflimnngfaab
open Go.RowKit

/-- How many have not come up. -/
def unl (l : Array Bool) : Nat := l.toList.count false

theorem ready_un {ops : Array Oper} {l : Array Bool} {i : Nat} (h : i ∈ Region.ready .any ops l) : l[i]? = some false := by
  have h1 := (mem_ready.1 h).1
  rw [Array.getD_eq_getD_getElem?] at h1
  cases hq : l[i]? with
  | none => rw [hq] at h1; simp at h1
  | some b => rw [hq] at h1; simp at h1; rw [h1]

theorem unl_set {l : Array Bool} {i : Nat} (h : l[i]? = some false) : unl (l.setIfInBounds i true) + 1 = unl l := by
  unfold unl
  have hlt : i < l.toList.length := by
    have := (Array.getElem?_eq_some_iff.1 h).1
    simpa using this
  have hg : l.toList[i] = false := by
    have := (Array.getElem?_eq_some_iff.1 h).2
    simpa using this
  rw [Array.toList_setIfInBounds, List.count_set hlt]
  have hpos : 0 < l.toList.count false := List.count_pos_iff.2 (by rw [← hg]; exact List.getElem_mem hlt)
  rw [hg, if_pos (by decide), if_neg (by decide)]
  omega

theorem unl_zero {l : Array Bool} {i : Nat} (h : unl l = 0) : l[i]? ≠ some false := by
  intro hq
  have := unl_set hq
  omega

theorem wpAny_inv {P : Program} {ops : Array Oper} {Q : Exit → Act → World → Prop} (I : Array Bool → Act → World → Prop)
    (hstep : ∀ l a w, I l a w → ∀ i ∈ Region.ready .any ops l, wpOp P ops Q i (fun a' w' => I (l.setIfInBounds i true) a' w') a w)
    (hdone : ∀ l a w, I l a w → Region.ready .any ops l = [] → Q .normal a w) :
    ∀ (fuel : Nat) (l : Array Bool) (a : Act) (w : World), unl l ≤ fuel → I l a w → wpAny P .any ops Q fuel l a w := by
  intro fuel
  induction fuel with
  | zero =>
    intro l a w hf hI
    have hr : Region.ready .any ops l = [] := by
      cases hq : Region.ready .any ops l with
      | nil => rfl
      | cons i t =>
        have : i ∈ Region.ready .any ops l := by rw [hq]; simp
        exact absurd (ready_un this) (unl_zero (by omega))
    exact ⟨hr, hdone l a w hI hr⟩
  | succ fuel ih =>
    intro l a w hf hI
    refine ⟨hdone l a w hI, fun i hi => wpOp_mono (fun a' w' h' => ?_) (hstep l a w hI i hi)⟩
    have := unl_set (ready_un hi)
    exact ih _ a' w' (by omega) h'

theorem wp_region_inv {P : Program} {ops : Array Oper} {Q : Exit → Act → World → Prop} {id : Nat} {a : Act} {w : World} (hm : P.follows .mixedOrders = true) (I : Array Bool → Act → World → Prop)
    (h0 : I (Array.replicate ops.size false) a w.drew)
    (hstep : ∀ l a w, I l a w → ∀ i ∈ Region.ready .any ops l, wpOp P ops Q i (fun a' w' => I (l.setIfInBounds i true) a' w') a w)
    (hdone : ∀ l a w, I l a w → Region.ready .any ops l = [] → Q .normal a w) : (Code.region id ops true).wp P Q a w := by
  refine wp_region_any hm (wpAny_inv I hstep hdone _ _ _ _ ?_ h0)
  unfold unl
  simp

/-- That one has come up. -/
def up (l : Array Bool) (i : Nat) : Prop := l[i]? = some true
theorem up_set {l : Array Bool} {i j : Nat} (h : up (l.setIfInBounds i true) j) : (j = i) ∨ up l j := by
  unfold up at *
  by_cases e : i = j
  · exact .inl e.symm
  · rw [Array.getElem?_setIfInBounds_ne e] at h
    exact .inr h

/-- All have come up where nothing may. -/
def follows_ok (ops : Array Oper) : Bool := (List.range ops.size).all fun i => ((ops[i]?).map fun o => o.after.all fun e => decide (e.on < i)).getD false

theorem all_up {ops : Array Oper} {l : Array Bool} (hok : follows_ok ops = true) (hl : l.size = ops.size) (hr : Region.ready .any ops l = []) : ∀ i, i < ops.size → up l i := by
  intro i
  induction i using Nat.strongRecOn with
  | _ i ih =>
    intro hi
    unfold up
    have hlt : i < l.size := by omega
    rw [Array.getElem?_eq_getElem hlt]
    cases hq : l[i] with
    | true => rfl
    | false =>
      exfalso
      have h1 := List.all_eq_true.1 hok i (List.mem_range.2 hi)
      obtain ⟨o, ho⟩ : ∃ o, ops[i]? = some o := ⟨ops[i], Array.getElem?_eq_getElem hi⟩
      rw [ho] at h1
      simp only [Option.map_some, Option.getD_some] at h1
      have : i ∈ Region.ready .any ops l := by
        refine mem_ready.2 ⟨by rw [Array.getD_eq_getD_getElem?, Array.getElem?_eq_getElem hlt, hq]; rfl, o, ho, fun e he _ => ?_⟩
        have h2 := Array.all_eq_true_iff_forall_mem.1 h1 e he
        have h3 := of_decide_eq_true h2
        have h4 := ih e.on h3 (by omega)
        unfold up at h4
        rw [Array.getD_eq_getD_getElem?, h4]
        rfl
      rw [hr] at this
      simp at this

theorem getD_put {a : Act} {d s : Nat} {v : Value} (h : s ≠ d) : (a.put (some d) v).tmps.getD s undef = a.tmps.getD s undef := by
  simp only [Act.put, Array.getD_eq_getD_getElem?]
  rw [Array.getElem?_setIfInBounds_ne (Ne.symm h)]
theorem getD_put_self {a : Act} {d : Nat} {v : Value} (h : d < a.tmps.size) : (a.put (some d) v).tmps.getD d undef = v := by
  simp [Act.put, Array.getD_eq_getD_getElem?, h]
theorem size_put (a : Act) (d : Option Tmp) (v : Value) : (a.put d v).tmps.size = a.tmps.size := by
  cases d <;> simp [Act.put]
theorem defers_put (a : Act) (d : Option Tmp) (v : Value) : (a.put d v).defers = a.defers := by
  cases d <;> simp [Act.put]

/-- x1, .., xn := f1(y1), .., fn(yn), the x's boxed: what the operations are, by what each does to a state and a world. -/
structure Par (P : Program) (ops : Array Oper) (Q : Exit → Act → World → Prop) (a0 : Act) (W : World) (n : Nat) (L C D : Nat → Nat) (T : TypeId) (Z : Array Value) (src : Nat → Value) (Res : Nat → Value → Array Value → Prop) : Prop where
  size : ops.size = 4 * n
  ok : follows_ok ops = true
  waitC : ∀ j, j < n → ∀ l, (2 * j + 1) ∈ Region.ready .any ops l → up l (2 * j)
  waitS : ∀ j, j < n → ∀ l, (3 * n + j) ∈ Region.ready .any ops l → up l (2 * j + 1) ∧ up l (2 * n + j)
  slots : ∀ j, j < n → L j < a0.tmps.size ∧ C j < a0.tmps.size ∧ D j < a0.tmps.size
  apartL : ∀ j k, j < n → k < n → L j ≠ C k ∧ L j ≠ D k ∧ C j ≠ D k
  apartJ : ∀ j k, j < n → k < n → j ≠ k → L j ≠ L k ∧ C j ≠ C k ∧ D j ≠ D k
  load : ∀ j, j < n → ∀ (K : Act → World → Prop) a w, Moves [] W w → a.tmps.size = a0.tmps.size → (∀ s, (∀ k, k < n → s ≠ L k ∧ s ≠ C k ∧ s ≠ D k) → a.tmps.getD s undef = a0.tmps.getD s undef) → K (a.put (some (L j)) (src j)) w → wpOp P ops Q (2 * j) K a w
  call : ∀ j, j < n → ∀ (K : Act → World → Prop) a w, Moves [] W w → a.tmps.getD (L j) undef = src j → (∀ v cs w', Res j v cs → Moves [] w w' → K (a.put (some (C j)) v) w') → wpOp P ops Q (2 * j + 1) K a w
  alloc : ∀ j, j < n → ∀ (K : Act → World → Prop) a w, K (a.put (some (D j)) (.pointer (some ⟨w.heap.size, 0, none⟩))) (w.alloc (.cells Z T)) → wpOp P ops Q (2 * n + j) K a w
  store : ∀ j, j < n → ∀ (K : Act → World → Prop) a w p v cs, a.tmps.getD (D j) undef = .pointer (some ⟨p, 0, none⟩) → a.tmps.getD (C j) undef = v → Res j v cs → w.heap[p]? = some (.cells Z T (0, 0)) → (∀ w', Moves [p] w w' → w'.heap[p]? = some (.cells cs T (0, 0)) → K a w') → wpOp P ops Q (3 * n + j) K a w

/-- What holds while they come up, in whatever order. -/
structure ParInv (a0 : Act) (W : World) (n : Nat) (L C D : Nat → Nat) (T : TypeId) (Z : Array Value) (src : Nat → Value) (Res : Nat → Value → Array Value → Prop) (l : Array Bool) (a : Act) (w : World) : Prop where
  lsize : l.size = 4 * n
  size : a.tmps.size = a0.tmps.size
  defers : a.defers = a0.defers
  old : ∀ s, (∀ k, k < n → s ≠ L k ∧ s ≠ C k ∧ s ≠ D k) → a.tmps.getD s undef = a0.tmps.getD s undef
  moves : Moves [] W w
  loaded : ∀ j, j < n → up l (2 * j) → a.tmps.getD (L j) undef = src j
  called : ∀ j, j < n → up l (2 * j + 1) → ∃ cs, Res j (a.tmps.getD (C j) undef) cs
  laid : ∀ j, j < n → up l (2 * n + j) → ∃ p, a.tmps.getD (D j) undef = .pointer (some ⟨p, 0, none⟩) ∧ W.heap.size ≤ p ∧ (¬ up l (3 * n + j) → w.heap[p]? = some (.cells Z T (0, 0))) ∧ (up l (3 * n + j) → ∃ cs, Res j (a.tmps.getD (C j) undef) cs ∧ w.heap[p]? = some (.cells cs T (0, 0)))
  late : ∀ j, j < n → up l (3 * n + j) → up l (2 * j + 1) ∧ up l (2 * n + j)
  apart : ∀ j k, j < n → k < n → j ≠ k → up l (2 * n + j) → up l (2 * n + k) → a.tmps.getD (D j) undef ≠ a.tmps.getD (D k) undef

theorem up_of {l : Array Bool} {i k : Nat} (h : up (l.setIfInBounds i true) k) (hne : k ≠ i) : up l k := (up_set h).resolve_left hne
theorem up_mono {l : Array Bool} {i k : Nat} (h : up l k) : up (l.setIfInBounds i true) k := by
  unfold up at *
  have hk : k < l.size := (Array.getElem?_eq_some_iff.1 h).1
  by_cases e : i = k
  · subst e
    rw [Array.getElem?_setIfInBounds_self_of_lt hk]
  · rw [Array.getElem?_setIfInBounds_ne e]
    exact h
theorem up_not {l : Array Bool} {i : Nat} (h : l[i]? = some false) : ¬ up l i := by unfold up; rw [h]; simp

section
variable {P : Program} {ops : Array Oper} {Q : Exit → Act → World → Prop} {a0 : Act} {W : World} {n : Nat} {L C D : Nat → Nat} {T : TypeId} {Z : Array Value} {src : Nat → Value} {Res : Nat → Value → Array Value → Prop}

/-- A slot is written that nobody else looks at: all but what it holds stays. -/
theorem ParInv.putL (hp : Par P ops Q a0 W n L C D T Z src Res) {l : Array Bool} {a : Act} {w : World} (h : ParInv a0 W n L C D T Z src Res l a w) {j : Nat} (hj : j < n) :
    ParInv a0 W n L C D T Z src Res (l.setIfInBounds (2 * j) true) (a.put (some (L j)) (src j)) w := by
  have hs := (hp.slots j hj).1
  refine ⟨by simpa using h.lsize, by rw [size_put]; exact h.size, by rw [defers_put]; exact h.defers, fun s hs => ?_, h.moves, fun k hk hu => ?_, fun k hk hu => ?_, fun k hk hu => ?_, fun k hk hu => ?_, fun k m hk hm hne hu hv => ?_⟩
  · rw [getD_put (hs j hj).1]; exact h.old s hs
  · by_cases e : k = j
    · subst e; exact getD_put_self (by rw [h.size]; exact hs)
    · rw [getD_put (hp.apartJ k j hk hj e).1]
      exact h.loaded k hk (up_of hu (by omega))
  · rw [getD_put (Ne.symm (hp.apartL j k hj hk).1)]
    exact h.called k hk (up_of hu (by omega))
  · rw [getD_put (Ne.symm (hp.apartL j k hj hk).2.1), getD_put (Ne.symm (hp.apartL j k hj hk).1)]
    obtain ⟨p, h1, h2, h3, h4⟩ := h.laid k hk (up_of hu (by omega))
    exact ⟨p, h1, h2, fun hn => h3 (fun hx => hn (up_mono hx)), fun hx => h4 (up_of hx (by omega))⟩
  · have := h.late k hk (up_of hu (by omega))
    exact ⟨up_mono this.1, up_mono this.2⟩
  · rw [getD_put (Ne.symm (hp.apartL j k hj hk).2.1), getD_put (Ne.symm (hp.apartL j m hj hm).2.1)]
    exact h.apart k m hk hm hne (up_of hu (by omega)) (up_of hv (by omega))

theorem ParInv.putC (hp : Par P ops Q a0 W n L C D T Z src Res) {l : Array Bool} {a : Act} {w w' : World} (h : ParInv a0 W n L C D T Z src Res l a w) {j : Nat} (hj : j < n) (hun : ¬ up l (2 * j + 1)) (m : Moves [] w w') {v : Value} {cs : Array Value} (hv : Res j v cs) :
    ParInv a0 W n L C D T Z src Res (l.setIfInBounds (2 * j + 1) true) (a.put (some (C j)) v) w' := by
  have hs := (hp.slots j hj).2.1
  refine ⟨by simpa using h.lsize, by rw [size_put]; exact h.size, by rw [defers_put]; exact h.defers, fun s hs => ?_, h.moves.then m, fun k hk hu => ?_, fun k hk hu => ?_, fun k hk hu => ?_, fun k hk hu => ?_, fun k q hk hq hne hu hv => ?_⟩
  · rw [getD_put (hs j hj).2.1]; exact h.old s hs
  · rw [getD_put (hp.apartL k j hk hj).1]
    exact h.loaded k hk (up_of hu (by omega))
  · by_cases e : k = j
    · subst e
      rw [getD_put_self (by rw [h.size]; exact hs)]
      exact ⟨cs, hv⟩
    · rw [getD_put (hp.apartJ k j hk hj e).2.1]
      exact h.called k hk (up_of hu (by omega))
  · have hu' := up_of hu (by omega)
    obtain ⟨p, h1, h2, h3, h4⟩ := h.laid k hk hu'
    rw [getD_put (Ne.symm (hp.apartL j k hj hk).2.2)]
    refine ⟨p, h1, h2, fun hn => m.at (h3 (fun hx => hn (up_mono hx))) (by simp), fun hx => ?_⟩
    have hx' := up_of hx (by omega)
    have hc := (h.late k hk hx').1
    have e : k ≠ j := fun e => by subst e; exact hun hc
    obtain ⟨cs', h5, h6⟩ := h4 hx'
    rw [getD_put (hp.apartJ k j hk hj e).2.1]
    exact ⟨cs', h5, m.at h6 (by simp)⟩
  · have := h.late k hk (up_of hu (by omega))
    exact ⟨up_mono this.1, up_mono this.2⟩
  · rw [getD_put (Ne.symm (hp.apartL j k hj hk).2.2), getD_put (Ne.symm (hp.apartL j q hj hq).2.2)]
    exact h.apart k q hk hq hne (up_of hu (by omega)) (up_of hv (by omega))

theorem ParInv.putD (hp : Par P ops Q a0 W n L C D T Z src Res) {l : Array Bool} {a : Act} {w : World} (h : ParInv a0 W n L C D T Z src Res l a w) {j : Nat} (hj : j < n) (hun : ¬ up l (2 * n + j)) :
    ParInv a0 W n L C D T Z src Res (l.setIfInBounds (2 * n + j) true) (a.put (some (D j)) (.pointer (some ⟨w.heap.size, 0, none⟩))) (w.alloc (.cells Z T)) := by
  have hs := (hp.slots j hj).2.2
  have m : Moves [] w (w.alloc (.cells Z T)) := (Moves.refl _ _).alloc _
  have fresh : ∀ k, k < n → k ≠ j → up l (2 * n + k) → a.tmps.getD (D k) undef ≠ .pointer (some ⟨w.heap.size, 0, none⟩) := fun k hk _ hu he => by
    obtain ⟨p, h1, h2, h3, h4⟩ := h.laid k hk hu
    rw [h1] at he
    simp at he
    subst he
    have hlt : w.heap.size < w.heap.size := by
      by_cases hx : up l (3 * n + k)
      · obtain ⟨cs, _, h6⟩ := h4 hx
        exact lt_of_block h6
      · exact lt_of_block (h3 hx)
    omega
  refine ⟨by simpa using h.lsize, by rw [size_put]; exact h.size, by rw [defers_put]; exact h.defers, fun s hs => ?_, h.moves.then m, fun k hk hu => ?_, fun k hk hu => ?_, fun k hk hu => ?_, fun k hk hu => ?_, fun k q hk hq hne hu hv => ?_⟩
  · rw [getD_put (hs j hj).2.2]; exact h.old s hs
  · rw [getD_put (hp.apartL k j hk hj).2.1]
    exact h.loaded k hk (up_of hu (by omega))
  · rw [getD_put (hp.apartL k j hk hj).2.2]
    exact h.called k hk (up_of hu (by omega))
  · rw [getD_put (hp.apartL k j hk hj).2.2]
    by_cases e : k = j
    · subst e
      rw [getD_put_self (by rw [h.size]; exact hs)]
      refine ⟨w.heap.size, rfl, h.moves.size, fun _ => heap_alloc_new _ _, fun hx => ?_⟩
      exact absurd (h.late k hk (up_of hx (by omega))).2 hun
    · rw [getD_put (hp.apartJ k j hk hj e).2.2]
      obtain ⟨p, h1, h2, h3, h4⟩ := h.laid k hk (up_of hu (by omega))
      refine ⟨p, h1, h2, fun hn => m.at (h3 (fun hx => hn (up_mono hx))) (by simp), fun hx => ?_⟩
      obtain ⟨cs', h5, h6⟩ := h4 (up_of hx (by omega))
      exact ⟨cs', h5, m.at h6 (by simp)⟩
  · have := h.late k hk (up_of hu (by omega))
    exact ⟨up_mono this.1, up_mono this.2⟩
  · by_cases e : k = j
    · subst e
      have e' : q ≠ k := Ne.symm hne
      rw [getD_put_self (by rw [h.size]; exact hs), getD_put (hp.apartJ q k hq hk e').2.2]
      exact Ne.symm (fresh q hq e' (up_of hv (by omega)))
    · by_cases e' : q = j
      · subst e'
        rw [getD_put_self (by rw [h.size]; exact hs), getD_put (hp.apartJ k q hk hq e).2.2]
        exact fresh k hk e (up_of hu (by omega))
      · rw [getD_put (hp.apartJ k j hk hj e).2.2, getD_put (hp.apartJ q j hq hj e').2.2]
        exact h.apart k q hk hq hne (up_of hu (by omega)) (up_of hv (by omega))

theorem ParInv.putS {l : Array Bool} {a : Act} {w w' : World} (h : ParInv a0 W n L C D T Z src Res l a w) {j p : Nat} (hj : j < n) (h1 : up l (2 * j + 1)) (h2 : up l (2 * n + j)) (hD : a.tmps.getD (D j) undef = .pointer (some ⟨p, 0, none⟩)) (hW : W.heap.size ≤ p) {cs : Array Value} (hv : Res j (a.tmps.getD (C j) undef) cs) (m : Moves [p] w w') (hw' : w'.heap[p]? = some (.cells cs T (0, 0))) :
    ParInv a0 W n L C D T Z src Res (l.setIfInBounds (3 * n + j) true) a w' := by
  refine ⟨by simpa using h.lsize, h.size, h.defers, h.old, h.moves.trans m (fun x hx => .inr (by simp at hx; omega)), fun k hk hu => h.loaded k hk (up_of hu (by omega)), fun k hk hu => h.called k hk (up_of hu (by omega)), fun k hk hu => ?_, fun k hk hu => ?_, fun k q hk hq hne hu hv => h.apart k q hk hq hne (up_of hu (by omega)) (up_of hv (by omega))⟩
  · by_cases e : k = j
    · subst e
      have hlt : 3 * n + k < l.size := by rw [h.lsize]; omega
      refine ⟨p, hD, hW, fun hn => absurd ?_ hn, fun _ => ⟨cs, hv, hw'⟩⟩
      unfold up
      rw [Array.getElem?_setIfInBounds_self_of_lt hlt]
    · have hu' := up_of hu (by omega)
      obtain ⟨p', k1, k2, k3, k4⟩ := h.laid k hk hu'
      have hne := h.apart k j hk hj e hu' h2
      have hpp : p' ∉ [p] := by
        rw [k1, hD] at hne
        simp only [List.mem_singleton]
        intro e'
        subst e'
        exact hne rfl
      refine ⟨p', k1, k2, fun hn => m.at (k3 (fun hx => hn (up_mono hx))) hpp, fun hx => ?_⟩
      obtain ⟨cs', k5, k6⟩ := k4 (up_of hx (by omega))
      exact ⟨cs', k5, m.at k6 hpp⟩
  · by_cases e : k = j
    · subst e
      exact ⟨up_mono h1, up_mono h2⟩
    · have := h.late k hk (up_of hu (by omega))
      exact ⟨up_mono this.1, up_mono this.2⟩

/-- Whatever order is drawn: behind it each x lies in a box of its own and holds what its function returned. -/
theorem par_wp {id : Nat} {w0 : World} (hm : P.follows .mixedOrders = true) (hp : Par P ops Q a0 W n L C D T Z src Res) (hW : Moves [] W w0)
    (hQ : ∀ a w, a.tmps.size = a0.tmps.size → a.defers = a0.defers → (∀ s, (∀ k, k < n → s ≠ L k ∧ s ≠ C k ∧ s ≠ D k) → a.tmps.getD s undef = a0.tmps.getD s undef) → Moves [] W w →
      (∀ j, j < n → ∃ p cs, a.tmps.getD (D j) undef = .pointer (some ⟨p, 0, none⟩) ∧ W.heap.size ≤ p ∧ Res j (a.tmps.getD (C j) undef) cs ∧ w.heap[p]? = some (.cells cs T (0, 0))) →
      (∀ j k, j < n → k < n → j ≠ k → a.tmps.getD (D j) undef ≠ a.tmps.getD (D k) undef) → Q .normal a w) :
    (Code.region id ops true).wp P Q a0 w0 := by
  refine wp_region_inv hm (ParInv a0 W n L C D T Z src Res) ?_ ?_ ?_
  · have none : ∀ i, ¬ up (Array.replicate ops.size false) i := fun i h => by
      unfold up at h
      rw [Array.getElem?_replicate] at h
      split at h <;> simp at h
    exact ⟨by simp [hp.size], rfl, rfl, fun _ _ => rfl, hW.drew, fun j _ h => absurd h (none _), fun j _ h => absurd h (none _), fun j _ h => absurd h (none _), fun j _ h => absurd h (none _), fun j k _ _ _ h => absurd h (none _)⟩
  · intro l a w hI i hi
    have hun := up_not (ready_un hi)
    have hlt : i < 4 * n := by
      obtain ⟨_, o, ho, _⟩ := mem_ready.1 hi
      have := (Array.getElem?_eq_some_iff.1 ho).1
      rw [hp.size] at this
      exact this
    by_cases c1 : i < 2 * n
    · by_cases c2 : i % 2 = 0
      · obtain ⟨j, rfl⟩ : ∃ j, i = 2 * j := ⟨i / 2, by omega⟩
        exact hp.load j (by omega) _ a w hI.moves hI.size hI.old (hI.putL hp (by omega))
      · obtain ⟨j, rfl⟩ : ∃ j, i = 2 * j + 1 := ⟨i / 2, by omega⟩
        exact hp.call j (by omega) _ a w hI.moves (hI.loaded j (by omega) (hp.waitC j (by omega) l hi)) (fun v cs w' hv m => hI.putC hp (by omega) hun m hv)
    · by_cases c3 : i < 3 * n
      · obtain ⟨j, rfl⟩ : ∃ j, i = 2 * n + j := ⟨i - 2 * n, by omega⟩
        exact hp.alloc j (by omega) _ a w (hI.putD hp (by omega) hun)
      · obtain ⟨j, rfl⟩ : ∃ j, i = 3 * n + j := ⟨i - 3 * n, by omega⟩
        obtain ⟨h1, h2⟩ := hp.waitS j (by omega) l hi
        obtain ⟨p, k1, k2, k3, _⟩ := hI.laid j (by omega) h2
        obtain ⟨cs, hv⟩ := hI.called j (by omega) h1
        exact hp.store j (by omega) _ a w p _ cs k1 rfl hv (k3 hun) (fun w' m hw' => hI.putS (by omega) h1 h2 k1 k2 hv m hw')
  · intro l a w hI hr
    have hall := all_up hp.ok (by rw [hI.lsize, hp.size]) hr
    rw [hp.size] at hall
    refine hQ a w hI.size hI.defers hI.old hI.moves (fun j hj => ?_) (fun j k hj hk hne => hI.apart j k hj hk hne (hall _ (by omega)) (hall _ (by omega)))
    obtain ⟨p, k1, k2, _, k4⟩ := hI.laid j hj (hall _ (by omega))
    obtain ⟨cs, k5, k6⟩ := k4 (hall _ (by omega))
    exact ⟨p, cs, k1, k2, k5, k6⟩
end
end Go.Proofs.Ytfegflimnngfaab
/-
  The operations of 'x1, .., xn := f1(y1), .., fn(yn)' over boxed values, each by what it does to a state and a world.
-/
namespace Go.Proofs.Ytfegflimnngfaab
open Go.RowKit

theorem wpOp_of_wp {P : Program} {ops : Array Oper} {Q : Exit → Act → World → Prop} {i : Nat} {o : Oper} {a : Act} {w : World} {K : Act → World → Prop} (hi : ops[i]? = some o) (hg : o.guard = none) (h : o.wp P a w K Q) : wpOp P ops Q i K a w := by
  unfold wpOp
  simp only [hi]
  rw [if_pos (by simp [Region.wanted, hg])]
  exact .inl h

theorem wp_call1 {P : Program} {o : Oper} {a : Act} {w : World} {K : Act → World → Prop} {Q : Exit → Act → World → Prop} (F : FuncId) (s : Tmp) (ts : Array TypeId) (ho : o.op = .call { callee := .value (.func F), args := #[.tmp s], argTypes := ts }) (v : Value) (hv : a.tmps.getD s undef = v)
    (hf : ∀ (args : Array Value) (w : World), (callFunc F args).run P w = .ok (.enter F args) w)
    (hc : Calls P F #[v] w fun e w' => ∃ r, e = .returned r ∧ K (a.put o.dst r) w') : o.wp P a w K Q := by
  unfold Oper.wp execOp
  simp only [ho]
  simp [resolve, Deferred.ofValue, Act.eval, go_sem, hf]
  have e : a.tmps[s]?.getD undef = v := by simpa using hv
  rw [e]
  exact hc.mono fun e w' ⟨r, he, hk⟩ => by subst he; exact hk

/-- That one waits for that other. -/
def waits (ops : Array Oper) (i k : Nat) : Bool := ((ops[i]?).map fun o => o.after.toList.any fun e => Region.binds .any e && e.on == k).getD false
theorem waits_up {ops : Array Oper} {i k : Nat} (h : waits ops i k = true) {l : Array Bool} (hi : i ∈ Region.ready .any ops l) : up l k := by
  obtain ⟨_, o, ho, hall⟩ := mem_ready.1 hi
  unfold waits at h
  rw [ho] at h
  simp only [Option.map_some, Option.getD_some, List.any_eq_true, Bool.and_eq_true, beq_iff_eq] at h
  obtain ⟨e, he, hb, rfl⟩ := h
  have := hall e (by simpa using he) hb
  unfold up
  rw [Array.getD_eq_getD_getElem?] at this
  cases hq : l[e.on]? with
  | none => rw [hq] at this; simp at this
  | some b => rw [hq] at this; simp at this; rw [this]

theorem wp_alloc1 {P : Program} {o : Oper} {a : Act} {w : World} {K : Act → World → Prop} {Q : Exit → Act → World → Prop} (T : TypeId) (Z : Array Value) (ho : o.op = .alloc T)
    (hr : ∀ w : World, (Instr.alloc T true (.tuple #[])).run P w = .ok (.pointer (some ⟨w.heap.size, 0, none⟩)) (w.alloc (.cells Z T)))
    (h : K (a.put o.dst (.pointer (some ⟨w.heap.size, 0, none⟩))) (w.alloc (.cells Z T))) : o.wp P a w K Q := by
  unfold Oper.wp execOp
  simp only [ho]
  simp only [Sem.run_bind, hr, Result.andThen_ok, Sem.run_pure]
  exact h

/-- The operations themselves, and the contracts of what is called. -/
structure ParBox (P : Program) (ops : Array Oper) (a0 : Act) (W : World) (n : Nat) (F : Nat → FuncId) (S L C D : Nat → Nat) (tv T : TypeId) (Z : Array Value) (B : Nat → Nat) (scs : Nat → Array Value) (R : Nat → Array Value → Prop) : Prop where
  size : ops.size = 4 * n
  ok : follows_ok ops = true
  waits : (List.range n).all (fun j => waits ops (2 * j + 1) (2 * j) && waits ops (3 * n + j) (2 * j + 1) && waits ops (3 * n + j) (2 * n + j)) = true
  slots : ∀ j, j < n → L j < a0.tmps.size ∧ C j < a0.tmps.size ∧ D j < a0.tmps.size
  apartL : ∀ j k, j < n → k < n → L j ≠ C k ∧ L j ≠ D k ∧ C j ≠ D k
  apartJ : ∀ j k, j < n → k < n → j ≠ k → L j ≠ L k ∧ C j ≠ C k ∧ D j ≠ D k
  apartS : ∀ j k, j < n → k < n → S j ≠ L k ∧ S j ≠ C k ∧ S j ≠ D k
  opL : ∀ j, j < n → ∃ o, ops[2 * j]? = some o ∧ o.guard = none ∧ o.dst = some (L j) ∧ o.op = .load tv (.tmp (S j))
  opC : ∀ j, j < n → ∃ o ts, ops[2 * j + 1]? = some o ∧ o.guard = none ∧ o.dst = some (C j) ∧ o.op = .call { callee := .value (.func (F j)), args := #[.tmp (L j)], argTypes := ts }
  opD : ∀ j, j < n → ∃ o, ops[2 * n + j]? = some o ∧ o.guard = none ∧ o.dst = some (D j) ∧ o.op = .alloc T
  opS : ∀ j, j < n → ∃ o, ops[3 * n + j]? = some o ∧ o.guard = none ∧ o.dst = none ∧ o.op = .store T (.tmp (D j)) (.tmp (C j))
  box : ∀ j, j < n → a0.tmps.getD (S j) undef = .pointer (some ⟨B j, 0, none⟩) ∧ W.heap[B j]? = some (.cells (scs j) tv (0, 0)) ∧ (P.info? tv).map (·.size) = some (scs j).size
  strct : ∃ fs, P.underlying tv = some (.struct fs)
  enter : ∀ j, j < n → ∀ (args : Array Value) (w : World), (callFunc (F j) args).run P w = .ok (.enter (F j) args) w
  made : ∀ w : World, (Instr.alloc T true (.tuple #[])).run P w = .ok (.pointer (some ⟨w.heap.size, 0, none⟩)) (w.alloc (.cells Z T))
  fits : (P.info? T).map (·.size) = some Z.size
  calls : ∀ j, j < n → ∀ w, Moves [] W w → Calls P (F j) #[.agg (scs j)] w fun e w' => ∃ cs, e = .returned (.agg cs) ∧ R j cs ∧ cs.size = Z.size ∧ cs.all (·.oneCell') = true ∧ Moves [] w w'

theorem heap_setRow {w : World} {g : Nat} {cs old : Array Value} {t : TypeId} (h : w.heap[g]? = some (.cells old t (0, 0))) : (w.setRow g cs).heap[g]? = some (.cells cs t (0, 0)) ∧ Moves [g] w (w.setRow g cs) :=
  ⟨setRow_heap w g old cs t (0, 0) h, ⟨rfl, rfl, rfl, by simp [World.setRow], fun k _ hn => by
    simp only [List.mem_singleton] at hn
    show (w.heap.modify g _)[k]? = _
    rw [Array.getElem?_modify, if_neg (fun e => hn e.symm)]⟩⟩

theorem ParBox.par {P : Program} {ops : Array Oper} {Q : Exit → Act → World → Prop} {a0 : Act} {W : World} {n : Nat} {F : Nat → FuncId} {S L C D : Nat → Nat} {tv T : TypeId} {Z : Array Value} {B : Nat → Nat} {scs : Nat → Array Value} {R : Nat → Array Value → Prop} (h : ParBox P ops a0 W n F S L C D tv T Z B scs R) :
    Par P ops Q a0 W n L C D T Z (fun j => .agg (scs j)) (fun j v cs => v = .agg cs ∧ R j cs ∧ cs.size = Z.size ∧ cs.all (·.oneCell') = true) := by
  have hw := fun j (hj : j < n) => List.all_eq_true.1 h.waits j (List.mem_range.2 hj)
  simp only [Bool.and_eq_true] at hw
  refine ⟨h.size, h.ok, fun j hj l hl => waits_up (hw j hj).1.1 hl, fun j hj l hl => ⟨waits_up (hw j hj).1.2 hl, waits_up (hw j hj).2 hl⟩, h.slots, h.apartL, h.apartJ, ?_, ?_, ?_, ?_⟩
  · intro j hj K a w m _ hold hK
    obtain ⟨o, h1, h2, h3, h4⟩ := h.opL j hj
    obtain ⟨b1, b2, b3⟩ := h.box j hj
    obtain ⟨fs, d1⟩ := h.strct
    refine wpOp_of_wp h1 h2 (wp_load_row tv (.tmp (S j)) h4 (B j) ?_ tv (scs j) (0, 0) (.struct fs) (m.at b2 (by simp)) d1 rfl b3 (by rw [h3]; exact hK))
    exact (hold (S j) (fun k hk => h.apartS j k hj hk)).trans b1
  · intro j hj K a w m hv hK
    obtain ⟨o, ts, h1, h2, h3, h4⟩ := h.opC j hj
    refine wpOp_of_wp h1 h2 (wp_call1 (F j) (L j) ts h4 (.agg (scs j)) hv (h.enter j hj) ?_)
    refine (h.calls j hj w m).mono ?_
    rintro e w' ⟨cs, rfl, k1, k2, k3, k4⟩
    exact ⟨.agg cs, rfl, by rw [h3]; exact hK _ cs w' ⟨rfl, k1, k2, k3⟩ k4⟩
  · intro j hj K a w hK
    obtain ⟨o, h1, h2, h3, h4⟩ := h.opD j hj
    exact wpOp_of_wp h1 h2 (wp_alloc1 T Z h4 h.made (by rw [h3]; exact hK))
  · intro j hj K a w p v cs hD hC hR hp hK
    obtain ⟨rfl, k1, k2, k3⟩ := hR
    obtain ⟨o, h1, h2, h3, h4⟩ := h.opS j hj
    obtain ⟨s1, s2⟩ := heap_setRow (cs := cs) hp
    refine wpOp_of_wp h1 h2 (wp_store_row T (.tmp (D j)) (.tmp (C j)) h4 p cs hD hC T Z hp (by rw [h.fits, k2]) k2.symm k3 ?_)
    rw [h3]
    exact hK _ s2 s1

theorem sets_get {a : Array Value} : ∀ (sl : List Nat) (t : Array Value), t.size = a.size → (sl.foldl (fun t s => t.setIfInBounds s (a.getD s undef)) t).size = a.size ∧ ∀ i, i < a.size → (sl.foldl (fun t s => t.setIfInBounds s (a.getD s undef)) t)[i]? = if i ∈ sl then a[i]? else t[i]?
  | [], t, h => ⟨h, fun i _ => by simp⟩
  | s :: sl, t, h => by
    have ih := sets_get sl (t.setIfInBounds s (a.getD s undef)) (by simpa using h)
    refine ⟨by simpa using ih.1, fun i hi => ?_⟩
    rw [List.foldl_cons, ih.2 i hi]
    by_cases h1 : i ∈ sl
    · simp [h1]
    · by_cases h2 : s = i
      · subst h2
        have hlt : s < t.size := by omega
        rw [if_neg h1, Array.getElem?_setIfInBounds_self_of_lt hlt]
        simp [hi]
      · rw [if_neg h1, Array.getElem?_setIfInBounds_ne h2]
        simp [h1, Ne.symm h2]
theorem tmps_sets {a a0 : Array Value} (hsz : a.size = a0.size) (sl : List Nat) (h : ∀ s, s ∉ sl → a.getD s undef = a0.getD s undef) : a = sl.foldl (fun t s => t.setIfInBounds s (a.getD s undef)) a0 := by
  obtain ⟨g1, g2⟩ := sets_get (a := a) sl a0 hsz.symm
  apply Array.ext_getElem?
  intro i
  by_cases hi : i < a.size
  · rw [g2 i hi]
    by_cases hm : i ∈ sl
    · rw [if_pos hm]
    · rw [if_neg hm]
      have := h i hm
      rw [Array.getD_eq_getD_getElem?, Array.getD_eq_getD_getElem?, Array.getElem?_eq_getElem hi, Array.getElem?_eq_getElem (by omega)] at this
      rw [Array.getElem?_eq_getElem hi, Array.getElem?_eq_getElem (by omega)]
      simpa using this
  · rw [Array.getElem?_eq_none (by omega), Array.getElem?_eq_none (by omega)]

theorem par2_wp {P : Program} {ops : Array Oper} {Q : Exit → Act → World → Prop} {a0 : Act} {W : World} {F : Nat → FuncId} {S L C D : Nat → Nat} {tv T : TypeId} {Z : Array Value} {B : Nat → Nat} {scs : Nat → Array Value} {R : Nat → Array Value → Prop} {id : Nat} {w0 : World} (hm : P.follows .mixedOrders = true) (hp : ParBox P ops a0 W 2 F S L C D tv T Z B scs R) (hW : Moves [] W w0)
    (hQ : ∀ (l0 c0 l1 c1 : Value) (p0 p1 : Nat) (cs0 cs1 : Array Value) (w : World), Moves [] W w → R 0 cs0 → W.heap.size ≤ p0 → w.heap[p0]? = some (.cells cs0 T (0, 0)) → R 1 cs1 → W.heap.size ≤ p1 → w.heap[p1]? = some (.cells cs1 T (0, 0)) → Q .normal { tmps := ((((((a0.tmps.setIfInBounds (L 0) l0).setIfInBounds (C 0) c0).setIfInBounds (D 0) (.pointer (some ⟨p0, 0, none⟩))).setIfInBounds (L 1) l1).setIfInBounds (C 1) c1).setIfInBounds (D 1) (.pointer (some ⟨p1, 0, none⟩))), defers := a0.defers } w) :
    (Code.region id ops true).wp P Q a0 w0 := by
  refine par_wp hm hp.par hW ?_
  intro a w hsz hdf hold mv hx _
  obtain ⟨p0, cs0, d0, q0, ⟨_, r0, _⟩, b0⟩ := hx 0 (by omega)
  obtain ⟨p1, cs1, d1, q1, ⟨_, r1, _⟩, b1⟩ := hx 1 (by omega)
  have e := tmps_sets hsz [L 0, C 0, D 0, L 1, C 1, D 1] (fun s hs => hold s (fun k hk => by
    match k, hk with
    | 0, _ => exact ⟨fun e => hs (by simp [e]), fun e => hs (by simp [e]), fun e => hs (by simp [e])⟩ | 1, _ => exact ⟨fun e => hs (by simp [e]), fun e => hs (by simp [e]), fun e => hs (by simp [e])⟩))
  simp only [List.foldl_cons, List.foldl_nil, d0, d1] at e
  have key := hQ (a.tmps.getD (L 0) undef) (a.tmps.getD (C 0) undef) (a.tmps.getD (L 1) undef) (a.tmps.getD (C 1) undef) p0 p1 cs0 cs1 w mv r0 q0 b0 r1 q1 b1
  rw [← e, ← hdf] at key
  exact key

end Go.Proofs.Ytfegflimnngfaab
/-
  Arguments opened: a value, and a value as it is drawn, as the rows' reading finds them in memory.
-/
namespace Go.Proofs.Ytfegflimnngfaab
open Go.RowKit
open Go.ChangeShapes Go.WideShapes

theorem bool_of_trod {H : Type} {enc : TypeId × Value → H} {W : World} {base : Nat} {spare : Nat → Bool} {held : Bool} {fuel : Nat} {v : Value} {x : DataW H × List MemPlace}
    (h : DataW.trod enc Try.prog W base spare held fuel 4 [v] = some x) : ∃ b : Bool, v = .bool b := by
  cases fuel with
  | zero => simp [DataW.trod] at h
  | succ n =>
    simp only [DataW.trod, Try.underlying4] at h
    cases v <;> simp at h
    rename_i b
    exact ⟨b, rfl⟩

set_option maxRecDepth 100000 in
theorem karg_of_trod {H : Type} {enc : TypeId × Value → H} {W : World} {base b0 : Nat} {r : Reach} {spare : Nat → Bool} {held : Bool} {v : Value} {d : DataW H} {p : List MemPlace}
    (hv : Value.okWide Try.prog W r b0 45 v) (h : DataW.Trod enc Try.prog W base spare held 45 v d p) : KArg W v := by
  obtain ⟨cs, rfl, hcs⟩ := okWide_struct Try.underlying45 hv
  have c34 : Try.prog.cellsOf 45 = 4 := by kernel_rfl
  rw [c34] at hcs
  obtain ⟨fuel, h⟩ := h
  have hlen : cs.toList.length = 4 := by simpa using hcs
  have h' : DataW.trod enc Try.prog W base spare held fuel 45 cs.toList = some (d, p) := by simpa [Value.cells] using h
  obtain ⟨xs, k, hk, hxy, _, hxl, hf⟩ := DataW.trod_struct Try.underlying45 h'
  have c3 : Try.prog.cellsOf 3 = 1 := by kernel_rfl
  have c4 : Try.prog.cellsOf 4 = 1 := by kernel_rfl
  have cf : Try.prog.cellsOf 33 = 1 := by kernel_rfl
  have cb : Try.prog.cellsOf 32 = 1 := by kernel_rfl
  obtain ⟨l, rfl⟩ : ∃ l : List Value, cs = l.toArray := ⟨cs.toList, by simp⟩
  simp only at hlen hf
  match xs, hxl, l, hlen with
  | [y0, y1, y2, y3], _, [v0, v1, v2, v3], _ =>
    have g0 := hf 0 _ rfl
    have g1 := hf 1 _ rfl
    have g2 := hf 2 _ rfl
    have g3 := hf 3 _ rfl
    simp [c3, c4, cf, cb] at g0 g1 g2 g3
    obtain ⟨t, rfl⟩ := bool_of_trod g0
    obtain ⟨n, hn, _, _⟩ := DataW.trod_int Try.underlying3 g1
    obtain ⟨x, hx, rfl⟩ := float_of_trod g2
    obtain ⟨g, bs, hB, hO⟩ := isB_of_trod g3
    simp at hn
    subst hn
    obtain ⟨ad, len, cap, rfl, _⟩ := id hB
    exact ⟨t, n, x, ad, len, cap, g, bs, rfl, hx, hB, hO⟩

end Go.Proofs.Ytfegflimnngfaab
/-
  What several statements share: drawn values in boxes of their own.
-/
namespace Go.Proofs.Ytfegflimnngfaab
open Go.RowKit

theorem KArg.moves {W W' : World} {v : Value} (h : KArg W v) (m : Moves [] W W') : KArg W' v := by
  obtain ⟨t, n, x, ad, len, cap, g, bs, h1, h2, h3, h4⟩ := h.out
  exact ⟨t, n, x, ad, len, cap, g, bs, h1, h2, h3.moves m (by simp), h4⟩

/-- The cells of a value that was drawn. -/
def Drew (W : World) (cs : Array Value) : Prop := ∃ (A : Vm) (ad : Option Addr) (len cap : Nat), cs = #[.int .i64 A.kind, .slice ad len cap, .float .f64 A.n] ∧ VIs W (.agg cs) A ∧ VWays A

theorem drew_b (W w : World) (cs : Array Value) (hv : KArg W (.agg cs)) :
    Calls Try.prog 17 #[.agg cs] w fun e w' => ∃ cs, e = .returned (.agg cs) ∧ Drew W cs ∧ cs.size = 3 ∧ cs.all (·.oneCell') = true ∧ Moves [] w w' := by
  refine (keep_b' W w _ hv).mono ?_
  rintro e w' ⟨A, ad, len, cap, rfl, h1, h2, h3⟩
  exact ⟨_, rfl, ⟨A, ad, len, cap, rfl, h1, h2⟩, rfl, by simp [Value.oneCell'], h3⟩

end Go.Proofs.Ytfegflimnngfaab
