/-
  Any, Any2: our texts of these names, laid into one.
-/
import Derived.Test.YtbjbljkcodkebaaCBaseF
import Derived.Orders
import Derived.Laws.Tables
/-
  A region that draws its order, by one condition that every operation keeps, whichever comes up: plain laws over the guide's own, no program in sight.
-/
namespace Go.Proofs.Ytbjbljkcodkebaa
open Go.RowKit

/-- How many have not come up. -/
def unl (l : Array Bool) : Nat := l.toList.count false

theorem ready_un {ops : Array Oper} {l : Array Bool} {i : Nat} (h : i ∈ Region.ready .any ops l) : l[i]? = some false := by
  have h1 := (mem_ready.1 h).1
  rw [Array.getD_eq_getD_getElem?] at h1
  cases hq : l[i]? with
  | none => rw [hq] at h1; simp at h1
  | some b => rw [hq] at h1; simp at h1; rw [h1]

theorem unl_set {l : Array Bool} {i : Nat} (h : l[i]? = some false) : unl (l.setIfInBounds i true) + 1 = unl l := by
  unfold unl
  have hlt : i < l.toList.length := by
    have := (Array.getElem?_eq_some_iff.1 h).1
    simpa using this
  have hg : l.toList[i] = false := by
    have := (Array.getElem?_eq_some_iff.1 h).2
    simpa using this
  rw [Array.toList_setIfInBounds, List.count_set hlt]
  have hpos : 0 < l.toList.count false := List.count_pos_iff.2 (by rw [← hg]; exact List.getElem_mem hlt)
  rw [hg, if_pos (by decide), if_neg (by decide)]
  omega

theorem unl_zero {l : Array Bool} {i : Nat} (h : unl l = 0) : l[i]? ≠ some false := by
  intro hq
  have := unl_set hq
  omega

theorem wpAny_inv {P : Program} {ops : Array Oper} {Q : Exit → Act → World → Prop} (I : Array Bool → Act → World → Prop)
    (hstep : ∀ l a w, I l a w → ∀ i ∈ Region.ready .any ops l, wpOp P ops Q i (fun a' w' => I (l.setIfInBounds i true) a' w') a w)
    (hdone : ∀ l a w, I l a w → Region.ready .any ops l = [] → Q .normal a w) :
    ∀ (fuel : Nat) (l : Array Bool) (a : Act) (w : World), unl l ≤ fuel → I l a w → wpAny P .any ops Q fuel l a w := by
  intro fuel
  induction fuel with
  | zero =>
    intro l a w hf hI
    have hr : Region.ready .any ops l = [] := by
      cases hq : Region.ready .any ops l with
      | nil => rfl
      | cons i t =>
        have : i ∈ Region.ready .any ops l := by rw [hq]; simp
        exact absurd (ready_un this) (unl_zero (by omega))
    exact ⟨hr, hdone l a w hI hr⟩
  | succ fuel ih =>
    intro l a w hf hI
    refine ⟨hdone l a w hI, fun i hi => wpOp_mono (fun a' w' h' => ?_) (hstep l a w hI i hi)⟩
    have := unl_set (ready_un hi)
    exact ih _ a' w' (by omega) h'

theorem wp_region_inv {P : Program} {ops : Array Oper} {Q : Exit → Act → World → Prop} {id : Nat} {a : Act} {w : World} (hm : P.follows .mixedOrders = true) (I : Array Bool → Act → World → Prop)
    (h0 : I (Array.replicate ops.size false) a w.drew)
    (hstep : ∀ l a w, I l a w → ∀ i ∈ Region.ready .any ops l, wpOp P ops Q i (fun a' w' => I (l.setIfInBounds i true) a' w') a w)
    (hdone : ∀ l a w, I l a w → Region.ready .any ops l = [] → Q .normal a w) : (Code.region id ops true).wp P Q a w := by
  refine wp_region_any hm (wpAny_inv I hstep hdone _ _ _ _ ?_ h0)
  unfold unl
  simp

/-- That one has come up. -/
def up (l : Array Bool) (i : Nat) : Prop := l[i]? = some true
theorem up_set {l : Array Bool} {i j : Nat} (h : up (l.setIfInBounds i true) j) : (j = i) ∨ up l j := by
  unfold up at *
  by_cases e : i = j
  · exact .inl e.symm
  · rw [Array.getElem?_setIfInBounds_ne e] at h
    exact .inr h

/-- All have come up where nothing may. -/
def follows_ok (ops : Array Oper) : Bool := (List.range ops.size).all fun i => ((ops[i]?).map fun o => o.after.all fun e => !Region.binds .any e || decide (e.on < i)).getD false

theorem all_up {ops : Array Oper} {l : Array Bool} (hok : follows_ok ops = true) (hl : l.size = ops.size) (hr : Region.ready .any ops l = []) : ∀ i, i < ops.size → up l i := by
  intro i
  induction i using Nat.strongRecOn with
  | _ i ih =>
    intro hi
    unfold up
    have hlt : i < l.size := by omega
    rw [Array.getElem?_eq_getElem hlt]
    cases hq : l[i] with
    | true => rfl
    | false =>
      exfalso
      have h1 := List.all_eq_true.1 hok i (List.mem_range.2 hi)
      obtain ⟨o, ho⟩ : ∃ o, ops[i]? = some o := ⟨ops[i], Array.getElem?_eq_getElem hi⟩
      rw [ho] at h1
      simp only [Option.map_some, Option.getD_some] at h1
      have : i ∈ Region.ready .any ops l := by
        refine mem_ready.2 ⟨by rw [Array.getD_eq_getD_getElem?, Array.getElem?_eq_getElem hlt, hq]; rfl, o, ho, fun e he hbd => ?_⟩
        have h2 := Array.all_eq_true_iff_forall_mem.1 h1 e he
        rw [hbd, Bool.not_true, Bool.false_or] at h2
        have h3 := of_decide_eq_true h2
        have h4 := ih e.on h3 (by omega)
        unfold up at h4
        rw [Array.getD_eq_getD_getElem?, h4]
        rfl
      rw [hr] at this
      simp at this

theorem getD_put {a : Act} {d s : Nat} {v : Value} (h : s ≠ d) : (a.put (some d) v).tmps.getD s undef = a.tmps.getD s undef := by
  simp only [Act.put, Array.getD_eq_getD_getElem?]
  rw [Array.getElem?_setIfInBounds_ne (Ne.symm h)]
theorem getD_put_self {a : Act} {d : Nat} {v : Value} (h : d < a.tmps.size) : (a.put (some d) v).tmps.getD d undef = v := by
  simp [Act.put, Array.getD_eq_getD_getElem?, h]
theorem size_put (a : Act) (d : Option Tmp) (v : Value) : (a.put d v).tmps.size = a.tmps.size := by
  cases d <;> simp [Act.put]
theorem defers_put (a : Act) (d : Option Tmp) (v : Value) : (a.put d v).defers = a.defers := by
  cases d <;> simp [Act.put]

theorem up_of {l : Array Bool} {i k : Nat} (h : up (l.setIfInBounds i true) k) (hne : k ≠ i) : up l k := (up_set h).resolve_left hne
section
variable {P : Program} {ops : Array Oper} {Q : Exit → Act → World → Prop} {a0 : Act} {W : World} {n : Nat} {L C D : Nat → Nat} {T : TypeId} {Z : Array Value} {src : Nat → Value} {Res : Nat → Value → Array Value → Prop}

end
end Go.Proofs.Ytbjbljkcodkebaa
/-
  The operations of 'x1, .., xn := f1(y1), .., fn(yn)' over boxed values, each by what it does to a state and a world.
-/
namespace Go.Proofs.Ytbjbljkcodkebaa
open Go.RowKit

theorem wpOp_of_wp {P : Program} {ops : Array Oper} {Q : Exit → Act → World → Prop} {i : Nat} {o : Oper} {a : Act} {w : World} {K : Act → World → Prop} (hi : ops[i]? = some o) (hg : o.guard = none) (h : o.wp P a w K Q) : wpOp P ops Q i K a w := by
  unfold wpOp
  simp only [hi]
  rw [if_pos (by simp [Region.wanted, hg])]
  exact .inl h

/-- That one waits for that other. -/
def waits (ops : Array Oper) (i k : Nat) : Bool := ((ops[i]?).map fun o => o.after.toList.any fun e => Region.binds .any e && e.on == k).getD false
theorem waits_up {ops : Array Oper} {i k : Nat} (h : waits ops i k = true) {l : Array Bool} (hi : i ∈ Region.ready .any ops l) : up l k := by
  obtain ⟨_, o, ho, hall⟩ := mem_ready.1 hi
  unfold waits at h
  rw [ho] at h
  simp only [Option.map_some, Option.getD_some, List.any_eq_true, Bool.and_eq_true, beq_iff_eq] at h
  obtain ⟨e, he, hb, rfl⟩ := h
  have := hall e (by simpa using he) hb
  unfold up
  rw [Array.getD_eq_getD_getElem?] at this
  cases hq : l[e.on]? with
  | none => rw [hq] at this; simp at this
  | some b => rw [hq] at this; simp at this; rw [this]

theorem wp_alloc1 {P : Program} {o : Oper} {a : Act} {w : World} {K : Act → World → Prop} {Q : Exit → Act → World → Prop} (T : TypeId) (Z : Array Value) (ho : o.op = .alloc T)
    (hr : ∀ w : World, (Instr.alloc T true (.tuple #[])).run P w = .ok (.pointer (some ⟨w.heap.size, 0, none⟩)) (w.alloc (.cells Z T)))
    (h : K (a.put o.dst (.pointer (some ⟨w.heap.size, 0, none⟩))) (w.alloc (.cells Z T))) : o.wp P a w K Q := by
  unfold Oper.wp execOp
  simp only [ho]
  simp only [Sem.run_bind, hr, Result.andThen_ok, Sem.run_pure]
  exact h

theorem sets_get {a : Array Value} : ∀ (sl : List Nat) (t : Array Value), t.size = a.size → (sl.foldl (fun t s => t.setIfInBounds s (a.getD s undef)) t).size = a.size ∧ ∀ i, i < a.size → (sl.foldl (fun t s => t.setIfInBounds s (a.getD s undef)) t)[i]? = if i ∈ sl then a[i]? else t[i]?
  | [], t, h => ⟨h, fun i _ => by simp⟩
  | s :: sl, t, h => by
    have ih := sets_get sl (t.setIfInBounds s (a.getD s undef)) (by simpa using h)
    refine ⟨by simpa using ih.1, fun i hi => ?_⟩
    rw [List.foldl_cons, ih.2 i hi]
    by_cases h1 : i ∈ sl
    · simp [h1]
    · by_cases h2 : s = i
      · subst h2
        have hlt : s < t.size := by omega
        rw [if_neg h1, Array.getElem?_setIfInBounds_self_of_lt hlt]
        simp [hi]
      · rw [if_neg h1, Array.getElem?_setIfInBounds_ne h2]
        simp [h1, Ne.symm h2]
theorem tmps_sets {a a0 : Array Value} (hsz : a.size = a0.size) (sl : List Nat) (h : ∀ s, s ∉ sl → a.getD s undef = a0.getD s undef) : a = sl.foldl (fun t s => t.setIfInBounds s (a.getD s undef)) a0 := by
  obtain ⟨g1, g2⟩ := sets_get (a := a) sl a0 hsz.symm
  apply Array.ext_getElem?
  intro i
  by_cases hi : i < a.size
  · rw [g2 i hi]
    by_cases hm : i ∈ sl
    · rw [if_pos hm]
    · rw [if_neg hm]
      have := h i hm
      rw [Array.getD_eq_getD_getElem?, Array.getD_eq_getD_getElem?, Array.getElem?_eq_getElem hi, Array.getElem?_eq_getElem (by omega)] at this
      rw [Array.getElem?_eq_getElem hi, Array.getElem?_eq_getElem (by omega)]
      simpa using this
  · rw [Array.getElem?_eq_none (by omega), Array.getElem?_eq_none (by omega)]

end Go.Proofs.Ytbjbljkcodkebaa
