/-
  Any, Any2, Val7, Par3, Val8: our texts of these names, laid into one.
-/
import Derived.Test.YtcamhlnkcoicpaaGreatCB10
import Derived.Orders
import Derived.Laws.Tables
import Derived.Deep.Slices
import Derived.Deep.Fields
import Derived.Test.YtcamhlnkcoicpaaGreatCLi0
/-
  A region that draws its order, by one condition that every operation keeps, whichever comes up: plain laws over the guide's own, no program in sight.
-/
namespace Go.Proofs.YtcamhlnkcoicpaaGreat
open Go.RowKit

/-- How many have not come up. -/
def unl (l : Array Bool) : Nat := l.toList.count false

theorem ready_un {ops : Array Oper} {l : Array Bool} {i : Nat} (h : i ∈ Region.ready .any ops l) : l[i]? = some false := by
  have h1 := (mem_ready.1 h).1
  rw [Array.getD_eq_getD_getElem?] at h1
  cases hq : l[i]? with
  | none => rw [hq] at h1; simp at h1
  | some b => rw [hq] at h1; simp at h1; rw [h1]

theorem unl_set {l : Array Bool} {i : Nat} (h : l[i]? = some false) : unl (l.setIfInBounds i true) + 1 = unl l := by
  unfold unl
  have hlt : i < l.toList.length := by
    have := (Array.getElem?_eq_some_iff.1 h).1
    simpa using this
  have hg : l.toList[i] = false := by
    have := (Array.getElem?_eq_some_iff.1 h).2
    simpa using this
  rw [Array.toList_setIfInBounds, List.count_set hlt]
  have hpos : 0 < l.toList.count false := List.count_pos_iff.2 (by rw [← hg]; exact List.getElem_mem hlt)
  rw [hg, if_pos (by decide), if_neg (by decide)]
  omega

theorem unl_zero {l : Array Bool} {i : Nat} (h : unl l = 0) : l[i]? ≠ some false := by
  intro hq
  have := unl_set hq
  omega

theorem wpAny_inv {P : Program} {ops : Array Oper} {Q : Exit → Act → World → Prop} (I : Array Bool → Act → World → Prop)
    (hstep : ∀ l a w, I l a w → ∀ i ∈ Region.ready .any ops l, wpOp P ops Q i (fun a' w' => I (l.setIfInBounds i true) a' w') a w)
    (hdone : ∀ l a w, I l a w → Region.ready .any ops l = [] → Q .normal a w) :
    ∀ (fuel : Nat) (l : Array Bool) (a : Act) (w : World), unl l ≤ fuel → I l a w → wpAny P .any ops Q fuel l a w := by
  intro fuel
  induction fuel with
  | zero =>
    intro l a w hf hI
    have hr : Region.ready .any ops l = [] := by
      cases hq : Region.ready .any ops l with
      | nil => rfl
      | cons i t =>
        have : i ∈ Region.ready .any ops l := by rw [hq]; simp
        exact absurd (ready_un this) (unl_zero (by omega))
    exact ⟨hr, hdone l a w hI hr⟩
  | succ fuel ih =>
    intro l a w hf hI
    refine ⟨hdone l a w hI, fun i hi => wpOp_mono (fun a' w' h' => ?_) (hstep l a w hI i hi)⟩
    have := unl_set (ready_un hi)
    exact ih _ a' w' (by omega) h'

theorem wp_region_inv {P : Program} {ops : Array Oper} {Q : Exit → Act → World → Prop} {id : Nat} {a : Act} {w : World} (hm : P.follows .mixedOrders = true) (I : Array Bool → Act → World → Prop)
    (h0 : I (Array.replicate ops.size false) a w.drew)
    (hstep : ∀ l a w, I l a w → ∀ i ∈ Region.ready .any ops l, wpOp P ops Q i (fun a' w' => I (l.setIfInBounds i true) a' w') a w)
    (hdone : ∀ l a w, I l a w → Region.ready .any ops l = [] → Q .normal a w) : (Code.region id ops true).wp P Q a w := by
  refine wp_region_any hm (wpAny_inv I hstep hdone _ _ _ _ ?_ h0)
  unfold unl
  simp

/-- That one has come up. -/
def up (l : Array Bool) (i : Nat) : Prop := l[i]? = some true
theorem up_set {l : Array Bool} {i j : Nat} (h : up (l.setIfInBounds i true) j) : (j = i) ∨ up l j := by
  unfold up at *
  by_cases e : i = j
  · exact .inl e.symm
  · rw [Array.getElem?_setIfInBounds_ne e] at h
    exact .inr h

/-- All have come up where nothing may. -/
def follows_ok (ops : Array Oper) : Bool := (List.range ops.size).all fun i => ((ops[i]?).map fun o => o.after.all fun e => !Region.binds .any e || decide (e.on < i)).getD false

theorem all_up {ops : Array Oper} {l : Array Bool} (hok : follows_ok ops = true) (hl : l.size = ops.size) (hr : Region.ready .any ops l = []) : ∀ i, i < ops.size → up l i := by
  intro i
  induction i using Nat.strongRecOn with
  | _ i ih =>
    intro hi
    unfold up
    have hlt : i < l.size := by omega
    rw [Array.getElem?_eq_getElem hlt]
    cases hq : l[i] with
    | true => rfl
    | false =>
      exfalso
      have h1 := List.all_eq_true.1 hok i (List.mem_range.2 hi)
      obtain ⟨o, ho⟩ : ∃ o, ops[i]? = some o := ⟨ops[i], Array.getElem?_eq_getElem hi⟩
      rw [ho] at h1
      simp only [Option.map_some, Option.getD_some] at h1
      have : i ∈ Region.ready .any ops l := by
        refine mem_ready.2 ⟨by rw [Array.getD_eq_getD_getElem?, Array.getElem?_eq_getElem hlt, hq]; rfl, o, ho, fun e he hbd => ?_⟩
        have h2 := Array.all_eq_true_iff_forall_mem.1 h1 e he
        rw [hbd, Bool.not_true, Bool.false_or] at h2
        have h3 := of_decide_eq_true h2
        have h4 := ih e.on h3 (by omega)
        unfold up at h4
        rw [Array.getD_eq_getD_getElem?, h4]
        rfl
      rw [hr] at this
      simp at this

theorem getD_put {a : Act} {d s : Nat} {v : Value} (h : s ≠ d) : (a.put (some d) v).tmps.getD s undef = a.tmps.getD s undef := by
  simp only [Act.put, Array.getD_eq_getD_getElem?]
  rw [Array.getElem?_setIfInBounds_ne (Ne.symm h)]
theorem getD_put_self {a : Act} {d : Nat} {v : Value} (h : d < a.tmps.size) : (a.put (some d) v).tmps.getD d undef = v := by
  simp [Act.put, Array.getD_eq_getD_getElem?, h]
theorem size_put (a : Act) (d : Option Tmp) (v : Value) : (a.put d v).tmps.size = a.tmps.size := by
  cases d <;> simp [Act.put]
theorem defers_put (a : Act) (d : Option Tmp) (v : Value) : (a.put d v).defers = a.defers := by
  cases d <;> simp [Act.put]

theorem up_of {l : Array Bool} {i k : Nat} (h : up (l.setIfInBounds i true) k) (hne : k ≠ i) : up l k := (up_set h).resolve_left hne
theorem up_mono {l : Array Bool} {i k : Nat} (h : up l k) : up (l.setIfInBounds i true) k := by
  unfold up at *
  have hk : k < l.size := (Array.getElem?_eq_some_iff.1 h).1
  by_cases e : i = k
  · subst e
    rw [Array.getElem?_setIfInBounds_self_of_lt hk]
  · rw [Array.getElem?_setIfInBounds_ne e]
    exact h
section
variable {P : Program} {ops : Array Oper} {Q : Exit → Act → World → Prop} {a0 : Act} {W : World} {n : Nat} {L C D : Nat → Nat} {T : TypeId} {Z : Array Value} {src : Nat → Value} {Res : Nat → Value → Array Value → Prop}

end
end Go.Proofs.YtcamhlnkcoicpaaGreat
/-
  The operations of 'x1, .., xn := f1(y1), .., fn(yn)' over boxed values, each by what it does to a state and a world.
-/
namespace Go.Proofs.YtcamhlnkcoicpaaGreat
open Go.RowKit

theorem wpOp_of_wp {P : Program} {ops : Array Oper} {Q : Exit → Act → World → Prop} {i : Nat} {o : Oper} {a : Act} {w : World} {K : Act → World → Prop} (hi : ops[i]? = some o) (hg : o.guard = none) (h : o.wp P a w K Q) : wpOp P ops Q i K a w := by
  unfold wpOp
  simp only [hi]
  rw [if_pos (by simp [Region.wanted, hg])]
  exact .inl h

/-- That one waits for that other. -/
def waits (ops : Array Oper) (i k : Nat) : Bool := ((ops[i]?).map fun o => o.after.toList.any fun e => Region.binds .any e && e.on == k).getD false
theorem waits_up {ops : Array Oper} {i k : Nat} (h : waits ops i k = true) {l : Array Bool} (hi : i ∈ Region.ready .any ops l) : up l k := by
  obtain ⟨_, o, ho, hall⟩ := mem_ready.1 hi
  unfold waits at h
  rw [ho] at h
  simp only [Option.map_some, Option.getD_some, List.any_eq_true, Bool.and_eq_true, beq_iff_eq] at h
  obtain ⟨e, he, hb, rfl⟩ := h
  have := hall e (by simpa using he) hb
  unfold up
  rw [Array.getD_eq_getD_getElem?] at this
  cases hq : l[e.on]? with
  | none => rw [hq] at this; simp at this
  | some b => rw [hq] at this; simp at this; rw [this]

theorem sets_get {a : Array Value} : ∀ (sl : List Nat) (t : Array Value), t.size = a.size → (sl.foldl (fun t s => t.setIfInBounds s (a.getD s undef)) t).size = a.size ∧ ∀ i, i < a.size → (sl.foldl (fun t s => t.setIfInBounds s (a.getD s undef)) t)[i]? = if i ∈ sl then a[i]? else t[i]?
  | [], t, h => ⟨h, fun i _ => by simp⟩
  | s :: sl, t, h => by
    have ih := sets_get sl (t.setIfInBounds s (a.getD s undef)) (by simpa using h)
    refine ⟨by simpa using ih.1, fun i hi => ?_⟩
    rw [List.foldl_cons, ih.2 i hi]
    by_cases h1 : i ∈ sl
    · simp [h1]
    · by_cases h2 : s = i
      · subst h2
        have hlt : s < t.size := by omega
        rw [if_neg h1, Array.getElem?_setIfInBounds_self_of_lt hlt]
        simp [hi]
      · rw [if_neg h1, Array.getElem?_setIfInBounds_ne h2]
        simp [h1, Ne.symm h2]
theorem tmps_sets {a a0 : Array Value} (hsz : a.size = a0.size) (sl : List Nat) (h : ∀ s, s ∉ sl → a.getD s undef = a0.getD s undef) : a = sl.foldl (fun t s => t.setIfInBounds s (a.getD s undef)) a0 := by
  obtain ⟨g1, g2⟩ := sets_get (a := a) sl a0 hsz.symm
  apply Array.ext_getElem?
  intro i
  by_cases hi : i < a.size
  · rw [g2 i hi]
    by_cases hm : i ∈ sl
    · rw [if_pos hm]
    · rw [if_neg hm]
      have := h i hm
      rw [Array.getD_eq_getD_getElem?, Array.getD_eq_getD_getElem?, Array.getElem?_eq_getElem hi, Array.getElem?_eq_getElem (by omega)] at this
      rw [Array.getElem?_eq_getElem hi, Array.getElem?_eq_getElem (by omega)]
      simpa using this
  · rw [Array.getElem?_eq_none (by omega), Array.getElem?_eq_none (by omega)]

end Go.Proofs.YtcamhlnkcoicpaaGreat
/-
  Arguments opened: a value, and a value as it is drawn, as the rows' reading finds them in memory.
-/
namespace Go.Proofs.YtcamhlnkcoicpaaGreat
open Go.RowKit
open Go.ChangeShapes Go.WideShapes

theorem bool_of_trod {H : Type} {enc : TypeId × Value → H} {W : World} {base : Nat} {spare : Nat → Bool} {held : Bool} {fuel : Nat} {v : Value} {x : DataW H × List MemPlace}
    (h : DataW.trod enc Tryz.prog W base spare held fuel 4 [v] = some x) : ∃ b : Bool, v = .bool b := by
  cases fuel with
  | zero => simp [DataW.trod] at h
  | succ n =>
    simp only [DataW.trod, Tryz.underlying4] at h
    cases v <;> simp at h
    rename_i b
    exact ⟨b, rfl⟩

end Go.Proofs.YtcamhlnkcoicpaaGreat
/-
  What several statements share: drawn values in boxes of their own.
-/
namespace Go.Proofs.YtcamhlnkcoicpaaGreat
open Go.RowKit

end Go.Proofs.YtcamhlnkcoicpaaGreat
/-
  What package value's Put does: it writes a value's bytes as the chapter gives them, behind what was written, and nothing else.
-/
namespace Go.Proofs.YtcamhlnkcoicpaaGreat
open Go.RowKit

/-- The bytes of a value. -/
def venc (A : Vm) : List Nat := if kd A.kind = 1 then [1] ++ be 4 A.bs.length ++ A.bs else if kd A.kind = 2 then [2] ++ be 8 (Pl.canon A.n) else [0]
theorem venc_text {A : Vm} (h : kd A.kind = 1) : venc A = [1] ++ be 4 A.bs.length ++ A.bs := by simp [venc, h]
theorem venc_num {A : Vm} (h : kd A.kind = 2) : venc A = [2] ++ be 8 (Pl.canon A.n) := by simp [venc, h]
theorem venc_other {A : Vm} (h : kd A.kind = 0) : venc A = [0] := by simp [venc, h]
theorem venc_oct {A : Vm} (h : ∀ z ∈ A.bs, z < 256) : ∀ z ∈ venc A, z < 256 := by
  intro z hz
  rcases kd_cases A.kind with ⟨_, e⟩ | ⟨_, e⟩ | ⟨_, _, e⟩
  · rw [venc_text e] at hz
    rcases List.mem_append.1 hz with h1 | h1
    · rcases List.mem_append.1 h1 with h2 | h2
      · simp at h2; omega
      · exact mem_be h2
    · exact h z h1
  · rw [venc_num e] at hz
    rcases List.mem_append.1 hz with h1 | h1
    · simp at h1; omega
    · exact mem_be h1
  · rw [venc_other e] at hz
    simp at hz; omega
theorem Wrote.after {w w1 w2 : World} {p : Nat} {a a2 : Option Nat} {bs : List Nat} (m : Moves [] w w1) (h : Wrote w1 p a w2 a2 bs) : Wrote w p a w2 a2 bs := by
  obtain ⟨h1, h2, h3⟩ := h
  refine ⟨h1, (m.mono (by simp)).then h2, ?_⟩
  rcases h3 with h3 | ⟨k, h4, h5⟩
  · exact .inl h3
  · exact .inr ⟨k, h4, Nat.le_trans m.size h5⟩

/-- A block that is not there yet is none of the Writer's. -/
theorem Wr.new {w : World} {p : Nat} {a : Option Nat} {bs : List Nat} (h : Wr w p a bs) : w.heap.size ∉ p :: a.toList := by
  intro hx
  rcases List.mem_cons.1 hx with hx | hx
  · have := h.ltp; omega
  · have := h.lt (k := w.heap.size) (by cases a <;> simp_all)
    omega

theorem pick3 {w w2 w3 : World} {p g : Nat} {a a3 : Option Nat} {v : Value} {cs es : List Nat} (hB : IsB w g v cs) (hg : g ∉ p :: a.toList) (M : Moves [] w w2) (hw : Wrote w2 p a w3 a3 es) (hB3 : IsB w3 g v cs) : ∃ g', g' ∉ p :: a3.toList ∧ IsB w3 g' v cs := by
  refine hB3.pick _ (fun hne hx => ?_)
  have hlt := hB.lt hne
  rcases List.mem_cons.1 hx with hx | hx
  · exact hg (by simp [hx])
  · rcases hw.2.2 with e | ⟨k, e, hk⟩
    · rw [e] at hx; exact hg (by simp [hx])
    · rw [e] at hx
      simp at hx
      have := M.size
      omega

set_option maxHeartbeats 2000000 in
theorem vPut_w (p : Nat) (a : Option Nat) (bs : List Nat) (A : Vm) (w : World) (h : Wr w p a bs) (hb : bs.length + 2000010 ≤ 1099511627776) (ha : A.In w) (hl : A.bs.length ≤ 1048576) (hg : A.bs ≠ [] → A.g ∉ p :: a.toList) :
    Calls Tryz.prog 161 #[.pointer (some ⟨p, 0, none⟩), A.val] w fun e w' => e = .returned (.tuple #[]) ∧ ∃ a', Wrote w p a w' a' (bs ++ venc A) := by
  have hnew := h.new
  obtain ⟨g', hg', hB⟩ := ha.isB.pick (p :: a.toList) hg
  have hf := ha.fits
  obtain ⟨k, bv, g, cs, n⟩ := A
  simp only at hB hf hl
  have hB0 := hB
  obtain ⟨ad, len, cap, rfl, hlen, _⟩ := hB
  simp only [Vm.val]
  have hb1 : bs.length + 1 ≤ 1099511627776 := by omega
  have hA : ∀ w1, Moves [] (w.alloc (.cells #[.int .i64 k, .slice ad len cap, .float .f64 n] 25)) w1 → w1.heap[w.heap.size]? = some (.cells #[.int .i64 k, .slice ad len cap, .float .f64 n] 25 (0, 0)) ∧ Moves [] w w1 := fun w1 m => ⟨m.at (heap_alloc_new _ _) (by simp), ((Moves.refl [] w).alloc _).then m⟩
  obtain ⟨E, hE⟩ : ∃ E, bs ++ venc ⟨k, .slice ad len cap, g, cs, n⟩ = E := ⟨_, rfl⟩
  rw [hE]
  clear ha hg
  rcases kd_cases k with ⟨z, e⟩ | ⟨z, e⟩ | ⟨z1, z2, e⟩
  · rw [venc_text (by exact e)] at hE
    have HE : Hid (bs ++ ([1] ++ be 4 cs.length ++ cs) = E) := hE
    have hbT : (bs ++ [1]).length + 2000000 ≤ 1099511627776 := by rw [List.length_append, List.length_singleton]; omega
    subst z
    have HK : Hid (kd 1 = 1) := e
    clear e hE
    go_enter Tryz.func161, Tryz.ntmps161
    go_wp2_with (first | (go_at_call 171; refine (kind_w _ _ _ _ _ _).mono ?_; rintro _ w2 ⟨rfl, m2⟩; rw [HK.out]; obtain ⟨q2, M2⟩ := hA w2 m2) | (go_at_call 60; refine (wbyte_w _ a bs 1 _ rfl _ (h.moves M2 (by simp) (by simp)) hb1).mono ?_; rintro _ w3 ⟨rfl, a3, hw3⟩; have q3 := hw3.2.1.at q2 hnew; obtain ⟨c0, c1, c2, _, _, _⟩ := three_cells q3; have hB3 := (hB0.moves M2 (by simp)).moves hw3.2.1 hg') | (go_at_call 62; obtain ⟨g3, hg3, hB4⟩ := pick3 hB0 hg' M2 hw3 hB3; refine (wtext_any _ a3 (bs ++ [1]) cs g3 _ _ hw3.1 hbT hB4 hl hg3).mono ?_; rintro _ w4 ⟨rfl, a4, hw4⟩))
    go_end0
    refine ⟨rfl, a4, ?_⟩
    have := (hw3.step hw4).after M2
    rw [List.append_assoc, List.append_assoc, ← List.append_assoc [1], HE.out] at this
    exact this
  · rw [venc_num (by exact e)] at hE
    have HE : Hid (bs ++ ([2] ++ be 8 (Pl.canon n)) = E) := hE
    have hbT : (bs ++ [2]).length + 8 ≤ 1099511627776 := by rw [List.length_append, List.length_singleton]; omega
    subst z
    have HK : Hid (kd 2 = 2) := e
    clear e hE
    go_enter Tryz.func161, Tryz.ntmps161
    go_wp2_with (first | (go_at_call 171; refine (kind_w _ _ _ _ _ _).mono ?_; rintro _ w2 ⟨rfl, m2⟩; rw [HK.out]; obtain ⟨q2, M2⟩ := hA w2 m2) | (go_at_call 60; refine (wbyte_w _ a bs 2 _ rfl _ (h.moves M2 (by simp) (by simp)) hb1).mono ?_; rintro _ w3 ⟨rfl, a3, hw3⟩; have q3 := hw3.2.1.at q2 hnew; obtain ⟨c0, c1, c2, _, _, _⟩ := three_cells q3; have hB3 := (hB0.moves M2 (by simp)).moves hw3.2.1 hg') | (go_at_call 172; refine (wfloat_w _ a3 (bs ++ [2]) n _ hw3.1 hbT).mono ?_; rintro _ w4 ⟨rfl, a4, hw4⟩))
    go_end0
    refine ⟨rfl, a4, ?_⟩
    have := (hw3.step hw4).after M2
    rw [List.append_assoc, HE.out] at this
    exact this
  · rw [venc_other (by exact e)] at hE
    have HE : Hid (bs ++ [0] = E) := hE
    have t1 : (k == 1) = false := by simpa using z1
    have t2 : (k == 2) = false := by simpa using z2
    have HK : Hid (kd k = 0) := e
    clear e hE z1 z2
    go_enter Tryz.func161, Tryz.ntmps161
    go_wp2_with (first | (go_at_call 171; refine (kind_w _ _ _ _ _ _).mono ?_; rintro _ w2 ⟨rfl, m2⟩; rw [HK.out]; obtain ⟨q2, M2⟩ := hA w2 m2) | (go_at_call 60; refine (wbyte_w _ a bs 0 _ rfl _ (h.moves M2 (by simp) (by simp)) hb1).mono ?_; rintro _ w3 ⟨rfl, a3, hw3⟩; have q3 := hw3.2.1.at q2 hnew; obtain ⟨c0, c1, c2, _, _, _⟩ := three_cells q3; have hB3 := (hB0.moves M2 (by simp)).moves hw3.2.1 hg'))
    go_end0
    refine ⟨rfl, a3, ?_⟩
    have := hw3.after M2
    rw [HE.out] at this
    exact this
end Go.Proofs.YtcamhlnkcoicpaaGreat
