/-
  Peel, Ref4: our texts of these names, laid into one.
-/
import Derived.Test.YtfhdodopjgfedaaGreatCB13
import Derived.OrdersHeld
import Derived.Test.YtfhdodopjgfedaaGreatCB19
/-
  A drawn region whose last operation waits for all the others: the others in any order, then it. Plain laws, no program in sight.
-/
namespace Go.Proofs.YtfhdodopjgfedaaGreat
open Go.RowKit

/-- No edge and no guard points beyond; the last one waits for each. -/
def peel_ok (pre : Array Oper) (o : Oper) : Bool :=
  follows_ok (pre.push o) && (List.range pre.size).all (fun i => ((pre[i]?).map fun x => match x.guard with | none => true | some (j, _) => decide (j < pre.size)).getD false) && (List.range pre.size).all (fun k => o.after.any fun e => Region.binds .any e && decide (e.on = k))

/-- What is asked of the others. -/
def PeelQ (P : Program) (ops : Array Oper) (n : Nat) (Q : Exit → Act → World → Prop) : Exit → Act → World → Prop
  | .normal, a, w => wpOp P ops Q n (fun a w => Q .normal a w) a w
  | e, a, w => Q e a w

theorem get_push_lt {α : Type} {l : Array α} {x : α} {i : Nat} (h : i < l.size) : (l.push x)[i]? = l[i]? := by
  rw [Array.getElem?_push]
  simp [Nat.ne_of_lt h]
theorem getD_push_lt {l : Array Bool} {b d : Bool} {i : Nat} (h : i < l.size) : (l.push b).getD i d = l.getD i d := by
  rw [Array.getD_eq_getD_getElem?, Array.getD_eq_getD_getElem?, get_push_lt h]

theorem set_push {l : Array Bool} {b x : Bool} {i : Nat} (h : i < l.size) : (l.push b).setIfInBounds i x = (l.setIfInBounds i x).push b := by
  obtain ⟨l⟩ := l
  simp only [List.push_toArray, List.setIfInBounds_toArray]
  rw [List.set_append_left _ _ (by simpa using h)]

theorem wpOp_peel {P : Program} {pre : Array Oper} {o : Oper} {Q : Exit → Act → World → Prop} {i n : Nat} {K K' : Act → World → Prop} {a : Act} {w : World} (hok : peel_ok pre o = true) (hi : i < pre.size) (hK : ∀ a w, K a w → K' a w)
    (h : wpOp P pre (PeelQ P (pre.push o) n Q) i K a w) : wpOp P (pre.push o) Q i K' a w := by
  obtain ⟨x, hx⟩ : ∃ x, pre[i]? = some x := ⟨_, Array.getElem?_eq_getElem hi⟩
  have hx' : (pre.push o)[i]? = some x := by rw [get_push_lt hi]; exact hx
  unfold peel_ok at hok
  simp only [Bool.and_eq_true, List.all_eq_true] at hok
  have hg := hok.1.2 i (List.mem_range.2 hi)
  rw [hx] at hg
  simp only [Option.map_some, Option.getD_some] at hg
  have hw : Region.wanted x (yielded (pre.push o) a.tmps) = Region.wanted x (yielded pre a.tmps) := by
    unfold Region.wanted
    cases hq : x.guard with
    | none => rfl
    | some jw =>
      obtain ⟨j, want⟩ := jw
      rw [hq] at hg
      have hj : j < pre.size := of_decide_eq_true hg
      simp only [yielded, get_push_lt hj]
  unfold wpOp at h ⊢
  simp only [hx] at h
  simp only [hx', hw]
  split
  · rename_i hwt
    rw [if_pos hwt] at h
    rcases h with h | ⟨h1, ⟨a', w', h2⟩⟩
    · left
      refine Oper.wp_mono hK ?_
      unfold Oper.wp at h ⊢
      generalize (execOp a.eval x).run P w = r at h ⊢
      cases r with
      | ok n w' => cases n <;> exact h
      | halt x w' => cases x <;> exact h
    · exact .inr ⟨h1, a', w', h2⟩
  · rename_i hwt
    rw [if_neg hwt] at h
    exact hK _ _ h

theorem ready_peel {pre : Array Oper} {o : Oper} {l : Array Bool} {i : Nat} (hl : l.size = pre.size) (hok : peel_ok pre o = true) (hi : i < pre.size) (h : i ∈ Region.ready .any (pre.push o) (l.push false)) : i ∈ Region.ready .any pre l := by
  obtain ⟨h1, x, h2, h3⟩ := mem_ready.1 h
  rw [get_push_lt hi] at h2
  rw [getD_push_lt (by omega)] at h1
  refine mem_ready.2 ⟨h1, x, h2, fun e he hb => ?_⟩
  have h4 := h3 e he hb
  unfold peel_ok at hok
  simp only [Bool.and_eq_true] at hok
  have hf := List.all_eq_true.1 hok.1.1 i (List.mem_range.2 (by simp; omega))
  rw [get_push_lt hi, h2] at hf
  simp only [Option.map_some, Option.getD_some] at hf
  have h5 := of_decide_eq_true (by have h2 := Array.all_eq_true_iff_forall_mem.1 hf e he; rwa [hb, Bool.not_true, Bool.false_or] at h2)
  rw [getD_push_lt (by omega)] at h4
  exact h4
theorem ready_last {pre : Array Oper} {o : Oper} {l : Array Bool} (hl : l.size = pre.size) (hok : peel_ok pre o = true) (h : pre.size ∈ Region.ready .any (pre.push o) (l.push false)) : ∀ k, k < pre.size → l[k]? = some true := by
  intro k hk
  obtain ⟨_, x, h2, h3⟩ := mem_ready.1 h
  rw [Array.getElem?_push] at h2
  simp at h2
  subst h2
  unfold peel_ok at hok
  simp only [Bool.and_eq_true] at hok
  have h4 := List.all_eq_true.1 hok.2 k (List.mem_range.2 hk)
  obtain ⟨e, he, hb⟩ := Array.any_eq_true'.1 h4
  simp only [Bool.and_eq_true, decide_eq_true_eq] at hb
  have h5 := h3 e he hb.1
  rw [hb.2, getD_push_lt (by omega), Array.getD_eq_getD_getElem?] at h5
  have hlt : k < l.size := by omega
  rw [Array.getElem?_eq_getElem hlt] at h5 ⊢
  simpa using h5
theorem ready_none {ops : Array Oper} {l : Array Bool} (h : ∀ k, k < ops.size → l[k]? = some true) : Region.ready .any ops l = [] := by
  cases hq : Region.ready .any ops l with
  | nil => rfl
  | cons i t =>
    have hi : i ∈ Region.ready .any ops l := by rw [hq]; simp
    have h1 := ready_un hi
    obtain ⟨_, x, h2, _⟩ := mem_ready.1 hi
    have hlt := (Array.getElem?_eq_some_iff.1 h2).1
    rw [h i hlt] at h1
    simp at h1

theorem wpAny_peel {P : Program} {pre : Array Oper} {o : Oper} {Q : Exit → Act → World → Prop} {S : World → Prop} (hok : peel_ok pre o = true) :
    ∀ (fuel : Nat) (l : Array Bool) (a : Act) (w : World), l.size = pre.size → wpAnyH P .any pre (PeelQ P (pre.push o) pre.size Q) S fuel l a w → wpAny P .any (pre.push o) Q (fuel + 1) (l.push false) a w := by
  have hf : follows_ok (pre.push o) = true := by
    unfold peel_ok at hok
    simp only [Bool.and_eq_true] at hok
    exact hok.1.1
  have last : ∀ (fuel : Nat) (l : Array Bool) (a : Act) (w : World), l.size = pre.size → (∀ k, k < pre.size → l[k]? = some true) → wpOp P (pre.push o) Q pre.size (fun a w => Q .normal a w) a w → wpOp P (pre.push o) Q pre.size (wpAny P .any (pre.push o) Q fuel ((l.push false).setIfInBounds pre.size true)) a w := by
    intro fuel l a w hl hall h
    refine wpOp_mono (fun a' w' hQ => ?_) h
    have hn : Region.ready .any (pre.push o) ((l.push false).setIfInBounds pre.size true) = [] := by
      refine ready_none (fun k hk => ?_)
      by_cases e : pre.size = k
      · subst e
        rw [Array.getElem?_setIfInBounds_self_of_lt (by simp; omega)]
      · rw [Array.getElem?_setIfInBounds_ne e, get_push_lt (by simp at hk; omega)]
        exact hall k (by simp at hk; omega)
    cases fuel with
    | zero => exact ⟨hn, hQ⟩
    | succ f => exact ⟨fun _ => hQ, fun i hi => by rw [hn] at hi; simp at hi⟩
  have nonempty : ∀ l : Array Bool, l.size = pre.size → Region.ready .any (pre.push o) (l.push false) ≠ [] := by
    intro l hl h
    have := all_up hf (by simp [hl]) h pre.size (by simp)
    unfold up at this
    rw [Array.getElem?_push] at this
    simp [hl] at this
  intro fuel
  induction fuel with
  | zero =>
    intro l a w hl h
    refine ⟨fun h0 => absurd h0 (nonempty l hl), fun i hi => ?_⟩
    obtain ⟨h1, h2⟩ := h
    have hin : i < pre.size + 1 := by
      obtain ⟨_, x, hx, _⟩ := mem_ready.1 hi
      have := (Array.getElem?_eq_some_iff.1 hx).1
      simpa using this
    by_cases e : i = pre.size
    · subst e
      exact last 0 l a w hl (ready_last hl hok hi) h2
    · have := ready_peel hl hok (by omega) hi
      rw [h1] at this
      simp at this
  | succ f ih =>
    intro l a w hl h
    refine ⟨fun h0 => absurd h0 (nonempty l hl), fun i hi => ?_⟩
    obtain ⟨h1, h2⟩ := h
    have hin : i < pre.size + 1 := by
      obtain ⟨_, x, hx, _⟩ := mem_ready.1 hi
      have := (Array.getElem?_eq_some_iff.1 hx).1
      simpa using this
    by_cases e : i = pre.size
    · subst e
      exact last (f + 1) l a w hl (ready_last hl hok hi) (h1 (ready_none (ready_last hl hok hi)))
    · have hlt : i < pre.size := by omega
      have h3 := h2 i (ready_peel hl hok hlt hi)
      refine wpOp_peel hok hlt (fun a' w' hK => ?_) h3
      have := ih (l.setIfInBounds i true) a' w' (by simpa using hl) hK.2
      rw [set_push (by omega)]
      exact this

/-- A drawn region, its last operation told of by itself. -/
theorem region_peel {P : Program} {ops pre : Array Oper} {o : Oper} {Q : Exit → Act → World → Prop} {S : World → Prop} {id : Nat} {a : Act} {w : World} (hm : P.follows .mixedOrders = true) (he : ops = pre.push o) (hok : peel_ok pre o = true)
    (h0 : S w.drew) (h : S w.drew → wpAnyH P .any pre (PeelQ P ops pre.size Q) S pre.size (Array.replicate pre.size false) a w.drew) : (Code.region id ops true).wp P Q a w := by
  subst he
  refine wp_region_any hm ?_
  have := wpAny_peel hok pre.size (Array.replicate pre.size false) a w.drew (by simp) (h h0)
  have e : Array.replicate (pre.push o).size false = (Array.replicate pre.size false).push false := by
    rw [Array.size_push, Array.replicate_succ]
  rw [e, Array.size_push]
  exact this
end Go.Proofs.YtfhdodopjgfedaaGreat
/-
  The document's own Put of a row that may be: the call returns what its words come to, and writes nothing that was there.
-/
namespace Go.Proofs.YtfhdodopjgfedaaGreat
open Go.RowKit

end Go.Proofs.YtfhdodopjgfedaaGreat
