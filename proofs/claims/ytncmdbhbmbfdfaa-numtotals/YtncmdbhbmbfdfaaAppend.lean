/-
  What append does to a new row of two floats and a slice of floats of at most twelve: a row of the two and the others, in memory of the call's own; nothing that was there is written. Conditions: the words fit 64 bits.
-/
import Derived.Test.YtncmdbhbmbfdfaaSlices
import Derived.Laws.AppendOwnNone
namespace Go.Proofs.Ytncmdbhbmbfdfaa
open Go.RowKit

/-- An operation whose guard says yes is the same operation without it. -/
theorem wpList_wanted {P : Program} {w : World} {ops : Array Oper} {rest : List Oper} {o : Oper} {a : Act} {Q : Exit → Act → World → Prop}
    (hw : Region.wanted o (yielded ops a.tmps) = true) (h : wpList P ops Q ({ o with guard := none } :: rest) a w) : wpList P ops Q (o :: rest) a w := by
  unfold wpList at h ⊢
  rw [if_pos hw]
  rw [if_pos (by simp [Region.wanted])] at h
  exact h

theorem Try.info25 : (Try.prog.info? 25).map (fun i => (i.zero, i.size, i.bytes)) = some (some (.float .f64 0), 1, 8) := by kernel_rfl

def vals (zs : List Nat) (n : Nat) : List Value := (List.range n).map fun i => Value.float .f64 (nth zs i)

theorem vals_length (zs : List Nat) (n : Nat) : (vals zs n).length = n := by simp [vals]
theorem vals_get (zs : List Nat) (n j : Nat) (u : Value) (h : (vals zs n)[j]? = some u) : j < n ∧ u = .float .f64 (nth zs j) := by
  have hj : j < n := by
    have := (List.getElem?_eq_some_iff.1 h).1
    rw [vals_length] at this; exact this
  refine ⟨hj, ?_⟩
  simp [vals, hj] at h
  exact h.symm

theorem vals_cons (p q : Nat) (zs : List Nat) (n : Nat) : [Value.float .f64 p, Value.float .f64 q] ++ vals zs n = vals (p :: q :: zs) (2 + n) := by
  apply List.ext_getElem?
  intro i
  match i with
  | 0 => simp [vals, nth, show 2 + n = (n + 1) + 1 by omega, List.range_succ_eq_map]
  | 1 => simp [vals, nth, show 2 + n = (n + 1) + 1 by omega, List.range_succ_eq_map]
  | i + 2 =>
    have e1 : ([Value.float .f64 p, Value.float .f64 q] ++ vals zs n)[i + 2]? = (vals zs n)[i]? := by simp
    rw [e1]
    by_cases h : i < n
    · have h2 : i + 2 < 2 + n := by omega
      simp [vals, h, h2, nth]
    · have h2 : ¬ i + 2 < 2 + n := by omega
      simp [vals, h, h2]

/-- What a row of the call's own holds. -/
theorem owned_floats {w : World} {base n : Nat} {v : Value} {zs : List Nat} (h : w.ownsRow base 25 1 v n (vals zs n)) (hn : 1 ≤ n) :
    ∃ g cap, v = .slice (some ⟨g, 0, none⟩) n cap ∧ n ≤ cap ∧ Floats w g 0 n zs := by
  obtain ⟨_, ⟨_, h0⟩ | ⟨g, cap, cur, hv, _, hg, hc, _, _, ht⟩⟩ := h
  · omega
  · refine ⟨g, cap, hv, hc, fun i hi => ?_⟩
    have hget : cur.toList[i]? = some (.float .f64 (nth zs i)) := by
      have e : (cur.toList.take (n * 1))[i]? = cur.toList[i]? := by rw [List.getElem?_take, if_pos (by omega)]
      rw [← e, ht]
      simp [vals, hi]
    simp only [World.cell?, hg, Nat.zero_add]
    simpa using hget

theorem fits_cons {p q : Nat} {zs : List Nat} (hp : Pl.Fits p) (hq : Pl.Fits q) (h : AllFit zs) : AllFit (p :: q :: zs) := fun i => by
  match i with
  | 0 => exact hp
  | 1 => exact hq
  | i + 2 => exact h i

theorem append_two {ops : Array Oper} {rest : List Oper} {o : Oper} {a : Act} {Q : Exit → Act → World → Prop} (s x : Operand)
    (ho : o.op = .call { callee := .builtin .append, args := #[s, x], argTypes := #[22, 22] }) (w0 : World) (p q : Nat) (ad : Option Addr) (len cap : Nat) (zs : List Nat)
    (hs : a.eval s = .slice (some ⟨w0.heap.size, 0, none⟩) 2 2) (hx : a.eval x = .slice ad len cap)
    (hw : Region.wanted o (yielded ops a.tmps) = true) (hl : IsFl w0 ad len cap zs) (h12 : len ≤ 12)
    (h : ∀ g cap' w', 2 + len ≤ cap' → Floats w' g 0 (2 + len) (p :: q :: zs) → Below w0.heap.size w0 w' → wpList Try.prog ops Q rest (a.put o.dst (.slice (some ⟨g, 0, none⟩) (2 + len) cap')) w') :
    wpList Try.prog ops Q (o :: rest) a (w0.alloc (.cells #[.float .f64 p, .float .f64 q] 25)) := by
  refine wpList_wanted hw ?_
  obtain ⟨i0, hi, hz0, hz1, hz2⟩ := info_parts Try.info25
  have hown : (w0.alloc (.cells #[.float .f64 p, .float .f64 q] 25)).ownsRow w0.heap.size 25 1 (.slice (some ⟨w0.heap.size, 0, none⟩) 2 2) 2 [.float .f64 p, .float .f64 q] := by
    refine ⟨rfl, .inr ⟨w0.heap.size, 2, #[.float .f64 p, .float .f64 q], rfl, Nat.le_refl _, ?_, by omega, by decide, rfl, rfl⟩⟩
    show (w0.heap.push _)[w0.heap.size]? = _
    simp
  have hbel : Below w0.heap.size w0 (w0.alloc (.cells #[.float .f64 p, .float .f64 q] 25)) := (Below.refl _ _).alloc (Nat.le_refl _) _
  have e2 : [Value.float .f64 p, Value.float .f64 q] = vals (p :: q :: zs) 2 := by
    have := vals_cons p q zs 0
    simpa [vals] using this
  rcases hl with ⟨rfl, rfl, rfl⟩ | ⟨y, rfl, rfl⟩ | ⟨b, off, rfl, h1, h2, h3, h4, h5⟩
  · refine wpList_append_own_none rfl s x 22 ho w0.heap.size 25 i0 1 Try.underlying22 hi _ _ _ hs hown hx ?_
    rw [e2] at hown
    obtain ⟨g, cap', hv, hc, hfl⟩ := owned_floats hown (by omega)
    rw [hv]
    exact h g cap' _ hc hfl hbel
  · refine wpList_append_own _ rfl s x 22 ho w0.heap.size 25 i0 (.float .f64 0) 1 8 Try.underlying22 hi hz0 hz1 hz2 rfl (by decide) _ _ _ hs hown y 0 cap [] hx rfl (fun j u hj => by simp at hj) (fun u hu => by simp at hu) (by decide) (by decide) (by simp) ?_
    intro v' w' ho' hg' _
    rw [List.append_nil, e2] at ho'
    obtain ⟨g, cap', hv, hc, hfl⟩ := owned_floats ho' (by omega)
    rw [hv]
    exact h g cap' _ hc hfl (hbel.grown hg' (by simp) (fun k hk => by simp [Value.ownBlock] at hk; omega))
  · refine wpList_append_own _ rfl s x 22 ho w0.heap.size 25 i0 (.float .f64 0) 1 8 Try.underlying22 hi hz0 hz1 hz2 rfl (by decide) _ _ _ hs hown ⟨b, off, none⟩ len cap (vals zs len) hx (by simp [vals_length]) ?_ ?_ (by unfold maxLen; omega) (by omega) (by simp) ?_
    · intro j u hj
      obtain ⟨hj1, rfl⟩ := vals_get _ _ _ _ hj
      have := (h4.below hbel) j hj1
      have e : (⟨b, off, none⟩ : Addr).add j = ⟨b, off + j, none⟩ := by unfold Addr.add; split <;> simp_all
      rw [e]; exact this
    · intro u hu
      obtain ⟨j, _, rfl⟩ := List.mem_map.1 hu
      rfl
    · intro v' w' ho' hg' _
      rw [vals_cons] at ho'
      obtain ⟨g, cap', hv, hc, hfl⟩ := owned_floats ho' (by omega)
      rw [hv]
      exact h g cap' _ hc hfl (hbel.grown hg' (by simp) (fun k hk => by simp [Value.ownBlock] at hk; omega))

end Go.Proofs.Ytncmdbhbmbfdfaa
