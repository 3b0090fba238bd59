/-
  Slices of structs that a call made itself: what lies in them, element by element; what an append leaves. Plain laws, for any element type.
-/
import Derived.Test.YtpofalalfemkhaaAny3
namespace Go.Proofs.Ytpofalalfemkhaa
open Go.RowKit

/-- A slice of the call's own whose elements, of 'size' cells each, are css. -/
def OwnL (w : World) (e : TypeId) (size : Nat) (v : Value) (css : List (List Value)) : Prop := (∀ c ∈ css, c.length = size) ∧ w.ownsRow 0 e size v css.length css.flatten

theorem OwnL.nil (w : World) (e : TypeId) (size : Nat) : OwnL w e size (.slice none 0 0) [] := ⟨by simp, World.ownsRow_nil _ _ _ _⟩
theorem OwnL.moves {w w' : World} {e : TypeId} {size : Nat} {v : Value} {css : List (List Value)} {S : List Nat} (h : OwnL w e size v css) (m : Moves S w w') (hg : ∀ k, v.ownBlock = some k → k ∉ S) : OwnL w' e size v css := by
  refine ⟨h.1, h.2.1, ?_⟩
  rcases h.2.2 with hn | ⟨g, cap, cur, rfl, hb, hgg, rest⟩
  · exact .inl hn
  · exact .inr ⟨g, cap, cur, rfl, hb, m.at hgg (hg g rfl), rest⟩
theorem OwnL.lt {w : World} {e : TypeId} {size : Nat} {v : Value} {css : List (List Value)} (h : OwnL w e size v css) {k : Nat} (hk : v.ownBlock = some k) : k < w.heap.size := (World.ownsRow.lt h.2 k hk).2
theorem OwnL.ne {w : World} {e : TypeId} {size : Nat} {v : Value} {css : List (List Value)} (h : OwnL w e size v css) {p : Nat} {c : Array Value} {t : TypeId} {fz : Nat × Nat} (hp : w.heap[p]? = some (.cells c t fz)) (ht : t ≠ e) : v.ownBlock ≠ some p := by
  intro hk
  rcases h.2.2 with ⟨rfl, _⟩ | ⟨g, cap, cur, rfl, hb, hgg, _⟩
  · simp [Value.ownBlock] at hk
  · simp [Value.ownBlock] at hk
    subst hk
    rw [hgg] at hp
    simp at hp
    exact ht hp.2.1.symm
theorem OwnL.slice {w : World} {e : TypeId} {size : Nat} {v : Value} {css : List (List Value)} (h : OwnL w e size v css) : ∃ ad cap, v = .slice ad css.length cap ∧ css.length ≤ cap := by
  rcases h.2.2 with ⟨rfl, h0⟩ | ⟨g, cap, cur, rfl, _, _, h1, _⟩
  · exact ⟨none, 0, by rw [h0], by omega⟩
  · exact ⟨_, cap, rfl, h1⟩

theorem flatten_get {size : Nat} : ∀ {css : List (List Value)}, (∀ c ∈ css, c.length = size) → ∀ {k : Nat} {c : List Value}, css[k]? = some c → ∀ {j : Nat} {u : Value}, c[j]? = some u → css.flatten[k * size + j]? = some u
  | [], _, k, c, hk, _, _, _ => by simp at hk
  | x :: css, h, 0, c, hk, j, u, hj => by
    simp at hk
    subst hk
    have hlt := (List.getElem?_eq_some_iff.1 hj).1
    rw [List.flatten_cons, List.getElem?_append_left (by omega)]
    simpa using hj
  | x :: css, h, k + 1, c, hk, j, u, hj => by
    have hx : x.length = size := h x (by simp)
    have ih := flatten_get (css := css) (fun c hc => h c (by simp [hc])) (k := k) (c := c) (by simpa using hk) hj
    rw [List.flatten_cons, List.getElem?_append_right (by rw [hx, Nat.succ_mul]; omega)]
    have e : (k + 1) * size + j - x.length = k * size + j := by rw [hx, Nat.succ_mul]; omega
    rw [e]
    exact ih

/-- Cell j of element k. -/
theorem OwnL.cell {w : World} {e : TypeId} {size : Nat} {v : Value} {css : List (List Value)} (h : OwnL w e size v css) {k : Nat} {c : List Value} (hk : css[k]? = some c) :
    ∃ g cap, v = .slice (some ⟨g, 0, none⟩) css.length cap ∧ css.length ≤ cap ∧ ∀ j u, c[j]? = some u → w.cell? ⟨g, k * size + j, none⟩ = some u := by
  have hlt := (List.getElem?_eq_some_iff.1 hk).1
  rcases h.2.2 with ⟨_, h0⟩ | ⟨g, cap, cur, rfl, hb, hgg, h1, h2, h3, h4⟩
  · omega
  · refine ⟨g, cap, rfl, h1, fun j u hj => ?_⟩
    have hf := flatten_get h.1 hk hj
    have hfl := (List.getElem?_eq_some_iff.1 hf).1
    rw [h.2.1] at hfl
    have e2 : (cur.toList.take (css.length * size))[k * size + j]? = some u := by rw [h4]; exact hf
    rw [List.getElem?_take, if_pos (by omega)] at e2
    simp only [World.cell?, hgg]
    simpa using e2

theorem flatten_length {size : Nat} : ∀ {ds : List (List Value)}, (∀ c ∈ ds, c.length = size) → ds.flatten.length = ds.length * size
  | [], _ => by simp
  | x :: t, h => by
    rw [List.flatten_cons, List.length_append, flatten_length (fun c hc => h c (by simp [hc])), h x (by simp), List.length_cons, Nat.succ_mul]
    omega

/-- append to a slice of the call's own, of elements that lie anywhere. -/
theorem appendL_law {ops : Array Oper} {rest : List Oper} {o : Oper} {a : Act} {Q : Exit → Act → World → Prop} {w : World} (s x : Operand) (t e : TypeId) (z : Value) (size bytes : Nat)
    (hinfo : (Try.prog.info? e).map (fun i => (i.zero, i.size, i.bytes)) = some (some z, size, bytes)) (ht : Try.prog.underlying t = some (.slice e)) (hzs : z.cells.size = size) (hsz : 0 < size) (hby : bytes ≤ 100)
    (ho : o.op = .call { callee := .builtin .append, args := #[s, x], argTypes := #[t, t] })
    (v : Value) (css ds : List (List Value)) (ad : Addr) (cap : Nat) (hs : a.eval s = v) (hx : a.eval x = .slice (some ad) ds.length cap) (hw : Region.wanted o (yielded ops a.tmps) = true)
    (hv : OwnL w e size v css) (hd : ∀ c ∈ ds, c.length = size) (h1 : ∀ c ∈ ds, ∀ u ∈ c, u.oneCell' = true) (hsrc : ∀ j u, ds.flatten[j]? = some u → w.cell? (ad.add j) = some u) (hb : css.length + ds.length ≤ 1048576)
    (h : ∀ v' w', OwnL w' e size v' (css ++ ds) → Moves v.ownBlock.toList w w' → Lain w v v' → wpList Try.prog ops Q rest (a.put o.dst v') w') :
    wpList Try.prog ops Q (o :: rest) a w := by
  refine wpList_wanted hw ?_
  obtain ⟨i0, hi, hz0, hz1, hz2⟩ := info_parts hinfo
  have hfl := flatten_length hd
  have hbb : (css.length + ds.length) * bytes ≤ 140737488355328 := by
    have := Nat.mul_le_mul hb hby
    omega
  refine wpList_append_own_at _ rfl s x t ho 0 e i0 z size bytes ht hi hz0 hz1 hz2 hzs hsz v css.length css.flatten hs hv.2 ad ds.length cap ds.flatten hx hfl hsrc ?_ (by unfold maxLen; omega) hbb (Nat.zero_le _) ?_
  · intro u hu
    obtain ⟨c, hc, hu⟩ := List.mem_flatten.1 hu
    exact h1 c hc u hu
  · intro v' w' g1 g2 _ g4
    refine h v' w' ⟨fun c hc => ?_, ?_⟩ ((Moves.refl _ _).grown g2 (fun k hk => .inl (by rw [hk]; simp))) g4
    · rcases List.mem_append.1 hc with hc | hc
      · exact hv.1 c hc
      · exact hd c hc
    · rw [List.length_append, List.flatten_append]
      exact g1

/-- One new element. -/
theorem new_one (w : World) (cs : List Value) (e : TypeId) : ∀ j u, [cs].flatten[j]? = some u → (w.alloc (.cells cs.toArray e)).cell? ((⟨w.heap.size, 0, none⟩ : Addr).add j) = some u := by
  intro j u hj
  simp only [List.flatten_cons, List.flatten_nil, List.append_nil] at hj
  have e1 : (⟨w.heap.size, 0, none⟩ : Addr).add j = ⟨w.heap.size, j, none⟩ := by unfold Addr.add; split <;> simp_all
  rw [e1]
  simp only [World.cell?, heap_alloc_new]
  simpa using hj
end Go.Proofs.Ytpofalalfemkhaa
