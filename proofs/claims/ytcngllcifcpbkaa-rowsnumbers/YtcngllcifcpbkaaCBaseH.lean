/-
  Lists1, Ssa, Some1, Some2: our texts of these names, laid into one.
-/
import Derived.Test.YtcngllcifcpbkaaCBaseX
import Derived.Great.BuildSlice
/-
  Slices of structs that a call made itself: what lies in them, element by element; what an append leaves. Plain laws, for any element type.
-/
namespace Go.Proofs.Ytcngllcifcpbkaa
open Go.RowKit

/-- A slice of the call's own whose elements, of 'size' cells each, are css. -/
def OwnL (w : World) (e : TypeId) (size : Nat) (v : Value) (css : List (List Value)) : Prop := (∀ c ∈ css, c.length = size) ∧ w.ownsRow 0 e size v css.length css.flatten

theorem OwnL.nil (w : World) (e : TypeId) (size : Nat) : OwnL w e size (.slice none 0 0) [] := ⟨by simp, World.ownsRow_nil _ _ _ _⟩
theorem OwnL.moves {w w' : World} {e : TypeId} {size : Nat} {v : Value} {css : List (List Value)} {S : List Nat} (h : OwnL w e size v css) (m : Moves S w w') (hg : ∀ k, v.ownBlock = some k → k ∉ S) : OwnL w' e size v css := by
  refine ⟨h.1, h.2.1, ?_⟩
  rcases h.2.2 with hn | ⟨g, cap, cur, rfl, hb, hgg, rest⟩
  · exact .inl hn
  · exact .inr ⟨g, cap, cur, rfl, hb, m.at hgg (hg g rfl), rest⟩
theorem OwnL.lt {w : World} {e : TypeId} {size : Nat} {v : Value} {css : List (List Value)} (h : OwnL w e size v css) {k : Nat} (hk : v.ownBlock = some k) : k < w.heap.size := (World.ownsRow.lt h.2 k hk).2
theorem OwnL.ne {w : World} {e : TypeId} {size : Nat} {v : Value} {css : List (List Value)} (h : OwnL w e size v css) {p : Nat} {c : Array Value} {t : TypeId} {fz : Nat × Nat} (hp : w.heap[p]? = some (.cells c t fz)) (ht : t ≠ e) : v.ownBlock ≠ some p := by
  intro hk
  rcases h.2.2 with ⟨rfl, _⟩ | ⟨g, cap, cur, rfl, hb, hgg, _⟩
  · simp [Value.ownBlock] at hk
  · simp [Value.ownBlock] at hk
    subst hk
    rw [hgg] at hp
    simp at hp
    exact ht hp.2.1.symm
theorem OwnL.slice {w : World} {e : TypeId} {size : Nat} {v : Value} {css : List (List Value)} (h : OwnL w e size v css) : ∃ ad cap, v = .slice ad css.length cap ∧ css.length ≤ cap := by
  rcases h.2.2 with ⟨rfl, h0⟩ | ⟨g, cap, cur, rfl, _, _, h1, _⟩
  · exact ⟨none, 0, by rw [h0], by omega⟩
  · exact ⟨_, cap, rfl, h1⟩

theorem flatten_get {size : Nat} : ∀ {css : List (List Value)}, (∀ c ∈ css, c.length = size) → ∀ {k : Nat} {c : List Value}, css[k]? = some c → ∀ {j : Nat} {u : Value}, c[j]? = some u → css.flatten[k * size + j]? = some u
  | [], _, k, c, hk, _, _, _ => by simp at hk
  | x :: css, h, 0, c, hk, j, u, hj => by
    simp at hk
    subst hk
    have hlt := (List.getElem?_eq_some_iff.1 hj).1
    rw [List.flatten_cons, List.getElem?_append_left (by omega)]
    simpa using hj
  | x :: css, h, k + 1, c, hk, j, u, hj => by
    have hx : x.length = size := h x (by simp)
    have ih := flatten_get (css := css) (fun c hc => h c (by simp [hc])) (k := k) (c := c) (by simpa using hk) hj
    rw [List.flatten_cons, List.getElem?_append_right (by rw [hx, Nat.succ_mul]; omega)]
    have e : (k + 1) * size + j - x.length = k * size + j := by rw [hx, Nat.succ_mul]; omega
    rw [e]
    exact ih

/-- Cell j of element k. -/
theorem OwnL.cell {w : World} {e : TypeId} {size : Nat} {v : Value} {css : List (List Value)} (h : OwnL w e size v css) {k : Nat} {c : List Value} (hk : css[k]? = some c) :
    ∃ g cap, v = .slice (some ⟨g, 0, none⟩) css.length cap ∧ css.length ≤ cap ∧ ∀ j u, c[j]? = some u → w.cell? ⟨g, k * size + j, none⟩ = some u := by
  have hlt := (List.getElem?_eq_some_iff.1 hk).1
  rcases h.2.2 with ⟨_, h0⟩ | ⟨g, cap, cur, rfl, hb, hgg, h1, h2, h3, h4⟩
  · omega
  · refine ⟨g, cap, rfl, h1, fun j u hj => ?_⟩
    have hf := flatten_get h.1 hk hj
    have hfl := (List.getElem?_eq_some_iff.1 hf).1
    rw [h.2.1] at hfl
    have e2 : (cur.toList.take (css.length * size))[k * size + j]? = some u := by rw [h4]; exact hf
    rw [List.getElem?_take, if_pos (by omega)] at e2
    simp only [World.cell?, hgg]
    simpa using e2

theorem flatten_length {size : Nat} : ∀ {ds : List (List Value)}, (∀ c ∈ ds, c.length = size) → ds.flatten.length = ds.length * size
  | [], _ => by simp
  | x :: t, h => by
    rw [List.flatten_cons, List.length_append, flatten_length (fun c hc => h c (by simp [hc])), h x (by simp), List.length_cons, Nat.succ_mul]
    omega

end Go.Proofs.Ytcngllcifcpbkaa
/-
  A drawn region each of whose operations writes a slot of its own: what each one leaves there, told of a world, and kept by whatever comes up behind it.
-/
namespace Go.Proofs.Ytcngllcifcpbkaa
open Go.RowKit

theorem region_ssa {P : Program} {ops : Array Oper} {Q : Exit → Act → World → Prop} {id : Nat} {a0 : Act} {W : World} (hm : P.follows .mixedOrders = true) (d : Nat → Nat) (F : Nat → World → Value → Prop) (R : World → World → Prop)
    (ok : follows_ok ops = true) (hd : ∀ i, i < ops.size → d i < a0.tmps.size) (inj : ∀ i j, i < ops.size → j < ops.size → i ≠ j → d i ≠ d j)
    (hR0 : R W W.drew) (hRt : ∀ a b c, R a b → R b c → R a c) (hmono : ∀ i u u' v, F i u v → R u u' → F i u' v)
    (hstep : ∀ i, i < ops.size → ∀ a w, R W w → a.tmps.size = a0.tmps.size → (∀ s, (∀ k, k < ops.size → s ≠ d k) → a.tmps.getD s undef = a0.tmps.getD s undef) → (∀ k, k < ops.size → waits ops i k = true → F k w (a.tmps.getD (d k) undef)) → ∀ K : Act → World → Prop, (∀ v w', F i w' v → R w w' → K (a.put (some (d i)) v) w') → wpOp P ops Q i K a w)
    (hdone : ∀ a w, a.tmps.size = a0.tmps.size → a.defers = a0.defers → (∀ s, (∀ k, k < ops.size → s ≠ d k) → a.tmps.getD s undef = a0.tmps.getD s undef) → (∀ k, k < ops.size → F k w (a.tmps.getD (d k) undef)) → R W w → Q .normal a w) :
    (Code.region id ops true).wp P Q a0 W := by
  refine wp_region_inv hm (fun l a w => l.size = ops.size ∧ a.tmps.size = a0.tmps.size ∧ a.defers = a0.defers ∧ (∀ s, (∀ k, k < ops.size → s ≠ d k) → a.tmps.getD s undef = a0.tmps.getD s undef) ∧ R W w ∧ ∀ k, k < ops.size → up l k → F k w (a.tmps.getD (d k) undef)) ?_ ?_ ?_
  · refine ⟨by simp, rfl, rfl, fun _ _ => rfl, hR0, fun k hk hu => ?_⟩
    unfold up at hu
    simp [hk] at hu
  · rintro l a w ⟨h1, h2, h3, h4, h5, h6⟩ i hi
    have hun := ready_un hi
    have hlt : i < ops.size := by
      have := (Array.getElem?_eq_some_iff.1 hun).1
      omega
    refine hstep i hlt a w h5 h2 h4 (fun k hk hw => h6 k hk (waits_up hw hi)) _ ?_
    intro v w' hv hR
    refine ⟨by simpa using h1, by rw [size_put]; exact h2, by rw [defers_put]; exact h3, fun s hs => ?_, hRt _ _ _ h5 hR, fun k hk hu => ?_⟩
    · rw [getD_put (hs i hlt)]
      exact h4 s hs
    · by_cases e : k = i
      · subst e
        rw [getD_put_self (by rw [h2]; exact hd k hk)]
        exact hv
      · rw [getD_put (inj k i hk hlt e)]
        exact hmono k w w' _ (h6 k hk (up_of hu e)) hR
  · rintro l a w ⟨h1, h2, h3, h4, h5, h6⟩ hr
    exact hdone a w h2 h3 h4 (fun k hk => h6 k hk (all_up ok h1 hr k hk)) h5

end Go.Proofs.Ytcngllcifcpbkaa
/-
  The law's own list of values: what the operations of its literal leave, told of a world in which rows of bytes may have been frozen.
-/
namespace Go.Proofs.Ytcngllcifcpbkaa
open Go.RowKit

/-- Where bytes lie: in a row of bytes. -/
def U8 (w : World) (g : Nat) (bs : List Nat) : Prop := bs = [] ∨ ∃ c fz, w.heap[g]? = some (.cells c 5 fz)
end Go.Proofs.Ytcngllcifcpbkaa
/-
  The law's own list of values: its literal, whichever order its operations take; then the nine that are drawn.
-/
namespace Go.Proofs.Ytcngllcifcpbkaa
open Go.RowKit

/-- The same, the frame that is left written out. -/
theorem region_ssaQ {P : Program} {ops : Array Oper} {Q : Exit → Act → World → Prop} {id : Nat} {a0 : Act} {W : World} (hm : P.follows .mixedOrders = true) (d : Nat → Nat) (sl : List Nat) (F : Nat → World → Value → Prop) (R : World → World → Prop)
    (ok : follows_ok ops = true) (hd : ∀ i, i < ops.size → d i < a0.tmps.size) (inj : ∀ i j, i < ops.size → j < ops.size → i ≠ j → d i ≠ d j) (hsl : ∀ i, i < ops.size → d i ∈ sl)
    (hR0 : R W W.drew) (hRt : ∀ a b c, R a b → R b c → R a c) (hmono : ∀ i u u' v, F i u v → R u u' → F i u' v)
    (hstep : ∀ i, i < ops.size → ∀ a w, R W w → a.tmps.size = a0.tmps.size → (∀ s, (∀ k, k < ops.size → s ≠ d k) → a.tmps.getD s undef = a0.tmps.getD s undef) → (∀ k, k < ops.size → waits ops i k = true → F k w (a.tmps.getD (d k) undef)) → ∀ K : Act → World → Prop, (∀ v w', F i w' v → R w w' → K (a.put (some (d i)) v) w') → wpOp P ops Q i K a w)
    (hQ : ∀ (u : Nat → Value) w, (∀ k, k < ops.size → F k w (u (d k))) → R W w → Q .normal { tmps := sl.foldl (fun t s => t.setIfInBounds s (u s)) a0.tmps, defers := a0.defers } w) :
    (Code.region id ops true).wp P Q a0 W := by
  refine region_ssa hm d F R ok hd inj hR0 hRt hmono hstep ?_
  intro a w hsz hdf hold hall hR
  have e := tmps_sets hsz sl (fun s hs => hold s (fun k hk he => hs (by rw [he]; exact hsl k hk)))
  have key := hQ (fun s => a.tmps.getD s undef) w hall hR
  try dsimp only at key
  rw [← e, ← hdf] at key
  exact key
end Go.Proofs.Ytcngllcifcpbkaa
