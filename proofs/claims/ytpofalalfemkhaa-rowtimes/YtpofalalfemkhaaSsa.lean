/-
  A drawn region each of whose operations writes a slot of its own: what each one leaves there, told of a world, and kept by whatever comes up behind it.
-/
import Derived.Test.YtpofalalfemkhaaLists1
namespace Go.Proofs.Ytpofalalfemkhaa
open Go.RowKit

theorem region_ssa {P : Program} {ops : Array Oper} {Q : Exit → Act → World → Prop} {id : Nat} {a0 : Act} {W : World} (hm : P.follows .mixedOrders = true) (d : Nat → Nat) (F : Nat → World → Value → Prop) (R : World → World → Prop)
    (ok : follows_ok ops = true) (hd : ∀ i, i < ops.size → d i < a0.tmps.size) (inj : ∀ i j, i < ops.size → j < ops.size → i ≠ j → d i ≠ d j)
    (hR0 : R W W.drew) (hRt : ∀ a b c, R a b → R b c → R a c) (hmono : ∀ i u u' v, F i u v → R u u' → F i u' v)
    (hstep : ∀ i, i < ops.size → ∀ a w, R W w → a.tmps.size = a0.tmps.size → (∀ s, (∀ k, k < ops.size → s ≠ d k) → a.tmps.getD s undef = a0.tmps.getD s undef) → (∀ k, k < ops.size → waits ops i k = true → F k w (a.tmps.getD (d k) undef)) → ∀ K : Act → World → Prop, (∀ v w', F i w' v → R w w' → K (a.put (some (d i)) v) w') → wpOp P ops Q i K a w)
    (hdone : ∀ a w, a.tmps.size = a0.tmps.size → a.defers = a0.defers → (∀ s, (∀ k, k < ops.size → s ≠ d k) → a.tmps.getD s undef = a0.tmps.getD s undef) → (∀ k, k < ops.size → F k w (a.tmps.getD (d k) undef)) → R W w → Q .normal a w) :
    (Code.region id ops true).wp P Q a0 W := by
  refine wp_region_inv hm (fun l a w => l.size = ops.size ∧ a.tmps.size = a0.tmps.size ∧ a.defers = a0.defers ∧ (∀ s, (∀ k, k < ops.size → s ≠ d k) → a.tmps.getD s undef = a0.tmps.getD s undef) ∧ R W w ∧ ∀ k, k < ops.size → up l k → F k w (a.tmps.getD (d k) undef)) ?_ ?_ ?_
  · refine ⟨by simp, rfl, rfl, fun _ _ => rfl, hR0, fun k hk hu => ?_⟩
    unfold up at hu
    simp [hk] at hu
  · rintro l a w ⟨h1, h2, h3, h4, h5, h6⟩ i hi
    have hun := ready_un hi
    have hlt : i < ops.size := by
      have := (Array.getElem?_eq_some_iff.1 hun).1
      omega
    refine hstep i hlt a w h5 h2 h4 (fun k hk hw => h6 k hk (waits_up hw hi)) _ ?_
    intro v w' hv hR
    refine ⟨by simpa using h1, by rw [size_put]; exact h2, by rw [defers_put]; exact h3, fun s hs => ?_, hRt _ _ _ h5 hR, fun k hk hu => ?_⟩
    · rw [getD_put (hs i hlt)]
      exact h4 s hs
    · by_cases e : k = i
      · subst e
        rw [getD_put_self (by rw [h2]; exact hd k hk)]
        exact hv
      · rw [getD_put (inj k i hk hlt e)]
        exact hmono k w w' _ (h6 k hk (up_of hu e)) hR
  · rintro l a w ⟨h1, h2, h3, h4, h5, h6⟩ hr
    exact hdone a w h2 h3 h4 (fun k hk => h6 k hk (all_up ok h1 hr k hk)) h5

/-- Blocks stay as they are, but that rows of bytes may be frozen. -/
structure Kept (W w w' : World) : Prop where
  size : w.heap.size ≤ w'.heap.size
  block : ∀ (k : Nat) (c : Array Value) (t : TypeId) (fz : Nat × Nat), w.heap[k]? = some (.cells c t fz) → ∃ fz', w'.heap[k]? = some (.cells c t fz') ∧ (t ≠ 5 → fz' = fz)
  moves : Moves [] W w → Moves [] W w'

theorem Kept.trans {W a b c : World} (h : Kept W a b) (k : Kept W b c) : Kept W a c :=
  ⟨Nat.le_trans h.size k.size, fun i x t fz hi => by
    obtain ⟨f1, g1, e1⟩ := h.block i x t fz hi
    obtain ⟨f2, g2, e2⟩ := k.block i x t f1 g1
    exact ⟨f2, g2, fun ht => (e2 ht).trans (e1 ht)⟩, fun m => k.moves (h.moves m)⟩
theorem Kept.ofMoves {W w w' : World} (m : Moves [] w w') : Kept W w w' :=
  ⟨m.size, fun k c t fz hk => ⟨fz, m.at hk (by simp), fun _ => rfl⟩, fun n => n.then m⟩
theorem Kept.cell {W w w' : World} (h : Kept W w w') {a : Addr} {v : Value} (hc : w.cell? a = some v) : w'.cell? a = some v := by
  unfold World.cell? at hc ⊢
  cases hq : w.heap[a.block]? with
  | none => simp [hq] at hc
  | some o =>
    cases o with
    | cells c t fz =>
      obtain ⟨f1, g1, _⟩ := h.block _ _ _ _ hq
      simp only [hq] at hc
      simp only [g1]
      exact hc
    | _ => simp [hq] at hc
end Go.Proofs.Ytpofalalfemkhaa
