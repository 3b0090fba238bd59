/-
  Lists1, Ssa, Some1, Some2: our texts of these names, laid into one.
-/
import Derived.Test.YtbjbljkcodkebaaCAny3
import Derived.Test.YtbjbljkcodkebaaCLi0
import Derived.Great.BuildSlice
/-
  Slices of structs that a call made itself: what lies in them, element by element; what an append leaves. Plain laws, for any element type.
-/
namespace Go.Proofs.Ytbjbljkcodkebaa
open Go.RowKit

end Go.Proofs.Ytbjbljkcodkebaa
/-
  A drawn region each of whose operations writes a slot of its own: what each one leaves there, told of a world, and kept by whatever comes up behind it.
-/
namespace Go.Proofs.Ytbjbljkcodkebaa
open Go.RowKit

theorem region_ssa {P : Program} {ops : Array Oper} {Q : Exit → Act → World → Prop} {id : Nat} {a0 : Act} {W : World} (hm : P.follows .mixedOrders = true) (d : Nat → Nat) (F : Nat → World → Value → Prop) (R : World → World → Prop)
    (ok : follows_ok ops = true) (hd : ∀ i, i < ops.size → d i < a0.tmps.size) (inj : ∀ i j, i < ops.size → j < ops.size → i ≠ j → d i ≠ d j)
    (hR0 : R W W.drew) (hRt : ∀ a b c, R a b → R b c → R a c) (hmono : ∀ i u u' v, F i u v → R u u' → F i u' v)
    (hstep : ∀ i, i < ops.size → ∀ a w, R W w → a.tmps.size = a0.tmps.size → (∀ s, (∀ k, k < ops.size → s ≠ d k) → a.tmps.getD s undef = a0.tmps.getD s undef) → (∀ k, k < ops.size → waits ops i k = true → F k w (a.tmps.getD (d k) undef)) → ∀ K : Act → World → Prop, (∀ v w', F i w' v → R w w' → K (a.put (some (d i)) v) w') → wpOp P ops Q i K a w)
    (hdone : ∀ a w, a.tmps.size = a0.tmps.size → a.defers = a0.defers → (∀ s, (∀ k, k < ops.size → s ≠ d k) → a.tmps.getD s undef = a0.tmps.getD s undef) → (∀ k, k < ops.size → F k w (a.tmps.getD (d k) undef)) → R W w → Q .normal a w) :
    (Code.region id ops true).wp P Q a0 W := by
  refine wp_region_inv hm (fun l a w => l.size = ops.size ∧ a.tmps.size = a0.tmps.size ∧ a.defers = a0.defers ∧ (∀ s, (∀ k, k < ops.size → s ≠ d k) → a.tmps.getD s undef = a0.tmps.getD s undef) ∧ R W w ∧ ∀ k, k < ops.size → up l k → F k w (a.tmps.getD (d k) undef)) ?_ ?_ ?_
  · refine ⟨by simp, rfl, rfl, fun _ _ => rfl, hR0, fun k hk hu => ?_⟩
    unfold up at hu
    simp [hk] at hu
  · rintro l a w ⟨h1, h2, h3, h4, h5, h6⟩ i hi
    have hun := ready_un hi
    have hlt : i < ops.size := by
      have := (Array.getElem?_eq_some_iff.1 hun).1
      omega
    refine hstep i hlt a w h5 h2 h4 (fun k hk hw => h6 k hk (waits_up hw hi)) _ ?_
    intro v w' hv hR
    refine ⟨by simpa using h1, by rw [size_put]; exact h2, by rw [defers_put]; exact h3, fun s hs => ?_, hRt _ _ _ h5 hR, fun k hk hu => ?_⟩
    · rw [getD_put (hs i hlt)]
      exact h4 s hs
    · by_cases e : k = i
      · subst e
        rw [getD_put_self (by rw [h2]; exact hd k hk)]
        exact hv
      · rw [getD_put (inj k i hk hlt e)]
        exact hmono k w w' _ (h6 k hk (up_of hu e)) hR
  · rintro l a w ⟨h1, h2, h3, h4, h5, h6⟩ hr
    exact hdone a w h2 h3 h4 (fun k hk => h6 k hk (all_up ok h1 hr k hk)) h5

end Go.Proofs.Ytbjbljkcodkebaa
/-
  The law's own list of values: what the operations of its literal leave, told of a world in which rows of bytes may have been frozen.
-/
namespace Go.Proofs.Ytbjbljkcodkebaa
open Go.RowKit

end Go.Proofs.Ytbjbljkcodkebaa
/-
  The law's own list of values: its literal, whichever order its operations take; then the nine that are drawn.
-/
namespace Go.Proofs.Ytbjbljkcodkebaa
open Go.RowKit

/-- The same, the frame that is left written out. -/
theorem region_ssaQ {P : Program} {ops : Array Oper} {Q : Exit → Act → World → Prop} {id : Nat} {a0 : Act} {W : World} (hm : P.follows .mixedOrders = true) (d : Nat → Nat) (sl : List Nat) (F : Nat → World → Value → Prop) (R : World → World → Prop)
    (ok : follows_ok ops = true) (hd : ∀ i, i < ops.size → d i < a0.tmps.size) (inj : ∀ i j, i < ops.size → j < ops.size → i ≠ j → d i ≠ d j) (hsl : ∀ i, i < ops.size → d i ∈ sl)
    (hR0 : R W W.drew) (hRt : ∀ a b c, R a b → R b c → R a c) (hmono : ∀ i u u' v, F i u v → R u u' → F i u' v)
    (hstep : ∀ i, i < ops.size → ∀ a w, R W w → a.tmps.size = a0.tmps.size → (∀ s, (∀ k, k < ops.size → s ≠ d k) → a.tmps.getD s undef = a0.tmps.getD s undef) → (∀ k, k < ops.size → waits ops i k = true → F k w (a.tmps.getD (d k) undef)) → ∀ K : Act → World → Prop, (∀ v w', F i w' v → R w w' → K (a.put (some (d i)) v) w') → wpOp P ops Q i K a w)
    (hQ : ∀ (u : Nat → Value) w, (∀ k, k < ops.size → F k w (u (d k))) → R W w → Q .normal { tmps := sl.foldl (fun t s => t.setIfInBounds s (u s)) a0.tmps, defers := a0.defers } w) :
    (Code.region id ops true).wp P Q a0 W := by
  refine region_ssa hm d F R ok hd inj hR0 hRt hmono hstep ?_
  intro a w hsz hdf hold hall hR
  have e := tmps_sets hsz sl (fun s hs => hold s (fun k hk he => hs (by rw [he]; exact hsl k hk)))
  have key := hQ (fun s => a.tmps.getD s undef) w hall hR
  try dsimp only at key
  rw [← e, ← hdf] at key
  exact key
end Go.Proofs.Ytbjbljkcodkebaa
