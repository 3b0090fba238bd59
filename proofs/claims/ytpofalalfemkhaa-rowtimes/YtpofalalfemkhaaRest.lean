/-
  What 'rest' does where the next thing cannot be read: it marks the document's Reader as bad.
-/
import Derived.Test.YtpofalalfemkhaaRefT
namespace Go.Proofs.Ytpofalalfemkhaa
open Go.RowKit

/-- That thing cannot be read there. -/
def fails (kind most : Int) (bs : List Nat) : Prop :=
  (kind = 1 ∧ bs.length < 1) ∨ (kind = 2 ∧ bs.length < 4) ∨ (kind = 3 ∧ bs.length < 8) ∨ (kind = 4 ∧ ¬ (8 ≤ bs.length ∧ Pl.canon (val (bs.take 8)) = val (bs.take 8))) ∨ (kind = 5 ∧ ¬ textOk bs most)

/-- Read, whatever its function: both ways. -/
theorem read_any (F : Nat) (cap : Array Value) (v : Value) (g : Nat) (bs : List Nat) (w : World) (hv : IsB w g v bs) (hg : g ≠ w.heap.size) (Q1 Q2 : List Nat → World → Prop)
    (hcf : ∀ (args : Array Value) (w : World), (callFunc F args).run Try.prog w = .ok (.enter F args) w)
    (hf : ∀ w1, Begun w1 w.heap.size g bs false → Moves [] w w1 → Calls Try.prog F (#[.pointer (some ⟨w.heap.size, 0, none⟩)] ++ cap) w1 fun e w2 =>
      (e = .returned (.tuple #[]) ∧ ∃ bs', Begun w2 w.heap.size g bs' false ∧ Q1 bs' w2) ∨ (e = .panicked (stop w.heap.size) ∧ ∃ bs', Begun w2 w.heap.size g bs' true ∧ Q2 bs' w2)) :
    Calls Try.prog 39 #[v, .func (.func F) #[] cap] w fun e w' => (∃ bs', e = .returned (.bool ((bs'.length : Int) == 0)) ∧ ∃ w2, Q1 bs' w2 ∧ Moves [w.heap.size] w2 w') ∨ (e = .returned (.bool false) ∧ ∃ bs' w2, Q2 bs' w2 ∧ Moves [w.heap.size] w2 w') := by
  have hmf : ∀ (fn : Fn) (first cap : Array Value) (w : World), (Instr.makeFunc fn first cap).run Try.prog w = .ok (.func fn first cap) w := fun _ _ _ _ => rfl
  have hne : ∀ w : World, (binOp .eql 80 (.func (.func F) #[] cap) .nilFunc).run Try.prog w = .ok (.bool false) w := by intro w; kernel_rfl
  obtain ⟨hb1, hm1⟩ := begun hv hg
  obtain ⟨ad, n, c, rfl, hn, _⟩ := hv
  go_enter_defers Try.func39, Try.ntmps39
  go_wp2_with fail
  refine (hf _ hb1 hm1).mono ?_
  clear hf hb1 hm1
  rintro _ w2 (⟨rfl, bs', ⟨hr2, hq2⟩, hQ2⟩ | ⟨rfl, bs', ⟨hr2, hq2⟩, hQ2⟩)
  · have hr2' := hr2
    obtain ⟨v2, hp2, hv2, hg2⟩ := hr2'
    obtain ⟨e0, e1, e2, ef0, ef1, ef2⟩ := three_cells hp2
    have cq := cell_of_one hq2
    go_wp2_with (go_at_call 74; refine (rleft_w _ g bs' false _ hr2).mono ?_; rintro _ _ ⟨rfl, rfl⟩)
    refine leaves_cons (f := 71) (args := #[.pointer (some ⟨w.heap.size + 1, 0, none⟩)]) (by simp) (by simp [go_sem]) ?_
    refine (caught_idle w.heap.size (w.heap.size + 1) _ hr2.rdAt hq2).mono ?_
    rintro e u' w3 ⟨rfl, rfl, m3⟩
    exact ⟨_, results_tmp rfl _ _ _, .inl ⟨bs', rfl, w2, hQ2, m3⟩⟩
  · go_wp2_with fail
    refine leaves_cons (f := 71) (args := #[.pointer (some ⟨w.heap.size + 1, 0, none⟩)]) (by simp) (by simp [go_sem]) ?_
    refine (caught_stop w.heap.size (w.heap.size + 1) _ hr2.rdAt hq2 (by omega)).mono ?_
    rintro e u' w3 ⟨rfl, rfl, m3⟩
    simp only [settle]
    exact ⟨_, results_tmp rfl _ _ _, .inr ⟨rfl, bs', w2, hQ2, m3⟩⟩

end Go.Proofs.Ytpofalalfemkhaa
