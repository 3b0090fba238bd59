/-
  What Read does, whatever its function: where the function comes to its end, Read returns whether all bytes were taken; where the Reader's own panic left it, false. Behind it nothing is written but the Reader.
-/
import Derived.Test.YtpofalalfemkhaaRead
namespace Go.Proofs.Ytpofalalfemkhaa
open Go.RowKit

/-- What lies in memory when Read calls its function: the Reader at block p, and behind it the variable that holds its address. -/
def Begun (w : World) (p g : Nat) (bs : List Nat) (fl : Bool) : Prop :=
  RdIs w p g bs fl ∧ w.heap[p + 1]? = some (.cells #[.pointer (some ⟨p, 0, none⟩)] 78 (0, 0))

theorem begun {w : World} {g : Nat} {v : Value} {bs : List Nat} (hv : IsB w g v bs) (hg : g ≠ w.heap.size) :
    Begun ((w.alloc (.cells #[v, .bool true, .bool false] 110)).alloc (.cells #[.pointer (some ⟨w.heap.size, 0, none⟩)] 78)) w.heap.size g bs false ∧
    Moves [] w ((w.alloc (.cells #[v, .bool true, .bool false] 110)).alloc (.cells #[.pointer (some ⟨w.heap.size, 0, none⟩)] 78)) := by
  have m : Moves [] w ((w.alloc (.cells #[v, .bool true, .bool false] 110)).alloc (.cells #[.pointer (some ⟨w.heap.size, 0, none⟩)] 78)) := ((Moves.refl _ _).alloc _).alloc _
  refine ⟨⟨⟨v, ?_, hv.moves m (by simp), hg⟩, ?_⟩, m⟩
  · exact (Below.heap_alloc _ _ _ (by simp)).trans (heap_alloc_new _ _)
  · have e := heap_alloc_new (w.alloc (.cells #[v, .bool true, .bool false] 110)) (.cells #[.pointer (some ⟨w.heap.size, 0, none⟩)] 78)
    have e2 : (w.alloc (.cells #[v, .bool true, .bool false] 110)).heap.size = w.heap.size + 1 := by simp
    rw [e2] at e
    exact e

set_option maxHeartbeats 1000000 in
theorem read_ret (F : Nat) (cap : Array Value) (v : Value) (g : Nat) (bs bs' : List Nat) (w : World) (hv : IsB w g v bs) (hg : g ≠ w.heap.size) (Q : World → Prop)
    (hcf : ∀ (args : Array Value) (w : World), (callFunc F args).run Try.prog w = .ok (.enter F args) w)
    (hf : ∀ w1, Begun w1 w.heap.size g bs false → Moves [] w w1 → Calls Try.prog F (#[.pointer (some ⟨w.heap.size, 0, none⟩)] ++ cap) w1 fun e w2 => e = .returned (.tuple #[]) ∧ Begun w2 w.heap.size g bs' false ∧ Q w2) :
    Calls Try.prog 39 #[v, .func (.func F) #[] cap] w fun e w' => e = .returned (.bool ((bs'.length : Int) == 0)) ∧ ∃ w2, Q w2 ∧ Moves [w.heap.size] w2 w' := by
  have hmf : ∀ (fn : Fn) (first cap : Array Value) (w : World), (Instr.makeFunc fn first cap).run Try.prog w = .ok (.func fn first cap) w := fun _ _ _ _ => rfl
  have hne : ∀ w : World, (binOp .eql 80 (.func (.func F) #[] cap) .nilFunc).run Try.prog w = .ok (.bool false) w := by intro w; kernel_rfl
  obtain ⟨hb1, hm1⟩ := begun hv hg
  obtain ⟨ad, n, c, rfl, hn, _⟩ := hv
  go_enter_defers Try.func39, Try.ntmps39
  go_wp2_with fail
  refine (hf _ hb1 hm1).mono ?_
  rintro _ w2 ⟨rfl, ⟨hr2, hq2⟩, hQ2⟩
  have hr2' := hr2
  obtain ⟨v2, hp2, hv2, hg2⟩ := hr2'
  obtain ⟨e0, e1, e2, ef0, ef1, ef2⟩ := three_cells hp2
  have cq := cell_of_one hq2
  clear hf hb1 hm1
  go_wp2_with (go_at_call 74; refine (rleft_w _ g bs' false _ hr2).mono ?_; rintro _ _ ⟨rfl, rfl⟩)
  refine leaves_cons (f := 71) (args := #[.pointer (some ⟨w.heap.size + 1, 0, none⟩)]) (by simp) (by simp [go_sem]) ?_
  refine (caught_idle w.heap.size (w.heap.size + 1) _ hr2.rdAt hq2).mono ?_
  rintro e u' w3 ⟨rfl, rfl, m3⟩
  exact ⟨_, results_tmp rfl _ _ _, rfl, w2, hQ2, m3⟩

set_option maxHeartbeats 1000000 in
theorem read_stop (F : Nat) (cap : Array Value) (v : Value) (g : Nat) (bs bs' : List Nat) (w : World) (hv : IsB w g v bs) (hg : g ≠ w.heap.size) (Q : World → Prop)
    (hcf : ∀ (args : Array Value) (w : World), (callFunc F args).run Try.prog w = .ok (.enter F args) w)
    (hf : ∀ w1, Begun w1 w.heap.size g bs false → Moves [] w w1 → Calls Try.prog F (#[.pointer (some ⟨w.heap.size, 0, none⟩)] ++ cap) w1 fun e w2 => e = .panicked (stop w.heap.size) ∧ Begun w2 w.heap.size g bs' true ∧ Q w2) :
    Calls Try.prog 39 #[v, .func (.func F) #[] cap] w fun e w' => e = .returned (.bool false) ∧ ∃ w2, Q w2 ∧ Moves [w.heap.size] w2 w' := by
  have hmf : ∀ (fn : Fn) (first cap : Array Value) (w : World), (Instr.makeFunc fn first cap).run Try.prog w = .ok (.func fn first cap) w := fun _ _ _ _ => rfl
  have hne : ∀ w : World, (binOp .eql 80 (.func (.func F) #[] cap) .nilFunc).run Try.prog w = .ok (.bool false) w := by intro w; kernel_rfl
  obtain ⟨hb1, hm1⟩ := begun hv hg
  obtain ⟨ad, n, c, rfl, hn, _⟩ := hv
  go_enter_defers Try.func39, Try.ntmps39
  go_wp2_with fail
  refine (hf _ hb1 hm1).mono ?_
  rintro _ w2 ⟨rfl, ⟨hr2, hq2⟩, hQ2⟩
  clear hf hb1 hm1
  go_wp2_with fail
  refine leaves_cons (f := 71) (args := #[.pointer (some ⟨w.heap.size + 1, 0, none⟩)]) (by simp) (by simp [go_sem]) ?_
  refine (caught_stop w.heap.size (w.heap.size + 1) _ hr2.rdAt hq2 (by omega)).mono ?_
  rintro e u' w3 ⟨rfl, rfl, m3⟩
  simp [Leaves, settle, results, Try.results39, go_sem]
  exact ⟨w2, hQ2, m3⟩

theorem read_nil (v : Value) (g : Nat) (bs : List Nat) (w : World) (hv : IsB w g v bs) :
    Calls Try.prog 39 #[v, .nilFunc] w fun e w' => e = .returned (.bool ((bs.length : Int) == 0)) ∧ w = w' := by
  have hne : ∀ w : World, (binOp .eql 80 .nilFunc .nilFunc).run Try.prog w = .ok (.bool true) w := by intro w; kernel_rfl
  obtain ⟨ad, n, c, rfl, hn, _⟩ := hv
  go_enter_defers Try.func39, Try.ntmps39
  go_wp2
  refine ⟨_, results_tmp rfl _ _ _, ?_, rfl⟩
  rw [hn]
  rfl

end Go.Proofs.Ytpofalalfemkhaa
