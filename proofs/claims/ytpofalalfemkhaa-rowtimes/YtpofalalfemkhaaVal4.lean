/-
  What package value's Plus and Right do: for every value the call returns what the chapter says, and writes nothing that was there.
-/
import Derived.Test.YtpofalalfemkhaaVal3
import Derived.Laws.ResultCell
namespace Go.Proofs.Ytpofalalfemkhaa
open Go.RowKit

/-- The zero value, and the Number of a word. -/
def Vm.zero : Vm := ⟨0, .slice none 0 0, 0, [], 0⟩
def Vm.num (n : Nat) : Vm := ⟨2, .slice none 0 0, 0, [], n⟩
theorem Vm.zero_in (w : World) : Vm.zero.In w := ⟨isB_nil _ _, fits_zero, by simp [Vm.zero]⟩
theorem Vm.num_in (w : World) {n : Nat} (h : Pl.Fits n) : (Vm.num n).In w := ⟨isB_nil _ _, h, by simp [Vm.num]⟩

def plusV (a b : Vm) : Vm := if a.kind = 2 ∧ b.kind = 2 then Vm.num (Pl.sum a.n b.n) else Vm.zero
def plusE (a b : Vm) : Int := if a.kind = 2 ∧ b.kind = 2 then 0 else 24
theorem plusV_in (a b : Vm) (w : World) : (plusV a b).In w := by
  unfold plusV
  split
  · exact Vm.num_in w (fits_sum _ _)
  · exact Vm.zero_in w

theorem ret_val2 {fn : Func} {p u : Tmp} (h : fn.results = #[.cell p 39, .tmp u]) (tmps : Array Value) (w : World) (g : Nat) (x y z : Value) (hp : tmps.getD p undef = .pointer (some ⟨g, 0, none⟩)) (hg : w.heap[g]? = some (.cells #[x, y, z] 39 (0, 0))) :
    (results fn tmps).run Try.prog w = .ok (.tuple #[.agg #[x, y, z], tmps.getD u undef]) w := by
  have hl := run_loadVar_row (P := Try.prog) w g 39 39 _ (0, 0) _ hg Try.underlying39 rfl Try.size39
  rw [results_cell_tmp h, hp]
  simp only [asAddr, Sem.run_pure, Result.andThen, hl]

/-- Three boxes that a call laid. -/
theorem boxes3 {w w' : World} {A B C : Array Value} {t u v : TypeId} (m : Moves [] (((w.alloc (.cells A t)).alloc (.cells B u)).alloc (.cells C v)) w') :
    w'.heap[w.heap.size]? = some (.cells A t (0, 0)) ∧ w'.heap[w.heap.size + 1]? = some (.cells B u (0, 0)) ∧ w'.heap[w.heap.size + 1 + 1]? = some (.cells C v (0, 0)) ∧ Moves [] w w' := by
  obtain ⟨h1, h2, h3⟩ := boxes (((Moves.refl [] ((w.alloc (.cells A t)).alloc (.cells B u))).alloc (.cells C v)).then m)
  refine ⟨h1, h2, m.at ?_ (by simp), h3⟩
  have e := heap_alloc_new ((w.alloc (.cells A t)).alloc (.cells B u)) (.cells C v)
  have e2 : ((w.alloc (.cells A t)).alloc (.cells B u)).heap.size = w.heap.size + 1 + 1 := by simp
  rw [e2] at e
  exact e

/-- What Right tells. -/
def vright (a : Vm) : Bool := (a.kind == 1 && decide (a.bs.length ≤ 16)) || a.kind == 2

theorem vRight_w (a : Vm) (w : World) (ha : a.In w) :
    Calls Try.prog 46 #[a.val] w fun e w' => e = .returned (.bool (vright a)) ∧ Moves [] w w' := by
  obtain ⟨k, bv, g, bs, n⟩ := a
  obtain ⟨ha1, ha2, ha3⟩ := ha
  simp only at ha1 ha2 ha3
  obtain ⟨ad, len, cap, rfl, hl, _⟩ := ha1
  simp only [vright, Vm.val]
  rw [hl]
  rcases kd_cases k with ⟨rfl, e⟩ | ⟨rfl, e⟩ | ⟨h1, h2, e⟩
  · clear e
    by_cases h : len ≤ 16
    · have h' : (len : Int) ≤ 16 := by omega
      have e : ((1 : Int) == 1 && decide (len ≤ 16) || (1 : Int) == 2) = true := by simp [h]
      rw [e]
      go_enter Try.func46, Try.ntmps46
      go_wp2
      go_ret
      exact ⟨rfl, (Moves.refl _ _).alloc _⟩
    · have h' : ¬ (len : Int) ≤ 16 := by omega
      have e : ((1 : Int) == 1 && decide (len ≤ 16) || (1 : Int) == 2) = false := by simp [h]
      rw [e]
      go_enter Try.func46, Try.ntmps46
      go_wp2
      go_ret
      exact ⟨rfl, (Moves.refl _ _).alloc _⟩
  · have e' : ((2 : Int) == 1 && decide (len ≤ 16) || (2 : Int) == 2) = true := by simp
    rw [e']
    go_enter Try.func46, Try.ntmps46
    go_wp2
    go_ret
    exact ⟨rfl, (Moves.refl _ _).alloc _⟩
  · have t1 : (k == 1) = false := by simpa using h1
    have t2 : (k == 2) = false := by simpa using h2
    have e' : (k == 1 && decide (len ≤ 16) || k == 2) = false := by simp [t1, t2]
    rw [e']
    clear e e' h1 h2
    go_enter Try.func46, Try.ntmps46
    go_wp2
    go_ret
    exact ⟨rfl, (Moves.refl _ _).alloc _⟩
end Go.Proofs.Ytpofalalfemkhaa
