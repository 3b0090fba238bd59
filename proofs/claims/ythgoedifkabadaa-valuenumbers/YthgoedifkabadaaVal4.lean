/-
  What package value's Plus and Right do: for every value the call returns what the chapter says, and writes nothing that was there.
-/
import Derived.Test.YthgoedifkabadaaVal3
import Derived.Laws.ResultCell
namespace Go.Proofs.Ythgoedifkabadaa
open Go.RowKit

/-- The zero value, and the Number of a word. -/
def Vm.zero : Vm := ⟨0, .slice none 0 0, 0, [], 0⟩
def Vm.num (n : Nat) : Vm := ⟨2, .slice none 0 0, 0, [], n⟩
theorem Vm.zero_in (w : World) : Vm.zero.In w := ⟨isB_nil _ _, fits_zero, by simp [Vm.zero]⟩
theorem Vm.num_in (w : World) {n : Nat} (h : Pl.Fits n) : (Vm.num n).In w := ⟨isB_nil _ _, h, by simp [Vm.num]⟩

def plusV (a b : Vm) : Vm := if a.kind = 2 ∧ b.kind = 2 then Vm.num (Pl.sum a.n b.n) else Vm.zero
def plusE (a b : Vm) : Int := if a.kind = 2 ∧ b.kind = 2 then 0 else 24
theorem plusV_in (a b : Vm) (w : World) : (plusV a b).In w := by
  unfold plusV
  split
  · exact Vm.num_in w (fits_sum _ _)
  · exact Vm.zero_in w

theorem ret_val2 {fn : Func} {p u : Tmp} (h : fn.results = #[.cell p 28, .tmp u]) (tmps : Array Value) (w : World) (g : Nat) (x y z : Value) (hp : tmps.getD p undef = .pointer (some ⟨g, 0, none⟩)) (hg : w.heap[g]? = some (.cells #[x, y, z] 28 (0, 0))) :
    (results fn tmps).run Try.prog w = .ok (.tuple #[.agg #[x, y, z], tmps.getD u undef]) w := by
  have hl := run_loadVar_row (P := Try.prog) w g 28 28 _ (0, 0) _ hg Try.underlying28 rfl Try.size28
  rw [results_cell_tmp h, hp]
  simp only [asAddr, Sem.run_pure, Result.andThen, hl]

/-- Three boxes that a call laid. -/
theorem boxes3 {w w' : World} {A B C : Array Value} {t u v : TypeId} (m : Moves [] (((w.alloc (.cells A t)).alloc (.cells B u)).alloc (.cells C v)) w') :
    w'.heap[w.heap.size]? = some (.cells A t (0, 0)) ∧ w'.heap[w.heap.size + 1]? = some (.cells B u (0, 0)) ∧ w'.heap[w.heap.size + 1 + 1]? = some (.cells C v (0, 0)) ∧ Moves [] w w' := by
  obtain ⟨h1, h2, h3⟩ := boxes (((Moves.refl [] ((w.alloc (.cells A t)).alloc (.cells B u))).alloc (.cells C v)).then m)
  refine ⟨h1, h2, m.at ?_ (by simp), h3⟩
  have e := heap_alloc_new ((w.alloc (.cells A t)).alloc (.cells B u)) (.cells C v)
  have e2 : ((w.alloc (.cells A t)).alloc (.cells B u)).heap.size = w.heap.size + 1 + 1 := by simp
  rw [e2] at e
  exact e

set_option maxHeartbeats 1000000 in
theorem vPlus_w (a b : Vm) (w : World) (ha : a.In w) (hb : b.In w) :
    Calls Try.prog 24 #[a.val, b.val] w fun e w' => e = .returned (.tuple #[(plusV a b).val, .int .i64 (plusE a b)]) ∧ Moves [] w w' := by
  obtain ⟨k, bv, g, bs, n⟩ := a
  obtain ⟨l, cv, h, cs, m⟩ := b
  obtain ⟨ha1, ha2, ha3⟩ := ha
  obtain ⟨hb1, hb2, hb3⟩ := hb
  simp only at ha1 ha2 ha3 hb1 hb2 hb3
  obtain ⟨ad, len, cap, rfl, _⟩ := ha1
  obtain ⟨ad', len', cap', rfl, _⟩ := hb1
  by_cases hk : k = 2
  · by_cases hl : l = 2
    · subst hk hl
      simp only [plusV, plusE, and_self, if_true, Vm.val, Vm.num]
      go_enter Try.func24, Try.ntmps24
      go_wp2_with (first | (go_at_call 58; refine (sum_w _ _ _).mono ?_; rintro _ w2 ⟨rfl, hs⟩; have m2 := Moves.ofStill hs) | (go_at_call 50; refine (vnumber_w _ _).mono ?_; rintro _ w3 ⟨rfl, m3⟩; obtain ⟨p1, p2, p3, m1⟩ := boxes3 (m2.then m3); obtain ⟨d0, d1, d2, e0, e1, e2⟩ := three_cells p3))
      try simp only [Exit.inBlock, Exit.then]
      obtain ⟨s1, s2, s3⟩ := stored3 p3 m1 (by omega) (.int .i64 2) (.slice none 0 0) (.float .f64 (Pl.sum n m))
      exact bodyPost_ret (ret_val2 rfl _ _ _ _ _ _ rfl s1) rfl ⟨rfl, s2⟩
    · subst hk
      have t : (l != 2) = true := by simpa using hl
      simp only [plusV, plusE, hl, and_false, if_false, Vm.val, Vm.zero]
      clear hl
      go_enter Try.func24, Try.ntmps24
      go_wp2
      try simp only [Exit.inBlock, Exit.then]
      obtain ⟨p1, p2, p3, m1⟩ := boxes3 (Moves.refl [] (((w.alloc (.cells #[.int .i64 2, .slice ad len cap, .float .f64 n] 28)).alloc (.cells #[.int .i64 l, .slice ad' len' cap', .float .f64 m] 28)).alloc (.cells #[.int .i64 0, .slice none 0 0, .float .f64 0] 28)))
      exact bodyPost_ret (ret_val2 rfl _ _ _ _ _ _ rfl p3) rfl ⟨rfl, m1⟩
  · have t : (k != 2) = true := by simpa using hk
    simp only [plusV, plusE, hk, false_and, if_false, Vm.val, Vm.zero]
    clear hk
    go_enter Try.func24, Try.ntmps24
    go_wp2
    try simp only [Exit.inBlock, Exit.then]
    obtain ⟨p1, p2, p3, m1⟩ := boxes3 (Moves.refl [] (((w.alloc (.cells #[.int .i64 k, .slice ad len cap, .float .f64 n] 28)).alloc (.cells #[.int .i64 l, .slice ad' len' cap', .float .f64 m] 28)).alloc (.cells #[.int .i64 0, .slice none 0 0, .float .f64 0] 28)))
    exact bodyPost_ret (ret_val2 rfl _ _ _ _ _ _ rfl p3) rfl ⟨rfl, m1⟩

/-- What Right tells. -/
def vright (a : Vm) : Bool := (a.kind == 1 && decide (a.bs.length ≤ 16)) || a.kind == 2

theorem vRight_w (a : Vm) (w : World) (ha : a.In w) :
    Calls Try.prog 28 #[a.val] w fun e w' => e = .returned (.bool (vright a)) ∧ Moves [] w w' := by
  obtain ⟨k, bv, g, bs, n⟩ := a
  obtain ⟨ha1, ha2, ha3⟩ := ha
  simp only at ha1 ha2 ha3
  obtain ⟨ad, len, cap, rfl, hl, _⟩ := ha1
  simp only [vright, Vm.val]
  rw [hl]
  rcases kd_cases k with ⟨rfl, e⟩ | ⟨rfl, e⟩ | ⟨h1, h2, e⟩
  · clear e
    by_cases h : len ≤ 16
    · have h' : (len : Int) ≤ 16 := by omega
      have e : ((1 : Int) == 1 && decide (len ≤ 16) || (1 : Int) == 2) = true := by simp [h]
      rw [e]
      go_enter Try.func28, Try.ntmps28
      go_wp2
      go_ret
      exact ⟨rfl, (Moves.refl _ _).alloc _⟩
    · have h' : ¬ (len : Int) ≤ 16 := by omega
      have e : ((1 : Int) == 1 && decide (len ≤ 16) || (1 : Int) == 2) = false := by simp [h]
      rw [e]
      go_enter Try.func28, Try.ntmps28
      go_wp2
      go_ret
      exact ⟨rfl, (Moves.refl _ _).alloc _⟩
  · have e' : ((2 : Int) == 1 && decide (len ≤ 16) || (2 : Int) == 2) = true := by simp
    rw [e']
    go_enter Try.func28, Try.ntmps28
    go_wp2
    go_ret
    exact ⟨rfl, (Moves.refl _ _).alloc _⟩
  · have t1 : (k == 1) = false := by simpa using h1
    have t2 : (k == 2) = false := by simpa using h2
    have e' : (k == 1 && decide (len ≤ 16) || k == 2) = false := by simp [t1, t2]
    rw [e']
    clear e e' h1 h2
    go_enter Try.func28, Try.ntmps28
    go_wp2
    go_ret
    exact ⟨rfl, (Moves.refl _ _).alloc _⟩
end Go.Proofs.Ythgoedifkabadaa
