/-
  What the drawn value and the law's own 'known' do: the call returns a value that may be, or true, and writes nothing that was there.
-/
import Derived.Test.YtpofalalfemkhaaVal4
import Derived.Deep.RegionHeld3
namespace Go.Proofs.Ytpofalalfemkhaa
open Go.RowKit

/-- Cut, of bytes that are told of by an elder world. -/
theorem cutAt_w (w0 : World) (v : Value) (g : Nat) (bs : List Nat) (n : Nat) (z : Int) (hz : z = (n : Int)) (w : World) (h : IsB w0 g v bs) :
    Calls Try.prog 14 #[v, .int .i64 z] w fun e w' => ∃ v', e = .returned v' ∧ IsB w0 g v' (bs.take n) ∧ w = w' := by
  subst hz
  have h0 := h
  obtain ⟨ad, len, cap, rfl, h1, h2, h3, h4⟩ := h
  by_cases hlt : n < len
  · have hlt1 : (n : Int) < (len : Int) := by omega
    have hlt2 : (n : Int) ≤ (cap : Int) := by omega
    go_enter Try.func14, Try.ntmps14
    go_wp2
    go_ret
    refine ⟨_, rfl, ⟨ad, n, cap, rfl, by rw [List.length_take]; omega, by omega, h3, ?_⟩, rfl⟩
    exact h4.take n
  · have hlt1 : ¬ (n : Int) < (len : Int) := by omega
    go_enter Try.func14, Try.ntmps14
    go_wp2
    go_ret
    exact ⟨_, rfl, by rw [List.take_of_length_le (by omega)]; exact h0, rfl⟩

/-- A value as it is drawn. -/
structure Drawn (w : World) (a : Vm) : Prop where
  isIn : a.In w
  ways : (a.kind = 1 ∧ a.n = 0 ∧ a.bs.length ≤ 16) ∨ (a.kind = 2 ∧ a.bs = [])

theorem Drawn.moves {w w' : World} {a : Vm} (h : Drawn w a) (m : Moves [] w w') : Drawn w' a := ⟨h.isIn.moves m (by simp), h.ways⟩

set_option maxHeartbeats 1000000 in
theorem keepValueAt_w (w0 : World) (t : Bool) (n : Int) (x : Nat) (bv : Value) (g : Nat) (bs : List Nat) (w : World) (hx : Pl.Fits x) (hb : IsB w0 g bv bs) (ho : ∀ z ∈ bs, z < 256) :
    Calls Try.prog 15 #[.agg #[.bool t, .int .i64 n, .float .f64 x, bv]] w fun e w' => ∃ a : Vm, e = .returned a.val ∧ Drawn w0 a ∧ Moves [] w w' := by
  have hb0 := hb
  obtain ⟨ad, len, cap, rfl, _⟩ := hb
  cases t
  · go_enter Try.func15, Try.ntmps15
    go_wp2_with (go_at_call 44; refine (float_w _ _ hx _).mono ?_; rintro _ _ ⟨c, hc, rfl, rfl⟩)
    try simp only [Exit.inBlock, Exit.then]
    refine bodyPost_ret (ret_val rfl _ _ _ _ _ _ rfl (heap_alloc2_new _ _ _)) rfl ⟨Vm.num c, rfl, ⟨Vm.num_in _ hc, .inr ⟨rfl, rfl⟩⟩, ((Moves.refl _ _).alloc _).alloc _⟩
  · go_enter Try.func15, Try.ntmps15
    go_wp2_with (go_at_call 14; refine (cutAt_w w0 _ g bs 16 _ rfl _ hb0).mono ?_; rintro _ _ ⟨v1, rfl, hv1, rfl⟩; have hv2 := hv1; obtain ⟨ad1, n1, cap1, rfl, _⟩ := hv2)
    try simp only [Exit.inBlock, Exit.then]
    exact bodyPost_ret (ret_val rfl _ _ _ _ _ _ rfl (heap_alloc2_new _ _ _)) rfl ⟨⟨1, .slice ad1 n1 cap1, g, bs.take 16, 0⟩, rfl, ⟨⟨hv1, fits_zero, fun z hz => ho z (List.mem_of_mem_take hz)⟩, .inl ⟨rfl, rfl, by simp; omega⟩⟩, ((Moves.refl _ _).alloc _).alloc _⟩

theorem fits_1 : Pl.Fits 4607182418800017408 := by unfold Pl.Fits; omega
theorem fits_2 : Pl.Fits 4611686018427387904 := by unfold Pl.Fits; omega
theorem fits_3 : Pl.Fits 4613937818241073152 := by unfold Pl.Fits; omega
theorem sum_12 : Pl.sum 4607182418800017408 4611686018427387904 = 4613937818241073152 := by decide +kernel

theorem known_same (w : World) : Calls Try.prog 110 #[.agg #[.int .i64 2, .slice none 0 0, .float .f64 4613937818241073152], .agg #[.int .i64 2, .slice none 0 0, .float .f64 4613937818241073152]] w fun e w' => e = .returned (.bool true) ∧ Moves [] w w' := by
  have h := vSame_w (Vm.num 4613937818241073152) (Vm.num 4613937818241073152) w (Vm.num_in _ fits_3) (Vm.num_in _ fits_3)
  rw [vord_self] at h
  exact h
theorem known_r1 (w : World) : Calls Try.prog 46 #[.agg #[.int .i64 2, .slice none 0 0, .float .f64 4607182418800017408]] w fun e w' => e = .returned (.bool true) ∧ Moves [] w w' :=
  vRight_w (Vm.num 4607182418800017408) w (Vm.num_in _ fits_1)
theorem known_r0 (w : World) : Calls Try.prog 46 #[.agg #[.int .i64 0, .slice none 0 0, .float .f64 0]] w fun e w' => e = .returned (.bool false) ∧ Moves [] w w' :=
  vRight_w Vm.zero w (Vm.zero_in _)

/-- What is held of the world while the last region runs: where a lies. -/
def KnS (p : Nat) (w : World) : Prop := w.cell? ⟨p, 0, none⟩ = some (.int .i64 2) ∧ w.cell? ⟨p, 1, none⟩ = some (.slice none 0 0) ∧ w.cell? ⟨p, 2, none⟩ = some (.float .f64 4613937818241073152)
theorem KnS.moves {p : Nat} {w w' : World} (h : KnS p w) (m : Moves [] w w') : KnS p w' := ⟨m.cell h.1, m.cell h.2.1, m.cell h.2.2⟩

end Go.Proofs.Ytpofalalfemkhaa
