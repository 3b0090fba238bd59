/-
  What several statements share: drawn values in boxes of their own.
-/
import Derived.Test.YtpofalalfemkhaaVal7
namespace Go.Proofs.Ytpofalalfemkhaa
open Go.RowKit

theorem KArg.moves {W W' : World} {v : Value} (h : KArg W v) (m : Moves [] W W') : KArg W' v := by
  obtain ⟨t, n, x, ad, len, cap, g, bs, h1, h2, h3, h4⟩ := h.out
  exact ⟨t, n, x, ad, len, cap, g, bs, h1, h2, h3.moves m (by simp), h4⟩

theorem grown1 (w : World) (a : Obj) : Moves [] w (w.alloc a) := (Moves.refl _ _).alloc _
theorem grown2 (w : World) (a b : Obj) : Moves [] w ((w.alloc a).alloc b) := ((Moves.refl _ _).alloc _).alloc _
theorem grown3 (w : World) (a b c : Obj) : Moves [] w (((w.alloc a).alloc b).alloc c) := (((Moves.refl _ _).alloc _).alloc _).alloc _

/-- The cells of a value that was drawn. -/
def Drew (W : World) (cs : Array Value) : Prop := ∃ (A : Vm) (ad : Option Addr) (len cap : Nat), cs = #[.int .i64 A.kind, .slice ad len cap, .float .f64 A.n] ∧ VIs W (.agg cs) A ∧ VWays A

theorem drew_b (W w : World) (cs : Array Value) (hv : KArg W (.agg cs)) :
    Calls Try.prog 15 #[.agg cs] w fun e w' => ∃ cs, e = .returned (.agg cs) ∧ Drew W cs ∧ cs.size = 3 ∧ cs.all (·.oneCell') = true ∧ Moves [] w w' := by
  refine (keep_b' W w _ hv).mono ?_
  rintro e w' ⟨A, ad, len, cap, rfl, h1, h2, h3⟩
  exact ⟨_, rfl, ⟨A, ad, len, cap, rfl, h1, h2⟩, rfl, by simp [Value.oneCell'], h3⟩

theorem wrap_i64 {n : Int} (h : -1 ≤ n ∧ n ≤ 1) : IntKind.i64.wrap n = n := by
  simp [IntKind.wrap, IntKind.bits, IntKind.signed]
  omega

/-- Cells of a box of four. -/
theorem four_cells {w : World} {p : Nat} {a b c d : Value} {t : TypeId} (h : w.heap[p]? = some (.cells #[a, b, c, d] t (0, 0))) :
    w.cell? ⟨p, 0, none⟩ = some a ∧ w.cell? ⟨p, 1, none⟩ = some b ∧ w.cell? ⟨p, 2, none⟩ = some c ∧ w.cell? ⟨p, 3, none⟩ = some d := by
  simp [World.cell?, h]

end Go.Proofs.Ytpofalalfemkhaa
