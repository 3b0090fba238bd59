/-
  Val0, Val1, Val2, Val3, Val4, Val5, Val6: our texts of these names, laid into one.
-/
import Derived.Test.YtgeadpmnnjfkkaaCBaseE
import Derived.Lib.BytesEntry
import Derived.Laws.Externs
import Derived.Laws.ResultCell
import Derived.Deep.RegionHeld3
/-
  Values as plain data: their order, by Kind, bytes and number; what it is an order by. Plain facts, no program in sight.
-/
namespace Go.Proofs.Ytgeadpmnnjfkkaa
open Go.RowKit

/-- A value: its Kind, its bytes (the slice, its block, what lies there), its number. -/
structure Vm where
  kind : Int
  bv : Value
  g : Nat
  bs : List Nat
  n : Nat

/-- As it is handed on. -/
def Vm.val (a : Vm) : Value := .agg #[.int .i64 a.kind, a.bv, .float .f64 a.n]

/-- It lies so in memory. -/
structure Vm.In (w : World) (a : Vm) : Prop where
  isB : IsB w a.g a.bv a.bs
  fits : Pl.Fits a.n
  oct : ∀ z ∈ a.bs, z < 256

theorem Vm.In.moves {w w' : World} {a : Vm} {S : List Nat} (h : a.In w) (m : Moves S w w') (hg : a.g ∉ S) : a.In w' := ⟨h.isB.moves m hg, h.fits, h.oct⟩

end Go.Proofs.Ytgeadpmnnjfkkaa
/-
  What bytes' comparison and package value's functions do: for every value the call returns, and writes nothing that was there.
-/
namespace Go.Proofs.Ytgeadpmnnjfkkaa
open Go.RowKit

end Go.Proofs.Ytgeadpmnnjfkkaa
/-
  What package value's Order and Same do: for every two values the call returns their order, and writes nothing that was there.
-/
namespace Go.Proofs.Ytgeadpmnnjfkkaa
open Go.RowKit

/-- Two boxes that a call laid. -/
theorem boxes {w w' : World} {A B : Array Value} {t u : TypeId} (m : Moves [] ((w.alloc (.cells A t)).alloc (.cells B u)) w') :
    w'.heap[w.heap.size]? = some (.cells A t (0, 0)) ∧ w'.heap[w.heap.size + 1]? = some (.cells B u (0, 0)) ∧ Moves [] w w' := by
  refine ⟨m.at ?_ (by simp), m.at ?_ (by simp), ((((Moves.refl [] w).alloc _).alloc _).then m)⟩
  · exact (Below.heap_alloc _ _ _ (by simp)).trans (heap_alloc_new _ _)
  · have e := heap_alloc_new (w.alloc (.cells A t)) (.cells B u)
    have e2 : (w.alloc (.cells A t)).heap.size = w.heap.size + 1 := by simp
    rw [e2] at e
    exact e

end Go.Proofs.Ytgeadpmnnjfkkaa
/-
  What package value's Canon, Plus and Right do: for every value the call returns what the chapter says, and writes nothing that was there.
-/
namespace Go.Proofs.Ytgeadpmnnjfkkaa
open Go.RowKit

@[go_sem] theorem run_store_flt {P : Program} (w : World) (a : Addr) (m : Mode) (k : FloatKind) (b : Nat) : (store a (.float k b) m).run P w = stored P w a (.float k b) m := run_store P w a _ m rfl

end Go.Proofs.Ytgeadpmnnjfkkaa
/-
  What package value's Plus and Right do: for every value the call returns what the chapter says, and writes nothing that was there.
-/
namespace Go.Proofs.Ytgeadpmnnjfkkaa
open Go.RowKit

/-- The zero value, and the Number of a word. -/
def Vm.zero : Vm := ⟨0, .slice none 0 0, 0, [], 0⟩
end Go.Proofs.Ytgeadpmnnjfkkaa
/-
  What the drawn value and the law's own 'known' do: the call returns a value that may be, or true, and writes nothing that was there.
-/
namespace Go.Proofs.Ytgeadpmnnjfkkaa
open Go.RowKit

/-- A value as it is drawn. -/
structure Drawn (w : World) (a : Vm) : Prop where
  isIn : a.In w
  ways : (a.kind = 1 ∧ a.n = 0 ∧ a.bs.length ≤ 16) ∨ (a.kind = 2 ∧ a.bs = [])

theorem Drawn.moves {w w' : World} {a : Vm} (h : Drawn w a) (m : Moves [] w w') : Drawn w' a := ⟨h.isIn.moves m (by simp), h.ways⟩

/-- What is held of the world while the last region runs: where a lies. -/
def KnS (p : Nat) (w : World) : Prop := w.cell? ⟨p, 0, none⟩ = some (.int .i64 2) ∧ w.cell? ⟨p, 1, none⟩ = some (.slice none 0 0) ∧ w.cell? ⟨p, 2, none⟩ = some (.float .f64 4613937818241073152)
theorem KnS.moves {p : Nat} {w w' : World} (h : KnS p w) (m : Moves [] w w') : KnS p w' := ⟨m.cell h.1, m.cell h.2.1, m.cell h.2.2⟩

end Go.Proofs.Ytgeadpmnnjfkkaa
/-
  The contracts of values once more, told of by an elder world that the running one has grown out of.
-/
namespace Go.Proofs.Ytgeadpmnnjfkkaa
open Go.RowKit

/-- That value stands for A, in W's memory. -/
structure VIs (W : World) (v : Value) (A : Vm) : Prop where
  val : v = A.val
  isIn : A.In W

theorem VIs.moves {W W' : World} {v : Value} {A : Vm} (h : VIs W v A) (m : Moves [] W W') : VIs W' v A := ⟨h.val, h.isIn.moves m (by simp)⟩
theorem VIs.open {W : World} {v : Value} {A : Vm} (h : VIs W v A) : ∃ ad len cap, A.bv = .slice ad len cap ∧ v = .agg #[.int .i64 A.kind, .slice ad len cap, .float .f64 A.n] := by
  obtain ⟨ad, len, cap, e, _⟩ := h.isIn.isB
  exact ⟨ad, len, cap, e, by rw [h.val, Vm.val, e]⟩

/-- What may be drawn. -/
def VWays (a : Vm) : Prop := (a.kind = 1 ∧ a.n = 0 ∧ a.bs.length ≤ 16) ∨ (a.kind = 2 ∧ a.bs = [])
theorem VWays.len {a : Vm} (h : VWays a) : a.bs.length ≤ 1099511627776 := by
  rcases h with ⟨_, _, h⟩ | ⟨_, h⟩
  · omega
  · rw [h]; simp

end Go.Proofs.Ytgeadpmnnjfkkaa
