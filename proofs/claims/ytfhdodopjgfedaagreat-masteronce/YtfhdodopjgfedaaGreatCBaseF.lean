/-
  Val0, Val1, Val2, Val3, Val4, Val5, Val6: our texts of these names, laid into one.
-/
import Derived.Test.YtfhdodopjgfedaaGreatCBaseE
import Derived.Lib.BytesEntry
import Derived.Laws.Externs
import Derived.Laws.ResultCell
import Derived.Deep.RegionHeld3
/-
  Values as plain data: their order, by Kind, bytes and number; what it is an order by. Plain facts, no program in sight.
-/
namespace Go.Proofs.YtfhdodopjgfedaaGreat
open Go.RowKit

/-- A Kind, and 0 of each that is neither Text nor Number. -/
def kd (k : Int) : Int := if k = 1 ∨ k = 2 then k else 0
theorem kd_cases (k : Int) : (k = 1 ∧ kd k = 1) ∨ (k = 2 ∧ kd k = 2) ∨ (k ≠ 1 ∧ k ≠ 2 ∧ kd k = 0) := by
  unfold kd
  by_cases h1 : k = 1
  · exact .inl ⟨h1, by simp [h1]⟩
  by_cases h2 : k = 2
  · exact .inr (.inl ⟨h2, by simp [h2]⟩)
  · exact .inr (.inr ⟨h1, h2, by simp [h1, h2]⟩)

/-- A value: its Kind, its bytes (the slice, its block, what lies there), its number. -/
structure Vm where
  kind : Int
  bv : Value
  g : Nat
  bs : List Nat
  n : Nat

/-- As it is handed on. -/
def Vm.val (a : Vm) : Value := .agg #[.int .i64 a.kind, a.bv, .float .f64 a.n]

/-- It lies so in memory. -/
structure Vm.In (w : World) (a : Vm) : Prop where
  isB : IsB w a.g a.bv a.bs
  fits : Pl.Fits a.n
  oct : ∀ z ∈ a.bs, z < 256

theorem Vm.In.moves {w w' : World} {a : Vm} {S : List Nat} (h : a.In w) (m : Moves S w w') (hg : a.g ∉ S) : a.In w' := ⟨h.isB.moves m hg, h.fits, h.oct⟩

end Go.Proofs.YtfhdodopjgfedaaGreat
/-
  What bytes' comparison and package value's functions do: for every value the call returns, and writes nothing that was there.
-/
namespace Go.Proofs.YtfhdodopjgfedaaGreat
open Go.RowKit

theorem kind_w (k : Int) (ad : Option Addr) (len cap n : Nat) (w : World) :
    Calls Tryz.prog 218 #[.agg #[.int .i64 k, .slice ad len cap, .float .f64 n]] w fun e w' => e = .returned (.int .i64 (kd k)) ∧ Moves [] w w' := by
  rcases kd_cases k with ⟨rfl, e⟩ | ⟨rfl, e⟩ | ⟨h1, h2, e⟩
  · rw [e]
    go_enter Tryz.func218, Tryz.ntmps218
    go_wp2
    go_ret
    exact ⟨rfl, (Moves.refl _ _).alloc _⟩
  · rw [e]
    go_enter Tryz.func218, Tryz.ntmps218
    go_wp2
    go_ret
    exact ⟨rfl, (Moves.refl _ _).alloc _⟩
  · rw [e]
    have t1 : (k == 1) = false := by simpa using h1
    have t2 : (k == 2) = false := by simpa using h2
    go_enter Tryz.func218, Tryz.ntmps218
    go_wp2
    go_ret
    exact ⟨rfl, (Moves.refl _ _).alloc _⟩

end Go.Proofs.YtfhdodopjgfedaaGreat
/-
  What package value's Order and Same do: for every two values the call returns their order, and writes nothing that was there.
-/
namespace Go.Proofs.YtfhdodopjgfedaaGreat
open Go.RowKit

/-- Two boxes that a call laid. -/
theorem boxes {w w' : World} {A B : Array Value} {t u : TypeId} (m : Moves [] ((w.alloc (.cells A t)).alloc (.cells B u)) w') :
    w'.heap[w.heap.size]? = some (.cells A t (0, 0)) ∧ w'.heap[w.heap.size + 1]? = some (.cells B u (0, 0)) ∧ Moves [] w w' := by
  refine ⟨m.at ?_ (by simp), m.at ?_ (by simp), ((((Moves.refl [] w).alloc _).alloc _).then m)⟩
  · exact (Below.heap_alloc _ _ _ (by simp)).trans (heap_alloc_new _ _)
  · have e := heap_alloc_new (w.alloc (.cells A t)) (.cells B u)
    have e2 : (w.alloc (.cells A t)).heap.size = w.heap.size + 1 := by simp
    rw [e2] at e
    exact e

end Go.Proofs.YtfhdodopjgfedaaGreat
/-
  What package value's Canon, Plus and Right do: for every value the call returns what the chapter says, and writes nothing that was there.
-/
namespace Go.Proofs.YtfhdodopjgfedaaGreat
open Go.RowKit

@[go_sem] theorem run_store_flt {P : Program} (w : World) (a : Addr) (m : Mode) (k : FloatKind) (b : Nat) : (store a (.float k b) m).run P w = stored P w a (.float k b) m := run_store P w a _ m rfl

theorem Tryz.size30 : (Tryz.prog.info? 30).map (·.size) = some 3 := by kernel_rfl

/-- What a function hands back whose result is a value. -/
theorem ret_val {fn : Func} {p : Tmp} (h : fn.results = #[.cell p 30]) (tmps : Array Value) (w : World) (g : Nat) (x y z : Value) (hp : tmps.getD p undef = .pointer (some ⟨g, 0, none⟩)) (hg : w.heap[g]? = some (.cells #[x, y, z] 30 (0, 0))) :
    (results fn tmps).run Tryz.prog w = .ok (.agg #[x, y, z]) w :=
  results_cell_row h tmps w g 30 _ (0, 0) _ hp hg Tryz.underlying30 rfl Tryz.size30

theorem vtext_w (ad : Option Addr) (len cap : Nat) (w : World) :
    Calls Tryz.prog 208 #[.slice ad len cap] w fun e w' => e = .returned (.agg #[.int .i64 1, .slice ad len cap, .float .f64 0]) ∧ Moves [] w w' := by
  go_enter Tryz.func208, Tryz.ntmps208
  go_wp2
  try simp only [Exit.inBlock, Exit.then]
  exact bodyPost_ret (ret_val rfl _ _ _ _ _ _ rfl (heap_alloc_new _ _)) rfl ⟨rfl, (Moves.refl _ _).alloc _⟩

theorem vnumber_w (n : Nat) (w : World) :
    Calls Tryz.prog 209 #[.float .f64 n] w fun e w' => e = .returned (.agg #[.int .i64 2, .slice none 0 0, .float .f64 n]) ∧ Moves [] w w' := by
  go_enter Tryz.func209, Tryz.ntmps209
  go_wp2
  try simp only [Exit.inBlock, Exit.then]
  exact bodyPost_ret (ret_val rfl _ _ _ _ _ _ rfl (heap_alloc_new _ _)) rfl ⟨rfl, (Moves.refl _ _).alloc _⟩

end Go.Proofs.YtfhdodopjgfedaaGreat
/-
  What package value's Plus and Right do: for every value the call returns what the chapter says, and writes nothing that was there.
-/
namespace Go.Proofs.YtfhdodopjgfedaaGreat
open Go.RowKit

/-- What Right tells. -/
def vright (a : Vm) : Bool := (a.kind == 1 && decide (a.bs.length ≤ 16)) || a.kind == 2

theorem vRight_w (a : Vm) (w : World) (ha : a.In w) :
    Calls Tryz.prog 159 #[a.val] w fun e w' => e = .returned (.bool (vright a)) ∧ Moves [] w w' := by
  obtain ⟨k, bv, g, bs, n⟩ := a
  obtain ⟨ha1, ha2, ha3⟩ := ha
  simp only at ha1 ha2 ha3
  obtain ⟨ad, len, cap, rfl, hl, _⟩ := ha1
  simp only [vright, Vm.val]
  rw [hl]
  rcases kd_cases k with ⟨rfl, e⟩ | ⟨rfl, e⟩ | ⟨h1, h2, e⟩
  · clear e
    by_cases h : len ≤ 16
    · have h' : (len : Int) ≤ 16 := by omega
      have e : ((1 : Int) == 1 && decide (len ≤ 16) || (1 : Int) == 2) = true := by simp [h]
      rw [e]
      go_enter Tryz.func159, Tryz.ntmps159
      go_wp2
      go_ret
      exact ⟨rfl, (Moves.refl _ _).alloc _⟩
    · have h' : ¬ (len : Int) ≤ 16 := by omega
      have e : ((1 : Int) == 1 && decide (len ≤ 16) || (1 : Int) == 2) = false := by simp [h]
      rw [e]
      go_enter Tryz.func159, Tryz.ntmps159
      go_wp2
      go_ret
      exact ⟨rfl, (Moves.refl _ _).alloc _⟩
  · have e' : ((2 : Int) == 1 && decide (len ≤ 16) || (2 : Int) == 2) = true := by simp
    rw [e']
    go_enter Tryz.func159, Tryz.ntmps159
    go_wp2
    go_ret
    exact ⟨rfl, (Moves.refl _ _).alloc _⟩
  · have t1 : (k == 1) = false := by simpa using h1
    have t2 : (k == 2) = false := by simpa using h2
    have e' : (k == 1 && decide (len ≤ 16) || k == 2) = false := by simp [t1, t2]
    rw [e']
    clear e e' h1 h2
    go_enter Tryz.func159, Tryz.ntmps159
    go_wp2
    go_ret
    exact ⟨rfl, (Moves.refl _ _).alloc _⟩
end Go.Proofs.YtfhdodopjgfedaaGreat
/-
  What the drawn value and the law's own 'known' do: the call returns a value that may be, or true, and writes nothing that was there.
-/
namespace Go.Proofs.YtfhdodopjgfedaaGreat
open Go.RowKit

end Go.Proofs.YtfhdodopjgfedaaGreat
/-
  The contracts of values once more, told of by an elder world that the running one has grown out of.
-/
namespace Go.Proofs.YtfhdodopjgfedaaGreat
open Go.RowKit

/-- That value stands for A, in W's memory. -/
structure VIs (W : World) (v : Value) (A : Vm) : Prop where
  val : v = A.val
  isIn : A.In W

theorem right_b (W w : World) (va : Value) (A : Vm) (ha : VIs W va A) (m : Moves [] W w) :
    Calls Tryz.prog 159 #[va] w fun e w' => e = .returned (.bool (vright A)) ∧ Moves [] W w' := by
  obtain ⟨rfl, ha⟩ := ha
  exact (vRight_w A w (ha.moves m (by simp))).mono fun e w' h => ⟨h.1, m.then h.2⟩
end Go.Proofs.YtfhdodopjgfedaaGreat
