/- ours -/
import Derived.Test.YtilbbnmhnacnlaaGreatCB04
import Derived.Test.YtilbbnmhnacnlaaGreatCB14
import Derived.Deep.RegionHeld3
namespace Go.Proofs.YtilbbnmhnacnlaaGreat
open Go.RowKit

def pname (s : ByteArray) : Bool := decide (1 ≤ s.size) && decide (s.size ≤ 16)
def ptime (t : Int) : Bool := decide (0 ≤ t) && decide (t ≤ 1099511627776)
def pvr (p : Pv) : Bool := vright (p.vm (.slice none 0 0) 0)
def pcanon (p : Pv) : Pv := ⟨kd p.kind, if kd p.kind = 1 then p.bs else [], if kd p.kind = 2 then Pl.canon p.n else 0⟩
def verGood (xs : List Pver) (k : Nat) : Bool := match xs[k]? with
  | none => false
  | some x => ptime x.t && pvr x.v && (k == 0 || match xs[k - 1]? with | none => false | some y => decide (x.t < y.t))
def prightV (xs : List Pver) : Bool := decide (1 ≤ xs.length) && decide (xs.length ≤ 2) && (List.range xs.length).all (verGood xs)
def nlt (a b : ByteArray) : Bool := Op.bytesLess a.toList b.toList
def colGood (R : List Pcol) (k : Nat) : Bool := match R[k]? with
  | none => false
  | some x => pname x.name && prightV x.l && (k == 0 || match R[k - 1]? with | none => false | some y => nlt y.name x.name)
def pright (R : List Pcol) : Bool := decide (R.length ≤ 4) && (List.range R.length).all (colGood R)
def pcanonV (x : Pver) : Pver := ⟨x.t, pcanon x.v⟩
def pcanonC (c : Pcol) : Pcol := ⟨c.name, c.l.map pcanonV⟩
def pasked (R : List Pcol) : List Pcol := if pright R then R else []
theorem pvr_vm (p : Pv) (bv : Value) (g : Nat) : vright (p.vm bv g) = pvr p := rfl

theorem name_w (s : ByteArray) (w : World) : Calls Tryz.prog 121 #[.string s] w fun e w' => e = .returned (.bool (pname s)) ∧ w = w' := by
  unfold pname
  go_enter Tryz.func121, Tryz.ntmps121
  go_wp2
  · rename_i h
    have h1 : decide (1 ≤ s.size) = true := decide_eq_true (by omega)
    have h2 : decide ((s.size : Int) ≤ 16) = decide (s.size ≤ 16) := by rw [decide_eq_decide]; omega
    go_ret
    exact ⟨by rw [h1, Bool.true_and, ← h2]; rfl, rfl⟩
  · rename_i h
    have h1 : decide (1 ≤ s.size) = false := decide_eq_false (by omega)
    go_ret
    exact ⟨by rw [h1, Bool.false_and]; rfl, rfl⟩
theorem rightTime_w (t : Int) (w : World) : Calls Tryz.prog 211 #[.int .i64 t] w fun e w' => e = .returned (.bool (ptime t)) ∧ w = w' := by
  unfold ptime
  go_enter Tryz.func211, Tryz.ntmps211
  go_wp2
  · rename_i h
    have h1 : decide (0 ≤ t) = true := decide_eq_true h
    go_ret
    exact ⟨by rw [h1, Bool.true_and]; rfl, rfl⟩
  · rename_i h
    have h1 : decide (0 ≤ t) = false := decide_eq_false (by omega)
    go_ret
    exact ⟨by rw [h1, Bool.false_and]; rfl, rfl⟩

theorem right4_w (W w : World) (k : Int) (ad : Option Addr) (len cap n : Nat) (p : Pv) (h : VA W [.int .i64 k, .slice ad len cap, .float .f64 n] p) (m : Moves [] W w) :
    Calls Tryz.prog 159 #[.agg #[.int .i64 k, .slice ad len cap, .float .f64 n]] w fun e w' => e = .returned (.bool (pvr p)) ∧ Moves [] W w' := by
  obtain ⟨g, hV, hl⟩ := h.vis
  refine (right_b W w _ _ hV m).mono ?_
  rintro e w' ⟨rfl, m2⟩
  exact ⟨by rw [pvr_vm], m2⟩
@[go_sem] theorem run_field_row (w : World) (ad : Option Addr) (n cap : Nat) : (Instr.field 97 (.agg #[.slice ad n cap]) 0).run Tryz.prog w = .ok (.slice ad n cap) w := by
  unfold Instr.field
  simp [run_underlying Tryz.underlying97, Sem.run_bind, Result.andThen, asAgg, part, isAgg, run_underlying Tryz.underlying95]
theorem Tryz.size97 : (Tryz.prog.info? 97).map (·.size) = some 1 := by kernel_rfl
theorem ret_row {fn : Func} {p : Tmp} (h : fn.results = #[.cell p 97]) (tmps : Array Value) (w : World) (g : Nat) (x : Value) (hp : tmps.getD p undef = .pointer (some ⟨g, 0, none⟩)) (hg : w.heap[g]? = some (.cells #[x] 97 (0, 0))) :
    (results fn tmps).run Tryz.prog w = .ok (.agg #[x]) w :=
  results_cell_row h tmps w g 97 _ (0, 0) _ hp hg Tryz.underlying97 rfl Tryz.size97
theorem pair_cells {w : World} {p : Nat} {a b : Value} {t : TypeId} (h : w.heap[p]? = some (.cells #[a, b] t (0, 0))) : w.cell? ⟨p, 0, none⟩ = some a ∧ w.cell? ⟨p, 1, none⟩ = some b := by
  simp [World.cell?, h]
theorem quad_cells {w : World} {p : Nat} {a b c d : Value} {t : TypeId} (h : w.heap[p]? = some (.cells #[a, b, c, d] t (0, 0))) : w.cell? ⟨p, 0, none⟩ = some a ∧ w.cell? ⟨p, 1, none⟩ = some b ∧ w.cell? ⟨p, 2, none⟩ = some c ∧ w.cell? ⟨p, 3, none⟩ = some d := by
  simp [World.cell?, h]
theorem GrowV.open {W w : World} {v : Value} {xs : List Pver} (h : GrowV W w v xs) : ∃ ad n cap, v = .slice ad n cap ∧ Hid (n = xs.length) := by
  obtain ⟨ad, cap, rfl, _⟩ := h.slice
  exact ⟨ad, _, cap, rfl, rfl⟩
theorem GrowC.open {W w : World} {v : Value} {xs : List Pcol} (h : GrowC W w v xs) : ∃ ad n cap, v = .slice ad n cap ∧ Hid (n = xs.length) := by
  obtain ⟨ad, cap, rfl, _⟩ := h.slice
  exact ⟨ad, _, cap, rfl, rfl⟩
theorem Grow.neT {α : Type} {EC : World → List Value → α → Prop} {e : TypeId} {size : Nat} {W w : World} {v : Value} {xs : List α} (h : Grow EC e size W w v xs) {p : Nat} {c : Array Value} {t : TypeId} {fz : Nat × Nat} (hp : w.heap[p]? = some (.cells c t fz)) (ht : t ≠ e) : p ∉ v.ownBlock.toList := by
  obtain ⟨_, css, h1, _⟩ := h
  intro hk
  exact h1.ne hp ht (by cases hq : v.ownBlock <;> simp_all)
end Go.Proofs.YtilbbnmhnacnlaaGreat
