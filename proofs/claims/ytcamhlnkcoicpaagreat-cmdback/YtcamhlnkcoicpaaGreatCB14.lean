/-
  Some1, Some2, SsaG, Row0, Row1, Row3, Row4, Row2, Row5, Row6, Row7, Row8, Row9, Row10, Row11: our texts of these names, laid into one.
-/
import Derived.Test.YtcamhlnkcoicpaaGreatCLi0
import Derived.Test.YtcamhlnkcoicpaaGreatCB13
import Derived.Great.BuildSlice
import Derived.Sort.Walk0
import Derived.Deep.RegionHeld3
import Derived.Lib.ConvBytes
import Derived.Test.YtcamhlnkcoicpaaGreatCB11
/-
  The law's own list of values: what the operations of its literal leave, told of a world in which rows of bytes may have been frozen.
-/
namespace Go.Proofs.YtcamhlnkcoicpaaGreat
open Go.RowKit

end Go.Proofs.YtcamhlnkcoicpaaGreat
/-
  The law's own list of values: its literal, whichever order its operations take; then the nine that are drawn.
-/
namespace Go.Proofs.YtcamhlnkcoicpaaGreat
open Go.RowKit

theorem wp_build' {P : Program} {o : Oper} {a : Act} {w : World} {K : Act → World → Prop} {Q : Exit → Act → World → Prop} (t : TypeId) (parts : Array (Nat × Operand)) (ho : o.op = .build t parts) (ps : List (Nat × Value)) (cells : Array Value)
    (hp : (parts.map fun (i, x) => (i, a.eval x)).toList = ps) (hc : P.built t ps = some cells) (h : K (a.put o.dst (.agg cells)) w) : o.wp P a w K Q := by
  have hc' : P.built t (parts.map fun (i, x) => (i, a.eval x)).toList = some cells := by rw [hp]; exact hc
  refine wp_build t parts ho (by rw [hc']; rfl) ?_
  rw [hc']
  exact h
end Go.Proofs.YtcamhlnkcoicpaaGreat
/-
  A drawn region each of whose operations writes a slot of its own, with guards: an operation that its guard lets by leaves its value, one that it does not leaves none. Plain laws, no program in sight.
-/
namespace Go.Proofs.YtcamhlnkcoicpaaGreat
open Go.RowKit

theorem wp_value {P : Program} {o : Oper} {a : Act} {w w' : World} {K : Act → World → Prop} {Q : Exit → Act → World → Prop} {v : Value} (hr : (execOp a.eval o).run P w = .ok (.value v) w') (h : K (a.put o.dst v) w') : o.wp P a w K Q := by
  unfold Oper.wp
  rw [hr]
  exact h
theorem wpOp_val {P : Program} {ops : Array Oper} {Q : Exit → Act → World → Prop} {i : Nat} {o : Oper} {a : Act} {w : World} {K : Act → World → Prop} {v : Value} (hi : ops[i]? = some o) (hg : o.guard = none) (hr : (execOp a.eval o).run P w = .ok (.value v) w) (h : K (a.put o.dst v) w) : wpOp P ops Q i K a w :=
  wpOp_of_wp hi hg (wp_value hr h)
end Go.Proofs.YtcamhlnkcoicpaaGreat
/-
  Rows as plain data, and how they lie in memory: lists of structs whose fields are lists. Plain facts, no program in sight but for the numbers of its types.
-/
namespace Go.Proofs.YtcamhlnkcoicpaaGreat
open Go.RowKit

/-- A value, a version, a column, as plain data. -/
structure Pv where
  kind : Int
  bs : List Nat
  n : Nat
/-- The cells of a value. -/
def VC (w : World) (c : List Value) (p : Pv) : Prop := ∃ ad len cap g, c = [.int .i64 p.kind, .slice ad len cap, .float .f64 p.n] ∧ IsB w g (.slice ad len cap) p.bs ∧ Pl.Fits p.n ∧ (∀ z ∈ p.bs, z < 256) ∧ p.bs.length ≤ 1048576 ∧ U8 w g p.bs
theorem VC.stay {T : TypeId → Prop} {w w' : World} (h : Stay T w w') (hT : T 5) {c : List Value} {p : Pv} (hv : VC w c p) : VC w' c p := by
  obtain ⟨ad, len, cap, g, h1, h2, h3, h4, h6, h5⟩ := hv
  obtain ⟨k1, k2⟩ := h2.stay h hT h5
  exact ⟨ad, len, cap, g, h1, k1, h3, h4, h6, k2⟩

/-- The same, the bytes anywhere. -/
def VA (w : World) (c : List Value) (p : Pv) : Prop := ∃ ad len cap g, c = [.int .i64 p.kind, .slice ad len cap, .float .f64 p.n] ∧ IsB w g (.slice ad len cap) p.bs ∧ Pl.Fits p.n ∧ (∀ z ∈ p.bs, z < 256) ∧ p.bs.length ≤ 1048576
theorem VC.va {w : World} {c : List Value} {p : Pv} (h : VC w c p) : VA w c p := by
  obtain ⟨ad, len, cap, g, h1, h2, h3, h4, h5, _⟩ := h
  exact ⟨ad, len, cap, g, h1, h2, h3, h4, h5⟩
theorem VA.moves {w w' : World} {c : List Value} {p : Pv} (h : VA w c p) (m : Moves [] w w') : VA w' c p := by
  obtain ⟨ad, len, cap, g, h1, h2, h3, h4, h5⟩ := h
  exact ⟨ad, len, cap, g, h1, h2.moves m (by simp), h3, h4, h5⟩

/-- The plain value, and the elder contracts' one. -/
def Pv.vm (p : Pv) (bv : Value) (g : Nat) : Vm := ⟨p.kind, bv, g, p.bs, p.n⟩
theorem VA.vis {w : World} {k : Int} {ad : Option Addr} {len cap n : Nat} {p : Pv} (h : VA w [.int .i64 k, .slice ad len cap, .float .f64 n] p) : ∃ g, VIs w (.agg #[.int .i64 k, .slice ad len cap, .float .f64 n]) (p.vm (.slice ad len cap) g) ∧ p.bs.length ≤ 1048576 := by
  obtain ⟨ad', len', cap', g, h1, h2, h3, h4, h6⟩ := h
  simp at h1
  obtain ⟨rfl, ⟨rfl, rfl, rfl⟩, rfl⟩ := h1
  exact ⟨g, ⟨rfl, ⟨h2, h3, h4⟩⟩, h6⟩

end Go.Proofs.YtcamhlnkcoicpaaGreat
/-
  Rows: what their functions answer, as plain functions of plain data; the contracts of the small ones.
-/
namespace Go.Proofs.YtcamhlnkcoicpaaGreat
open Go.RowKit

def pname (s : ByteArray) : Bool := decide (1 ≤ s.size) && decide (s.size ≤ 16)
def ptime (t : Int) : Bool := decide (0 ≤ t) && decide (t ≤ 1099511627776)
def pvr (p : Pv) : Bool := vright (p.vm (.slice none 0 0) 0)
def pcanon (p : Pv) : Pv := ⟨kd p.kind, if kd p.kind = 1 then p.bs else [], if kd p.kind = 2 then Pl.canon p.n else 0⟩
theorem pvr_vm (p : Pv) (bv : Value) (g : Nat) : vright (p.vm bv g) = pvr p := rfl

theorem name_w (s : ByteArray) (w : World) : Calls Tryz.prog 67 #[.string s] w fun e w' => e = .returned (.bool (pname s)) ∧ w = w' := by
  unfold pname
  go_enter Tryz.func67, Tryz.ntmps67
  go_wp2
  · rename_i h
    have h1 : decide (1 ≤ s.size) = true := decide_eq_true (by omega)
    have h2 : decide ((s.size : Int) ≤ 16) = decide (s.size ≤ 16) := by rw [decide_eq_decide]; omega
    go_ret
    exact ⟨by rw [h1, Bool.true_and, ← h2]; rfl, rfl⟩
  · rename_i h
    have h1 : decide (1 ≤ s.size) = false := decide_eq_false (by omega)
    go_ret
    exact ⟨by rw [h1, Bool.false_and]; rfl, rfl⟩
theorem right4_w (W w : World) (k : Int) (ad : Option Addr) (len cap n : Nat) (p : Pv) (h : VA W [.int .i64 k, .slice ad len cap, .float .f64 n] p) (m : Moves [] W w) :
    Calls Tryz.prog 118 #[.agg #[.int .i64 k, .slice ad len cap, .float .f64 n]] w fun e w' => e = .returned (.bool (pvr p)) ∧ Moves [] W w' := by
  obtain ⟨g, hV, hl⟩ := h.vis
  refine (right_b W w _ _ hV m).mono ?_
  rintro e w' ⟨rfl, m2⟩
  exact ⟨by rw [pvr_vm], m2⟩
@[go_sem] theorem run_field_row (w : World) (ad : Option Addr) (n cap : Nat) : (Instr.field 91 (.agg #[.slice ad n cap]) 0).run Tryz.prog w = .ok (.slice ad n cap) w := by
  unfold Instr.field
  simp [run_underlying Tryz.underlying91, Sem.run_bind, Result.andThen, asAgg, part, isAgg, run_underlying Tryz.underlying89]
theorem Grow.neT {α : Type} {EC : World → List Value → α → Prop} {e : TypeId} {size : Nat} {W w : World} {v : Value} {xs : List α} (h : Grow EC e size W w v xs) {p : Nat} {c : Array Value} {t : TypeId} {fz : Nat × Nat} (hp : w.heap[p]? = some (.cells c t fz)) (ht : t ≠ e) : p ∉ v.ownBlock.toList := by
  obtain ⟨_, css, h1, _⟩ := h
  intro hk
  exact h1.ne hp ht (by cases hq : v.ownBlock <;> simp_all)
end Go.Proofs.YtcamhlnkcoicpaaGreat
/-
  row.rightVersions: for every list of versions the call tells whether it may be, and writes nothing that was there.
-/
namespace Go.Proofs.YtcamhlnkcoicpaaGreat
open Go.RowKit

end Go.Proofs.YtcamhlnkcoicpaaGreat
/-
  row.Right and row.asked: for every row the call tells whether it may be, and writes nothing that was there.
-/
namespace Go.Proofs.YtcamhlnkcoicpaaGreat
open Go.RowKit

end Go.Proofs.YtcamhlnkcoicpaaGreat
/-
  row.Copy: for every row the call returns a row of its own, what the chapter says, and writes nothing that was there.
-/
namespace Go.Proofs.YtcamhlnkcoicpaaGreat
open Go.RowKit

end Go.Proofs.YtcamhlnkcoicpaaGreat
/-
  row's versions, with, put, drop: for every list the call returns what the chapter's words come to, and writes nothing that was there.
-/
namespace Go.Proofs.YtcamhlnkcoicpaaGreat
open Go.RowKit

end Go.Proofs.YtcamhlnkcoicpaaGreat
/-
  row.put: for every list of versions and every version the call returns the list with it at its place, and writes nothing that was there.
-/
namespace Go.Proofs.YtcamhlnkcoicpaaGreat
open Go.RowKit

end Go.Proofs.YtcamhlnkcoicpaaGreat
/-
  row's Put, Drop, DropCol, At, Newest: for every row the call returns what the chapter says, and writes nothing that was there.
-/
namespace Go.Proofs.YtcamhlnkcoicpaaGreat
open Go.RowKit

end Go.Proofs.YtcamhlnkcoicpaaGreat
/-
  row.Put: for every row, name, time and value the call returns what the chapter says, and writes nothing that was there.
-/
namespace Go.Proofs.YtcamhlnkcoicpaaGreat
open Go.RowKit

end Go.Proofs.YtcamhlnkcoicpaaGreat
/-
  Rows as plain data: what follows of what their functions answer.
-/
namespace Go.Proofs.YtcamhlnkcoicpaaGreat
open Go.RowKit

theorem kd_kd (k : Int) : kd (kd k) = kd k := by
  rcases kd_cases k with ⟨_, e⟩ | ⟨_, e⟩ | ⟨_, _, e⟩ <;> rw [e] <;> decide
theorem pvr_canon (p : Pv) : pvr (pcanon p) = pvr p := by
  unfold pvr vright Pv.vm pcanon
  rcases kd_cases p.kind with ⟨h, e⟩ | ⟨h, e⟩ | ⟨h1, h2, e⟩ <;> simp [e] <;> simp_all
/-- The bytes of a text. -/
def sbs (s : ByteArray) : List Nat := s.data.toList.map (·.toNat)
end Go.Proofs.YtcamhlnkcoicpaaGreat
/-
  The law's own text and known: chapter 4's run.
-/
namespace Go.Proofs.YtcamhlnkcoicpaaGreat
open Go.RowKit

theorem sbs_length (s : ByteArray) : (sbs s).length = s.size := by simp [sbs]
theorem sbs_oct (s : ByteArray) : ∀ z ∈ sbs s, z < 256 := by
  intro z hz
  simp only [sbs, List.mem_map] at hz
  obtain ⟨b, _, rfl⟩ := hz
  exact b.toNat_lt
/-- What a piece of code leaves, told by the slots that it may have written: the rest is walked once. -/
theorem wp_some {P : Program} {c : Code} {Q : Exit → Act → World → Prop} {a0 : Act} {w0 : World} (sl : List Nat) (H : (Nat → Value) → World → Prop)
    (h1 : c.wp P (fun e a w => e = .normal ∧ a = { tmps := sl.foldl (fun t s => t.setIfInBounds s (a.tmps.getD s undef)) a0.tmps, defers := a0.defers } ∧ H (fun s => a.tmps.getD s undef) w) a0 w0)
    (h2 : ∀ (u : Nat → Value) w, H u w → Q .normal { tmps := sl.foldl (fun t s => t.setIfInBounds s (u s)) a0.tmps, defers := a0.defers } w) : c.wp P Q a0 w0 :=
  Code.wp_mono (fun e a w ⟨he, ha, hH⟩ => by subst he; rw [ha]; exact h2 _ w hH) h1
end Go.Proofs.YtcamhlnkcoicpaaGreat
/-
  Values held against one another, as plain data; a value that is drawn.
-/
namespace Go.Proofs.YtcamhlnkcoicpaaGreat
open Go.RowKit

def psame (p q : Pv) : Bool := vord (p.vm (.slice none 0 0) 0) (q.vm (.slice none 0 0) 0) == 0
theorem rsame_p (W w : World) (k l : Int) (ad ad' : Option Addr) (n n' cap cap' x y : Nat) (p q : Pv) (ha : VA W [.int .i64 k, .slice ad n cap, .float .f64 x] p) (hb : VA W [.int .i64 l, .slice ad' n' cap', .float .f64 y] q) (m : Moves [] W w) :
    Calls Tryz.prog 136 #[.agg #[.int .i64 k, .slice ad n cap, .float .f64 x], .agg #[.int .i64 l, .slice ad' n' cap', .float .f64 y]] w fun e w' => e = .returned (.bool (psame p q)) ∧ Moves [] w w' := by
  obtain ⟨g, hV, _⟩ := ha.vis
  obtain ⟨g', hV', _⟩ := hb.vis
  refine (rsame_b w w _ _ _ _ (hV.moves m) (hV'.moves m) (Moves.refl _ _)).mono ?_
  rintro e w' ⟨rfl, m2⟩
  exact ⟨rfl, m2⟩

/-- The plain part of a value. -/
def Vm.pv (a : Vm) : Pv := ⟨a.kind, a.bs, a.n⟩
theorem VIs.va {W : World} {A : Vm} {ad : Option Addr} {n cap : Nat} (h : VIs W (.agg #[.int .i64 A.kind, .slice ad n cap, .float .f64 A.n]) A) (hl : A.bs.length ≤ 1048576) : VA W [.int .i64 A.kind, .slice ad n cap, .float .f64 A.n] A.pv := by
  have hv := h.val
  simp [Vm.val] at hv
  refine ⟨ad, n, cap, A.g, rfl, ?_, h.isIn.fits, h.isIn.oct, hl⟩
  rw [hv]
  exact h.isIn.isB
theorem VWays.len16 {A : Vm} (h : VWays A) : A.bs.length ≤ 16 := by
  rcases h with ⟨_, _, h⟩ | ⟨_, h⟩
  · exact h
  · rw [h]; simp
theorem VWays.right {A : Vm} (h : VWays A) : pvr A.pv = true := by
  unfold pvr vright Pv.vm Vm.pv
  rcases h with ⟨h1, _, h2⟩ | ⟨h1, h2⟩
  · simp [h1, h2]
  · simp [h1]

end Go.Proofs.YtcamhlnkcoicpaaGreat
