/-
  Rows: what their functions answer, as plain functions of plain data; the contracts of the small ones.
-/
import Derived.Test.YtdngndkdkbggkaaCRow0
import Derived.Test.YtdngndkdkbggkaaCRf3d
import Derived.Deep.RegionHeld3
namespace Go.Proofs.Ytdngndkdkbggkaa
open Go.RowKit

def pname (s : ByteArray) : Bool := decide (1 ≤ s.size) && decide (s.size ≤ 16)
def ptime (t : Int) : Bool := decide (0 ≤ t) && decide (t ≤ 1099511627776)
def pvr (p : Pv) : Bool := vright (p.vm (.slice none 0 0) 0)
def pcanon (p : Pv) : Pv := ⟨kd p.kind, if kd p.kind = 1 then p.bs else [], if kd p.kind = 2 then Pl.canon p.n else 0⟩
def verGood (xs : List Pver) (k : Nat) : Bool := match xs[k]? with
  | none => false
  | some x => ptime x.t && pvr x.v && (k == 0 || match xs[k - 1]? with | none => false | some y => decide (x.t < y.t))
def prightV (xs : List Pver) : Bool := decide (1 ≤ xs.length) && decide (xs.length ≤ 2) && (List.range xs.length).all (verGood xs)
def nlt (a b : ByteArray) : Bool := Op.bytesLess a.toList b.toList
def neq (a b : ByteArray) : Bool := a.toList == b.toList
def colGood (R : List Pcol) (k : Nat) : Bool := match R[k]? with
  | none => false
  | some x => pname x.name && prightV x.l && (k == 0 || match R[k - 1]? with | none => false | some y => nlt y.name x.name)
def pright (R : List Pcol) : Bool := decide (R.length ≤ 4) && (List.range R.length).all (colGood R)
def pcanonV (x : Pver) : Pver := ⟨x.t, pcanon x.v⟩
def pcanonC (c : Pcol) : Pcol := ⟨c.name, c.l.map pcanonV⟩
def pasked (R : List Pcol) : List Pcol := if pright R then R else []
def pcopy (R : List Pcol) : List Pcol := (pasked R).map pcanonC

theorem pvr_vm (p : Pv) (bv : Value) (g : Nat) : vright (p.vm bv g) = pvr p := rfl

theorem name_w (s : ByteArray) (w : World) : Calls Try.prog 39 #[.string s] w fun e w' => e = .returned (.bool (pname s)) ∧ w = w' := by
  unfold pname
  go_enter Try.func39, Try.ntmps39
  go_wp2
  · rename_i h
    have h1 : decide (1 ≤ s.size) = true := decide_eq_true (by omega)
    have h2 : decide ((s.size : Int) ≤ 16) = decide (s.size ≤ 16) := by rw [decide_eq_decide]; omega
    go_ret
    exact ⟨by rw [h1, Bool.true_and, ← h2]; rfl, rfl⟩
  · rename_i h
    have h1 : decide (1 ≤ s.size) = false := decide_eq_false (by omega)
    go_ret
    exact ⟨by rw [h1, Bool.false_and]; rfl, rfl⟩
theorem rightTime_w (t : Int) (w : World) : Calls Try.prog 78 #[.int .i64 t] w fun e w' => e = .returned (.bool (ptime t)) ∧ w = w' := by
  unfold ptime
  go_enter Try.func78, Try.ntmps78
  go_wp2
  · rename_i h
    have h1 : decide (0 ≤ t) = true := decide_eq_true h
    go_ret
    exact ⟨by rw [h1, Bool.true_and]; rfl, rfl⟩
  · rename_i h
    have h1 : decide (0 ≤ t) = false := decide_eq_false (by omega)
    go_ret
    exact ⟨by rw [h1, Bool.false_and]; rfl, rfl⟩

/-- value.Canon, of a value that lies in a row. -/
theorem canonC_w (W w : World) (k : Int) (ad : Option Addr) (len cap n : Nat) (p : Pv) (h : VA W [.int .i64 k, .slice ad len cap, .float .f64 n] p) (m : Moves [] W w) :
    Calls Try.prog 83 #[.agg #[.int .i64 k, .slice ad len cap, .float .f64 n]] w fun e w' => ∃ ad' len' cap', e = .returned (.agg #[.int .i64 (pcanon p).kind, .slice ad' len' cap', .float .f64 (pcanon p).n]) ∧ VC w' [.int .i64 (pcanon p).kind, .slice ad' len' cap', .float .f64 (pcanon p).n] (pcanon p) ∧ Moves [] w w' ∧ Moves [] W w' := by
  obtain ⟨g, hV, hl⟩ := h.vis
  refine (canon_b W w _ _ hV m (by show p.bs.length ≤ _; omega)).mono ?_
  rintro e w' ⟨c, rfl, hC, hV2, _, m2⟩
  obtain ⟨ad', len', cap', e1, e2⟩ := hV2.open
  have hk : c.kind = (pcanon p).kind := hC.kind
  have hb : c.bs = (pcanon p).bs := hC.bs
  have hn : c.n = (pcanon p).n := hC.n
  refine ⟨ad', len', cap', by rw [← hk, ← hn, e2], ⟨ad', len', cap', c.g, rfl, ?_, ?_, ?_, ?_, ?_⟩, hC.moves, m2⟩
  · rw [← e1, ← hb]; exact hC.isIn.isB
  · rw [← hn]; exact hC.isIn.fits
  · rw [← hb]; exact hC.isIn.oct
  · rw [← hb, hC.bs]
    split
    · exact hl
    · simp
  · rw [← hb]
    have := hC.own
    by_cases hz : c.bs = []
    · exact .inl hz
    · have h0 := this.isB
      have hI := hC.isIn.isB
      rcases this.2 with ⟨_, h1⟩ | ⟨g', cap3, cur, h1, _, h3, _⟩
      · exact absurd (List.eq_nil_of_length_eq_zero h1) hz
      · obtain ⟨ad4, n4, cap4, f1, _, _, _, f5⟩ := hI
        rw [h1] at f1
        simp at f1
        rcases f5 with f5 | ⟨off, f5, _⟩
        · exact absurd f5 hz
        · rw [← f1.1] at f5
          simp at f5
          rw [← f5.1]
          exact .inr ⟨_, _, h3⟩

theorem right4_w (W w : World) (k : Int) (ad : Option Addr) (len cap n : Nat) (p : Pv) (h : VA W [.int .i64 k, .slice ad len cap, .float .f64 n] p) (m : Moves [] W w) :
    Calls Try.prog 79 #[.agg #[.int .i64 k, .slice ad len cap, .float .f64 n]] w fun e w' => e = .returned (.bool (pvr p)) ∧ Moves [] W w' := by
  obtain ⟨g, hV, hl⟩ := h.vis
  refine (right_b W w _ _ hV m).mono ?_
  rintro e w' ⟨rfl, m2⟩
  exact ⟨by rw [pvr_vm], m2⟩
@[go_sem] theorem run_field_row (w : World) (ad : Option Addr) (n cap : Nat) : (Instr.field 26 (.agg #[.slice ad n cap]) 0).run Try.prog w = .ok (.slice ad n cap) w := by
  unfold Instr.field
  simp [run_underlying Try.underlying26, Sem.run_bind, Result.andThen, asAgg, part, isAgg, run_underlying Try.underlying24]
theorem Try.size26 : (Try.prog.info? 26).map (·.size) = some 1 := by kernel_rfl
theorem ret_row {fn : Func} {p : Tmp} (h : fn.results = #[.cell p 26]) (tmps : Array Value) (w : World) (g : Nat) (x : Value) (hp : tmps.getD p undef = .pointer (some ⟨g, 0, none⟩)) (hg : w.heap[g]? = some (.cells #[x] 26 (0, 0))) :
    (results fn tmps).run Try.prog w = .ok (.agg #[x]) w :=
  results_cell_row h tmps w g 26 _ (0, 0) _ hp hg Try.underlying26 rfl Try.size26
theorem one_cell {w : World} {p : Nat} {a : Value} {t : TypeId} (h : w.heap[p]? = some (.cells #[a] t (0, 0))) : w.cell? ⟨p, 0, none⟩ = some a ∧ w.frozen? ⟨p, 0, none⟩ = false := by
  simp [World.cell?, World.frozen?, h]
theorem pair_cells {w : World} {p : Nat} {a b : Value} {t : TypeId} (h : w.heap[p]? = some (.cells #[a, b] t (0, 0))) : w.cell? ⟨p, 0, none⟩ = some a ∧ w.cell? ⟨p, 1, none⟩ = some b := by
  simp [World.cell?, h]
theorem quad_cells {w : World} {p : Nat} {a b c d : Value} {t : TypeId} (h : w.heap[p]? = some (.cells #[a, b, c, d] t (0, 0))) : w.cell? ⟨p, 0, none⟩ = some a ∧ w.cell? ⟨p, 1, none⟩ = some b ∧ w.cell? ⟨p, 2, none⟩ = some c ∧ w.cell? ⟨p, 3, none⟩ = some d := by
  simp [World.cell?, h]
theorem set_one {w : World} {p : Nat} {a : Value} {t : TypeId} (h : w.heap[p]? = some (.cells #[a] t (0, 0))) (u : Value) : (w.setCell ⟨p, 0, none⟩ u).heap[p]? = some (.cells #[u] t (0, 0)) := heap_set (i := 0) h u
theorem take_map {α β : Type} (f : α → β) {l : List α} {j : Nat} {y : α} (h : l[j]? = some y) : (l.take j).map f ++ [f y] = (l.take (j + 1)).map f := by
  rw [List.take_add_one, h]
  simp
/-- A store into a box of a type that no list has. -/
theorem Stay.set {T : TypeId → Prop} {w : World} {p i : Nat} {c : Array Value} {t : TypeId} {fz : Nat × Nat} (h : w.heap[p]? = some (.cells c t fz)) (ht : ¬ T t) (u : Value) : Stay T w (w.setCell ⟨p, i, none⟩ u) :=
  Stay.ofMovesS (moves_set w p i u) (fun k hk c' t' fz' hc => by
    simp at hk
    subst hk
    rw [h] at hc
    simp at hc
    rw [← hc.2.1]
    exact ht)
theorem GrowV.open {W w : World} {v : Value} {xs : List Pver} (h : GrowV W w v xs) : ∃ ad n cap, v = .slice ad n cap ∧ Hid (n = xs.length) := by
  obtain ⟨ad, cap, rfl, _⟩ := h.slice
  exact ⟨ad, _, cap, rfl, rfl⟩
theorem GrowC.open {W w : World} {v : Value} {xs : List Pcol} (h : GrowC W w v xs) : ∃ ad n cap, v = .slice ad n cap ∧ Hid (n = xs.length) := by
  obtain ⟨ad, cap, rfl, _⟩ := h.slice
  exact ⟨ad, _, cap, rfl, rfl⟩
theorem Grow.ne {α : Type} {EC : World → List Value → α → Prop} {e : TypeId} {size : Nat} {W w : World} {v : Value} {xs : List α} (h : Grow EC e size W w v xs) {p : Nat} (hp : w.heap.size ≤ p) : p ∉ v.ownBlock.toList := by
  intro hk
  have := h.lt (k := p) (by cases hq : v.ownBlock <;> simp_all)
  omega
theorem Grow.neT {α : Type} {EC : World → List Value → α → Prop} {e : TypeId} {size : Nat} {W w : World} {v : Value} {xs : List α} (h : Grow EC e size W w v xs) {p : Nat} {c : Array Value} {t : TypeId} {fz : Nat × Nat} (hp : w.heap[p]? = some (.cells c t fz)) (ht : t ≠ e) : p ∉ v.ownBlock.toList := by
  obtain ⟨_, css, h1, _⟩ := h
  intro hk
  exact h1.ne hp ht (by cases hq : v.ownBlock <;> simp_all)
end Go.Proofs.Ytdngndkdkbggkaa
