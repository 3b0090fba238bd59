/- ours -/
import Derived.Test.YtilbbnmhnacnlaaGreatCB12
import Derived.Lib.BytesEntry
import Derived.Laws.Externs
import Derived.Laws.ResultCell
import Derived.Deep.RegionHeld3
import Derived.Orders
import Derived.Laws.Tables
import Derived.Deep.Slices
import Derived.Deep.Fields
import Derived.Test.YtilbbnmhnacnlaaGreatCB04
/-
  What 'rest' does where the next thing cannot be read: it marks the document's Reader as bad.
-/
namespace Go.Proofs.YtilbbnmhnacnlaaGreat
open Go.RowKit

theorem read_any (F : Nat) (cap : Array Value) (v : Value) (g : Nat) (bs : List Nat) (w : World) (hv : IsB w g v bs) (hg : g ≠ w.heap.size) (Q1 Q2 : List Nat → World → Prop)
    (hcf : ∀ (args : Array Value) (w : World), (callFunc F args).run Tryz.prog w = .ok (.enter F args) w)
    (hf : ∀ w1, Begun w1 w.heap.size g bs false → Moves [] w w1 → Calls Tryz.prog F (#[.pointer (some ⟨w.heap.size, 0, none⟩)] ++ cap) w1 fun e w2 =>
      (e = .returned (.tuple #[]) ∧ ∃ bs', Begun w2 w.heap.size g bs' false ∧ Q1 bs' w2) ∨ (e = .panicked (stop w.heap.size) ∧ ∃ bs', Begun w2 w.heap.size g bs' true ∧ Q2 bs' w2)) :
    Calls Tryz.prog 103 #[v, .func (.func F) #[] cap] w fun e w' => (∃ bs', e = .returned (.bool ((bs'.length : Int) == 0)) ∧ ∃ w2, Q1 bs' w2 ∧ Moves [w.heap.size] w2 w') ∨ (e = .returned (.bool false) ∧ ∃ bs' w2, Q2 bs' w2 ∧ Moves [w.heap.size] w2 w') := by
  have hmf : ∀ (fn : Fn) (first cap : Array Value) (w : World), (Instr.makeFunc fn first cap).run Tryz.prog w = .ok (.func fn first cap) w := fun _ _ _ _ => rfl
  have hne : ∀ w : World, (binOp .eql 178 (.func (.func F) #[] cap) .nilFunc).run Tryz.prog w = .ok (.bool false) w := by intro w; kernel_rfl
  obtain ⟨hb1, hm1⟩ := begun hv hg
  obtain ⟨ad, n, c, rfl, hn, _⟩ := hv
  go_enter_defers Tryz.func103, Tryz.ntmps103
  go_wp2_with fail
  refine (hf _ hb1 hm1).mono ?_
  clear hf hb1 hm1
  rintro _ w2 (⟨rfl, bs', ⟨hr2, hq2⟩, hQ2⟩ | ⟨rfl, bs', ⟨hr2, hq2⟩, hQ2⟩)
  · have hr2' := hr2
    obtain ⟨v2, hp2, hv2, hg2⟩ := hr2'
    obtain ⟨e0, e1, e2, ef0, ef1, ef2⟩ := three_cells hp2
    have cq := cell_of_one hq2
    go_wp2_with (go_at_call 134; refine (rleft_w _ g bs' false _ hr2).mono ?_; rintro _ _ ⟨rfl, rfl⟩)
    refine leaves_cons (f := 131) (args := #[.pointer (some ⟨w.heap.size + 1, 0, none⟩)]) (by simp) (by simp [go_sem]) ?_
    refine (caught_idle w.heap.size (w.heap.size + 1) _ hr2.rdAt hq2).mono ?_
    rintro e u' w3 ⟨rfl, rfl, m3⟩
    exact ⟨_, results_tmp rfl _ _ _, .inl ⟨bs', rfl, w2, hQ2, m3⟩⟩
  · go_wp2_with fail
    refine leaves_cons (f := 131) (args := #[.pointer (some ⟨w.heap.size + 1, 0, none⟩)]) (by simp) (by simp [go_sem]) ?_
    refine (caught_stop w.heap.size (w.heap.size + 1) _ hr2.rdAt hq2 (by omega)).mono ?_
    rintro e u' w3 ⟨rfl, rfl, m3⟩
    simp only [settle]
    exact ⟨_, results_tmp rfl _ _ _, .inr ⟨rfl, bs', w2, hQ2, m3⟩⟩

end Go.Proofs.YtilbbnmhnacnlaaGreat
/-
  Values as plain data: their order, by Kind, bytes and number; what it is an order by. Plain facts, no program in sight.
-/
namespace Go.Proofs.YtilbbnmhnacnlaaGreat
open Go.RowKit

def kd (k : Int) : Int := if k = 1 ∨ k = 2 then k else 0
theorem kd_cases (k : Int) : (k = 1 ∧ kd k = 1) ∨ (k = 2 ∧ kd k = 2) ∨ (k ≠ 1 ∧ k ≠ 2 ∧ kd k = 0) := by
  unfold kd
  by_cases h1 : k = 1
  · exact .inl ⟨h1, by simp [h1]⟩
  by_cases h2 : k = 2
  · exact .inr (.inl ⟨h2, by simp [h2]⟩)
  · exact .inr (.inr ⟨h1, h2, by simp [h1, h2]⟩)

structure Vm where
  kind : Int
  bv : Value
  g : Nat
  bs : List Nat
  n : Nat

def Vm.val (a : Vm) : Value := .agg #[.int .i64 a.kind, a.bv, .float .f64 a.n]

structure Vm.In (w : World) (a : Vm) : Prop where
  isB : IsB w a.g a.bv a.bs
  fits : Pl.Fits a.n
  oct : ∀ z ∈ a.bs, z < 256

theorem Vm.In.moves {w w' : World} {a : Vm} {S : List Nat} (h : a.In w) (m : Moves S w w') (hg : a.g ∉ S) : a.In w' := ⟨h.isB.moves m hg, h.fits, h.oct⟩

end Go.Proofs.YtilbbnmhnacnlaaGreat
/-
  What bytes' comparison and package value's functions do: for every value the call returns, and writes nothing that was there.
-/
namespace Go.Proofs.YtilbbnmhnacnlaaGreat
open Go.RowKit

theorem kind_w (k : Int) (ad : Option Addr) (len cap n : Nat) (w : World) :
    Calls Tryz.prog 218 #[.agg #[.int .i64 k, .slice ad len cap, .float .f64 n]] w fun e w' => e = .returned (.int .i64 (kd k)) ∧ Moves [] w w' := by
  rcases kd_cases k with ⟨rfl, e⟩ | ⟨rfl, e⟩ | ⟨h1, h2, e⟩
  · rw [e]
    go_enter Tryz.func218, Tryz.ntmps218
    go_wp2
    go_ret
    exact ⟨rfl, (Moves.refl _ _).alloc _⟩
  · rw [e]
    go_enter Tryz.func218, Tryz.ntmps218
    go_wp2
    go_ret
    exact ⟨rfl, (Moves.refl _ _).alloc _⟩
  · rw [e]
    have t1 : (k == 1) = false := by simpa using h1
    have t2 : (k == 2) = false := by simpa using h2
    go_enter Tryz.func218, Tryz.ntmps218
    go_wp2
    go_ret
    exact ⟨rfl, (Moves.refl _ _).alloc _⟩

end Go.Proofs.YtilbbnmhnacnlaaGreat
/-
  What package value's Order and Same do: for every two values the call returns their order, and writes nothing that was there.
-/
namespace Go.Proofs.YtilbbnmhnacnlaaGreat
open Go.RowKit

theorem boxes {w w' : World} {A B : Array Value} {t u : TypeId} (m : Moves [] ((w.alloc (.cells A t)).alloc (.cells B u)) w') :
    w'.heap[w.heap.size]? = some (.cells A t (0, 0)) ∧ w'.heap[w.heap.size + 1]? = some (.cells B u (0, 0)) ∧ Moves [] w w' := by
  refine ⟨m.at ?_ (by simp), m.at ?_ (by simp), ((((Moves.refl [] w).alloc _).alloc _).then m)⟩
  · exact (Below.heap_alloc _ _ _ (by simp)).trans (heap_alloc_new _ _)
  · have e := heap_alloc_new (w.alloc (.cells A t)) (.cells B u)
    have e2 : (w.alloc (.cells A t)).heap.size = w.heap.size + 1 := by simp
    rw [e2] at e
    exact e

end Go.Proofs.YtilbbnmhnacnlaaGreat
/-
  What package value's Canon, Plus and Right do: for every value the call returns what the chapter says, and writes nothing that was there.
-/
namespace Go.Proofs.YtilbbnmhnacnlaaGreat
open Go.RowKit

@[go_sem] theorem run_store_flt {P : Program} (w : World) (a : Addr) (m : Mode) (k : FloatKind) (b : Nat) : (store a (.float k b) m).run P w = stored P w a (.float k b) m := run_store P w a _ m rfl

theorem Tryz.size30 : (Tryz.prog.info? 30).map (·.size) = some 3 := by kernel_rfl

theorem ret_val {fn : Func} {p : Tmp} (h : fn.results = #[.cell p 30]) (tmps : Array Value) (w : World) (g : Nat) (x y z : Value) (hp : tmps.getD p undef = .pointer (some ⟨g, 0, none⟩)) (hg : w.heap[g]? = some (.cells #[x, y, z] 30 (0, 0))) :
    (results fn tmps).run Tryz.prog w = .ok (.agg #[x, y, z]) w :=
  results_cell_row h tmps w g 30 _ (0, 0) _ hp hg Tryz.underlying30 rfl Tryz.size30

theorem vtext_w (ad : Option Addr) (len cap : Nat) (w : World) :
    Calls Tryz.prog 208 #[.slice ad len cap] w fun e w' => e = .returned (.agg #[.int .i64 1, .slice ad len cap, .float .f64 0]) ∧ Moves [] w w' := by
  go_enter Tryz.func208, Tryz.ntmps208
  go_wp2
  try simp only [Exit.inBlock, Exit.then]
  exact bodyPost_ret (ret_val rfl _ _ _ _ _ _ rfl (heap_alloc_new _ _)) rfl ⟨rfl, (Moves.refl _ _).alloc _⟩

theorem vnumber_w (n : Nat) (w : World) :
    Calls Tryz.prog 209 #[.float .f64 n] w fun e w' => e = .returned (.agg #[.int .i64 2, .slice none 0 0, .float .f64 n]) ∧ Moves [] w w' := by
  go_enter Tryz.func209, Tryz.ntmps209
  go_wp2
  try simp only [Exit.inBlock, Exit.then]
  exact bodyPost_ret (ret_val rfl _ _ _ _ _ _ rfl (heap_alloc_new _ _)) rfl ⟨rfl, (Moves.refl _ _).alloc _⟩

end Go.Proofs.YtilbbnmhnacnlaaGreat
/-
  What package value's Plus and Right do: for every value the call returns what the chapter says, and writes nothing that was there.
-/
namespace Go.Proofs.YtilbbnmhnacnlaaGreat
open Go.RowKit

def vright (a : Vm) : Bool := (a.kind == 1 && decide (a.bs.length ≤ 16)) || a.kind == 2

theorem vRight_w (a : Vm) (w : World) (ha : a.In w) :
    Calls Tryz.prog 159 #[a.val] w fun e w' => e = .returned (.bool (vright a)) ∧ Moves [] w w' := by
  obtain ⟨k, bv, g, bs, n⟩ := a
  obtain ⟨ha1, ha2, ha3⟩ := ha
  simp only at ha1 ha2 ha3
  obtain ⟨ad, len, cap, rfl, hl, _⟩ := ha1
  simp only [vright, Vm.val]
  rw [hl]
  rcases kd_cases k with ⟨rfl, e⟩ | ⟨rfl, e⟩ | ⟨h1, h2, e⟩
  · clear e
    by_cases h : len ≤ 16
    · have h' : (len : Int) ≤ 16 := by omega
      have e : ((1 : Int) == 1 && decide (len ≤ 16) || (1 : Int) == 2) = true := by simp [h]
      rw [e]
      go_enter Tryz.func159, Tryz.ntmps159
      go_wp2
      go_ret
      exact ⟨rfl, (Moves.refl _ _).alloc _⟩
    · have h' : ¬ (len : Int) ≤ 16 := by omega
      have e : ((1 : Int) == 1 && decide (len ≤ 16) || (1 : Int) == 2) = false := by simp [h]
      rw [e]
      go_enter Tryz.func159, Tryz.ntmps159
      go_wp2
      go_ret
      exact ⟨rfl, (Moves.refl _ _).alloc _⟩
  · have e' : ((2 : Int) == 1 && decide (len ≤ 16) || (2 : Int) == 2) = true := by simp
    rw [e']
    go_enter Tryz.func159, Tryz.ntmps159
    go_wp2
    go_ret
    exact ⟨rfl, (Moves.refl _ _).alloc _⟩
  · have t1 : (k == 1) = false := by simpa using h1
    have t2 : (k == 2) = false := by simpa using h2
    have e' : (k == 1 && decide (len ≤ 16) || k == 2) = false := by simp [t1, t2]
    rw [e']
    clear e e' h1 h2
    go_enter Tryz.func159, Tryz.ntmps159
    go_wp2
    go_ret
    exact ⟨rfl, (Moves.refl _ _).alloc _⟩
end Go.Proofs.YtilbbnmhnacnlaaGreat
/-
  What the drawn value and the law's own 'known' do: the call returns a value that may be, or true, and writes nothing that was there.
-/
namespace Go.Proofs.YtilbbnmhnacnlaaGreat
open Go.RowKit

end Go.Proofs.YtilbbnmhnacnlaaGreat
/-
  The contracts of values once more, told of by an elder world that the running one has grown out of.
-/
namespace Go.Proofs.YtilbbnmhnacnlaaGreat
open Go.RowKit

structure VIs (W : World) (v : Value) (A : Vm) : Prop where
  val : v = A.val
  isIn : A.In W

theorem right_b (W w : World) (va : Value) (A : Vm) (ha : VIs W va A) (m : Moves [] W w) :
    Calls Tryz.prog 159 #[va] w fun e w' => e = .returned (.bool (vright A)) ∧ Moves [] W w' := by
  obtain ⟨rfl, ha⟩ := ha
  exact (vRight_w A w (ha.moves m (by simp))).mono fun e w' h => ⟨h.1, m.then h.2⟩
end Go.Proofs.YtilbbnmhnacnlaaGreat
/-
  A region that draws its order, by one condition that every operation keeps, whichever comes up: plain laws over the guide's own, no program in sight.
-/
namespace Go.Proofs.YtilbbnmhnacnlaaGreat
open Go.RowKit

theorem ready_un {ops : Array Oper} {l : Array Bool} {i : Nat} (h : i ∈ Region.ready .any ops l) : l[i]? = some false := by
  have h1 := (mem_ready.1 h).1
  rw [Array.getD_eq_getD_getElem?] at h1
  cases hq : l[i]? with
  | none => rw [hq] at h1; simp at h1
  | some b => rw [hq] at h1; simp at h1; rw [h1]

def up (l : Array Bool) (i : Nat) : Prop := l[i]? = some true
def follows_ok (ops : Array Oper) : Bool := (List.range ops.size).all fun i => ((ops[i]?).map fun o => o.after.all fun e => !Region.binds .any e || decide (e.on < i)).getD false

theorem all_up {ops : Array Oper} {l : Array Bool} (hok : follows_ok ops = true) (hl : l.size = ops.size) (hr : Region.ready .any ops l = []) : ∀ i, i < ops.size → up l i := by
  intro i
  induction i using Nat.strongRecOn with
  | _ i ih =>
    intro hi
    unfold up
    have hlt : i < l.size := by omega
    rw [Array.getElem?_eq_getElem hlt]
    cases hq : l[i] with
    | true => rfl
    | false =>
      exfalso
      have h1 := List.all_eq_true.1 hok i (List.mem_range.2 hi)
      obtain ⟨o, ho⟩ : ∃ o, ops[i]? = some o := ⟨ops[i], Array.getElem?_eq_getElem hi⟩
      rw [ho] at h1
      simp only [Option.map_some, Option.getD_some] at h1
      have : i ∈ Region.ready .any ops l := by
        refine mem_ready.2 ⟨by rw [Array.getD_eq_getD_getElem?, Array.getElem?_eq_getElem hlt, hq]; rfl, o, ho, fun e he hbd => ?_⟩
        have h2 := Array.all_eq_true_iff_forall_mem.1 h1 e he
        rw [hbd, Bool.not_true, Bool.false_or] at h2
        have h3 := of_decide_eq_true h2
        have h4 := ih e.on h3 (by omega)
        unfold up at h4
        rw [Array.getD_eq_getD_getElem?, h4]
        rfl
      rw [hr] at this
      simp at this

section
variable {P : Program} {ops : Array Oper} {Q : Exit → Act → World → Prop} {a0 : Act} {W : World} {n : Nat} {L C D : Nat → Nat} {T : TypeId} {Z : Array Value} {src : Nat → Value} {Res : Nat → Value → Array Value → Prop}

end
end Go.Proofs.YtilbbnmhnacnlaaGreat
/-
  The operations of 'x1, .., xn := f1(y1), .., fn(yn)' over boxed values, each by what it does to a state and a world.
-/
namespace Go.Proofs.YtilbbnmhnacnlaaGreat
open Go.RowKit

theorem wpOp_of_wp {P : Program} {ops : Array Oper} {Q : Exit → Act → World → Prop} {i : Nat} {o : Oper} {a : Act} {w : World} {K : Act → World → Prop} (hi : ops[i]? = some o) (hg : o.guard = none) (h : o.wp P a w K Q) : wpOp P ops Q i K a w := by
  unfold wpOp
  simp only [hi]
  rw [if_pos (by simp [Region.wanted, hg])]
  exact .inl h

end Go.Proofs.YtilbbnmhnacnlaaGreat
/-
  Arguments opened: a value, and a value as it is drawn, as the rows' reading finds them in memory.
-/
namespace Go.Proofs.YtilbbnmhnacnlaaGreat
open Go.RowKit
open Go.ChangeShapes Go.WideShapes

theorem bool_of_trod {H : Type} {enc : TypeId × Value → H} {W : World} {base : Nat} {spare : Nat → Bool} {held : Bool} {fuel : Nat} {v : Value} {x : DataW H × List MemPlace}
    (h : DataW.trod enc Tryz.prog W base spare held fuel 4 [v] = some x) : ∃ b : Bool, v = .bool b := by
  cases fuel with
  | zero => simp [DataW.trod] at h
  | succ n =>
    simp only [DataW.trod, Tryz.underlying4] at h
    cases v <;> simp at h
    rename_i b
    exact ⟨b, rfl⟩

end Go.Proofs.YtilbbnmhnacnlaaGreat
/-
  What several statements share: drawn values in boxes of their own.
-/
namespace Go.Proofs.YtilbbnmhnacnlaaGreat
open Go.RowKit

end Go.Proofs.YtilbbnmhnacnlaaGreat
/-
  What package value's Put does: it writes a value's bytes as the chapter gives them, behind what was written, and nothing else.
-/
namespace Go.Proofs.YtilbbnmhnacnlaaGreat
open Go.RowKit

def venc (A : Vm) : List Nat := if kd A.kind = 1 then [1] ++ be 4 A.bs.length ++ A.bs else if kd A.kind = 2 then [2] ++ be 8 (Pl.canon A.n) else [0]
theorem venc_text {A : Vm} (h : kd A.kind = 1) : venc A = [1] ++ be 4 A.bs.length ++ A.bs := by simp [venc, h]
theorem venc_num {A : Vm} (h : kd A.kind = 2) : venc A = [2] ++ be 8 (Pl.canon A.n) := by simp [venc, h]
theorem venc_other {A : Vm} (h : kd A.kind = 0) : venc A = [0] := by simp [venc, h]
theorem Wrote.after {w w1 w2 : World} {p : Nat} {a a2 : Option Nat} {bs : List Nat} (m : Moves [] w w1) (h : Wrote w1 p a w2 a2 bs) : Wrote w p a w2 a2 bs := by
  obtain ⟨h1, h2, h3⟩ := h
  refine ⟨h1, (m.mono (by simp)).then h2, ?_⟩
  rcases h3 with h3 | ⟨k, h4, h5⟩
  · exact .inl h3
  · exact .inr ⟨k, h4, Nat.le_trans m.size h5⟩

theorem Wr.new {w : World} {p : Nat} {a : Option Nat} {bs : List Nat} (h : Wr w p a bs) : w.heap.size ∉ p :: a.toList := by
  intro hx
  rcases List.mem_cons.1 hx with hx | hx
  · have := h.ltp; omega
  · have := h.lt (k := w.heap.size) (by cases a <;> simp_all)
    omega

theorem pick3 {w w2 w3 : World} {p g : Nat} {a a3 : Option Nat} {v : Value} {cs es : List Nat} (hB : IsB w g v cs) (hg : g ∉ p :: a.toList) (M : Moves [] w w2) (hw : Wrote w2 p a w3 a3 es) (hB3 : IsB w3 g v cs) : ∃ g', g' ∉ p :: a3.toList ∧ IsB w3 g' v cs := by
  refine hB3.pick _ (fun hne hx => ?_)
  have hlt := hB.lt hne
  rcases List.mem_cons.1 hx with hx | hx
  · exact hg (by simp [hx])
  · rcases hw.2.2 with e | ⟨k, e, hk⟩
    · rw [e] at hx; exact hg (by simp [hx])
    · rw [e] at hx
      simp at hx
      have := M.size
      omega

set_option maxHeartbeats 2000000 in
theorem vPut_w (p : Nat) (a : Option Nat) (bs : List Nat) (A : Vm) (w : World) (h : Wr w p a bs) (hb : bs.length + 2000010 ≤ 1099511627776) (ha : A.In w) (hl : A.bs.length ≤ 1048576) (hg : A.bs ≠ [] → A.g ∉ p :: a.toList) :
    Calls Tryz.prog 213 #[.pointer (some ⟨p, 0, none⟩), A.val] w fun e w' => e = .returned (.tuple #[]) ∧ ∃ a', Wrote w p a w' a' (bs ++ venc A) := by
  have hnew := h.new
  obtain ⟨g', hg', hB⟩ := ha.isB.pick (p :: a.toList) hg
  have hf := ha.fits
  obtain ⟨k, bv, g, cs, n⟩ := A
  simp only at hB hf hl
  have hB0 := hB
  obtain ⟨ad, len, cap, rfl, hlen, _⟩ := hB
  simp only [Vm.val]
  have hb1 : bs.length + 1 ≤ 1099511627776 := by omega
  have hA : ∀ w1, Moves [] (w.alloc (.cells #[.int .i64 k, .slice ad len cap, .float .f64 n] 30)) w1 → w1.heap[w.heap.size]? = some (.cells #[.int .i64 k, .slice ad len cap, .float .f64 n] 30 (0, 0)) ∧ Moves [] w w1 := fun w1 m => ⟨m.at (heap_alloc_new _ _) (by simp), ((Moves.refl [] w).alloc _).then m⟩
  obtain ⟨E, hE⟩ : ∃ E, bs ++ venc ⟨k, .slice ad len cap, g, cs, n⟩ = E := ⟨_, rfl⟩
  rw [hE]
  clear ha hg
  rcases kd_cases k with ⟨z, e⟩ | ⟨z, e⟩ | ⟨z1, z2, e⟩
  · rw [venc_text (by exact e)] at hE
    have HE : Hid (bs ++ ([1] ++ be 4 cs.length ++ cs) = E) := hE
    have hbT : (bs ++ [1]).length + 2000000 ≤ 1099511627776 := by rw [List.length_append, List.length_singleton]; omega
    subst z
    have HK : Hid (kd 1 = 1) := e
    clear e hE
    go_enter Tryz.func213, Tryz.ntmps213
    go_wp2_with (first | (go_at_call 218; refine (kind_w _ _ _ _ _ _).mono ?_; rintro _ w2 ⟨rfl, m2⟩; rw [HK.out]; obtain ⟨q2, M2⟩ := hA w2 m2) | (go_at_call 180; refine (wbyte_w _ a bs 1 _ rfl _ (h.moves M2 (by simp) (by simp)) hb1).mono ?_; rintro _ w3 ⟨rfl, a3, hw3⟩; have q3 := hw3.2.1.at q2 hnew; obtain ⟨c0, c1, c2, _, _, _⟩ := three_cells q3; have hB3 := (hB0.moves M2 (by simp)).moves hw3.2.1 hg') | (go_at_call 181; obtain ⟨g3, hg3, hB4⟩ := pick3 hB0 hg' M2 hw3 hB3; refine (wtext_any _ a3 (bs ++ [1]) cs g3 _ _ hw3.1 hbT hB4 hl hg3).mono ?_; rintro _ w4 ⟨rfl, a4, hw4⟩))
    go_end0
    refine ⟨rfl, a4, ?_⟩
    have := (hw3.step hw4).after M2
    rw [List.append_assoc, List.append_assoc, ← List.append_assoc [1], HE.out] at this
    exact this
  · rw [venc_num (by exact e)] at hE
    have HE : Hid (bs ++ ([2] ++ be 8 (Pl.canon n)) = E) := hE
    have hbT : (bs ++ [2]).length + 8 ≤ 1099511627776 := by rw [List.length_append, List.length_singleton]; omega
    subst z
    have HK : Hid (kd 2 = 2) := e
    clear e hE
    go_enter Tryz.func213, Tryz.ntmps213
    go_wp2_with (first | (go_at_call 218; refine (kind_w _ _ _ _ _ _).mono ?_; rintro _ w2 ⟨rfl, m2⟩; rw [HK.out]; obtain ⟨q2, M2⟩ := hA w2 m2) | (go_at_call 180; refine (wbyte_w _ a bs 2 _ rfl _ (h.moves M2 (by simp) (by simp)) hb1).mono ?_; rintro _ w3 ⟨rfl, a3, hw3⟩; have q3 := hw3.2.1.at q2 hnew; obtain ⟨c0, c1, c2, _, _, _⟩ := three_cells q3; have hB3 := (hB0.moves M2 (by simp)).moves hw3.2.1 hg') | (go_at_call 219; refine (wfloat_w _ a3 (bs ++ [2]) n _ hw3.1 hbT).mono ?_; rintro _ w4 ⟨rfl, a4, hw4⟩))
    go_end0
    refine ⟨rfl, a4, ?_⟩
    have := (hw3.step hw4).after M2
    rw [List.append_assoc, HE.out] at this
    exact this
  · rw [venc_other (by exact e)] at hE
    have HE : Hid (bs ++ [0] = E) := hE
    have t1 : (k == 1) = false := by simpa using z1
    have t2 : (k == 2) = false := by simpa using z2
    have HK : Hid (kd k = 0) := e
    clear e hE z1 z2
    go_enter Tryz.func213, Tryz.ntmps213
    go_wp2_with (first | (go_at_call 218; refine (kind_w _ _ _ _ _ _).mono ?_; rintro _ w2 ⟨rfl, m2⟩; rw [HK.out]; obtain ⟨q2, M2⟩ := hA w2 m2) | (go_at_call 180; refine (wbyte_w _ a bs 0 _ rfl _ (h.moves M2 (by simp) (by simp)) hb1).mono ?_; rintro _ w3 ⟨rfl, a3, hw3⟩; have q3 := hw3.2.1.at q2 hnew; obtain ⟨c0, c1, c2, _, _, _⟩ := three_cells q3; have hB3 := (hB0.moves M2 (by simp)).moves hw3.2.1 hg'))
    go_end0
    refine ⟨rfl, a3, ?_⟩
    have := hw3.after M2
    rw [HE.out] at this
    exact this
end Go.Proofs.YtilbbnmhnacnlaaGreat
