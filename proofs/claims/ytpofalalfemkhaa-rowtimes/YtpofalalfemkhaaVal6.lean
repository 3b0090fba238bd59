/-
  The contracts of values once more, told of by an elder world that the running one has grown out of.
-/
import Derived.Test.YtpofalalfemkhaaVal5
namespace Go.Proofs.Ytpofalalfemkhaa
open Go.RowKit

/-- That value stands for A, in W's memory. -/
structure VIs (W : World) (v : Value) (A : Vm) : Prop where
  val : v = A.val
  isIn : A.In W

theorem VIs.mk' (W : World) (k : Int) (bv : Value) (g : Nat) (bs : List Nat) (n : Nat) (hb : IsB W g bv bs) (hf : Pl.Fits n) (ho : ∀ z ∈ bs, z < 256) : VIs W (.agg #[.int .i64 k, bv, .float .f64 n]) ⟨k, bv, g, bs, n⟩ := ⟨rfl, ⟨hb, hf, ho⟩⟩
theorem VIs.moves {W W' : World} {v : Value} {A : Vm} (h : VIs W v A) (m : Moves [] W W') : VIs W' v A := ⟨h.val, h.isIn.moves m (by simp)⟩
theorem VIs.open {W : World} {v : Value} {A : Vm} (h : VIs W v A) : ∃ ad len cap, A.bv = .slice ad len cap ∧ v = .agg #[.int .i64 A.kind, .slice ad len cap, .float .f64 A.n] := by
  obtain ⟨ad, len, cap, e, _⟩ := h.isIn.isB
  exact ⟨ad, len, cap, e, by rw [h.val, Vm.val, e]⟩

theorem order_b (W w : World) (va vb : Value) (A B : Vm) (ha : VIs W va A) (hb : VIs W vb B) (m : Moves [] W w) :
    Calls Try.prog 119 #[va, vb] w fun e w' => e = .returned (.int .i64 (vord A B)) ∧ Moves [] W w' := by
  obtain ⟨rfl, ha⟩ := ha
  obtain ⟨rfl, hb⟩ := hb
  exact (vOrder_w A B w (ha.moves m (by simp)) (hb.moves m (by simp))).mono fun e w' h => ⟨h.1, m.then h.2⟩
theorem same_b (W w : World) (va vb : Value) (A B : Vm) (ha : VIs W va A) (hb : VIs W vb B) (m : Moves [] W w) :
    Calls Try.prog 110 #[va, vb] w fun e w' => e = .returned (.bool (vord A B == 0)) ∧ Moves [] W w' := by
  obtain ⟨rfl, ha⟩ := ha
  obtain ⟨rfl, hb⟩ := hb
  exact (vSame_w A B w (ha.moves m (by simp)) (hb.moves m (by simp))).mono fun e w' h => ⟨h.1, m.then h.2⟩
theorem right_b (W w : World) (va : Value) (A : Vm) (ha : VIs W va A) (m : Moves [] W w) :
    Calls Try.prog 46 #[va] w fun e w' => e = .returned (.bool (vright A)) ∧ Moves [] W w' := by
  obtain ⟨rfl, ha⟩ := ha
  exact (vRight_w A w (ha.moves m (by simp))).mono fun e w' h => ⟨h.1, m.then h.2⟩
theorem vord_canoned {w w' : World} {a c : Vm} (h : Canoned w w' a c) : vord a c = 0 := by
  have hk : kd c.kind = kd a.kind := by
    rw [h.kind]
    rcases kd_cases a.kind with ⟨_, e⟩ | ⟨_, e⟩ | ⟨_, _, e⟩ <;> rw [e] <;> decide
  unfold vord
  rw [hk, h.bs, h.n]
  rcases kd_cases a.kind with ⟨_, e⟩ | ⟨_, e⟩ | ⟨_, _, e⟩ <;> rw [e] <;> simp [icmp]
  · exact bcmp_self _
  · unfold Pl.ord Pl.rank
    rw [Pl.canon_canon]
    simp [Pl.cmp]

/-- Canon: what comes is held apart from all that was there. -/
theorem canon_b (W w : World) (va : Value) (A : Vm) (ha : VIs W va A) (m : Moves [] W w) (hl : A.bs.length ≤ 1099511627776) :
    Calls Try.prog 51 #[va] w fun e w' => ∃ c : Vm, e = .returned c.val ∧ Canoned w w' A c ∧ VIs w' c.val c ∧ vord A c = 0 ∧ Moves [] W w' := by
  obtain ⟨rfl, ha⟩ := ha
  exact (vCanon_w A w (ha.moves m (by simp)) hl).mono fun e w' ⟨c, h1, h2⟩ => ⟨c, h1, h2, ⟨rfl, h2.isIn⟩, vord_canoned h2, m.then h2.moves⟩

/-- A value that is drawn, as it is handed in. -/
structure KArg (W : World) (v : Value) : Prop where
  out : ∃ (t : Bool) (n : Int) (x : Nat) (ad : Option Addr) (len cap : Nat) (g : Nat) (bs : List Nat), v = .agg #[.bool t, .int .i64 n, .float .f64 x, .slice ad len cap] ∧ Pl.Fits x ∧ IsB W g (.slice ad len cap) bs ∧ ∀ z ∈ bs, z < 256

/-- What may be drawn. -/
def VWays (a : Vm) : Prop := (a.kind = 1 ∧ a.n = 0 ∧ a.bs.length ≤ 16) ∨ (a.kind = 2 ∧ a.bs = [])
theorem VWays.len {a : Vm} (h : VWays a) : a.bs.length ≤ 1099511627776 := by
  rcases h with ⟨_, _, h⟩ | ⟨_, h⟩
  · omega
  · rw [h]; simp

theorem keep_b' (W w : World) (v : Value) (hv : KArg W v) :
    Calls Try.prog 15 #[v] w fun e w' => ∃ (A : Vm) (ad : Option Addr) (len cap : Nat), e = .returned (.agg #[.int .i64 A.kind, .slice ad len cap, .float .f64 A.n]) ∧ VIs W (.agg #[.int .i64 A.kind, .slice ad len cap, .float .f64 A.n]) A ∧ VWays A ∧ Moves [] w w' := by
  obtain ⟨t, n, x, ad, len, cap, g, bs, rfl, hx, hb, ho⟩ := hv.out
  refine (keepValueAt_w W t n x _ g bs w hx hb ho).mono ?_
  rintro e w' ⟨a, rfl, hd, m'⟩
  have hV : VIs W a.val a := ⟨rfl, hd.isIn⟩
  obtain ⟨ad', len', cap', _, e2⟩ := hV.open
  rw [e2] at hV ⊢
  exact ⟨a, ad', len', cap', rfl, hV, hd.ways, m'⟩
theorem keep_b (W w : World) (v : Value) (hv : KArg W v) (m : Moves [] W w) :
    Calls Try.prog 15 #[v] w fun e w' => ∃ (A : Vm) (ad : Option Addr) (len cap : Nat), e = .returned (.agg #[.int .i64 A.kind, .slice ad len cap, .float .f64 A.n]) ∧ VIs W (.agg #[.int .i64 A.kind, .slice ad len cap, .float .f64 A.n]) A ∧ VWays A ∧ Moves [] W w' := by
  obtain ⟨t, n, x, ad, len, cap, g, bs, rfl, hx, hb, ho⟩ := hv.out
  refine (keepValueAt_w W t n x _ g bs w hx hb ho).mono ?_
  rintro e w' ⟨a, rfl, hd, m'⟩
  have hV : VIs W a.val a := ⟨rfl, hd.isIn⟩
  obtain ⟨ad', len', cap', _, e2⟩ := hV.open
  rw [e2] at hV ⊢
  exact ⟨a, ad', len', cap', rfl, hV, hd.ways, m.then m'⟩
end Go.Proofs.Ytpofalalfemkhaa
