/-
  Val0, Val1, Val2, Val3, Val4, Val5, Val6: our texts of these names, laid into one.
-/
import Derived.Test.YtcamhlnkcoicpaaGreatCB09
import Derived.Lib.BytesEntry
import Derived.Laws.Externs
import Derived.Laws.ResultCell
import Derived.Deep.RegionHeld3
/-
  Values as plain data: their order, by Kind, bytes and number; what it is an order by. Plain facts, no program in sight.
-/
namespace Go.Proofs.YtcamhlnkcoicpaaGreat
open Go.RowKit

/-- A Kind, and 0 of each that is neither Text nor Number. -/
def kd (k : Int) : Int := if k = 1 ∨ k = 2 then k else 0
theorem kd_cases (k : Int) : (k = 1 ∧ kd k = 1) ∨ (k = 2 ∧ kd k = 2) ∨ (k ≠ 1 ∧ k ≠ 2 ∧ kd k = 0) := by
  unfold kd
  by_cases h1 : k = 1
  · exact .inl ⟨h1, by simp [h1]⟩
  by_cases h2 : k = 2
  · exact .inr (.inl ⟨h2, by simp [h2]⟩)
  · exact .inr (.inr ⟨h1, h2, by simp [h1, h2]⟩)

def icmp (x y : Int) : Int := if x < y then -1 else if y < x then 1 else 0

/-- Bytes in their order. -/
def bcmp : List Nat → List Nat → Int
  | [], [] => 0
  | [], _ :: _ => -1
  | _ :: _, [] => 1
  | a :: s, b :: t => if a < b then -1 else if b < a then 1 else bcmp s t

theorem bcmp_bounds : ∀ a b : List Nat, -1 ≤ bcmp a b ∧ bcmp a b ≤ 1
  | [], [] => by simp [bcmp]
  | [], _ :: _ => by simp [bcmp]
  | _ :: _, [] => by simp [bcmp]
  | a :: s, b :: t => by
    have := bcmp_bounds s t
    unfold bcmp
    split
    · omega
    · split <;> omega
theorem bcmp_self : ∀ a : List Nat, bcmp a a = 0
  | [] => rfl
  | a :: s => by unfold bcmp; simp [bcmp_self s]
theorem bcmp_zero : ∀ {a b : List Nat}, bcmp a b = 0 → a = b
  | [], [], _ => rfl
  | [], _ :: _, h => by simp [bcmp] at h
  | _ :: _, [], h => by simp [bcmp] at h
  | a :: s, b :: t, h => by
    unfold bcmp at h
    split at h
    · simp at h
    · split at h
      · simp at h
      · have e : a = b := by omega
        rw [e, bcmp_zero h]
/-- The bytes as the library's comparison has them. -/
theorem bcmp_lib : ∀ (a b : List Nat), (∀ z ∈ a, z < 256) → (∀ z ∈ b, z < 256) → Lib.compareBytes (a.map UInt8.ofNat) (b.map UInt8.ofNat) = bcmp a b
  | [], [], _, _ => rfl
  | [], _ :: _, _, _ => rfl
  | _ :: _, [], _, _ => rfl
  | a :: s, b :: t, ha, hb => by
    have ih := bcmp_lib s t (fun z hz => ha z (by simp [hz])) (fun z hz => hb z (by simp [hz]))
    have h1 : a < 256 := ha a (by simp)
    have h2 : b < 256 := hb b (by simp)
    have e : ∀ x y : Nat, x < 256 → y < 256 → (UInt8.ofNat x < UInt8.ofNat y ↔ x < y) := fun x y hx hy => by
      have ex : (UInt8.ofNat x).toNat = x := UInt8.toNat_ofNat_of_lt hx
      have ey : (UInt8.ofNat y).toNat = y := UInt8.toNat_ofNat_of_lt hy
      rw [UInt8.lt_iff_toNat_lt, ex, ey]
    simp only [List.map_cons, Lib.compareBytes, bcmp, ih]
    by_cases c1 : a < b
    · rw [if_pos ((e a b h1 h2).2 c1), if_pos c1]
    · rw [if_neg (fun h => c1 ((e a b h1 h2).1 h)), if_neg c1]
      by_cases c2 : b < a
      · rw [if_pos ((e b a h2 h1).2 c2), if_pos c2]
      · rw [if_neg (fun h => c2 ((e b a h2 h1).1 h)), if_neg c2]

/-- A value: its Kind, its bytes (the slice, its block, what lies there), its number. -/
structure Vm where
  kind : Int
  bv : Value
  g : Nat
  bs : List Nat
  n : Nat

/-- As it is handed on. -/
def Vm.val (a : Vm) : Value := .agg #[.int .i64 a.kind, a.bv, .float .f64 a.n]

/-- It lies so in memory. -/
structure Vm.In (w : World) (a : Vm) : Prop where
  isB : IsB w a.g a.bv a.bs
  fits : Pl.Fits a.n
  oct : ∀ z ∈ a.bs, z < 256

theorem Vm.In.moves {w w' : World} {a : Vm} {S : List Nat} (h : a.In w) (m : Moves S w w') (hg : a.g ∉ S) : a.In w' := ⟨h.isB.moves m hg, h.fits, h.oct⟩

/-- The order of values. -/
def vord (a b : Vm) : Int :=
  if icmp (kd a.kind) (kd b.kind) ≠ 0 then icmp (kd a.kind) (kd b.kind) else if kd a.kind = 1 then bcmp a.bs b.bs else if kd a.kind = 2 then Pl.ord a.n b.n else 0

end Go.Proofs.YtcamhlnkcoicpaaGreat
/-
  What bytes' comparison and package value's functions do: for every value the call returns, and writes nothing that was there.
-/
namespace Go.Proofs.YtcamhlnkcoicpaaGreat
open Go.RowKit

theorem kind_w (k : Int) (ad : Option Addr) (len cap n : Nat) (w : World) :
    Calls Tryz.prog 171 #[.agg #[.int .i64 k, .slice ad len cap, .float .f64 n]] w fun e w' => e = .returned (.int .i64 (kd k)) ∧ Moves [] w w' := by
  rcases kd_cases k with ⟨rfl, e⟩ | ⟨rfl, e⟩ | ⟨h1, h2, e⟩
  · rw [e]
    go_enter Tryz.func171, Tryz.ntmps171
    go_wp2
    go_ret
    exact ⟨rfl, (Moves.refl _ _).alloc _⟩
  · rw [e]
    go_enter Tryz.func171, Tryz.ntmps171
    go_wp2
    go_ret
    exact ⟨rfl, (Moves.refl _ _).alloc _⟩
  · rw [e]
    have t1 : (k == 1) = false := by simpa using h1
    have t2 : (k == 2) = false := by simpa using h2
    go_enter Tryz.func171, Tryz.ntmps171
    go_wp2
    go_ret
    exact ⟨rfl, (Moves.refl _ _).alloc _⟩

end Go.Proofs.YtcamhlnkcoicpaaGreat
/-
  What package value's Order and Same do: for every two values the call returns their order, and writes nothing that was there.
-/
namespace Go.Proofs.YtcamhlnkcoicpaaGreat
open Go.RowKit

/-- Two boxes that a call laid. -/
theorem boxes {w w' : World} {A B : Array Value} {t u : TypeId} (m : Moves [] ((w.alloc (.cells A t)).alloc (.cells B u)) w') :
    w'.heap[w.heap.size]? = some (.cells A t (0, 0)) ∧ w'.heap[w.heap.size + 1]? = some (.cells B u (0, 0)) ∧ Moves [] w w' := by
  refine ⟨m.at ?_ (by simp), m.at ?_ (by simp), ((((Moves.refl [] w).alloc _).alloc _).then m)⟩
  · exact (Below.heap_alloc _ _ _ (by simp)).trans (heap_alloc_new _ _)
  · have e := heap_alloc_new (w.alloc (.cells A t)) (.cells B u)
    have e2 : (w.alloc (.cells A t)).heap.size = w.heap.size + 1 := by simp
    rw [e2] at e
    exact e

theorem icmp_zero {x y : Int} (h : icmp x y = 0) : y = x := by
  unfold icmp at h
  split at h
  · simp at h
  · split at h
    · simp at h
    · omega
end Go.Proofs.YtcamhlnkcoicpaaGreat
/-
  What package value's Canon, Plus and Right do: for every value the call returns what the chapter says, and writes nothing that was there.
-/
namespace Go.Proofs.YtcamhlnkcoicpaaGreat
open Go.RowKit

@[go_sem] theorem run_store_flt {P : Program} (w : World) (a : Addr) (m : Mode) (k : FloatKind) (b : Nat) : (store a (.float k b) m).run P w = stored P w a (.float k b) m := run_store P w a _ m rfl

theorem Tryz.size25 : (Tryz.prog.info? 25).map (·.size) = some 3 := by kernel_rfl

/-- What a function hands back whose result is a value. -/
theorem ret_val {fn : Func} {p : Tmp} (h : fn.results = #[.cell p 25]) (tmps : Array Value) (w : World) (g : Nat) (x y z : Value) (hp : tmps.getD p undef = .pointer (some ⟨g, 0, none⟩)) (hg : w.heap[g]? = some (.cells #[x, y, z] 25 (0, 0))) :
    (results fn tmps).run Tryz.prog w = .ok (.agg #[x, y, z]) w :=
  results_cell_row h tmps w g 25 _ (0, 0) _ hp hg Tryz.underlying25 rfl Tryz.size25

theorem vtext_w (ad : Option Addr) (len cap : Nat) (w : World) :
    Calls Tryz.prog 173 #[.slice ad len cap] w fun e w' => e = .returned (.agg #[.int .i64 1, .slice ad len cap, .float .f64 0]) ∧ Moves [] w w' := by
  go_enter Tryz.func173, Tryz.ntmps173
  go_wp2
  try simp only [Exit.inBlock, Exit.then]
  exact bodyPost_ret (ret_val rfl _ _ _ _ _ _ rfl (heap_alloc_new _ _)) rfl ⟨rfl, (Moves.refl _ _).alloc _⟩

theorem vnumber_w (n : Nat) (w : World) :
    Calls Tryz.prog 174 #[.float .f64 n] w fun e w' => e = .returned (.agg #[.int .i64 2, .slice none 0 0, .float .f64 n]) ∧ Moves [] w w' := by
  go_enter Tryz.func174, Tryz.ntmps174
  go_wp2
  try simp only [Exit.inBlock, Exit.then]
  exact bodyPost_ret (ret_val rfl _ _ _ _ _ _ rfl (heap_alloc_new _ _)) rfl ⟨rfl, (Moves.refl _ _).alloc _⟩

end Go.Proofs.YtcamhlnkcoicpaaGreat
/-
  What package value's Plus and Right do: for every value the call returns what the chapter says, and writes nothing that was there.
-/
namespace Go.Proofs.YtcamhlnkcoicpaaGreat
open Go.RowKit

def Vm.num (n : Nat) : Vm := ⟨2, .slice none 0 0, 0, [], n⟩
theorem Vm.num_in (w : World) {n : Nat} (h : Pl.Fits n) : (Vm.num n).In w := ⟨isB_nil _ _, h, by simp [Vm.num]⟩

/-- What Right tells. -/
def vright (a : Vm) : Bool := (a.kind == 1 && decide (a.bs.length ≤ 16)) || a.kind == 2

theorem vRight_w (a : Vm) (w : World) (ha : a.In w) :
    Calls Tryz.prog 118 #[a.val] w fun e w' => e = .returned (.bool (vright a)) ∧ Moves [] w w' := by
  obtain ⟨k, bv, g, bs, n⟩ := a
  obtain ⟨ha1, ha2, ha3⟩ := ha
  simp only at ha1 ha2 ha3
  obtain ⟨ad, len, cap, rfl, hl, _⟩ := ha1
  simp only [vright, Vm.val]
  rw [hl]
  rcases kd_cases k with ⟨rfl, e⟩ | ⟨rfl, e⟩ | ⟨h1, h2, e⟩
  · clear e
    by_cases h : len ≤ 16
    · have h' : (len : Int) ≤ 16 := by omega
      have e : ((1 : Int) == 1 && decide (len ≤ 16) || (1 : Int) == 2) = true := by simp [h]
      rw [e]
      go_enter Tryz.func118, Tryz.ntmps118
      go_wp2
      go_ret
      exact ⟨rfl, (Moves.refl _ _).alloc _⟩
    · have h' : ¬ (len : Int) ≤ 16 := by omega
      have e : ((1 : Int) == 1 && decide (len ≤ 16) || (1 : Int) == 2) = false := by simp [h]
      rw [e]
      go_enter Tryz.func118, Tryz.ntmps118
      go_wp2
      go_ret
      exact ⟨rfl, (Moves.refl _ _).alloc _⟩
  · have e' : ((2 : Int) == 1 && decide (len ≤ 16) || (2 : Int) == 2) = true := by simp
    rw [e']
    go_enter Tryz.func118, Tryz.ntmps118
    go_wp2
    go_ret
    exact ⟨rfl, (Moves.refl _ _).alloc _⟩
  · have t1 : (k == 1) = false := by simpa using h1
    have t2 : (k == 2) = false := by simpa using h2
    have e' : (k == 1 && decide (len ≤ 16) || k == 2) = false := by simp [t1, t2]
    rw [e']
    clear e e' h1 h2
    go_enter Tryz.func118, Tryz.ntmps118
    go_wp2
    go_ret
    exact ⟨rfl, (Moves.refl _ _).alloc _⟩
end Go.Proofs.YtcamhlnkcoicpaaGreat
/-
  What the drawn value and the law's own 'known' do: the call returns a value that may be, or true, and writes nothing that was there.
-/
namespace Go.Proofs.YtcamhlnkcoicpaaGreat
open Go.RowKit

/-- Cut, of bytes that are told of by an elder world. -/
theorem cutAt_w (w0 : World) (v : Value) (g : Nat) (bs : List Nat) (n : Nat) (z : Int) (hz : z = (n : Int)) (w : World) (h : IsB w0 g v bs) :
    Calls Tryz.prog 20 #[v, .int .i64 z] w fun e w' => ∃ v', e = .returned v' ∧ IsB w0 g v' (bs.take n) ∧ w = w' := by
  subst hz
  have h0 := h
  obtain ⟨ad, len, cap, rfl, h1, h2, h3, h4⟩ := h
  by_cases hlt : n < len
  · have hlt1 : (n : Int) < (len : Int) := by omega
    have hlt2 : (n : Int) ≤ (cap : Int) := by omega
    go_enter Tryz.func20, Tryz.ntmps20
    go_wp2
    go_ret
    refine ⟨_, rfl, ⟨ad, n, cap, rfl, by rw [List.length_take]; omega, by omega, h3, ?_⟩, rfl⟩
    exact h4.take n
  · have hlt1 : ¬ (n : Int) < (len : Int) := by omega
    go_enter Tryz.func20, Tryz.ntmps20
    go_wp2
    go_ret
    exact ⟨_, rfl, by rw [List.take_of_length_le (by omega)]; exact h0, rfl⟩

/-- A value as it is drawn. -/
structure Drawn (w : World) (a : Vm) : Prop where
  isIn : a.In w
  ways : (a.kind = 1 ∧ a.n = 0 ∧ a.bs.length ≤ 16) ∨ (a.kind = 2 ∧ a.bs = [])

set_option maxHeartbeats 1000000 in
theorem keepValueAt_w (w0 : World) (t : Bool) (n : Int) (x : Nat) (bv : Value) (g : Nat) (bs : List Nat) (w : World) (hx : Pl.Fits x) (hb : IsB w0 g bv bs) (ho : ∀ z ∈ bs, z < 256) :
    Calls Tryz.prog 39 #[.agg #[.bool t, .int .i64 n, .float .f64 x, bv]] w fun e w' => ∃ a : Vm, e = .returned a.val ∧ Drawn w0 a ∧ Moves [] w w' := by
  have hb0 := hb
  obtain ⟨ad, len, cap, rfl, _⟩ := hb
  cases t
  · go_enter Tryz.func39, Tryz.ntmps39
    go_wp2_with (go_at_call 84; refine (float_w _ _ hx _).mono ?_; rintro _ _ ⟨c, hc, rfl, rfl⟩)
    try simp only [Exit.inBlock, Exit.then]
    refine bodyPost_ret (ret_val rfl _ _ _ _ _ _ rfl (heap_alloc2_new _ _ _)) rfl ⟨Vm.num c, rfl, ⟨Vm.num_in _ hc, .inr ⟨rfl, rfl⟩⟩, ((Moves.refl _ _).alloc _).alloc _⟩
  · go_enter Tryz.func39, Tryz.ntmps39
    go_wp2_with (go_at_call 20; refine (cutAt_w w0 _ g bs 16 _ rfl _ hb0).mono ?_; rintro _ _ ⟨v1, rfl, hv1, rfl⟩; have hv2 := hv1; obtain ⟨ad1, n1, cap1, rfl, _⟩ := hv2)
    try simp only [Exit.inBlock, Exit.then]
    exact bodyPost_ret (ret_val rfl _ _ _ _ _ _ rfl (heap_alloc2_new _ _ _)) rfl ⟨⟨1, .slice ad1 n1 cap1, g, bs.take 16, 0⟩, rfl, ⟨⟨hv1, fits_zero, fun z hz => ho z (List.mem_of_mem_take hz)⟩, .inl ⟨rfl, rfl, by simp; omega⟩⟩, ((Moves.refl _ _).alloc _).alloc _⟩

end Go.Proofs.YtcamhlnkcoicpaaGreat
/-
  The contracts of values once more, told of by an elder world that the running one has grown out of.
-/
namespace Go.Proofs.YtcamhlnkcoicpaaGreat
open Go.RowKit

/-- That value stands for A, in W's memory. -/
structure VIs (W : World) (v : Value) (A : Vm) : Prop where
  val : v = A.val
  isIn : A.In W

theorem VIs.moves {W W' : World} {v : Value} {A : Vm} (h : VIs W v A) (m : Moves [] W W') : VIs W' v A := ⟨h.val, h.isIn.moves m (by simp)⟩
theorem VIs.open {W : World} {v : Value} {A : Vm} (h : VIs W v A) : ∃ ad len cap, A.bv = .slice ad len cap ∧ v = .agg #[.int .i64 A.kind, .slice ad len cap, .float .f64 A.n] := by
  obtain ⟨ad, len, cap, e, _⟩ := h.isIn.isB
  exact ⟨ad, len, cap, e, by rw [h.val, Vm.val, e]⟩

theorem right_b (W w : World) (va : Value) (A : Vm) (ha : VIs W va A) (m : Moves [] W w) :
    Calls Tryz.prog 118 #[va] w fun e w' => e = .returned (.bool (vright A)) ∧ Moves [] W w' := by
  obtain ⟨rfl, ha⟩ := ha
  exact (vRight_w A w (ha.moves m (by simp))).mono fun e w' h => ⟨h.1, m.then h.2⟩
/-- A value that is drawn, as it is handed in. -/
structure KArg (W : World) (v : Value) : Prop where
  out : ∃ (t : Bool) (n : Int) (x : Nat) (ad : Option Addr) (len cap : Nat) (g : Nat) (bs : List Nat), v = .agg #[.bool t, .int .i64 n, .float .f64 x, .slice ad len cap] ∧ Pl.Fits x ∧ IsB W g (.slice ad len cap) bs ∧ ∀ z ∈ bs, z < 256

/-- What may be drawn. -/
def VWays (a : Vm) : Prop := (a.kind = 1 ∧ a.n = 0 ∧ a.bs.length ≤ 16) ∨ (a.kind = 2 ∧ a.bs = [])
theorem keep_b' (W w : World) (v : Value) (hv : KArg W v) :
    Calls Tryz.prog 39 #[v] w fun e w' => ∃ (A : Vm) (ad : Option Addr) (len cap : Nat), e = .returned (.agg #[.int .i64 A.kind, .slice ad len cap, .float .f64 A.n]) ∧ VIs W (.agg #[.int .i64 A.kind, .slice ad len cap, .float .f64 A.n]) A ∧ VWays A ∧ Moves [] w w' := by
  obtain ⟨t, n, x, ad, len, cap, g, bs, rfl, hx, hb, ho⟩ := hv.out
  refine (keepValueAt_w W t n x _ g bs w hx hb ho).mono ?_
  rintro e w' ⟨a, rfl, hd, m'⟩
  have hV : VIs W a.val a := ⟨rfl, hd.isIn⟩
  obtain ⟨ad', len', cap', _, e2⟩ := hV.open
  rw [e2] at hV ⊢
  exact ⟨a, ad', len', cap', rfl, hV, hd.ways, m'⟩
end Go.Proofs.YtcamhlnkcoicpaaGreat
