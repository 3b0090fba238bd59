/-
  Val0, Val1, Val2, Val3, Val4, Val5, Val6: our texts of these names, laid into one.
-/
import Derived.Test.YtcngllcifcpbkaaCBaseE
import Derived.Lib.BytesEntry
import Derived.Laws.Externs
import Derived.Laws.ResultCell
import Derived.Deep.RegionHeld3
/-
  Values as plain data: their order, by Kind, bytes and number; what it is an order by. Plain facts, no program in sight.
-/
namespace Go.Proofs.Ytcngllcifcpbkaa
open Go.RowKit

/-- A Kind, and 0 of each that is neither Text nor Number. -/
def kd (k : Int) : Int := if k = 1 ∨ k = 2 then k else 0
theorem kd_cases (k : Int) : (k = 1 ∧ kd k = 1) ∨ (k = 2 ∧ kd k = 2) ∨ (k ≠ 1 ∧ k ≠ 2 ∧ kd k = 0) := by
  unfold kd
  by_cases h1 : k = 1
  · exact .inl ⟨h1, by simp [h1]⟩
  by_cases h2 : k = 2
  · exact .inr (.inl ⟨h2, by simp [h2]⟩)
  · exact .inr (.inr ⟨h1, h2, by simp [h1, h2]⟩)

def icmp (x y : Int) : Int := if x < y then -1 else if y < x then 1 else 0

/-- Bytes in their order. -/
def bcmp : List Nat → List Nat → Int
  | [], [] => 0
  | [], _ :: _ => -1
  | _ :: _, [] => 1
  | a :: s, b :: t => if a < b then -1 else if b < a then 1 else bcmp s t

theorem bcmp_bounds : ∀ a b : List Nat, -1 ≤ bcmp a b ∧ bcmp a b ≤ 1
  | [], [] => by simp [bcmp]
  | [], _ :: _ => by simp [bcmp]
  | _ :: _, [] => by simp [bcmp]
  | a :: s, b :: t => by
    have := bcmp_bounds s t
    unfold bcmp
    split
    · omega
    · split <;> omega
theorem bcmp_self : ∀ a : List Nat, bcmp a a = 0
  | [] => rfl
  | a :: s => by unfold bcmp; simp [bcmp_self s]
theorem bcmp_zero : ∀ {a b : List Nat}, bcmp a b = 0 → a = b
  | [], [], _ => rfl
  | [], _ :: _, h => by simp [bcmp] at h
  | _ :: _, [], h => by simp [bcmp] at h
  | a :: s, b :: t, h => by
    unfold bcmp at h
    split at h
    · simp at h
    · split at h
      · simp at h
      · have e : a = b := by omega
        rw [e, bcmp_zero h]
/-- The bytes as the library's comparison has them. -/
theorem bcmp_lib : ∀ (a b : List Nat), (∀ z ∈ a, z < 256) → (∀ z ∈ b, z < 256) → Lib.compareBytes (a.map UInt8.ofNat) (b.map UInt8.ofNat) = bcmp a b
  | [], [], _, _ => rfl
  | [], _ :: _, _, _ => rfl
  | _ :: _, [], _, _ => rfl
  | a :: s, b :: t, ha, hb => by
    have ih := bcmp_lib s t (fun z hz => ha z (by simp [hz])) (fun z hz => hb z (by simp [hz]))
    have h1 : a < 256 := ha a (by simp)
    have h2 : b < 256 := hb b (by simp)
    have e : ∀ x y : Nat, x < 256 → y < 256 → (UInt8.ofNat x < UInt8.ofNat y ↔ x < y) := fun x y hx hy => by
      have ex : (UInt8.ofNat x).toNat = x := UInt8.toNat_ofNat_of_lt hx
      have ey : (UInt8.ofNat y).toNat = y := UInt8.toNat_ofNat_of_lt hy
      rw [UInt8.lt_iff_toNat_lt, ex, ey]
    simp only [List.map_cons, Lib.compareBytes, bcmp, ih]
    by_cases c1 : a < b
    · rw [if_pos ((e a b h1 h2).2 c1), if_pos c1]
    · rw [if_neg (fun h => c1 ((e a b h1 h2).1 h)), if_neg c1]
      by_cases c2 : b < a
      · rw [if_pos ((e b a h2 h1).2 c2), if_pos c2]
      · rw [if_neg (fun h => c2 ((e b a h2 h1).1 h)), if_neg c2]

/-- A value: its Kind, its bytes (the slice, its block, what lies there), its number. -/
structure Vm where
  kind : Int
  bv : Value
  g : Nat
  bs : List Nat
  n : Nat

/-- As it is handed on. -/
def Vm.val (a : Vm) : Value := .agg #[.int .i64 a.kind, a.bv, .float .f64 a.n]

/-- It lies so in memory. -/
structure Vm.In (w : World) (a : Vm) : Prop where
  isB : IsB w a.g a.bv a.bs
  fits : Pl.Fits a.n
  oct : ∀ z ∈ a.bs, z < 256

theorem Vm.In.moves {w w' : World} {a : Vm} {S : List Nat} (h : a.In w) (m : Moves S w w') (hg : a.g ∉ S) : a.In w' := ⟨h.isB.moves m hg, h.fits, h.oct⟩

/-- The order of values. -/
def vord (a b : Vm) : Int :=
  if icmp (kd a.kind) (kd b.kind) ≠ 0 then icmp (kd a.kind) (kd b.kind) else if kd a.kind = 1 then bcmp a.bs b.bs else if kd a.kind = 2 then Pl.ord a.n b.n else 0

theorem vord_self (a : Vm) : vord a a = 0 := by
  unfold vord
  have h1 : icmp (kd a.kind) (kd a.kind) = 0 := by simp [icmp]
  have h2 : Pl.ord a.n a.n = 0 := by unfold Pl.ord Pl.cmp; simp
  simp only [h1, h2, bcmp_self, ne_eq, not_true_eq_false, if_false]
  repeat' split
  all_goals rfl

end Go.Proofs.Ytcngllcifcpbkaa
/-
  What bytes' comparison and package value's functions do: for every value the call returns, and writes nothing that was there.
-/
namespace Go.Proofs.Ytcngllcifcpbkaa
open Go.RowKit

end Go.Proofs.Ytcngllcifcpbkaa
/-
  What package value's Order and Same do: for every two values the call returns their order, and writes nothing that was there.
-/
namespace Go.Proofs.Ytcngllcifcpbkaa
open Go.RowKit

/-- Two boxes that a call laid. -/
theorem boxes {w w' : World} {A B : Array Value} {t u : TypeId} (m : Moves [] ((w.alloc (.cells A t)).alloc (.cells B u)) w') :
    w'.heap[w.heap.size]? = some (.cells A t (0, 0)) ∧ w'.heap[w.heap.size + 1]? = some (.cells B u (0, 0)) ∧ Moves [] w w' := by
  refine ⟨m.at ?_ (by simp), m.at ?_ (by simp), ((((Moves.refl [] w).alloc _).alloc _).then m)⟩
  · exact (Below.heap_alloc _ _ _ (by simp)).trans (heap_alloc_new _ _)
  · have e := heap_alloc_new (w.alloc (.cells A t)) (.cells B u)
    have e2 : (w.alloc (.cells A t)).heap.size = w.heap.size + 1 := by simp
    rw [e2] at e
    exact e

theorem icmp_zero {x y : Int} (h : icmp x y = 0) : y = x := by
  unfold icmp at h
  split at h
  · simp at h
  · split at h
    · simp at h
    · omega
end Go.Proofs.Ytcngllcifcpbkaa
/-
  What package value's Canon, Plus and Right do: for every value the call returns what the chapter says, and writes nothing that was there.
-/
namespace Go.Proofs.Ytcngllcifcpbkaa
open Go.RowKit

@[go_sem] theorem run_store_flt {P : Program} (w : World) (a : Addr) (m : Mode) (k : FloatKind) (b : Nat) : (store a (.float k b) m).run P w = stored P w a (.float k b) m := run_store P w a _ m rfl

set_option maxHeartbeats 1000000 in
theorem vfresh_w (v : Value) (g : Nat) (bs : List Nat) (w : World) (h : IsB w g v bs) (hb : bs.length ≤ 1099511627776) :
    Calls Try.prog 73 #[v] w fun e w' => ∃ v', e = .returned v' ∧ Own w' v' bs ∧ Moves [] w w' ∧ Fresh w v' := by
  obtain ⟨i0, hi, hz0, hz1, hz2⟩ := info_parts Try.info5
  have h0 := h
  obtain ⟨ad, n, cap, rfl, hn, _⟩ := h
  have b2 : i0.bytes * n ≤ 281474976710656 := by rw [hz2]; omega
  have b3 : n ≤ maxLen := by unfold maxLen; omega
  go_enter Try.func73, Try.ntmps73
  go_wp2_with (at_make; refine wpList_make_full _ rfl (.tmp 5) (.tmp 5) 46 rfl 0 5 i0 (.int .u8 0) 1 Try.underlying46 hi hz0 hz1 .i64 .i64 _ _ n rfl rfl rfl rfl b2 b3 (Nat.zero_le _) ?_; intro w1 ho1 hg1; have hd1 := made_row ho1 hg1; have hc1 := h0.moves hd1.2.1 (by simp); obtain ⟨w2, hrun, ho2, hB2⟩ := copy_run _ _ _ _ _ bs hd1.1 hc1 hb _ hd1.2.2 (Nat.le_refl _))
  go_ret
  exact ⟨_, rfl, ho2, ⟨hB2.os, hB2.tape, hB2.output, hB2.size, fun k hk _ => hB2.block k hk⟩, fun k hk => by simp [Value.ownBlock] at hk; omega⟩

theorem Try.size49 : (Try.prog.info? 49).map (·.size) = some 3 := by kernel_rfl

/-- What a function hands back whose result is a value. -/
theorem ret_val {fn : Func} {p : Tmp} (h : fn.results = #[.cell p 49]) (tmps : Array Value) (w : World) (g : Nat) (x y z : Value) (hp : tmps.getD p undef = .pointer (some ⟨g, 0, none⟩)) (hg : w.heap[g]? = some (.cells #[x, y, z] 49 (0, 0))) :
    (results fn tmps).run Try.prog w = .ok (.agg #[x, y, z]) w :=
  results_cell_row h tmps w g 49 _ (0, 0) _ hp hg Try.underlying49 rfl Try.size49

theorem vtext_w (ad : Option Addr) (len cap : Nat) (w : World) :
    Calls Try.prog 72 #[.slice ad len cap] w fun e w' => e = .returned (.agg #[.int .i64 1, .slice ad len cap, .float .f64 0]) ∧ Moves [] w w' := by
  go_enter Try.func72, Try.ntmps72
  go_wp2
  try simp only [Exit.inBlock, Exit.then]
  exact bodyPost_ret (ret_val rfl _ _ _ _ _ _ rfl (heap_alloc_new _ _)) rfl ⟨rfl, (Moves.refl _ _).alloc _⟩

theorem vnumber_w (n : Nat) (w : World) :
    Calls Try.prog 74 #[.float .f64 n] w fun e w' => e = .returned (.agg #[.int .i64 2, .slice none 0 0, .float .f64 n]) ∧ Moves [] w w' := by
  go_enter Try.func74, Try.ntmps74
  go_wp2
  try simp only [Exit.inBlock, Exit.then]
  exact bodyPost_ret (ret_val rfl _ _ _ _ _ _ rfl (heap_alloc_new _ _)) rfl ⟨rfl, (Moves.refl _ _).alloc _⟩

/-- What Canon makes of a value. -/
structure Canoned (w w' : World) (a c : Vm) : Prop where
  isIn : c.In w'
  moves : Moves [] w w'
  own : Own w' c.bv c.bs
  fresh : Fresh w c.bv
  kind : c.kind = kd a.kind
  bs : c.bs = if kd a.kind = 1 then a.bs else []
  n : c.n = if kd a.kind = 2 then Pl.canon a.n else 0

theorem canoned_own {w w' : World} {a : Vm} {k : Int} {v : Value} {bs : List Nat} {n : Nat} (hm : Moves [] w w') (ho : Own w' v bs) (hf : Fresh w v) (hn : Pl.Fits n) (hb : ∀ z ∈ bs, z < 256) (h1 : k = kd a.kind) (h2 : bs = if kd a.kind = 1 then a.bs else []) (h3 : n = if kd a.kind = 2 then Pl.canon a.n else 0) :
    Canoned w w' a ⟨k, v, v.ownBlock.getD 0, bs, n⟩ := ⟨⟨ho.isB, hn, hb⟩, hm, ho, hf, h1, h2, h3⟩

/-- A value stored into a box that the call laid. -/
theorem stored3 {w0 w : World} {p : Nat} {x0 y0 z0 : Value} {t : TypeId} (hp : w.heap[p]? = some (.cells #[x0, y0, z0] t (0, 0))) (m : Moves [] w0 w) (hlt : w0.heap.size ≤ p) (x y z : Value) :
    (((w.setCell ⟨p, 0, none⟩ x).setCell ⟨p, 1, none⟩ y).setCell ⟨p, 2, none⟩ z).heap[p]? = some (.cells #[x, y, z] t (0, 0)) ∧ Moves [] w0 (((w.setCell ⟨p, 0, none⟩ x).setCell ⟨p, 1, none⟩ y).setCell ⟨p, 2, none⟩ z) ∧ Moves [p] w (((w.setCell ⟨p, 0, none⟩ x).setCell ⟨p, 1, none⟩ y).setCell ⟨p, 2, none⟩ z) := by
  have hm : Moves [p] w (((w.setCell ⟨p, 0, none⟩ x).setCell ⟨p, 1, none⟩ y).setCell ⟨p, 2, none⟩ z) := ((moves_set _ _ _ _).then (moves_set _ _ _ _)).then (moves_set _ _ _ _)
  refine ⟨?_, m.trans hm (fun k hk => .inr (by simp at hk; omega)), hm⟩
  exact heap_set (i := 2) (heap_set (i := 1) (heap_set (i := 0) hp x) y) z

set_option maxHeartbeats 1000000 in
theorem vCanon_w (a : Vm) (w : World) (ha : a.In w) (hl : a.bs.length ≤ 1099511627776) :
    Calls Try.prog 51 #[a.val] w fun e w' => ∃ c : Vm, e = .returned c.val ∧ Canoned w w' a c := by
  obtain ⟨k, bv, g, bs, n⟩ := a
  obtain ⟨ha1, ha2, ha3⟩ := ha
  simp only at ha1 ha2 ha3 hl
  have ha0 := ha1
  obtain ⟨ad, len, cap, rfl, _⟩ := ha1
  simp only [Vm.val]
  have hm0 : Moves [] w ((w.alloc (.cells #[.int .i64 k, .slice ad len cap, .float .f64 n] 49)).alloc (.cells #[.int .i64 0, .slice none 0 0, .float .f64 0] 49)) := ((Moves.refl _ _).alloc _).alloc _
  rcases kd_cases k with ⟨rfl, e⟩ | ⟨rfl, e⟩ | ⟨h1, h2, e⟩
  · have HE : Hid (kd 1 = 1) := e
    clear e
    go_enter Try.func51, Try.ntmps51
    go_wp2_with (first | (go_at_call 73; refine (vfresh_w _ g bs _ (ha0.moves hm0 (by simp)) hl).mono ?_; rintro _ w2 ⟨v2, rfl, ho2, m2, f2⟩; have hi2 := ho2.isB; obtain ⟨ad2, n2, cap2, rfl, _⟩ := hi2) | (go_at_call 72; refine (vtext_w _ _ _ _).mono ?_; rintro _ w3 ⟨rfl, m3⟩; obtain ⟨p1, p2, m1⟩ := boxes (m2.then m3); obtain ⟨d0, d1, d2, e0, e1, e2⟩ := three_cells p2))
    try simp only [Exit.inBlock, Exit.then]
    obtain ⟨s1, s2, s3⟩ := stored3 p2 m1 (Nat.le_succ _) (.int .i64 1) (.slice ad2 n2 cap2) (.float .f64 0)
    refine bodyPost_ret (ret_val rfl _ _ _ _ _ _ rfl s1) rfl ⟨⟨1, .slice ad2 n2 cap2, (Value.slice ad2 n2 cap2).ownBlock.getD 0, bs, 0⟩, rfl, ?_⟩
    exact canoned_own s2 ((ho2.moves m3 (by simp)).moves s3 (fun k hk => by have := f2 k hk; simp at this ⊢; omega)) (fun k hk => by have := f2 k hk; simp at this; omega) fits_zero ha3 HE.out.symm (by simp [HE.out]) (by simp [HE.out])
  · have HE : Hid (kd 2 = 2) := e
    clear e
    go_enter Try.func51, Try.ntmps51
    go_wp2_with (first | (go_at_call 75; refine (canon_w _ _).mono ?_; rintro _ _ ⟨rfl, rfl⟩) | (go_at_call 74; refine (vnumber_w _ _).mono ?_; rintro _ w3 ⟨rfl, m3⟩; obtain ⟨p1, p2, m1⟩ := boxes m3; obtain ⟨d0, d1, d2, e0, e1, e2⟩ := three_cells p2))
    try simp only [Exit.inBlock, Exit.then]
    obtain ⟨s1, s2, s3⟩ := stored3 p2 m1 (Nat.le_succ _) (.int .i64 2) (.slice none 0 0) (.float .f64 (Pl.canon n))
    refine bodyPost_ret (ret_val rfl _ _ _ _ _ _ rfl s1) rfl ⟨⟨2, .slice none 0 0, (Value.slice none 0 0).ownBlock.getD 0, [], Pl.canon n⟩, rfl, ?_⟩
    exact canoned_own s2 (Own.nil _) (Fresh.nil _) (Pl.fits_canon ha2) (by simp) HE.out.symm (by simp [HE.out]) (by simp [HE.out])
  · have t1 : (k == 1) = false := by simpa using h1
    have t2 : (k == 2) = false := by simpa using h2
    have HE : Hid (kd k = 0) := e
    clear e h1 h2
    go_enter Try.func51, Try.ntmps51
    go_wp2
    try simp only [Exit.inBlock, Exit.then]
    obtain ⟨p1, p2, m1⟩ := boxes (Moves.refl [] ((w.alloc (.cells #[.int .i64 k, .slice ad len cap, .float .f64 n] 49)).alloc (.cells #[.int .i64 0, .slice none 0 0, .float .f64 0] 49)))
    refine bodyPost_ret (ret_val rfl _ _ _ _ _ _ rfl p2) rfl ⟨⟨0, .slice none 0 0, (Value.slice none 0 0).ownBlock.getD 0, [], 0⟩, rfl, ?_⟩
    exact canoned_own m1 (Own.nil _) (Fresh.nil _) fits_zero (by simp) HE.out.symm (by simp [HE.out]) (by simp [HE.out])
end Go.Proofs.Ytcngllcifcpbkaa
/-
  What package value's Plus and Right do: for every value the call returns what the chapter says, and writes nothing that was there.
-/
namespace Go.Proofs.Ytcngllcifcpbkaa
open Go.RowKit

/-- Three boxes that a call laid. -/
theorem boxes3 {w w' : World} {A B C : Array Value} {t u v : TypeId} (m : Moves [] (((w.alloc (.cells A t)).alloc (.cells B u)).alloc (.cells C v)) w') :
    w'.heap[w.heap.size]? = some (.cells A t (0, 0)) ∧ w'.heap[w.heap.size + 1]? = some (.cells B u (0, 0)) ∧ w'.heap[w.heap.size + 1 + 1]? = some (.cells C v (0, 0)) ∧ Moves [] w w' := by
  obtain ⟨h1, h2, h3⟩ := boxes (((Moves.refl [] ((w.alloc (.cells A t)).alloc (.cells B u))).alloc (.cells C v)).then m)
  refine ⟨h1, h2, m.at ?_ (by simp), h3⟩
  have e := heap_alloc_new ((w.alloc (.cells A t)).alloc (.cells B u)) (.cells C v)
  have e2 : ((w.alloc (.cells A t)).alloc (.cells B u)).heap.size = w.heap.size + 1 + 1 := by simp
  rw [e2] at e
  exact e

/-- What Right tells. -/
def vright (a : Vm) : Bool := (a.kind == 1 && decide (a.bs.length ≤ 16)) || a.kind == 2

theorem vRight_w (a : Vm) (w : World) (ha : a.In w) :
    Calls Try.prog 70 #[a.val] w fun e w' => e = .returned (.bool (vright a)) ∧ Moves [] w w' := by
  obtain ⟨k, bv, g, bs, n⟩ := a
  obtain ⟨ha1, ha2, ha3⟩ := ha
  simp only at ha1 ha2 ha3
  obtain ⟨ad, len, cap, rfl, hl, _⟩ := ha1
  simp only [vright, Vm.val]
  rw [hl]
  rcases kd_cases k with ⟨rfl, e⟩ | ⟨rfl, e⟩ | ⟨h1, h2, e⟩
  · clear e
    by_cases h : len ≤ 16
    · have h' : (len : Int) ≤ 16 := by omega
      have e : ((1 : Int) == 1 && decide (len ≤ 16) || (1 : Int) == 2) = true := by simp [h]
      rw [e]
      go_enter Try.func70, Try.ntmps70
      go_wp2
      go_ret
      exact ⟨rfl, (Moves.refl _ _).alloc _⟩
    · have h' : ¬ (len : Int) ≤ 16 := by omega
      have e : ((1 : Int) == 1 && decide (len ≤ 16) || (1 : Int) == 2) = false := by simp [h]
      rw [e]
      go_enter Try.func70, Try.ntmps70
      go_wp2
      go_ret
      exact ⟨rfl, (Moves.refl _ _).alloc _⟩
  · have e' : ((2 : Int) == 1 && decide (len ≤ 16) || (2 : Int) == 2) = true := by simp
    rw [e']
    go_enter Try.func70, Try.ntmps70
    go_wp2
    go_ret
    exact ⟨rfl, (Moves.refl _ _).alloc _⟩
  · have t1 : (k == 1) = false := by simpa using h1
    have t2 : (k == 2) = false := by simpa using h2
    have e' : (k == 1 && decide (len ≤ 16) || k == 2) = false := by simp [t1, t2]
    rw [e']
    clear e e' h1 h2
    go_enter Try.func70, Try.ntmps70
    go_wp2
    go_ret
    exact ⟨rfl, (Moves.refl _ _).alloc _⟩
end Go.Proofs.Ytcngllcifcpbkaa
/-
  What the drawn value and the law's own 'known' do: the call returns a value that may be, or true, and writes nothing that was there.
-/
namespace Go.Proofs.Ytcngllcifcpbkaa
open Go.RowKit

end Go.Proofs.Ytcngllcifcpbkaa
/-
  The contracts of values once more, told of by an elder world that the running one has grown out of.
-/
namespace Go.Proofs.Ytcngllcifcpbkaa
open Go.RowKit

/-- That value stands for A, in W's memory. -/
structure VIs (W : World) (v : Value) (A : Vm) : Prop where
  val : v = A.val
  isIn : A.In W

theorem VIs.moves {W W' : World} {v : Value} {A : Vm} (h : VIs W v A) (m : Moves [] W W') : VIs W' v A := ⟨h.val, h.isIn.moves m (by simp)⟩
theorem VIs.open {W : World} {v : Value} {A : Vm} (h : VIs W v A) : ∃ ad len cap, A.bv = .slice ad len cap ∧ v = .agg #[.int .i64 A.kind, .slice ad len cap, .float .f64 A.n] := by
  obtain ⟨ad, len, cap, e, _⟩ := h.isIn.isB
  exact ⟨ad, len, cap, e, by rw [h.val, Vm.val, e]⟩

theorem right_b (W w : World) (va : Value) (A : Vm) (ha : VIs W va A) (m : Moves [] W w) :
    Calls Try.prog 70 #[va] w fun e w' => e = .returned (.bool (vright A)) ∧ Moves [] W w' := by
  obtain ⟨rfl, ha⟩ := ha
  exact (vRight_w A w (ha.moves m (by simp))).mono fun e w' h => ⟨h.1, m.then h.2⟩
theorem vord_canoned {w w' : World} {a c : Vm} (h : Canoned w w' a c) : vord a c = 0 := by
  have hk : kd c.kind = kd a.kind := by
    rw [h.kind]
    rcases kd_cases a.kind with ⟨_, e⟩ | ⟨_, e⟩ | ⟨_, _, e⟩ <;> rw [e] <;> decide
  unfold vord
  rw [hk, h.bs, h.n]
  rcases kd_cases a.kind with ⟨_, e⟩ | ⟨_, e⟩ | ⟨_, _, e⟩ <;> rw [e] <;> simp [icmp]
  · exact bcmp_self _
  · unfold Pl.ord Pl.rank
    rw [Pl.canon_canon]
    simp [Pl.cmp]

/-- Canon: what comes is held apart from all that was there. -/
theorem canon_b (W w : World) (va : Value) (A : Vm) (ha : VIs W va A) (m : Moves [] W w) (hl : A.bs.length ≤ 1099511627776) :
    Calls Try.prog 51 #[va] w fun e w' => ∃ c : Vm, e = .returned c.val ∧ Canoned w w' A c ∧ VIs w' c.val c ∧ vord A c = 0 ∧ Moves [] W w' := by
  obtain ⟨rfl, ha⟩ := ha
  exact (vCanon_w A w (ha.moves m (by simp)) hl).mono fun e w' ⟨c, h1, h2⟩ => ⟨c, h1, h2, ⟨rfl, h2.isIn⟩, vord_canoned h2, m.then h2.moves⟩

end Go.Proofs.Ytcngllcifcpbkaa
