/-
  What package value's Canon, Plus and Right do: for every value the call returns what the chapter says, and writes nothing that was there.
-/
import Derived.Test.YtpofalalfemkhaaVal2
namespace Go.Proofs.Ytpofalalfemkhaa
open Go.RowKit

@[go_sem] theorem run_store_flt {P : Program} (w : World) (a : Addr) (m : Mode) (k : FloatKind) (b : Nat) : (store a (.float k b) m).run P w = stored P w a (.float k b) m := run_store P w a _ m rfl

set_option maxHeartbeats 1000000 in
theorem vfresh_w (v : Value) (g : Nat) (bs : List Nat) (w : World) (h : IsB w g v bs) (hb : bs.length ≤ 1099511627776) :
    Calls Try.prog 89 #[v] w fun e w' => ∃ v', e = .returned v' ∧ Own w' v' bs ∧ Moves [] w w' ∧ Fresh w v' := by
  obtain ⟨i0, hi, hz0, hz1, hz2⟩ := info_parts Try.info5
  have h0 := h
  obtain ⟨ad, n, cap, rfl, hn, _⟩ := h
  have b2 : i0.bytes * n ≤ 281474976710656 := by rw [hz2]; omega
  have b3 : n ≤ maxLen := by unfold maxLen; omega
  go_enter Try.func89, Try.ntmps89
  go_wp2_with (at_make; refine wpList_make_full _ rfl (.tmp 5) (.tmp 5) 25 rfl 0 5 i0 (.int .u8 0) 1 Try.underlying25 hi hz0 hz1 .i64 .i64 _ _ n rfl rfl rfl rfl b2 b3 (Nat.zero_le _) ?_; intro w1 ho1 hg1; have hd1 := made_row ho1 hg1; have hc1 := h0.moves hd1.2.1 (by simp); obtain ⟨w2, hrun, ho2, hB2⟩ := copy_run _ _ _ _ _ bs hd1.1 hc1 hb _ hd1.2.2 (Nat.le_refl _))
  go_ret
  exact ⟨_, rfl, ho2, ⟨hB2.os, hB2.tape, hB2.output, hB2.size, fun k hk _ => hB2.block k hk⟩, fun k hk => by simp [Value.ownBlock] at hk; omega⟩

theorem Try.size39 : (Try.prog.info? 39).map (·.size) = some 3 := by kernel_rfl

/-- What a function hands back whose result is a value. -/
theorem ret_val {fn : Func} {p : Tmp} (h : fn.results = #[.cell p 39]) (tmps : Array Value) (w : World) (g : Nat) (x y z : Value) (hp : tmps.getD p undef = .pointer (some ⟨g, 0, none⟩)) (hg : w.heap[g]? = some (.cells #[x, y, z] 39 (0, 0))) :
    (results fn tmps).run Try.prog w = .ok (.agg #[x, y, z]) w :=
  results_cell_row h tmps w g 39 _ (0, 0) _ hp hg Try.underlying39 rfl Try.size39

theorem vtext_w (ad : Option Addr) (len cap : Nat) (w : World) :
    Calls Try.prog 88 #[.slice ad len cap] w fun e w' => e = .returned (.agg #[.int .i64 1, .slice ad len cap, .float .f64 0]) ∧ Moves [] w w' := by
  go_enter Try.func88, Try.ntmps88
  go_wp2
  try simp only [Exit.inBlock, Exit.then]
  exact bodyPost_ret (ret_val rfl _ _ _ _ _ _ rfl (heap_alloc_new _ _)) rfl ⟨rfl, (Moves.refl _ _).alloc _⟩

theorem vnumber_w (n : Nat) (w : World) :
    Calls Try.prog 90 #[.float .f64 n] w fun e w' => e = .returned (.agg #[.int .i64 2, .slice none 0 0, .float .f64 n]) ∧ Moves [] w w' := by
  go_enter Try.func90, Try.ntmps90
  go_wp2
  try simp only [Exit.inBlock, Exit.then]
  exact bodyPost_ret (ret_val rfl _ _ _ _ _ _ rfl (heap_alloc_new _ _)) rfl ⟨rfl, (Moves.refl _ _).alloc _⟩

/-- What Canon makes of a value. -/
structure Canoned (w w' : World) (a c : Vm) : Prop where
  isIn : c.In w'
  moves : Moves [] w w'
  own : Own w' c.bv c.bs
  fresh : Fresh w c.bv
  kind : c.kind = kd a.kind
  bs : c.bs = if kd a.kind = 1 then a.bs else []
  n : c.n = if kd a.kind = 2 then Pl.canon a.n else 0

theorem canoned_own {w w' : World} {a : Vm} {k : Int} {v : Value} {bs : List Nat} {n : Nat} (hm : Moves [] w w') (ho : Own w' v bs) (hf : Fresh w v) (hn : Pl.Fits n) (hb : ∀ z ∈ bs, z < 256) (h1 : k = kd a.kind) (h2 : bs = if kd a.kind = 1 then a.bs else []) (h3 : n = if kd a.kind = 2 then Pl.canon a.n else 0) :
    Canoned w w' a ⟨k, v, v.ownBlock.getD 0, bs, n⟩ := ⟨⟨ho.isB, hn, hb⟩, hm, ho, hf, h1, h2, h3⟩

/-- A value stored into a box that the call laid. -/
theorem stored3 {w0 w : World} {p : Nat} {x0 y0 z0 : Value} {t : TypeId} (hp : w.heap[p]? = some (.cells #[x0, y0, z0] t (0, 0))) (m : Moves [] w0 w) (hlt : w0.heap.size ≤ p) (x y z : Value) :
    (((w.setCell ⟨p, 0, none⟩ x).setCell ⟨p, 1, none⟩ y).setCell ⟨p, 2, none⟩ z).heap[p]? = some (.cells #[x, y, z] t (0, 0)) ∧ Moves [] w0 (((w.setCell ⟨p, 0, none⟩ x).setCell ⟨p, 1, none⟩ y).setCell ⟨p, 2, none⟩ z) ∧ Moves [p] w (((w.setCell ⟨p, 0, none⟩ x).setCell ⟨p, 1, none⟩ y).setCell ⟨p, 2, none⟩ z) := by
  have hm : Moves [p] w (((w.setCell ⟨p, 0, none⟩ x).setCell ⟨p, 1, none⟩ y).setCell ⟨p, 2, none⟩ z) := ((moves_set _ _ _ _).then (moves_set _ _ _ _)).then (moves_set _ _ _ _)
  refine ⟨?_, m.trans hm (fun k hk => .inr (by simp at hk; omega)), hm⟩
  exact heap_set (i := 2) (heap_set (i := 1) (heap_set (i := 0) hp x) y) z

set_option maxHeartbeats 1000000 in
theorem vCanon_w (a : Vm) (w : World) (ha : a.In w) (hl : a.bs.length ≤ 1099511627776) :
    Calls Try.prog 51 #[a.val] w fun e w' => ∃ c : Vm, e = .returned c.val ∧ Canoned w w' a c := by
  obtain ⟨k, bv, g, bs, n⟩ := a
  obtain ⟨ha1, ha2, ha3⟩ := ha
  simp only at ha1 ha2 ha3 hl
  have ha0 := ha1
  obtain ⟨ad, len, cap, rfl, _⟩ := ha1
  simp only [Vm.val]
  have hm0 : Moves [] w ((w.alloc (.cells #[.int .i64 k, .slice ad len cap, .float .f64 n] 39)).alloc (.cells #[.int .i64 0, .slice none 0 0, .float .f64 0] 39)) := ((Moves.refl _ _).alloc _).alloc _
  rcases kd_cases k with ⟨rfl, e⟩ | ⟨rfl, e⟩ | ⟨h1, h2, e⟩
  · have HE : Hid (kd 1 = 1) := e
    clear e
    go_enter Try.func51, Try.ntmps51
    go_wp2_with (first | (go_at_call 89; refine (vfresh_w _ g bs _ (ha0.moves hm0 (by simp)) hl).mono ?_; rintro _ w2 ⟨v2, rfl, ho2, m2, f2⟩; have hi2 := ho2.isB; obtain ⟨ad2, n2, cap2, rfl, _⟩ := hi2) | (go_at_call 88; refine (vtext_w _ _ _ _).mono ?_; rintro _ w3 ⟨rfl, m3⟩; obtain ⟨p1, p2, m1⟩ := boxes (m2.then m3); obtain ⟨d0, d1, d2, e0, e1, e2⟩ := three_cells p2))
    try simp only [Exit.inBlock, Exit.then]
    obtain ⟨s1, s2, s3⟩ := stored3 p2 m1 (Nat.le_succ _) (.int .i64 1) (.slice ad2 n2 cap2) (.float .f64 0)
    refine bodyPost_ret (ret_val rfl _ _ _ _ _ _ rfl s1) rfl ⟨⟨1, .slice ad2 n2 cap2, (Value.slice ad2 n2 cap2).ownBlock.getD 0, bs, 0⟩, rfl, ?_⟩
    exact canoned_own s2 ((ho2.moves m3 (by simp)).moves s3 (fun k hk => by have := f2 k hk; simp at this ⊢; omega)) (fun k hk => by have := f2 k hk; simp at this; omega) fits_zero ha3 HE.out.symm (by simp [HE.out]) (by simp [HE.out])
  · have HE : Hid (kd 2 = 2) := e
    clear e
    go_enter Try.func51, Try.ntmps51
    go_wp2_with (first | (go_at_call 91; refine (canon_w _ _).mono ?_; rintro _ _ ⟨rfl, rfl⟩) | (go_at_call 90; refine (vnumber_w _ _).mono ?_; rintro _ w3 ⟨rfl, m3⟩; obtain ⟨p1, p2, m1⟩ := boxes m3; obtain ⟨d0, d1, d2, e0, e1, e2⟩ := three_cells p2))
    try simp only [Exit.inBlock, Exit.then]
    obtain ⟨s1, s2, s3⟩ := stored3 p2 m1 (Nat.le_succ _) (.int .i64 2) (.slice none 0 0) (.float .f64 (Pl.canon n))
    refine bodyPost_ret (ret_val rfl _ _ _ _ _ _ rfl s1) rfl ⟨⟨2, .slice none 0 0, (Value.slice none 0 0).ownBlock.getD 0, [], Pl.canon n⟩, rfl, ?_⟩
    exact canoned_own s2 (Own.nil _) (Fresh.nil _) (Pl.fits_canon ha2) (by simp) HE.out.symm (by simp [HE.out]) (by simp [HE.out])
  · have t1 : (k == 1) = false := by simpa using h1
    have t2 : (k == 2) = false := by simpa using h2
    have HE : Hid (kd k = 0) := e
    clear e h1 h2
    go_enter Try.func51, Try.ntmps51
    go_wp2
    try simp only [Exit.inBlock, Exit.then]
    obtain ⟨p1, p2, m1⟩ := boxes (Moves.refl [] ((w.alloc (.cells #[.int .i64 k, .slice ad len cap, .float .f64 n] 39)).alloc (.cells #[.int .i64 0, .slice none 0 0, .float .f64 0] 39)))
    refine bodyPost_ret (ret_val rfl _ _ _ _ _ _ rfl p2) rfl ⟨⟨0, .slice none 0 0, (Value.slice none 0 0).ownBlock.getD 0, [], 0⟩, rfl, ?_⟩
    exact canoned_own m1 (Own.nil _) (Fresh.nil _) fits_zero (by simp) HE.out.symm (by simp [HE.out]) (by simp [HE.out])
end Go.Proofs.Ytpofalalfemkhaa
