/-
  What the document's own Same, Right, Plus and Canon of values do: they return what package value's functions are proved to return, and write nothing that was there.
-/
import Derived.Test.YtfegflimnngfaabCRf3
namespace Go.Proofs.Ytfegflimnngfaab
open Go.RowKit

theorem rSame_w (a b : Vm) (w : World) (ha : a.In w) (hb : b.In w) :
    Calls Try.prog 16 #[a.val, b.val] w fun e w' => e = .returned (.bool (vord a b == 0)) ∧ Moves [] w w' := by
  obtain ⟨k, bv, g, bs, n⟩ := a
  obtain ⟨l, cv, h, cs, m⟩ := b
  have ha0 := ha.isB
  have hb0 := hb.isB
  simp only at ha0 hb0
  have hc := fun w1 (m1 : Moves [] w w1) => rOrder_w _ _ w1 (ha.moves m1 (by simp)) (hb.moves m1 (by simp))
  obtain ⟨ad, len, cap, rfl, _⟩ := ha0
  obtain ⟨ad', len', cap', rfl, _⟩ := hb0
  generalize vord ⟨k, .slice ad len cap, g, bs, n⟩ ⟨l, .slice ad' len' cap', h, cs, m⟩ = o at hc
  simp only [Vm.val] at hc ⊢
  go_enter Try.func16, Try.ntmps16
  go_wp2_with (go_at_call 33; refine (hc _ (((Moves.refl [] w).alloc _).alloc _)).mono ?_; rintro _ w2 ⟨rfl, m2⟩)
  go_ret
  exact ⟨rfl, (((Moves.refl [] w).alloc _).alloc _).then m2⟩
theorem rRight_w (a : Vm) (w : World) (ha : a.In w) :
    Calls Try.prog 58 #[a.val] w fun e w' => e = .returned (.bool (vright a)) ∧ Moves [] w w' := by
  obtain ⟨k, bv, g, bs, n⟩ := a
  obtain ⟨ha1, ha2, ha3⟩ := ha
  simp only at ha1 ha2 ha3
  obtain ⟨ad, len, cap, rfl, hl, _⟩ := ha1
  simp only [vright, Vm.val]
  rw [hl]
  rcases kd_cases k with ⟨rfl, e⟩ | ⟨rfl, e⟩ | ⟨h1, h2, e⟩
  · clear e
    by_cases h : len ≤ 16
    · have h' : (len : Int) ≤ 16 := by omega
      have e : ((1 : Int) == 1 && decide (len ≤ 16) || (1 : Int) == 2) = true := by simp [h]
      rw [e]
      go_enter Try.func58, Try.ntmps58
      go_wp2
      go_ret
      exact ⟨rfl, (Moves.refl _ _).alloc _⟩
    · have h' : ¬ (len : Int) ≤ 16 := by omega
      have e : ((1 : Int) == 1 && decide (len ≤ 16) || (1 : Int) == 2) = false := by simp [h]
      rw [e]
      go_enter Try.func58, Try.ntmps58
      go_wp2
      go_ret
      exact ⟨rfl, (Moves.refl _ _).alloc _⟩
  · have e' : ((2 : Int) == 1 && decide (len ≤ 16) || (2 : Int) == 2) = true := by simp
    rw [e']
    go_enter Try.func58, Try.ntmps58
    go_wp2
    go_ret
    exact ⟨rfl, (Moves.refl _ _).alloc _⟩
  · have t1 : (k == 1) = false := by simpa using h1
    have t2 : (k == 2) = false := by simpa using h2
    have e' : (k == 1 && decide (len ≤ 16) || k == 2) = false := by simp [t1, t2]
    rw [e']
    clear e e' h1 h2
    go_enter Try.func58, Try.ntmps58
    go_wp2
    go_ret
    exact ⟨rfl, (Moves.refl _ _).alloc _⟩
set_option maxHeartbeats 1000000 in
theorem rPlus_w (a b : Vm) (w : World) (ha : a.In w) (hb : b.In w) :
    Calls Try.prog 14 #[a.val, b.val] w fun e w' => e = .returned (.tuple #[(plusV a b).val, .int .i64 (plusE a b)]) ∧ Moves [] w w' := by
  obtain ⟨k, bv, g, bs, n⟩ := a
  obtain ⟨l, cv, h, cs, m⟩ := b
  obtain ⟨ha1, ha2, ha3⟩ := ha
  obtain ⟨hb1, hb2, hb3⟩ := hb
  simp only at ha1 ha2 ha3 hb1 hb2 hb3
  obtain ⟨ad, len, cap, rfl, _⟩ := ha1
  obtain ⟨ad', len', cap', rfl, _⟩ := hb1
  by_cases hk : k = 2
  · by_cases hl : l = 2
    · subst hk hl
      simp only [plusV, plusE, and_self, if_true, Vm.val, Vm.num]
      go_enter Try.func14, Try.ntmps14
      go_wp2_with (go_at_call 31; refine (refSum_w _ _ _).mono ?_; rintro _ w2 ⟨rfl, hs⟩; have m2 := Moves.ofStill hs; obtain ⟨p1, p2, p3, m1⟩ := boxes3 m2; obtain ⟨d0, d1, d2, e0, e1, e2⟩ := three_cells p3)
      try simp only [Exit.inBlock, Exit.then]
      obtain ⟨s1, s2, s3⟩ := stored3 p3 m1 (by omega) (.int .i64 2) (.slice none 0 0) (.float .f64 (Pl.sum n m))
      exact bodyPost_ret (ret_val2 rfl _ _ _ _ _ _ rfl s1) rfl ⟨rfl, s2⟩
    · subst hk
      have t : (l != 2) = true := by simpa using hl
      simp only [plusV, plusE, hl, and_false, if_false, Vm.val, Vm.zero]
      clear hl
      go_enter Try.func14, Try.ntmps14
      go_wp2
      try simp only [Exit.inBlock, Exit.then]
      obtain ⟨p1, p2, p3, m1⟩ := boxes3 (Moves.refl [] (((w.alloc (.cells #[.int .i64 2, .slice ad len cap, .float .f64 n] 35)).alloc (.cells #[.int .i64 l, .slice ad' len' cap', .float .f64 m] 35)).alloc (.cells #[.int .i64 0, .slice none 0 0, .float .f64 0] 35)))
      exact bodyPost_ret (ret_val2 rfl _ _ _ _ _ _ rfl p3) rfl ⟨rfl, m1⟩
  · have t : (k != 2) = true := by simpa using hk
    simp only [plusV, plusE, hk, false_and, if_false, Vm.val, Vm.zero]
    clear hk
    go_enter Try.func14, Try.ntmps14
    go_wp2
    try simp only [Exit.inBlock, Exit.then]
    obtain ⟨p1, p2, p3, m1⟩ := boxes3 (Moves.refl [] (((w.alloc (.cells #[.int .i64 k, .slice ad len cap, .float .f64 n] 35)).alloc (.cells #[.int .i64 l, .slice ad' len' cap', .float .f64 m] 35)).alloc (.cells #[.int .i64 0, .slice none 0 0, .float .f64 0] 35)))
    exact bodyPost_ret (ret_val2 rfl _ _ _ _ _ _ rfl p3) rfl ⟨rfl, m1⟩

set_option maxHeartbeats 1000000 in
theorem rCanon_w (a : Vm) (w : World) (ha : a.In w) (hl : a.bs.length ≤ 1099511627776) :
    Calls Try.prog 13 #[a.val] w fun e w' => ∃ c : Vm, e = .returned c.val ∧ Canoned w w' a c := by
  obtain ⟨k, bv, g, bs, n⟩ := a
  obtain ⟨ha1, ha2, ha3⟩ := ha
  simp only at ha1 ha2 ha3 hl
  have ha0 := ha1
  obtain ⟨ad, len, cap, rfl, _⟩ := ha1
  simp only [Vm.val]
  have hm0 : Moves [] w ((w.alloc (.cells #[.int .i64 k, .slice ad len cap, .float .f64 n] 35)).alloc (.cells #[.int .i64 0, .slice none 0 0, .float .f64 0] 35)) := ((Moves.refl _ _).alloc _).alloc _
  rcases kd_cases k with ⟨rfl, e⟩ | ⟨rfl, e⟩ | ⟨h1, h2, e⟩
  · have HE : Hid (kd 1 = 1) := e
    clear e
    have esz : ((w.alloc (.cells #[.int .i64 1, .slice ad len cap, .float .f64 n] 35)).alloc (.cells #[.int .i64 0, .slice none 0 0, .float .f64 0] 35)).heap.size = w.heap.size + 1 + 1 := by simp
    have ho0 := own_empty ((w.alloc (.cells #[.int .i64 1, .slice ad len cap, .float .f64 n] 35)).alloc (.cells #[.int .i64 0, .slice none 0 0, .float .f64 0] 35))
    have hf0 := fresh_empty ((w.alloc (.cells #[.int .i64 1, .slice ad len cap, .float .f64 n] 35)).alloc (.cells #[.int .i64 0, .slice none 0 0, .float .f64 0] 35))
    rw [esz] at ho0 hf0
    go_enter Try.func13, Try.ntmps13
    go_wp2_with (at_builtin; refine append_law (.tmp 7) (.tmp 9) rfl _ _ [] bs g rfl rfl rfl ho0 (ha0.moves (hm0.alloc _) (by simp)) (by simpa using hl) ?_; intro v2 w2 ho2 m2 hat2; rw [List.nil_append] at ho2; have hA2 := appended ((Moves.refl [] ((w.alloc (.cells #[.int .i64 1, .slice ad len cap, .float .f64 n] 35)).alloc (.cells #[.int .i64 0, .slice none 0 0, .float .f64 0] 35))).alloc (.cells #[] 5)) hf0 m2 hat2; have hi2 := ho2.isB; obtain ⟨ad2, n2, cap2, rfl, _⟩ := hi2; obtain ⟨p1, p2, m1⟩ := boxes hA2.1; obtain ⟨d0, d1, d2, e0, e1, e2⟩ := three_cells p2)
    try simp only [Exit.inBlock, Exit.then]
    obtain ⟨s1, s2, s3⟩ := stored3 p2 m1 (Nat.le_succ _) (.int .i64 1) (.slice ad2 n2 cap2) (.float .f64 0)
    refine bodyPost_ret (ret_val rfl _ _ _ _ _ _ rfl s1) rfl ⟨⟨1, .slice ad2 n2 cap2, (Value.slice ad2 n2 cap2).ownBlock.getD 0, bs, 0⟩, rfl, ?_⟩
    exact canoned_own s2 (ho2.moves s3 (fun k hk => by have := hA2.2 k hk; simp at this ⊢; omega)) (fun k hk => by have := hA2.2 k hk; simp at this; omega) fits_zero ha3 HE.out.symm (by simp [HE.out]) (by simp [HE.out])
  · have HE : Hid (kd 2 = 2) := e
    have HC : Hid (Pl.canon (Pl.canon n) = Pl.canon n) := Pl.canon_canon n
    clear e
    go_enter Try.func13, Try.ntmps13
    go_wp2_with (first | (go_at_call 30; refine (refBits_w _ ha2 _).mono ?_; rintro _ _ ⟨rfl, rfl⟩) | (go_at_call 29; refine (refFrom_w _ (Pl.fits_canon ha2) _).mono ?_; rintro _ _ ⟨rfl, rfl⟩; rw [HC.out]))
    try simp only [Exit.inBlock, Exit.then]
    refine bodyPost_ret (ret_val rfl _ _ _ _ _ _ rfl (heap_alloc2_new _ _ _)) rfl ⟨⟨2, .slice none 0 0, (Value.slice none 0 0).ownBlock.getD 0, [], Pl.canon n⟩, rfl, ?_⟩
    exact canoned_own (((Moves.refl _ _).alloc _).alloc _) (Own.nil _) (Fresh.nil _) (Pl.fits_canon ha2) (by simp) HE.out.symm (by simp [HE.out]) (by simp [HE.out])
  · have t1 : (k == 1) = false := by simpa using h1
    have t2 : (k == 2) = false := by simpa using h2
    have HE : Hid (kd k = 0) := e
    clear e h1 h2
    go_enter Try.func13, Try.ntmps13
    go_wp2
    try simp only [Exit.inBlock, Exit.then]
    obtain ⟨p1, p2, m1⟩ := boxes (Moves.refl [] ((w.alloc (.cells #[.int .i64 k, .slice ad len cap, .float .f64 n] 35)).alloc (.cells #[.int .i64 0, .slice none 0 0, .float .f64 0] 35)))
    refine bodyPost_ret (ret_val rfl _ _ _ _ _ _ rfl p2) rfl ⟨⟨0, .slice none 0 0, (Value.slice none 0 0).ownBlock.getD 0, [], 0⟩, rfl, ?_⟩
    exact canoned_own m1 (Own.nil _) (Fresh.nil _) fits_zero (by simp) HE.out.symm (by simp [HE.out]) (by simp [HE.out])
end Go.Proofs.Ytfegflimnngfaab
