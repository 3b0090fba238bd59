/-
  What the document's own Same, Right, Plus and Canon of values do: they return what package value's functions are proved to return, and write nothing that was there.
-/
import Derived.Test.YtdngndkdkbggkaaCRf3
namespace Go.Proofs.Ytdngndkdkbggkaa
open Go.RowKit

theorem rSame_w (a b : Vm) (w : World) (ha : a.In w) (hb : b.In w) :
    Calls Try.prog 77 #[a.val, b.val] w fun e w' => e = .returned (.bool (vord a b == 0)) ∧ Moves [] w w' := by
  obtain ⟨k, bv, g, bs, n⟩ := a
  obtain ⟨l, cv, h, cs, m⟩ := b
  have ha0 := ha.isB
  have hb0 := hb.isB
  simp only at ha0 hb0
  have hc := fun w1 (m1 : Moves [] w w1) => rOrder_w _ _ w1 (ha.moves m1 (by simp)) (hb.moves m1 (by simp))
  obtain ⟨ad, len, cap, rfl, _⟩ := ha0
  obtain ⟨ad', len', cap', rfl, _⟩ := hb0
  generalize vord ⟨k, .slice ad len cap, g, bs, n⟩ ⟨l, .slice ad' len' cap', h, cs, m⟩ = o at hc
  simp only [Vm.val] at hc ⊢
  go_enter Try.func77, Try.ntmps77
  go_wp2_with (go_at_call 115; refine (hc _ (((Moves.refl [] w).alloc _).alloc _)).mono ?_; rintro _ w2 ⟨rfl, m2⟩)
  go_ret
  exact ⟨rfl, (((Moves.refl [] w).alloc _).alloc _).then m2⟩
theorem rRight_w (a : Vm) (w : World) (ha : a.In w) :
    Calls Try.prog 53 #[a.val] w fun e w' => e = .returned (.bool (vright a)) ∧ Moves [] w w' := by
  obtain ⟨k, bv, g, bs, n⟩ := a
  obtain ⟨ha1, ha2, ha3⟩ := ha
  simp only at ha1 ha2 ha3
  obtain ⟨ad, len, cap, rfl, hl, _⟩ := ha1
  simp only [vright, Vm.val]
  rw [hl]
  rcases kd_cases k with ⟨rfl, e⟩ | ⟨rfl, e⟩ | ⟨h1, h2, e⟩
  · clear e
    by_cases h : len ≤ 16
    · have h' : (len : Int) ≤ 16 := by omega
      have e : ((1 : Int) == 1 && decide (len ≤ 16) || (1 : Int) == 2) = true := by simp [h]
      rw [e]
      go_enter Try.func53, Try.ntmps53
      go_wp2
      go_ret
      exact ⟨rfl, (Moves.refl _ _).alloc _⟩
    · have h' : ¬ (len : Int) ≤ 16 := by omega
      have e : ((1 : Int) == 1 && decide (len ≤ 16) || (1 : Int) == 2) = false := by simp [h]
      rw [e]
      go_enter Try.func53, Try.ntmps53
      go_wp2
      go_ret
      exact ⟨rfl, (Moves.refl _ _).alloc _⟩
  · have e' : ((2 : Int) == 1 && decide (len ≤ 16) || (2 : Int) == 2) = true := by simp
    rw [e']
    go_enter Try.func53, Try.ntmps53
    go_wp2
    go_ret
    exact ⟨rfl, (Moves.refl _ _).alloc _⟩
  · have t1 : (k == 1) = false := by simpa using h1
    have t2 : (k == 2) = false := by simpa using h2
    have e' : (k == 1 && decide (len ≤ 16) || k == 2) = false := by simp [t1, t2]
    rw [e']
    clear e e' h1 h2
    go_enter Try.func53, Try.ntmps53
    go_wp2
    go_ret
    exact ⟨rfl, (Moves.refl _ _).alloc _⟩
set_option maxHeartbeats 1000000 in
theorem rCanon_w (a : Vm) (w : World) (ha : a.In w) (hl : a.bs.length ≤ 1099511627776) :
    Calls Try.prog 55 #[a.val] w fun e w' => ∃ c : Vm, e = .returned c.val ∧ Canoned w w' a c := by
  obtain ⟨k, bv, g, bs, n⟩ := a
  obtain ⟨ha1, ha2, ha3⟩ := ha
  simp only at ha1 ha2 ha3 hl
  have ha0 := ha1
  obtain ⟨ad, len, cap, rfl, _⟩ := ha1
  simp only [Vm.val]
  have hm0 : Moves [] w ((w.alloc (.cells #[.int .i64 k, .slice ad len cap, .float .f64 n] 61)).alloc (.cells #[.int .i64 0, .slice none 0 0, .float .f64 0] 61)) := ((Moves.refl _ _).alloc _).alloc _
  rcases kd_cases k with ⟨rfl, e⟩ | ⟨rfl, e⟩ | ⟨h1, h2, e⟩
  · have HE : Hid (kd 1 = 1) := e
    clear e
    have esz : ((w.alloc (.cells #[.int .i64 1, .slice ad len cap, .float .f64 n] 61)).alloc (.cells #[.int .i64 0, .slice none 0 0, .float .f64 0] 61)).heap.size = w.heap.size + 1 + 1 := by simp
    have ho0 := own_empty ((w.alloc (.cells #[.int .i64 1, .slice ad len cap, .float .f64 n] 61)).alloc (.cells #[.int .i64 0, .slice none 0 0, .float .f64 0] 61))
    have hf0 := fresh_empty ((w.alloc (.cells #[.int .i64 1, .slice ad len cap, .float .f64 n] 61)).alloc (.cells #[.int .i64 0, .slice none 0 0, .float .f64 0] 61))
    rw [esz] at ho0 hf0
    go_enter Try.func55, Try.ntmps55
    go_wp2_with (at_builtin; refine append_law (.tmp 7) (.tmp 9) rfl _ _ [] bs g rfl rfl rfl ho0 (ha0.moves (hm0.alloc _) (by simp)) (by simpa using hl) ?_; intro v2 w2 ho2 m2 hat2; rw [List.nil_append] at ho2; have hA2 := appended ((Moves.refl [] ((w.alloc (.cells #[.int .i64 1, .slice ad len cap, .float .f64 n] 61)).alloc (.cells #[.int .i64 0, .slice none 0 0, .float .f64 0] 61))).alloc (.cells #[] 5)) hf0 m2 hat2; have hi2 := ho2.isB; obtain ⟨ad2, n2, cap2, rfl, _⟩ := hi2; obtain ⟨p1, p2, m1⟩ := boxes hA2.1; obtain ⟨d0, d1, d2, e0, e1, e2⟩ := three_cells p2)
    try simp only [Exit.inBlock, Exit.then]
    obtain ⟨s1, s2, s3⟩ := stored3 p2 m1 (Nat.le_succ _) (.int .i64 1) (.slice ad2 n2 cap2) (.float .f64 0)
    refine bodyPost_ret (ret_val rfl _ _ _ _ _ _ rfl s1) rfl ⟨⟨1, .slice ad2 n2 cap2, (Value.slice ad2 n2 cap2).ownBlock.getD 0, bs, 0⟩, rfl, ?_⟩
    exact canoned_own s2 (ho2.moves s3 (fun k hk => by have := hA2.2 k hk; simp at this ⊢; omega)) (fun k hk => by have := hA2.2 k hk; simp at this; omega) fits_zero ha3 HE.out.symm (by simp [HE.out]) (by simp [HE.out])
  · have HE : Hid (kd 2 = 2) := e
    have HC : Hid (Pl.canon (Pl.canon n) = Pl.canon n) := Pl.canon_canon n
    clear e
    go_enter Try.func55, Try.ntmps55
    go_wp2_with (first | (go_at_call 99; refine (refBits_w _ ha2 _).mono ?_; rintro _ _ ⟨rfl, rfl⟩) | (go_at_call 98; refine (refFrom_w _ (Pl.fits_canon ha2) _).mono ?_; rintro _ _ ⟨rfl, rfl⟩; rw [HC.out]))
    try simp only [Exit.inBlock, Exit.then]
    refine bodyPost_ret (ret_val rfl _ _ _ _ _ _ rfl (heap_alloc2_new _ _ _)) rfl ⟨⟨2, .slice none 0 0, (Value.slice none 0 0).ownBlock.getD 0, [], Pl.canon n⟩, rfl, ?_⟩
    exact canoned_own (((Moves.refl _ _).alloc _).alloc _) (Own.nil _) (Fresh.nil _) (Pl.fits_canon ha2) (by simp) HE.out.symm (by simp [HE.out]) (by simp [HE.out])
  · have t1 : (k == 1) = false := by simpa using h1
    have t2 : (k == 2) = false := by simpa using h2
    have HE : Hid (kd k = 0) := e
    clear e h1 h2
    go_enter Try.func55, Try.ntmps55
    go_wp2
    try simp only [Exit.inBlock, Exit.then]
    obtain ⟨p1, p2, m1⟩ := boxes (Moves.refl [] ((w.alloc (.cells #[.int .i64 k, .slice ad len cap, .float .f64 n] 61)).alloc (.cells #[.int .i64 0, .slice none 0 0, .float .f64 0] 61)))
    refine bodyPost_ret (ret_val rfl _ _ _ _ _ _ rfl p2) rfl ⟨⟨0, .slice none 0 0, (Value.slice none 0 0).ownBlock.getD 0, [], 0⟩, rfl, ?_⟩
    exact canoned_own m1 (Own.nil _) (Fresh.nil _) fits_zero (by simp) HE.out.symm (by simp [HE.out]) (by simp [HE.out])
end Go.Proofs.Ytdngndkdkbggkaa
