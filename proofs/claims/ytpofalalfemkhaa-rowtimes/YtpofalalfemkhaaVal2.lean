/-
  What package value's Order and Same do: for every two values the call returns their order, and writes nothing that was there.
-/
import Derived.Test.YtpofalalfemkhaaVal1
namespace Go.Proofs.Ytpofalalfemkhaa
open Go.RowKit

/-- Two boxes that a call laid. -/
theorem boxes {w w' : World} {A B : Array Value} {t u : TypeId} (m : Moves [] ((w.alloc (.cells A t)).alloc (.cells B u)) w') :
    w'.heap[w.heap.size]? = some (.cells A t (0, 0)) ∧ w'.heap[w.heap.size + 1]? = some (.cells B u (0, 0)) ∧ Moves [] w w' := by
  refine ⟨m.at ?_ (by simp), m.at ?_ (by simp), ((((Moves.refl [] w).alloc _).alloc _).then m)⟩
  · exact (Below.heap_alloc _ _ _ (by simp)).trans (heap_alloc_new _ _)
  · have e := heap_alloc_new (w.alloc (.cells A t)) (.cells B u)
    have e2 : (w.alloc (.cells A t)).heap.size = w.heap.size + 1 := by simp
    rw [e2] at e
    exact e

theorem icmp_zero {x y : Int} (h : icmp x y = 0) : y = x := by
  unfold icmp at h
  split at h
  · simp at h
  · split at h
    · simp at h
    · omega
theorem icmp_self (x : Int) : icmp x x = 0 := by simp [icmp]

set_option maxHeartbeats 1000000 in
theorem vOrder_w (a b : Vm) (w : World) (ha : a.In w) (hb : b.In w) :
    Calls Try.prog 119 #[a.val, b.val] w fun e w' => e = .returned (.int .i64 (vord a b)) ∧ Moves [] w w' := by
  obtain ⟨k, bv, g, bs, n⟩ := a
  obtain ⟨l, cv, h, cs, m⟩ := b
  obtain ⟨ha1, ha2, ha3⟩ := ha
  obtain ⟨hb1, hb2, hb3⟩ := hb
  simp only at ha1 ha2 ha3 hb1 hb2 hb3
  have ha0 := ha1
  have hb0 := hb1
  obtain ⟨ad, len, cap, rfl, _⟩ := ha1
  obtain ⟨ad', len', cap', rfl, _⟩ := hb1
  unfold vord
  simp only [Vm.val]
  by_cases ho : icmp (kd k) (kd l) ≠ 0
  · rw [if_pos ho]
    have t1 : (icmp (kd k) (kd l) != 0) = true := by simpa using ho
    obtain ⟨o, ho⟩ : ∃ o, icmp (kd k) (kd l) = o := ⟨_, rfl⟩
    rw [ho] at t1 ⊢
    have HO : Hid (icmp (kd k) (kd l) = o) := ho
    clear ho
    go_enter Try.func119, Try.ntmps119
    go_wp2_with (first | (go_at_call 113; have q2 := m2; refine (kind_w _ _ _ _ _ _).mono ?_; rintro _ w3 ⟨rfl, m3⟩; obtain ⟨p1, p2, m0⟩ := boxes (m2.then m3); obtain ⟨c0, c1, c2, _, _, _⟩ := three_cells p1; obtain ⟨d0, d1, d2, _, _, _⟩ := three_cells p2) | (go_at_call 113; refine (kind_w _ _ _ _ _ _).mono ?_; rintro _ w2 ⟨rfl, m2⟩; obtain ⟨p1, p2, m0⟩ := boxes m2; obtain ⟨c0, c1, c2, _, _, _⟩ := three_cells p1; obtain ⟨d0, d1, d2, _, _, _⟩ := three_cells p2) | (go_at_call 122; refine (compareInt_w _ _ _).mono ?_; rintro _ _ ⟨rfl, rfl⟩; rw [HO.out]))
    go_ret
    exact ⟨rfl, m0⟩
  · have ho' : icmp (kd k) (kd l) = 0 := Decidable.not_not.1 ho
    rw [if_neg ho]
    clear ho
    rcases kd_cases k with ⟨z, e⟩ | ⟨z, e⟩ | ⟨z, _, e⟩
    · rw [if_pos e]
      rw [e] at ho'
      have HL : Hid (kd l = 1) := icmp_zero ho'
      have HK : Hid (kd k = 1) := e
      have HO : Hid (icmp 1 1 = 0) := icmp_self 1
      clear e ho' z
      go_enter Try.func119, Try.ntmps119
      go_wp2_with (first | (go_at_call 113; have q2 := m2; refine (kind_w _ _ _ _ _ _).mono ?_; rintro _ w3 ⟨rfl, m3⟩; rw [HL.out]; obtain ⟨p1, p2, m0⟩ := boxes (m2.then m3); obtain ⟨c0, c1, c2, _, _, _⟩ := three_cells p1; obtain ⟨d0, d1, d2, _, _, _⟩ := three_cells p2) | (go_at_call 113; refine (kind_w _ _ _ _ _ _).mono ?_; rintro _ w2 ⟨rfl, m2⟩; rw [HK.out]; obtain ⟨p1, p2, m0⟩ := boxes m2; obtain ⟨c0, c1, c2, _, _, _⟩ := three_cells p1; obtain ⟨d0, d1, d2, _, _, _⟩ := three_cells p2) | (go_at_call 122; refine (compareInt_w _ _ _).mono ?_; rintro _ _ ⟨rfl, rfl⟩; rw [HO.out]) | (go_at_call 123; refine (bytesCompare_w _ _ g h bs cs _ (ha0.moves m0 (by simp)) (hb0.moves m0 (by simp)) ha3 hb3).mono ?_; rintro _ _ ⟨rfl, rfl⟩))
      go_ret
      exact ⟨rfl, m0⟩
    · rw [if_neg (by omega), if_pos e]
      rw [e] at ho'
      have HL : Hid (kd l = 2) := icmp_zero ho'
      have HK : Hid (kd k = 2) := e
      have HO : Hid (icmp 2 2 = 0) := icmp_self 2
      clear e ho' z
      go_enter Try.func119, Try.ntmps119
      go_wp2_with (first | (go_at_call 113; have q2 := m2; refine (kind_w _ _ _ _ _ _).mono ?_; rintro _ w3 ⟨rfl, m3⟩; rw [HL.out]; obtain ⟨p1, p2, m0⟩ := boxes (m2.then m3); obtain ⟨c0, c1, c2, _, _, _⟩ := three_cells p1; obtain ⟨d0, d1, d2, _, _, _⟩ := three_cells p2) | (go_at_call 113; refine (kind_w _ _ _ _ _ _).mono ?_; rintro _ w2 ⟨rfl, m2⟩; rw [HK.out]; obtain ⟨p1, p2, m0⟩ := boxes m2; obtain ⟨c0, c1, c2, _, _, _⟩ := three_cells p1; obtain ⟨d0, d1, d2, _, _, _⟩ := three_cells p2) | (go_at_call 122; refine (compareInt_w _ _ _).mono ?_; rintro _ _ ⟨rfl, rfl⟩; rw [HO.out]) | (go_at_call 124; refine (order_w _ _ ha2 hb2 _).mono ?_; rintro _ _ ⟨rfl, rfl⟩))
      go_ret
      exact ⟨rfl, m0⟩
    · rw [if_neg (by omega), if_neg (by omega)]
      rw [e] at ho'
      have HL : Hid (kd l = 0) := icmp_zero ho'
      have HK : Hid (kd k = 0) := e
      have HO : Hid (icmp 0 0 = 0) := icmp_self 0
      clear e ho' z
      go_enter Try.func119, Try.ntmps119
      go_wp2_with (first | (go_at_call 113; have q2 := m2; refine (kind_w _ _ _ _ _ _).mono ?_; rintro _ w3 ⟨rfl, m3⟩; rw [HL.out]; obtain ⟨p1, p2, m0⟩ := boxes (m2.then m3); obtain ⟨c0, c1, c2, _, _, _⟩ := three_cells p1; obtain ⟨d0, d1, d2, _, _, _⟩ := three_cells p2) | (go_at_call 113; refine (kind_w _ _ _ _ _ _).mono ?_; rintro _ w2 ⟨rfl, m2⟩; rw [HK.out]; obtain ⟨p1, p2, m0⟩ := boxes m2; obtain ⟨c0, c1, c2, _, _, _⟩ := three_cells p1; obtain ⟨d0, d1, d2, _, _, _⟩ := three_cells p2) | (go_at_call 122; refine (compareInt_w _ _ _).mono ?_; rintro _ _ ⟨rfl, rfl⟩; rw [HO.out]))
      go_ret
      exact ⟨rfl, m0⟩

theorem vSame_w (a b : Vm) (w : World) (ha : a.In w) (hb : b.In w) :
    Calls Try.prog 110 #[a.val, b.val] w fun e w' => e = .returned (.bool (vord a b == 0)) ∧ Moves [] w w' := by
  obtain ⟨k, bv, g, bs, n⟩ := a
  obtain ⟨l, cv, h, cs, m⟩ := b
  have ha0 := ha.isB
  have hb0 := hb.isB
  simp only at ha0 hb0
  have hc := fun w1 (m1 : Moves [] w w1) => vOrder_w _ _ w1 (ha.moves m1 (by simp)) (hb.moves m1 (by simp))
  obtain ⟨ad, len, cap, rfl, _⟩ := ha0
  obtain ⟨ad', len', cap', rfl, _⟩ := hb0
  generalize vord ⟨k, .slice ad len cap, g, bs, n⟩ ⟨l, .slice ad' len' cap', h, cs, m⟩ = o at hc
  simp only [Vm.val] at hc ⊢
  go_enter Try.func110, Try.ntmps110
  go_wp2_with (go_at_call 119; refine (hc _ (((Moves.refl [] w).alloc _).alloc _)).mono ?_; rintro _ w2 ⟨rfl, m2⟩)
  go_ret
  exact ⟨rfl, (((Moves.refl [] w).alloc _).alloc _).then m2⟩
end Go.Proofs.Ytpofalalfemkhaa
