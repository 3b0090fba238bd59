/- ours -/
import Derived.Test.YtcngllcifcpbkaaGreatCBaseV
import Derived.Deep.RegionHeld3
/-
 What the document's own answer on values (the reference of layer 3) does: Order, Same, Right, Plus and Canon return what package value's functions are proved to return, and write nothing that was there.
-/
namespace Go.Proofs.YtcngllcifcpbkaaGreat
open Go.RowKit

theorem rkind_w (k : Int) (ad : Option Addr) (len cap n : Nat) (w : World) :
  Calls Tryz.prog 137 #[.agg #[.int .i64 k, .slice ad len cap, .float .f64 n]] w fun e w' => e = .returned (.int .i64 (kd k)) ∧ Moves [] w w' := by
 rcases kd_cases k with ⟨rfl, e⟩ | ⟨rfl, e⟩ | ⟨h1, h2, e⟩
 ·rw [e]
  go_enter Tryz.func137, Tryz.ntmps137
  go_wp2
  go_ret
  exact ⟨rfl, (Moves.refl _ _).alloc _⟩
 ·rw [e]
  go_enter Tryz.func137, Tryz.ntmps137
  go_wp2
  go_ret
  exact ⟨rfl, (Moves.refl _ _).alloc _⟩
 ·rw [e]
  have t1 : (k == 1) = false := by simpa using h1
  have t2 : (k == 2) = false := by simpa using h2
  go_enter Tryz.func137, Tryz.ntmps137
  go_wp2
  go_ret
  exact ⟨rfl, (Moves.refl _ _).alloc _⟩

theorem strOf_toList (bs : List Nat) : (strOf bs).toList = bs.map UInt8.ofNat := by
 unfold strOf
 rw [ByteArray.toList_mk]

theorem less_bcmp : ∀ (a b : List Nat), (∀ z ∈ a, z < 256) → (∀ z ∈ b, z < 256) → Op.bytesLess (a.map UInt8.ofNat) (b.map UInt8.ofNat) = decide (bcmp a b < 0)
 | [], [], _, _ => by simp [Op.bytesLess, bcmp]
 | [], _ :: _, _, _ => by simp [Op.bytesLess, bcmp]
 | _ :: _, [], _, _ => by simp [Op.bytesLess, bcmp]
 | a :: s, b :: t, ha, hb => by
  have ih := less_bcmp s t (fun z hz => ha z (by simp [hz])) (fun z hz => hb z (by simp [hz]))
  have h1 : a < 256 := ha a (by simp)
  have h2 : b < 256 := hb b (by simp)
  have ex : (UInt8.ofNat a).toNat = a := UInt8.toNat_ofNat_of_lt h1
  have ey : (UInt8.ofNat b).toNat = b := UInt8.toNat_ofNat_of_lt h2
  simp only [List.map_cons]
  unfold Op.bytesLess bcmp
  have e1 : (UInt8.ofNat a < UInt8.ofNat b) ↔ a < b := by rw [UInt8.lt_iff_toNat_lt, ex, ey]
  have e2 : (UInt8.ofNat a == UInt8.ofNat b) = decide (a = b) := by
   rw [Bool.eq_iff_iff]
   simp only [beq_iff_eq, decide_eq_true_eq]
   rw [← UInt8.toNat_inj, ex, ey]
  rw [ih, e2]
  by_cases c1 : a < b
  ·simp [c1, e1]
  ·by_cases c2 : b < a
   ·have c3 : ¬ a = b := by omega
    simp [c1, c2, c3, e1]
   ·have c3 : a = b := by omega
    simp [c3]

theorem eq_bcmp (a b : List Nat) (ha : ∀ z ∈ a, z < 256) (hb : ∀ z ∈ b, z < 256) : (a.map UInt8.ofNat == b.map UInt8.ofNat) = decide (bcmp a b = 0) := by
 rw [Bool.eq_iff_iff]
 simp only [beq_iff_eq, decide_eq_true_eq]
 rw [← bcmp_lib a b ha hb]
 constructor
 ·intro h
  rw [h, bcmp_lib b b hb hb]
  exact bcmp_self b
 ·intro h
  rw [bcmp_lib a b ha hb] at h
  rw [bcmp_zero h]

set_option maxHeartbeats 2000000 in
theorem rOrder_w (a b : Vm) (w : World) (ha : a.In w) (hb : b.In w) :
  Calls Tryz.prog 106 #[a.val, b.val] w fun e w' => e = .returned (.int .i64 (vord a b)) ∧ Moves [] w w' := by
 obtain ⟨k, bv, g, bs, n⟩ := a
 obtain ⟨l, cv, h, cs, m⟩ := b
 obtain ⟨ha1, ha2, ha3⟩ := ha
 obtain ⟨hb1, hb2, hb3⟩ := hb
 simp only at ha1 ha2 ha3 hb1 hb2 hb3
 have ha0 := ha1
 have hb0 := hb1
 obtain ⟨ad, len, cap, rfl, _⟩ := ha1
 obtain ⟨ad', len', cap', rfl, _⟩ := hb1
 unfold vord
 simp only [Vm.val]
 obtain ⟨pa, pb, mb⟩ := boxes (Moves.refl [] ((w.alloc (.cells #[.int .i64 k, .slice ad len cap, .float .f64 n] 99)).alloc (.cells #[.int .i64 l, .slice ad' len' cap', .float .f64 m] 99)))
 obtain ⟨c0, c1, c2, _, _, _⟩ := three_cells pa
 obtain ⟨d0, d1, d2, _, _, _⟩ := three_cells pb
 clear pa pb
 by_cases ho : icmp (kd k) (kd l) ≠ 0
 ·rw [if_pos ho]
  obtain ⟨x, hx⟩ : ∃ x, kd k = x := ⟨_, rfl⟩
  obtain ⟨y, hy⟩ : ∃ y, kd l = y := ⟨_, rfl⟩
  rw [hx, hy] at ho ⊢
  have HK : Hid (kd k = x) := hx
  have HL : Hid (kd l = y) := hy
  clear hx hy
  by_cases hlt : x < y
  ·have e : icmp x y = -1 := by simp [icmp, hlt]
   rw [e]
   clear e ho
   go_enter Tryz.func106, Tryz.ntmps106
   go_wp2
   generalize ((w.alloc (.cells #[.int .i64 k, .slice ad len cap, .float .f64 n] 99)).alloc (.cells #[.int .i64 l, .slice ad' len' cap', .float .f64 m] 99)) = W1 at *
   go_region_held3 (fun w' => w'.cell? ⟨w.heap.size, 0, none⟩ = some (.int .i64 k) ∧ w'.cell? ⟨w.heap.size, 1, none⟩ = some (.slice ad len cap) ∧ w'.cell? ⟨w.heap.size, 2, none⟩ = some (.float .f64 n) ∧ w'.cell? ⟨w.heap.size + 1, 0, none⟩ = some (.int .i64 l) ∧ w'.cell? ⟨w.heap.size + 1, 1, none⟩ = some (.slice ad' len' cap') ∧ w'.cell? ⟨w.heap.size + 1, 2, none⟩ = some (.float .f64 m)) (first | (with_reducible exact ⟨c0, c1, c2, d0, d1, d2⟩) | (go_keep; done)) (first | (go_at_call 137; have z := m2; refine (rkind_w _ _ _ _ _ _).mono ?_; rintro _ w3 ⟨rfl, m3⟩; rw [HL.out]; replace c0 := m3.cell c0; replace c1 := m3.cell c1; replace c2 := m3.cell c2; replace d0 := m3.cell d0; replace d1 := m3.cell d1; replace d2 := m3.cell d2) | (go_at_call 137; refine (rkind_w _ _ _ _ _ _).mono ?_; rintro _ w2 ⟨rfl, m2⟩; rw [HK.out]; replace c0 := m2.cell c0; replace c1 := m2.cell c1; replace c2 := m2.cell c2; replace d0 := m2.cell d0; replace d1 := m2.cell d1; replace d2 := m2.cell d2))
   have M3 : Moves [] w w3 := (mb.drew.then m2).then m3
   go_wp2
   go_ret
   exact ⟨rfl, M3⟩
  ·have hgt : y < x := by
    unfold icmp at ho
    rw [if_neg hlt] at ho
    by_cases h : y < x
    ·exact h
    ·simp [h] at ho
   have e : icmp x y = 1 := by simp [icmp, hlt, hgt]
   rw [e]
   clear e ho
   go_enter Tryz.func106, Tryz.ntmps106
   go_wp2
   generalize ((w.alloc (.cells #[.int .i64 k, .slice ad len cap, .float .f64 n] 99)).alloc (.cells #[.int .i64 l, .slice ad' len' cap', .float .f64 m] 99)) = W1 at *
   go_region_held3 (fun w' => w'.cell? ⟨w.heap.size, 0, none⟩ = some (.int .i64 k) ∧ w'.cell? ⟨w.heap.size, 1, none⟩ = some (.slice ad len cap) ∧ w'.cell? ⟨w.heap.size, 2, none⟩ = some (.float .f64 n) ∧ w'.cell? ⟨w.heap.size + 1, 0, none⟩ = some (.int .i64 l) ∧ w'.cell? ⟨w.heap.size + 1, 1, none⟩ = some (.slice ad' len' cap') ∧ w'.cell? ⟨w.heap.size + 1, 2, none⟩ = some (.float .f64 m)) (first | (with_reducible exact ⟨c0, c1, c2, d0, d1, d2⟩) | (go_keep; done)) (first | (go_at_call 137; have z := m2; refine (rkind_w _ _ _ _ _ _).mono ?_; rintro _ w3 ⟨rfl, m3⟩; rw [HL.out]; replace c0 := m3.cell c0; replace c1 := m3.cell c1; replace c2 := m3.cell c2; replace d0 := m3.cell d0; replace d1 := m3.cell d1; replace d2 := m3.cell d2) | (go_at_call 137; refine (rkind_w _ _ _ _ _ _).mono ?_; rintro _ w2 ⟨rfl, m2⟩; rw [HK.out]; replace c0 := m2.cell c0; replace c1 := m2.cell c1; replace c2 := m2.cell c2; replace d0 := m2.cell d0; replace d1 := m2.cell d1; replace d2 := m2.cell d2))
   have M3 : Moves [] w w3 := (mb.drew.then m2).then m3
   go_wp2
   go_ret
   exact ⟨rfl, M3⟩
 ·have ho' : icmp (kd k) (kd l) = 0 := Decidable.not_not.1 ho
  rw [if_neg ho]
  clear ho
  rcases kd_cases k with ⟨z, e⟩ | ⟨z, e⟩ | ⟨z, _, e⟩
  ·rw [if_pos e]
   rw [e] at ho'
   have HL : Hid (kd l = 1) := icmp_zero ho'
   have HK : Hid (kd k = 1) := e
   clear e ho' z
   have hl := less_bcmp bs cs ha3 hb3
   have he := eq_bcmp bs cs ha3 hb3
   rw [← strOf_toList, ← strOf_toList] at hl he
   have hbd := bcmp_bounds bs cs
   have ways : (bcmp bs cs = -1 ∧ Op.bytesLess (strOf bs).toList (strOf cs).toList = true) ∨ (bcmp bs cs = 1 ∧ Op.bytesLess (strOf bs).toList (strOf cs).toList = false ∧ ((strOf bs).toList == (strOf cs).toList) = false) ∨ (bcmp bs cs = 0 ∧ Op.bytesLess (strOf bs).toList (strOf cs).toList = false ∧ ((strOf bs).toList == (strOf cs).toList) = true) := by
    rw [hl, he]
    rcases (by omega : bcmp bs cs = -1 ∨ bcmp bs cs = 1 ∨ bcmp bs cs = 0) with h | h | h <;> rw [h] <;> decide
   clear hl he hbd
   have hs1 := fun w1 (m1 : Moves [] w w1) => run_str (ha0.moves m1 (by simp)) ha3
   have hs2 := fun w1 (m1 : Moves [] w w1) => run_str (hb0.moves m1 (by simp)) hb3
   rcases ways with ⟨e, t1⟩ | ⟨e, t1, t2⟩ | ⟨e, t1, t2⟩
   all_goals rw [e]
   all_goals clear e
   ·go_enter Tryz.func106, Tryz.ntmps106
    go_wp2
    generalize ((w.alloc (.cells #[.int .i64 k, .slice ad len cap, .float .f64 n] 99)).alloc (.cells #[.int .i64 l, .slice ad' len' cap', .float .f64 m] 99)) = W1 at *
    go_region_held3 (fun w' => w'.cell? ⟨w.heap.size, 0, none⟩ = some (.int .i64 k) ∧ w'.cell? ⟨w.heap.size, 1, none⟩ = some (.slice ad len cap) ∧ w'.cell? ⟨w.heap.size, 2, none⟩ = some (.float .f64 n) ∧ w'.cell? ⟨w.heap.size + 1, 0, none⟩ = some (.int .i64 l) ∧ w'.cell? ⟨w.heap.size + 1, 1, none⟩ = some (.slice ad' len' cap') ∧ w'.cell? ⟨w.heap.size + 1, 2, none⟩ = some (.float .f64 m)) (first | (with_reducible exact ⟨c0, c1, c2, d0, d1, d2⟩) | (go_keep; done)) (first | (go_at_call 137; have z := m2; refine (rkind_w _ _ _ _ _ _).mono ?_; rintro _ w3 ⟨rfl, m3⟩; rw [HL.out]; replace c0 := m3.cell c0; replace c1 := m3.cell c1; replace c2 := m3.cell c2; replace d0 := m3.cell d0; replace d1 := m3.cell d1; replace d2 := m3.cell d2) | (go_at_call 137; refine (rkind_w _ _ _ _ _ _).mono ?_; rintro _ w2 ⟨rfl, m2⟩; rw [HK.out]; replace c0 := m2.cell c0; replace c1 := m2.cell c1; replace c2 := m2.cell c2; replace d0 := m2.cell d0; replace d1 := m2.cell d1; replace d2 := m2.cell d2))
    have M3 : Moves [] w w3 := (mb.drew.then m2).then m3
    have r1 := hs1 w3 M3
    have r2 := hs2 w3 M3
    clear hs1 hs2
    go_wp2
    go_ret
    exact ⟨rfl, M3⟩
   ·go_enter Tryz.func106, Tryz.ntmps106
    go_wp2
    generalize ((w.alloc (.cells #[.int .i64 k, .slice ad len cap, .float .f64 n] 99)).alloc (.cells #[.int .i64 l, .slice ad' len' cap', .float .f64 m] 99)) = W1 at *
    go_region_held3 (fun w' => w'.cell? ⟨w.heap.size, 0, none⟩ = some (.int .i64 k) ∧ w'.cell? ⟨w.heap.size, 1, none⟩ = some (.slice ad len cap) ∧ w'.cell? ⟨w.heap.size, 2, none⟩ = some (.float .f64 n) ∧ w'.cell? ⟨w.heap.size + 1, 0, none⟩ = some (.int .i64 l) ∧ w'.cell? ⟨w.heap.size + 1, 1, none⟩ = some (.slice ad' len' cap') ∧ w'.cell? ⟨w.heap.size + 1, 2, none⟩ = some (.float .f64 m)) (first | (with_reducible exact ⟨c0, c1, c2, d0, d1, d2⟩) | (go_keep; done)) (first | (go_at_call 137; have z := m2; refine (rkind_w _ _ _ _ _ _).mono ?_; rintro _ w3 ⟨rfl, m3⟩; rw [HL.out]; replace c0 := m3.cell c0; replace c1 := m3.cell c1; replace c2 := m3.cell c2; replace d0 := m3.cell d0; replace d1 := m3.cell d1; replace d2 := m3.cell d2) | (go_at_call 137; refine (rkind_w _ _ _ _ _ _).mono ?_; rintro _ w2 ⟨rfl, m2⟩; rw [HK.out]; replace c0 := m2.cell c0; replace c1 := m2.cell c1; replace c2 := m2.cell c2; replace d0 := m2.cell d0; replace d1 := m2.cell d1; replace d2 := m2.cell d2))
    have M3 : Moves [] w w3 := (mb.drew.then m2).then m3
    have r1 := hs1 w3 M3
    have r2 := hs2 w3 M3
    clear hs1 hs2
    go_wp2
    go_ret
    exact ⟨rfl, M3⟩
   ·go_enter Tryz.func106, Tryz.ntmps106
    go_wp2
    generalize ((w.alloc (.cells #[.int .i64 k, .slice ad len cap, .float .f64 n] 99)).alloc (.cells #[.int .i64 l, .slice ad' len' cap', .float .f64 m] 99)) = W1 at *
    go_region_held3 (fun w' => w'.cell? ⟨w.heap.size, 0, none⟩ = some (.int .i64 k) ∧ w'.cell? ⟨w.heap.size, 1, none⟩ = some (.slice ad len cap) ∧ w'.cell? ⟨w.heap.size, 2, none⟩ = some (.float .f64 n) ∧ w'.cell? ⟨w.heap.size + 1, 0, none⟩ = some (.int .i64 l) ∧ w'.cell? ⟨w.heap.size + 1, 1, none⟩ = some (.slice ad' len' cap') ∧ w'.cell? ⟨w.heap.size + 1, 2, none⟩ = some (.float .f64 m)) (first | (with_reducible exact ⟨c0, c1, c2, d0, d1, d2⟩) | (go_keep; done)) (first | (go_at_call 137; have z := m2; refine (rkind_w _ _ _ _ _ _).mono ?_; rintro _ w3 ⟨rfl, m3⟩; rw [HL.out]; replace c0 := m3.cell c0; replace c1 := m3.cell c1; replace c2 := m3.cell c2; replace d0 := m3.cell d0; replace d1 := m3.cell d1; replace d2 := m3.cell d2) | (go_at_call 137; refine (rkind_w _ _ _ _ _ _).mono ?_; rintro _ w2 ⟨rfl, m2⟩; rw [HK.out]; replace c0 := m2.cell c0; replace c1 := m2.cell c1; replace c2 := m2.cell c2; replace d0 := m2.cell d0; replace d1 := m2.cell d1; replace d2 := m2.cell d2))
    have M3 : Moves [] w w3 := (mb.drew.then m2).then m3
    have r1 := hs1 w3 M3
    have r2 := hs2 w3 M3
    clear hs1 hs2
    go_wp2
    go_ret
    exact ⟨rfl, M3⟩
  ·rw [if_neg (by omega), if_pos e]
   rw [e] at ho'
   have HL : Hid (kd l = 2) := icmp_zero ho'
   have HK : Hid (kd k = 2) := e
   clear e ho' z
   go_enter Tryz.func106, Tryz.ntmps106
   go_wp2
   generalize ((w.alloc (.cells #[.int .i64 k, .slice ad len cap, .float .f64 n] 99)).alloc (.cells #[.int .i64 l, .slice ad' len' cap', .float .f64 m] 99)) = W1 at *
   go_region_held3 (fun w' => w'.cell? ⟨w.heap.size, 0, none⟩ = some (.int .i64 k) ∧ w'.cell? ⟨w.heap.size, 1, none⟩ = some (.slice ad len cap) ∧ w'.cell? ⟨w.heap.size, 2, none⟩ = some (.float .f64 n) ∧ w'.cell? ⟨w.heap.size + 1, 0, none⟩ = some (.int .i64 l) ∧ w'.cell? ⟨w.heap.size + 1, 1, none⟩ = some (.slice ad' len' cap') ∧ w'.cell? ⟨w.heap.size + 1, 2, none⟩ = some (.float .f64 m)) (first | (with_reducible exact ⟨c0, c1, c2, d0, d1, d2⟩) | (go_keep; done)) (first | (go_at_call 137; have z := m2; refine (rkind_w _ _ _ _ _ _).mono ?_; rintro _ w3 ⟨rfl, m3⟩; rw [HL.out]; replace c0 := m3.cell c0; replace c1 := m3.cell c1; replace c2 := m3.cell c2; replace d0 := m3.cell d0; replace d1 := m3.cell d1; replace d2 := m3.cell d2) | (go_at_call 137; refine (rkind_w _ _ _ _ _ _).mono ?_; rintro _ w2 ⟨rfl, m2⟩; rw [HK.out]; replace c0 := m2.cell c0; replace c1 := m2.cell c1; replace c2 := m2.cell c2; replace d0 := m2.cell d0; replace d1 := m2.cell d1; replace d2 := m2.cell d2))
   have M3 : Moves [] w w3 := (mb.drew.then m2).then m3
   go_wp2_with (go_at_call 138; refine (refOrder_w _ _ ha2 hb2 _).mono ?_; rintro _ _ ⟨rfl, rfl⟩)
   go_ret
   exact ⟨rfl, M3⟩
  ·rw [if_neg (by omega), if_neg (by omega)]
   rw [e] at ho'
   have HL : Hid (kd l = 0) := icmp_zero ho'
   have HK : Hid (kd k = 0) := e
   clear e ho' z
   go_enter Tryz.func106, Tryz.ntmps106
   go_wp2
   generalize ((w.alloc (.cells #[.int .i64 k, .slice ad len cap, .float .f64 n] 99)).alloc (.cells #[.int .i64 l, .slice ad' len' cap', .float .f64 m] 99)) = W1 at *
   go_region_held3 (fun w' => w'.cell? ⟨w.heap.size, 0, none⟩ = some (.int .i64 k) ∧ w'.cell? ⟨w.heap.size, 1, none⟩ = some (.slice ad len cap) ∧ w'.cell? ⟨w.heap.size, 2, none⟩ = some (.float .f64 n) ∧ w'.cell? ⟨w.heap.size + 1, 0, none⟩ = some (.int .i64 l) ∧ w'.cell? ⟨w.heap.size + 1, 1, none⟩ = some (.slice ad' len' cap') ∧ w'.cell? ⟨w.heap.size + 1, 2, none⟩ = some (.float .f64 m)) (first | (with_reducible exact ⟨c0, c1, c2, d0, d1, d2⟩) | (go_keep; done)) (first | (go_at_call 137; have z := m2; refine (rkind_w _ _ _ _ _ _).mono ?_; rintro _ w3 ⟨rfl, m3⟩; rw [HL.out]; replace c0 := m3.cell c0; replace c1 := m3.cell c1; replace c2 := m3.cell c2; replace d0 := m3.cell d0; replace d1 := m3.cell d1; replace d2 := m3.cell d2) | (go_at_call 137; refine (rkind_w _ _ _ _ _ _).mono ?_; rintro _ w2 ⟨rfl, m2⟩; rw [HK.out]; replace c0 := m2.cell c0; replace c1 := m2.cell c1; replace c2 := m2.cell c2; replace d0 := m2.cell d0; replace d1 := m2.cell d1; replace d2 := m2.cell d2))
   have M3 : Moves [] w w3 := (mb.drew.then m2).then m3
   go_wp2
   go_ret
   exact ⟨rfl, M3⟩
end Go.Proofs.YtcngllcifcpbkaaGreat
/-
 What the document's own Same, Right, Plus and Canon of values do: they return what package value's functions are proved to return, and write nothing that was there.
-/
namespace Go.Proofs.YtcngllcifcpbkaaGreat
open Go.RowKit

theorem rSame_w (a b : Vm) (w : World) (ha : a.In w) (hb : b.In w) :
  Calls Tryz.prog 65 #[a.val, b.val] w fun e w' => e = .returned (.bool (vord a b == 0)) ∧ Moves [] w w' := by
 obtain ⟨k, bv, g, bs, n⟩ := a
 obtain ⟨l, cv, h, cs, m⟩ := b
 have ha0 := ha.isB
 have hb0 := hb.isB
 simp only at ha0 hb0
 have hc := fun w1 (m1 : Moves [] w w1) => rOrder_w _ _ w1 (ha.moves m1 (by simp)) (hb.moves m1 (by simp))
 obtain ⟨ad, len, cap, rfl, _⟩ := ha0
 obtain ⟨ad', len', cap', rfl, _⟩ := hb0
 generalize vord ⟨k, .slice ad len cap, g, bs, n⟩ ⟨l, .slice ad' len' cap', h, cs, m⟩ = o at hc
 simp only [Vm.val] at hc ⊢
 go_enter Tryz.func65, Tryz.ntmps65
 go_wp2_with (go_at_call 106; refine (hc _ (((Moves.refl [] w).alloc _).alloc _)).mono ?_; rintro _ w2 ⟨rfl, m2⟩)
 go_ret
 exact ⟨rfl, (((Moves.refl [] w).alloc _).alloc _).then m2⟩
theorem rRight_w (a : Vm) (w : World) (ha : a.In w) :
  Calls Tryz.prog 97 #[a.val] w fun e w' => e = .returned (.bool (vright a)) ∧ Moves [] w w' := by
 obtain ⟨k, bv, g, bs, n⟩ := a
 obtain ⟨ha1, ha2, ha3⟩ := ha
 simp only at ha1 ha2 ha3
 obtain ⟨ad, len, cap, rfl, hl, _⟩ := ha1
 simp only [vright, Vm.val]
 rw [hl]
 rcases kd_cases k with ⟨rfl, e⟩ | ⟨rfl, e⟩ | ⟨h1, h2, e⟩
 ·clear e
  by_cases h : len ≤ 16
  ·have h' : (len : Int) ≤ 16 := by omega
   have e : ((1 : Int) == 1 && decide (len ≤ 16) || (1 : Int) == 2) = true := by simp [h]
   rw [e]
   go_enter Tryz.func97, Tryz.ntmps97
   go_wp2
   go_ret
   exact ⟨rfl, (Moves.refl _ _).alloc _⟩
  ·have h' : ¬ (len : Int) ≤ 16 := by omega
   have e : ((1 : Int) == 1 && decide (len ≤ 16) || (1 : Int) == 2) = false := by simp [h]
   rw [e]
   go_enter Tryz.func97, Tryz.ntmps97
   go_wp2
   go_ret
   exact ⟨rfl, (Moves.refl _ _).alloc _⟩
 ·have e' : ((2 : Int) == 1 && decide (len ≤ 16) || (2 : Int) == 2) = true := by simp
  rw [e']
  go_enter Tryz.func97, Tryz.ntmps97
  go_wp2
  go_ret
  exact ⟨rfl, (Moves.refl _ _).alloc _⟩
 ·have t1 : (k == 1) = false := by simpa using h1
  have t2 : (k == 2) = false := by simpa using h2
  have e' : (k == 1 && decide (len ≤ 16) || k == 2) = false := by simp [t1, t2]
  rw [e']
  clear e e' h1 h2
  go_enter Tryz.func97, Tryz.ntmps97
  go_wp2
  go_ret
  exact ⟨rfl, (Moves.refl _ _).alloc _⟩
set_option maxHeartbeats 1000000 in
theorem rPlus_w (a b : Vm) (w : World) (ha : a.In w) (hb : b.In w) :
  Calls Tryz.prog 92 #[a.val, b.val] w fun e w' => e = .returned (.tuple #[(plusV a b).val, .int .i64 (plusE a b)]) ∧ Moves [] w w' := by
 obtain ⟨k, bv, g, bs, n⟩ := a
 obtain ⟨l, cv, h, cs, m⟩ := b
 obtain ⟨ha1, ha2, ha3⟩ := ha
 obtain ⟨hb1, hb2, hb3⟩ := hb
 simp only at ha1 ha2 ha3 hb1 hb2 hb3
 obtain ⟨ad, len, cap, rfl, _⟩ := ha1
 obtain ⟨ad', len', cap', rfl, _⟩ := hb1
 by_cases hk : k = 2
 ·by_cases hl : l = 2
  ·subst hk hl
   simp only [plusV, plusE, and_self, if_true, Vm.val, Vm.num]
   go_enter Tryz.func92, Tryz.ntmps92
   go_wp2_with (go_at_call 124; refine (refSum_w _ _ _).mono ?_; rintro _ w2 ⟨rfl, hs⟩; have m2 := Moves.ofStill hs; obtain ⟨p1, p2, p3, m1⟩ := boxes3 m2; obtain ⟨d0, d1, d2, e0, e1, e2⟩ := three_cells p3)
   try simp only [Exit.inBlock, Exit.then]
   obtain ⟨s1, s2, s3⟩ := stored3 p3 m1 (by omega) (.int .i64 2) (.slice none 0 0) (.float .f64 (Pl.sum n m))
   exact bodyPost_ret (ret_val2 rfl _ _ _ _ _ _ rfl s1) rfl ⟨rfl, s2⟩
  ·subst hk
   have t : (l != 2) = true := by simpa using hl
   simp only [plusV, plusE, hl, and_false, if_false, Vm.val, Vm.zero]
   clear hl
   go_enter Tryz.func92, Tryz.ntmps92
   go_wp2
   try simp only [Exit.inBlock, Exit.then]
   obtain ⟨p1, p2, p3, m1⟩ := boxes3 (Moves.refl [] (((w.alloc (.cells #[.int .i64 2, .slice ad len cap, .float .f64 n] 99)).alloc (.cells #[.int .i64 l, .slice ad' len' cap', .float .f64 m] 99)).alloc (.cells #[.int .i64 0, .slice none 0 0, .float .f64 0] 99)))
   exact bodyPost_ret (ret_val2 rfl _ _ _ _ _ _ rfl p3) rfl ⟨rfl, m1⟩
 ·have t : (k != 2) = true := by simpa using hk
  simp only [plusV, plusE, hk, false_and, if_false, Vm.val, Vm.zero]
  clear hk
  go_enter Tryz.func92, Tryz.ntmps92
  go_wp2
  try simp only [Exit.inBlock, Exit.then]
  obtain ⟨p1, p2, p3, m1⟩ := boxes3 (Moves.refl [] (((w.alloc (.cells #[.int .i64 k, .slice ad len cap, .float .f64 n] 99)).alloc (.cells #[.int .i64 l, .slice ad' len' cap', .float .f64 m] 99)).alloc (.cells #[.int .i64 0, .slice none 0 0, .float .f64 0] 99)))
  exact bodyPost_ret (ret_val2 rfl _ _ _ _ _ _ rfl p3) rfl ⟨rfl, m1⟩

set_option maxHeartbeats 1000000 in
theorem rCanon_w (a : Vm) (w : World) (ha : a.In w) (hl : a.bs.length ≤ 1099511627776) :
  Calls Tryz.prog 99 #[a.val] w fun e w' => ∃ c : Vm, e = .returned c.val ∧ Canoned w w' a c := by
 obtain ⟨k, bv, g, bs, n⟩ := a
 obtain ⟨ha1, ha2, ha3⟩ := ha
 simp only at ha1 ha2 ha3 hl
 have ha0 := ha1
 obtain ⟨ad, len, cap, rfl, _⟩ := ha1
 simp only [Vm.val]
 have hm0 : Moves [] w ((w.alloc (.cells #[.int .i64 k, .slice ad len cap, .float .f64 n] 99)).alloc (.cells #[.int .i64 0, .slice none 0 0, .float .f64 0] 99)) := ((Moves.refl _ _).alloc _).alloc _
 rcases kd_cases k with ⟨rfl, e⟩ | ⟨rfl, e⟩ | ⟨h1, h2, e⟩
 ·have HE : Hid (kd 1 = 1) := e
  clear e
  have esz : ((w.alloc (.cells #[.int .i64 1, .slice ad len cap, .float .f64 n] 99)).alloc (.cells #[.int .i64 0, .slice none 0 0, .float .f64 0] 99)).heap.size = w.heap.size + 1 + 1 := by simp
  have ho0 := own_empty ((w.alloc (.cells #[.int .i64 1, .slice ad len cap, .float .f64 n] 99)).alloc (.cells #[.int .i64 0, .slice none 0 0, .float .f64 0] 99))
  have hf0 := fresh_empty ((w.alloc (.cells #[.int .i64 1, .slice ad len cap, .float .f64 n] 99)).alloc (.cells #[.int .i64 0, .slice none 0 0, .float .f64 0] 99))
  rw [esz] at ho0 hf0
  go_enter Tryz.func99, Tryz.ntmps99
  go_wp2_with (at_builtin; refine append_law (.tmp 7) (.tmp 9) rfl _ _ [] bs g rfl rfl rfl ho0 (ha0.moves (hm0.alloc _) (by simp)) (by simpa using hl) ?_; intro v2 w2 ho2 m2 hat2; rw [List.nil_append] at ho2; have hA2 := appended ((Moves.refl [] ((w.alloc (.cells #[.int .i64 1, .slice ad len cap, .float .f64 n] 99)).alloc (.cells #[.int .i64 0, .slice none 0 0, .float .f64 0] 99))).alloc (.cells #[] 5)) hf0 m2 hat2; have hi2 := ho2.isB; obtain ⟨ad2, n2, cap2, rfl, _⟩ := hi2; obtain ⟨p1, p2, m1⟩ := boxes hA2.1; obtain ⟨d0, d1, d2, e0, e1, e2⟩ := three_cells p2)
  try simp only [Exit.inBlock, Exit.then]
  obtain ⟨s1, s2, s3⟩ := stored3 p2 m1 (Nat.le_succ _) (.int .i64 1) (.slice ad2 n2 cap2) (.float .f64 0)
  refine bodyPost_ret (ret_val rfl _ _ _ _ _ _ rfl s1) rfl ⟨⟨1, .slice ad2 n2 cap2, (Value.slice ad2 n2 cap2).ownBlock.getD 0, bs, 0⟩, rfl, ?_⟩
  exact canoned_own s2 (ho2.moves s3 (fun k hk => by have := hA2.2 k hk; simp at this ⊢; omega)) (fun k hk => by have := hA2.2 k hk; simp at this; omega) fits_zero ha3 HE.out.symm (by simp [HE.out]) (by simp [HE.out])
 ·have HE : Hid (kd 2 = 2) := e
  have HC : Hid (Pl.canon (Pl.canon n) = Pl.canon n) := Pl.canon_canon n
  clear e
  go_enter Tryz.func99, Tryz.ntmps99
  go_wp2_with (first | (go_at_call 128; refine (refBits_w _ ha2 _).mono ?_; rintro _ _ ⟨rfl, rfl⟩) | (go_at_call 127; refine (refFrom_w _ (Pl.fits_canon ha2) _).mono ?_; rintro _ _ ⟨rfl, rfl⟩; rw [HC.out]))
  try simp only [Exit.inBlock, Exit.then]
  refine bodyPost_ret (ret_val rfl _ _ _ _ _ _ rfl (heap_alloc2_new _ _ _)) rfl ⟨⟨2, .slice none 0 0, (Value.slice none 0 0).ownBlock.getD 0, [], Pl.canon n⟩, rfl, ?_⟩
  exact canoned_own (((Moves.refl _ _).alloc _).alloc _) (Own.nil _) (Fresh.nil _) (Pl.fits_canon ha2) (by simp) HE.out.symm (by simp [HE.out]) (by simp [HE.out])
 ·have t1 : (k == 1) = false := by simpa using h1
  have t2 : (k == 2) = false := by simpa using h2
  have HE : Hid (kd k = 0) := e
  clear e h1 h2
  go_enter Tryz.func99, Tryz.ntmps99
  go_wp2
  try simp only [Exit.inBlock, Exit.then]
  obtain ⟨p1, p2, m1⟩ := boxes (Moves.refl [] ((w.alloc (.cells #[.int .i64 k, .slice ad len cap, .float .f64 n] 99)).alloc (.cells #[.int .i64 0, .slice none 0 0, .float .f64 0] 99)))
  refine bodyPost_ret (ret_val rfl _ _ _ _ _ _ rfl p2) rfl ⟨⟨0, .slice none 0 0, (Value.slice none 0 0).ownBlock.getD 0, [], 0⟩, rfl, ?_⟩
  exact canoned_own m1 (Own.nil _) (Fresh.nil _) fits_zero (by simp) HE.out.symm (by simp [HE.out]) (by simp [HE.out])
end Go.Proofs.YtcngllcifcpbkaaGreat
/-
 What the document's own Put of a value does: it returns the bytes that it was handed and the value's behind them, in a row of its own, and writes nothing that was there.
-/
namespace Go.Proofs.YtcngllcifcpbkaaGreat
open Go.RowKit

theorem wpOp_of_list {P : Program} {ops : Array Oper} {Q : Exit → Act → World → Prop} {i : Nat} {o : Oper} {a : Act} {w : World} {K : Act → World → Prop} (hi : ops[i]? = some o) (h : wpList P ops (fun e a w => match e with | .normal => K a w | e => Q e a w) [o] a w) : wpOp P ops Q i K a w := by
 unfold wpOp
 simp only [hi]
 unfold wpList at h
 split
 ·rename_i hw
  rw [if_pos hw] at h
  refine h.imp (fun h => ?_) (fun h => h)
  unfold Oper.wp at h ⊢
  generalize (execOp a.eval o).run P w = r at h ⊢
  cases r with
  | ok n w' => cases n <;> exact h
  | halt x w' => cases x <;> exact h
 ·rename_i hw
  rw [if_neg hw] at h
  exact h

theorem AllReadyH.cons_list {P : Program} {md : Region.Mode} {ops : Array Oper} {Q : Exit → Act → World → Prop} {S : World → Prop} {fuel : Nat} {listed : Array Bool} {a : Act} {w : World} {i : Nat} {o : Oper} {rs : List Nat} (ho : ops[i]? = some o)
  (h : ∀ K' : Act → World → Prop, Shut (∀ a w, S w → (S w → wpAnyH P md ops Q S fuel (listed.setIfInBounds i true) a w) → K' a w) → wpList P ops (fun e a w => match e with | .normal => K' a w | e => Q e a w) [o] a w)
  (hs : AllReadyH P md ops Q S fuel listed a w rs) : AllReadyH P md ops Q S fuel listed a w (i :: rs) := fun j hj => by
 rcases List.mem_cons.1 hj with rfl | hj
 ·exact wpOp_of_list ho (h _ (fun a w hS hW => ⟨hS, hW hS⟩))
 ·exact hs j hj

set_option maxHeartbeats 4000000 in
theorem rPut_w (v : Value) (g : Nat) (bs : List Nat) (A : Vm) (w : World) (hb : IsB w g v bs) (ha : A.In w) (hn : bs.length + 2000010 ≤ 1099511627776) (hl : A.bs.length ≤ 1048576) :
  Calls Tryz.prog 72 #[v, A.val] w fun e w' => ∃ v', e = .returned v' ∧ Own w' v' (bs ++ venc A) ∧ Moves [] w w' ∧ Fresh w v' := by
 have hf := ha.fits
 have hc0 := ha.isB
 obtain ⟨k, bv, g', cs, n⟩ := A
 simp only at hc0 hf hl
 have hcv := hc0
 obtain ⟨ad, len, cap, rfl, _⟩ := hcv
 have hbv := hb
 obtain ⟨adb, lenb, capb, rfl, _⟩ := hbv
 simp only [Vm.val]
 obtain ⟨E, hE⟩ : ∃ E, bs ++ venc ⟨k, .slice ad len cap, g', cs, n⟩ = E := ⟨_, rfl⟩
 rw [hE]
 clear ha
 have hl1 : ([] : List Nat).length + bs.length ≤ 1099511627776 := by rw [List.length_nil]; omega
 have hl2 : ∀ x : Nat, bs.length + [x].length ≤ 1099511627776 := fun x => by rw [List.length_singleton]; omega
 have hl3 : ∀ x : Nat, (bs ++ [x]).length + 2000000 ≤ 1099511627776 := fun x => by rw [List.length_append, List.length_singleton]; omega
 have hl4 : ∀ x : Nat, (bs ++ [x]).length + 16 ≤ 1099511627776 := fun x => by rw [List.length_append, List.length_singleton]; omega
 clear hn
 rcases kd_cases k with ⟨rfl, e⟩ | ⟨rfl, e⟩ | ⟨z1, z2, e⟩
 ·rw [venc_text (by exact e)] at hE
  have HE : Hid (bs ++ [1] ++ be 4 cs.length ++ cs = E) := by
   show bs ++ [1] ++ be 4 cs.length ++ cs = E
   rw [← hE]; simp
  clear e hE
  go_enter Tryz.func72, Tryz.ntmps72
  go_wp2
  refine wp_region_noPanic ?_
  refine wp_region_held_drew (S := (fun w' => w'.cell? ⟨w.heap.size, 0, none⟩ = some (.int .i64 1) ∧ w'.cell? ⟨w.heap.size, 1, none⟩ = some (.slice ad len cap) ∧ w'.cell? ⟨w.heap.size, 2, none⟩ = some (.float .f64 n))) (by kernel_rfl) ?_ (fun hHeld => ?_)
  ·go_keep
  have hm0 : Moves [] w (w.alloc (.cells #[.int .i64 1, .slice ad len cap, .float .f64 n] 99)).drew := ((Moves.refl _ _).alloc _).drew
  generalize (w.alloc (.cells #[.int .i64 1, .slice ad len cap, .float .f64 n] 99)).drew = w0 at *
  obtain ⟨c0, c1, c2⟩ := hHeld
  have hHeld := And.intro c0 (And.intro c1 c2)
  replace hc0 := hc0.moves hm0 (by simp)
  have hb0 := hb.moves hm0 (by simp)
  refine wpT 1 ⟨some 10, .move (.tmp 0), 40, "ref.go:60", #[], none⟩ ?_
  refine wpT 5 ⟨some 14, .fieldAddr 99 (.tmp 3) 1, 0, "ref.go:60", #[], none⟩ ?_
  refine wpT 6 ⟨some 15, .load 40 (.tmp 14), 40, "ref.go:60", #[⟨5, .data⟩], none⟩ ?_
  refine wpAnyH_ready (rs := [0, 3]) (by kernel_rfl) (by simp) ?_
  refine AllReadyH.cons (o := ⟨some 9, .buildSlice 40 0 #[], 40, "ref.go:60", #[], none⟩) rfl (fun K hK => ?_) ?_
  ·go_simp
   refine hK.out _ _ ?_ (fun hHeld => ?_)
   ·go_keep
   clear hK K
   try simp only [Act.put, sp1, sp2, sp3]
   refine wpAnyH_ready (rs := [2, 3]) (by kernel_rfl) (by simp) ?_
   refine AllReadyH.cons_list (o := ⟨some 11, .call ⟨.builtin .append, #[.tmp 9, .tmp 10], #[40, 40]⟩, 40, "ref.go:60", #[⟨0, .data⟩, ⟨1, .data⟩], none⟩) rfl (fun K hK => ?_) ?_
   ·refine append_law (.tmp 9) (.tmp 10) rfl (.slice (some ⟨w0.heap.size, 0, none⟩) 0 0) _ [] bs g rfl rfl rfl (own_empty w0) (hb0.moves ((Moves.refl [] w0).alloc (.cells #[] 5)) (by simp)) hl1 ?_
    intro v2 w2 ho2 m2 hat2
    rw [List.nil_append] at ho2
    have hA2 := appended ((Moves.refl [] w0).alloc (.cells #[] 5)) (fresh_empty w0) m2 hat2
    have hS1 := And.intro (hA2.1.cell c0) (And.intro (hA2.1.cell c1) (hA2.1.cell c2))
    show K _ _
    refine hK.out _ _ ?_ (fun hHeld => ?_)
    ·exact hS1
    clear hK K
    try simp only [Act.put, sp1, sp2, sp3]
    refine wpAnyH_ready (rs := [3]) (by kernel_rfl) (by simp) ?_
    refine AllReadyH.cons (o := ⟨some 12, .buildSlice 40 1 #[(0, .const (.int .u8 1))], 40, "ref.go:60", #[], none⟩) rfl (fun K hK => ?_) ?_
    ·go_simp
     refine hK.out _ _ ?_ (fun hHeld => ?_)
     ·go_keep
     clear hK K
     try simp only [Act.put, sp1, sp2, sp3]
     have mX := hA2.1.alloc (.cells #[.int .u8 1] 5)
     have fA := hA2.2
     refine wpAnyH_ready (rs := [4]) (by kernel_rfl) (by simp) ?_
     refine AllReadyH.cons_list (o := ⟨some 13, .call ⟨.builtin .append, #[.tmp 11, .tmp 12], #[40, 40]⟩, 40, "ref.go:60", #[⟨2, .data⟩, ⟨3, .data⟩, ⟨2, .chain⟩], none⟩) rfl (fun K hK => ?_) ?_
     ·refine append_law (.tmp 11) (.tmp 12) rfl _ _ bs [1] _ rfl rfl rfl (ho2.moves ((Moves.refl [] _).alloc _) (by simp)) (has_new w2 1) (hl2 _) ?_
      intro v4 w4 ho4 m4 hat4
      have hA4 := appended mX fA m4 hat4
      have hS1 := And.intro (hA4.1.cell c0) (And.intro (hA4.1.cell c1) (hA4.1.cell c2))
      have k0 := hS1.1
      have k1 := hS1.2.1
      have k2 := hS1.2.2
      have M4 := hm0.then hA4.1
      have hv4 := (hc0.moves hA4.1 (by simp))
      show K _ _
      refine hK.out _ _ ?_ (fun hHeld => ?_)
      ·exact hS1
      clear hK K
      try simp only [Act.put, sp1, sp2, sp3]
      refine wpR 7 ⟨some 16, .call ⟨.value (.func 41), #[.tmp 13, .tmp 15], #[40, 40]⟩, 40, "ref.go:60", #[⟨4, .data⟩, ⟨6, .data⟩, ⟨4, .chain⟩], none⟩ (fun K hK => ?_)
      go_simp
      (go_at_call 41; refine (rtext_w _ _ _ _ g' cs _ ho4.isB hv4 (hl3 _) hl).mono ?_; rintro _ w5 ⟨v5, rfl, ho5, m5, f5⟩; rw [HE.out] at ho5)
      refine hK.out _ _ ?_ (fun hHeld => ?_)
      ·exact ⟨m5.cell k0, m5.cell k1, m5.cell k2⟩
      clear hK K
      try simp only [Act.put, sp1, sp2, sp3]
      refine wpT 8 ⟨some 4, .assign (.tmp 16), 40, "ref.go:60", #[⟨7, .data⟩, ⟨7, .chain⟩, ⟨0, .phase⟩, ⟨1, .phase⟩, ⟨2, .phase⟩, ⟨3, .phase⟩, ⟨4, .phase⟩, ⟨5, .phase⟩, ⟨6, .phase⟩, ⟨7, .phase⟩], none⟩ ?_
      refine wpAnyH_done (by kernel_rfl) ?_ _
      refine NoPanic.normal ?_
      go_wp2
      go_ret
      exact ⟨_, rfl, ho5, M4.then m5, fun j hj => Nat.le_trans M4.size (f5 j hj)⟩
     ·exact AllReadyH.nil
    ·exact AllReadyH.nil
   ·refine AllReadyH.cons (o := ⟨some 12, .buildSlice 40 1 #[(0, .const (.int .u8 1))], 40, "ref.go:60", #[], none⟩) rfl (fun K hK => ?_) ?_
    ·go_simp
     refine hK.out _ _ ?_ (fun hHeld => ?_)
     ·go_keep
     clear hK K
     try simp only [Act.put, sp1, sp2, sp3]
     have eS : (w0.alloc (.cells #[] 5)).heap.size = w0.heap.size + 1 := by simp
     have hX := has_new (w0.alloc (.cells #[] 5)) 1
     rw [eS] at hX
     refine wpAnyH_ready (rs := [2]) (by kernel_rfl) (by simp) ?_
     refine AllReadyH.cons_list (o := ⟨some 11, .call ⟨.builtin .append, #[.tmp 9, .tmp 10], #[40, 40]⟩, 40, "ref.go:60", #[⟨0, .data⟩, ⟨1, .data⟩], none⟩) rfl (fun K hK => ?_) ?_
     ·refine append_law (.tmp 9) (.tmp 10) rfl (.slice (some ⟨w0.heap.size, 0, none⟩) 0 0) _ [] bs g rfl rfl rfl ((own_empty w0).moves ((Moves.refl [] _).alloc _) (by simp)) (hb0.moves (((Moves.refl [] w0).alloc (.cells #[] 5)).alloc (.cells #[.int .u8 1] 5)) (by simp)) hl1 ?_
      intro v2 w2 ho2 m2 hat2
      rw [List.nil_append] at ho2
      have hA2 := appended (((Moves.refl [] w0).alloc (.cells #[] 5)).alloc (.cells #[.int .u8 1] 5)) (fresh_empty w0) m2 hat2
      have hS1 := And.intro (hA2.1.cell c0) (And.intro (hA2.1.cell c1) (hA2.1.cell c2))
      show K _ _
      refine hK.out _ _ ?_ (fun hHeld => ?_)
      ·exact hS1
      clear hK K
      try simp only [Act.put, sp1, sp2, sp3]
      have hX2 := hX.moves m2 (by simp [Value.ownBlock])
      have mX := hA2.1
      have fA := hA2.2
      refine wpAnyH_ready (rs := [4]) (by kernel_rfl) (by simp) ?_
      refine AllReadyH.cons_list (o := ⟨some 13, .call ⟨.builtin .append, #[.tmp 11, .tmp 12], #[40, 40]⟩, 40, "ref.go:60", #[⟨2, .data⟩, ⟨3, .data⟩, ⟨2, .chain⟩], none⟩) rfl (fun K hK => ?_) ?_
      ·refine append_law (.tmp 11) (.tmp 12) rfl _ _ bs [1] _ rfl rfl rfl ho2 hX2 (hl2 _) ?_
       intro v4 w4 ho4 m4 hat4
       have hA4 := appended mX fA m4 hat4
       have hS1 := And.intro (hA4.1.cell c0) (And.intro (hA4.1.cell c1) (hA4.1.cell c2))
       have k0 := hS1.1
       have k1 := hS1.2.1
       have k2 := hS1.2.2
       have M4 := hm0.then hA4.1
       have hv4 := (hc0.moves hA4.1 (by simp))
       show K _ _
       refine hK.out _ _ ?_ (fun hHeld => ?_)
       ·exact hS1
       clear hK K
       try simp only [Act.put, sp1, sp2, sp3]
       refine wpR 7 ⟨some 16, .call ⟨.value (.func 41), #[.tmp 13, .tmp 15], #[40, 40]⟩, 40, "ref.go:60", #[⟨4, .data⟩, ⟨6, .data⟩, ⟨4, .chain⟩], none⟩ (fun K hK => ?_)
       go_simp
       (go_at_call 41; refine (rtext_w _ _ _ _ g' cs _ ho4.isB hv4 (hl3 _) hl).mono ?_; rintro _ w5 ⟨v5, rfl, ho5, m5, f5⟩; rw [HE.out] at ho5)
       refine hK.out _ _ ?_ (fun hHeld => ?_)
       ·exact ⟨m5.cell k0, m5.cell k1, m5.cell k2⟩
       clear hK K
       try simp only [Act.put, sp1, sp2, sp3]
       refine wpT 8 ⟨some 4, .assign (.tmp 16), 40, "ref.go:60", #[⟨7, .data⟩, ⟨7, .chain⟩, ⟨0, .phase⟩, ⟨1, .phase⟩, ⟨2, .phase⟩, ⟨3, .phase⟩, ⟨4, .phase⟩, ⟨5, .phase⟩, ⟨6, .phase⟩, ⟨7, .phase⟩], none⟩ ?_
       refine wpAnyH_done (by kernel_rfl) ?_ _
       refine NoPanic.normal ?_
       go_wp2
       go_ret
       exact ⟨_, rfl, ho5, M4.then m5, fun j hj => Nat.le_trans M4.size (f5 j hj)⟩
      ·exact AllReadyH.nil
     ·exact AllReadyH.nil
    ·exact AllReadyH.nil
  ·refine AllReadyH.cons (o := ⟨some 12, .buildSlice 40 1 #[(0, .const (.int .u8 1))], 40, "ref.go:60", #[], none⟩) rfl (fun K hK => ?_) ?_
   ·go_simp
    refine hK.out _ _ ?_ (fun hHeld => ?_)
    ·go_keep
    clear hK K
    try simp only [Act.put, sp1, sp2, sp3]
    refine wpAnyH_ready (rs := [0]) (by kernel_rfl) (by simp) ?_
    refine AllReadyH.cons (o := ⟨some 9, .buildSlice 40 0 #[], 40, "ref.go:60", #[], none⟩) rfl (fun K hK => ?_) ?_
    ·go_simp
     refine hK.out _ _ ?_ (fun hHeld => ?_)
     ·go_keep
     clear hK K
     try simp only [Act.put, sp1, sp2, sp3]
     have eS : (w0.alloc (.cells #[.int .u8 1] 5)).heap.size = w0.heap.size + 1 := by simp
     have hX := (has_new w0 1).moves ((Moves.refl [] _).alloc (.cells #[] 5)) (by simp)
     have hE := own_empty (w0.alloc (.cells #[.int .u8 1] 5))
     have fE : Fresh w0 (.slice (some ⟨w0.heap.size + 1, 0, none⟩) 0 0) := fun k hk => by simp [Value.ownBlock] at hk; omega
     rw [eS] at hE
     refine wpAnyH_ready (rs := [2]) (by kernel_rfl) (by simp) ?_
     refine AllReadyH.cons_list (o := ⟨some 11, .call ⟨.builtin .append, #[.tmp 9, .tmp 10], #[40, 40]⟩, 40, "ref.go:60", #[⟨0, .data⟩, ⟨1, .data⟩], none⟩) rfl (fun K hK => ?_) ?_
     ·refine append_law (.tmp 9) (.tmp 10) rfl (.slice (some ⟨w0.heap.size + 1, 0, none⟩) 0 0) _ [] bs g rfl rfl rfl hE (hb0.moves (((Moves.refl [] w0).alloc (.cells #[.int .u8 1] 5)).alloc (.cells #[] 5)) (by simp)) hl1 ?_
      intro v2 w2 ho2 m2 hat2
      rw [List.nil_append] at ho2
      have hA2 := appended (((Moves.refl [] w0).alloc (.cells #[.int .u8 1] 5)).alloc (.cells #[] 5)) fE m2 hat2
      have hS1 := And.intro (hA2.1.cell c0) (And.intro (hA2.1.cell c1) (hA2.1.cell c2))
      show K _ _
      refine hK.out _ _ ?_ (fun hHeld => ?_)
      ·exact hS1
      clear hK K
      try simp only [Act.put, sp1, sp2, sp3]
      have hX2 := hX.moves m2 (by simp [Value.ownBlock])
      have mX := hA2.1
      have fA := hA2.2
      refine wpAnyH_ready (rs := [4]) (by kernel_rfl) (by simp) ?_
      refine AllReadyH.cons_list (o := ⟨some 13, .call ⟨.builtin .append, #[.tmp 11, .tmp 12], #[40, 40]⟩, 40, "ref.go:60", #[⟨2, .data⟩, ⟨3, .data⟩, ⟨2, .chain⟩], none⟩) rfl (fun K hK => ?_) ?_
      ·refine append_law (.tmp 11) (.tmp 12) rfl _ _ bs [1] _ rfl rfl rfl ho2 hX2 (hl2 _) ?_
       intro v4 w4 ho4 m4 hat4
       have hA4 := appended mX fA m4 hat4
       have hS1 := And.intro (hA4.1.cell c0) (And.intro (hA4.1.cell c1) (hA4.1.cell c2))
       have k0 := hS1.1
       have k1 := hS1.2.1
       have k2 := hS1.2.2
       have M4 := hm0.then hA4.1
       have hv4 := (hc0.moves hA4.1 (by simp))
       show K _ _
       refine hK.out _ _ ?_ (fun hHeld => ?_)
       ·exact hS1
       clear hK K
       try simp only [Act.put, sp1, sp2, sp3]
       refine wpR 7 ⟨some 16, .call ⟨.value (.func 41), #[.tmp 13, .tmp 15], #[40, 40]⟩, 40, "ref.go:60", #[⟨4, .data⟩, ⟨6, .data⟩, ⟨4, .chain⟩], none⟩ (fun K hK => ?_)
       go_simp
       (go_at_call 41; refine (rtext_w _ _ _ _ g' cs _ ho4.isB hv4 (hl3 _) hl).mono ?_; rintro _ w5 ⟨v5, rfl, ho5, m5, f5⟩; rw [HE.out] at ho5)
       refine hK.out _ _ ?_ (fun hHeld => ?_)
       ·exact ⟨m5.cell k0, m5.cell k1, m5.cell k2⟩
       clear hK K
       try simp only [Act.put, sp1, sp2, sp3]
       refine wpT 8 ⟨some 4, .assign (.tmp 16), 40, "ref.go:60", #[⟨7, .data⟩, ⟨7, .chain⟩, ⟨0, .phase⟩, ⟨1, .phase⟩, ⟨2, .phase⟩, ⟨3, .phase⟩, ⟨4, .phase⟩, ⟨5, .phase⟩, ⟨6, .phase⟩, ⟨7, .phase⟩], none⟩ ?_
       refine wpAnyH_done (by kernel_rfl) ?_ _
       refine NoPanic.normal ?_
       go_wp2
       go_ret
       exact ⟨_, rfl, ho5, M4.then m5, fun j hj => Nat.le_trans M4.size (f5 j hj)⟩
      ·exact AllReadyH.nil
     ·exact AllReadyH.nil
    ·exact AllReadyH.nil
   ·exact AllReadyH.nil
 ·rw [venc_num (by exact e)] at hE
  have HE : Hid (bs ++ [2] ++ be 8 (Pl.canon n) = E) := by
   show bs ++ [2] ++ be 8 (Pl.canon n) = E
   rw [← hE]; simp
  clear e hE
  go_enter Tryz.func72, Tryz.ntmps72
  go_wp2
  refine wp_region_noPanic ?_
  refine wp_region_held_drew (S := (fun w' => w'.cell? ⟨w.heap.size, 0, none⟩ = some (.int .i64 2) ∧ w'.cell? ⟨w.heap.size, 1, none⟩ = some (.slice ad len cap) ∧ w'.cell? ⟨w.heap.size, 2, none⟩ = some (.float .f64 n))) (by kernel_rfl) ?_ (fun hHeld => ?_)
  ·go_keep
  have hm0 : Moves [] w (w.alloc (.cells #[.int .i64 2, .slice ad len cap, .float .f64 n] 99)).drew := ((Moves.refl _ _).alloc _).drew
  generalize (w.alloc (.cells #[.int .i64 2, .slice ad len cap, .float .f64 n] 99)).drew = w0 at *
  obtain ⟨c0, c1, c2⟩ := hHeld
  have hHeld := And.intro c0 (And.intro c1 c2)
  replace hc0 := hc0.moves hm0 (by simp)
  have hb0 := hb.moves hm0 (by simp)
  refine wpT 1 ⟨some 20, .move (.tmp 0), 40, "ref.go:62", #[], none⟩ ?_
  refine wpT 5 ⟨some 24, .fieldAddr 99 (.tmp 3) 2, 0, "ref.go:62", #[], none⟩ ?_
  refine wpT 6 ⟨some 25, .load 97 (.tmp 24), 97, "ref.go:62", #[⟨5, .data⟩], none⟩ ?_
  refine wpAnyH_ready (rs := [0, 3]) (by kernel_rfl) (by simp) ?_
  refine AllReadyH.cons (o := ⟨some 19, .buildSlice 40 0 #[], 40, "ref.go:62", #[], none⟩) rfl (fun K hK => ?_) ?_
  ·go_simp
   refine hK.out _ _ ?_ (fun hHeld => ?_)
   ·go_keep
   clear hK K
   try simp only [Act.put, sp1, sp2, sp3]
   refine wpAnyH_ready (rs := [2, 3]) (by kernel_rfl) (by simp) ?_
   refine AllReadyH.cons_list (o := ⟨some 21, .call ⟨.builtin .append, #[.tmp 19, .tmp 20], #[40, 40]⟩, 40, "ref.go:62", #[⟨0, .data⟩, ⟨1, .data⟩], none⟩) rfl (fun K hK => ?_) ?_
   ·refine append_law (.tmp 19) (.tmp 20) rfl (.slice (some ⟨w0.heap.size, 0, none⟩) 0 0) _ [] bs g rfl rfl rfl (own_empty w0) (hb0.moves ((Moves.refl [] w0).alloc (.cells #[] 5)) (by simp)) hl1 ?_
    intro v2 w2 ho2 m2 hat2
    rw [List.nil_append] at ho2
    have hA2 := appended ((Moves.refl [] w0).alloc (.cells #[] 5)) (fresh_empty w0) m2 hat2
    have hS1 := And.intro (hA2.1.cell c0) (And.intro (hA2.1.cell c1) (hA2.1.cell c2))
    show K _ _
    refine hK.out _ _ ?_ (fun hHeld => ?_)
    ·exact hS1
    clear hK K
    try simp only [Act.put, sp1, sp2, sp3]
    refine wpAnyH_ready (rs := [3]) (by kernel_rfl) (by simp) ?_
    refine AllReadyH.cons (o := ⟨some 22, .buildSlice 40 1 #[(0, .const (.int .u8 2))], 40, "ref.go:62", #[], none⟩) rfl (fun K hK => ?_) ?_
    ·go_simp
     refine hK.out _ _ ?_ (fun hHeld => ?_)
     ·go_keep
     clear hK K
     try simp only [Act.put, sp1, sp2, sp3]
     have mX := hA2.1.alloc (.cells #[.int .u8 2] 5)
     have fA := hA2.2
     refine wpAnyH_ready (rs := [4]) (by kernel_rfl) (by simp) ?_
     refine AllReadyH.cons_list (o := ⟨some 23, .call ⟨.builtin .append, #[.tmp 21, .tmp 22], #[40, 40]⟩, 40, "ref.go:62", #[⟨2, .data⟩, ⟨3, .data⟩, ⟨2, .chain⟩], none⟩) rfl (fun K hK => ?_) ?_
     ·refine append_law (.tmp 21) (.tmp 22) rfl _ _ bs [2] _ rfl rfl rfl (ho2.moves ((Moves.refl [] _).alloc _) (by simp)) (has_new w2 2) (hl2 _) ?_
      intro v4 w4 ho4 m4 hat4
      have hA4 := appended mX fA m4 hat4
      have hS1 := And.intro (hA4.1.cell c0) (And.intro (hA4.1.cell c1) (hA4.1.cell c2))
      have k0 := hS1.1
      have k1 := hS1.2.1
      have k2 := hS1.2.2
      have M4 := hm0.then hA4.1
      have hv4 := (hc0.moves hA4.1 (by simp))
      show K _ _
      refine hK.out _ _ ?_ (fun hHeld => ?_)
      ·exact hS1
      clear hK K
      try simp only [Act.put, sp1, sp2, sp3]
      refine wpR 7 ⟨some 26, .call ⟨.value (.func 110), #[.tmp 23, .tmp 25], #[40, 97]⟩, 40, "ref.go:62", #[⟨4, .data⟩, ⟨6, .data⟩, ⟨4, .chain⟩], none⟩ (fun K hK => ?_)
      go_simp
      (go_at_call 110; refine (rfloat_w _ _ _ n _ ho4.isB (hl4 _) hf).mono ?_; rintro _ w5 ⟨v5, rfl, ho5, m5, f5⟩; rw [HE.out] at ho5)
      refine hK.out _ _ ?_ (fun hHeld => ?_)
      ·exact ⟨m5.cell k0, m5.cell k1, m5.cell k2⟩
      clear hK K
      try simp only [Act.put, sp1, sp2, sp3]
      refine wpT 8 ⟨some 4, .assign (.tmp 26), 40, "ref.go:62", #[⟨7, .data⟩, ⟨7, .chain⟩, ⟨0, .phase⟩, ⟨1, .phase⟩, ⟨2, .phase⟩, ⟨3, .phase⟩, ⟨4, .phase⟩, ⟨5, .phase⟩, ⟨6, .phase⟩, ⟨7, .phase⟩], none⟩ ?_
      refine wpAnyH_done (by kernel_rfl) ?_ _
      refine NoPanic.normal ?_
      go_wp2
      go_ret
      exact ⟨_, rfl, ho5, M4.then m5, fun j hj => Nat.le_trans M4.size (f5 j hj)⟩
     ·exact AllReadyH.nil
    ·exact AllReadyH.nil
   ·refine AllReadyH.cons (o := ⟨some 22, .buildSlice 40 1 #[(0, .const (.int .u8 2))], 40, "ref.go:62", #[], none⟩) rfl (fun K hK => ?_) ?_
    ·go_simp
     refine hK.out _ _ ?_ (fun hHeld => ?_)
     ·go_keep
     clear hK K
     try simp only [Act.put, sp1, sp2, sp3]
     have eS : (w0.alloc (.cells #[] 5)).heap.size = w0.heap.size + 1 := by simp
     have hX := has_new (w0.alloc (.cells #[] 5)) 2
     rw [eS] at hX
     refine wpAnyH_ready (rs := [2]) (by kernel_rfl) (by simp) ?_
     refine AllReadyH.cons_list (o := ⟨some 21, .call ⟨.builtin .append, #[.tmp 19, .tmp 20], #[40, 40]⟩, 40, "ref.go:62", #[⟨0, .data⟩, ⟨1, .data⟩], none⟩) rfl (fun K hK => ?_) ?_
     ·refine append_law (.tmp 19) (.tmp 20) rfl (.slice (some ⟨w0.heap.size, 0, none⟩) 0 0) _ [] bs g rfl rfl rfl ((own_empty w0).moves ((Moves.refl [] _).alloc _) (by simp)) (hb0.moves (((Moves.refl [] w0).alloc (.cells #[] 5)).alloc (.cells #[.int .u8 2] 5)) (by simp)) hl1 ?_
      intro v2 w2 ho2 m2 hat2
      rw [List.nil_append] at ho2
      have hA2 := appended (((Moves.refl [] w0).alloc (.cells #[] 5)).alloc (.cells #[.int .u8 2] 5)) (fresh_empty w0) m2 hat2
      have hS1 := And.intro (hA2.1.cell c0) (And.intro (hA2.1.cell c1) (hA2.1.cell c2))
      show K _ _
      refine hK.out _ _ ?_ (fun hHeld => ?_)
      ·exact hS1
      clear hK K
      try simp only [Act.put, sp1, sp2, sp3]
      have hX2 := hX.moves m2 (by simp [Value.ownBlock])
      have mX := hA2.1
      have fA := hA2.2
      refine wpAnyH_ready (rs := [4]) (by kernel_rfl) (by simp) ?_
      refine AllReadyH.cons_list (o := ⟨some 23, .call ⟨.builtin .append, #[.tmp 21, .tmp 22], #[40, 40]⟩, 40, "ref.go:62", #[⟨2, .data⟩, ⟨3, .data⟩, ⟨2, .chain⟩], none⟩) rfl (fun K hK => ?_) ?_
      ·refine append_law (.tmp 21) (.tmp 22) rfl _ _ bs [2] _ rfl rfl rfl ho2 hX2 (hl2 _) ?_
       intro v4 w4 ho4 m4 hat4
       have hA4 := appended mX fA m4 hat4
       have hS1 := And.intro (hA4.1.cell c0) (And.intro (hA4.1.cell c1) (hA4.1.cell c2))
       have k0 := hS1.1
       have k1 := hS1.2.1
       have k2 := hS1.2.2
       have M4 := hm0.then hA4.1
       have hv4 := (hc0.moves hA4.1 (by simp))
       show K _ _
       refine hK.out _ _ ?_ (fun hHeld => ?_)
       ·exact hS1
       clear hK K
       try simp only [Act.put, sp1, sp2, sp3]
       refine wpR 7 ⟨some 26, .call ⟨.value (.func 110), #[.tmp 23, .tmp 25], #[40, 97]⟩, 40, "ref.go:62", #[⟨4, .data⟩, ⟨6, .data⟩, ⟨4, .chain⟩], none⟩ (fun K hK => ?_)
       go_simp
       (go_at_call 110; refine (rfloat_w _ _ _ n _ ho4.isB (hl4 _) hf).mono ?_; rintro _ w5 ⟨v5, rfl, ho5, m5, f5⟩; rw [HE.out] at ho5)
       refine hK.out _ _ ?_ (fun hHeld => ?_)
       ·exact ⟨m5.cell k0, m5.cell k1, m5.cell k2⟩
       clear hK K
       try simp only [Act.put, sp1, sp2, sp3]
       refine wpT 8 ⟨some 4, .assign (.tmp 26), 40, "ref.go:62", #[⟨7, .data⟩, ⟨7, .chain⟩, ⟨0, .phase⟩, ⟨1, .phase⟩, ⟨2, .phase⟩, ⟨3, .phase⟩, ⟨4, .phase⟩, ⟨5, .phase⟩, ⟨6, .phase⟩, ⟨7, .phase⟩], none⟩ ?_
       refine wpAnyH_done (by kernel_rfl) ?_ _
       refine NoPanic.normal ?_
       go_wp2
       go_ret
       exact ⟨_, rfl, ho5, M4.then m5, fun j hj => Nat.le_trans M4.size (f5 j hj)⟩
      ·exact AllReadyH.nil
     ·exact AllReadyH.nil
    ·exact AllReadyH.nil
  ·refine AllReadyH.cons (o := ⟨some 22, .buildSlice 40 1 #[(0, .const (.int .u8 2))], 40, "ref.go:62", #[], none⟩) rfl (fun K hK => ?_) ?_
   ·go_simp
    refine hK.out _ _ ?_ (fun hHeld => ?_)
    ·go_keep
    clear hK K
    try simp only [Act.put, sp1, sp2, sp3]
    refine wpAnyH_ready (rs := [0]) (by kernel_rfl) (by simp) ?_
    refine AllReadyH.cons (o := ⟨some 19, .buildSlice 40 0 #[], 40, "ref.go:62", #[], none⟩) rfl (fun K hK => ?_) ?_
    ·go_simp
     refine hK.out _ _ ?_ (fun hHeld => ?_)
     ·go_keep
     clear hK K
     try simp only [Act.put, sp1, sp2, sp3]
     have eS : (w0.alloc (.cells #[.int .u8 2] 5)).heap.size = w0.heap.size + 1 := by simp
     have hX := (has_new w0 2).moves ((Moves.refl [] _).alloc (.cells #[] 5)) (by simp)
     have hE := own_empty (w0.alloc (.cells #[.int .u8 2] 5))
     have fE : Fresh w0 (.slice (some ⟨w0.heap.size + 1, 0, none⟩) 0 0) := fun k hk => by simp [Value.ownBlock] at hk; omega
     rw [eS] at hE
     refine wpAnyH_ready (rs := [2]) (by kernel_rfl) (by simp) ?_
     refine AllReadyH.cons_list (o := ⟨some 21, .call ⟨.builtin .append, #[.tmp 19, .tmp 20], #[40, 40]⟩, 40, "ref.go:62", #[⟨0, .data⟩, ⟨1, .data⟩], none⟩) rfl (fun K hK => ?_) ?_
     ·refine append_law (.tmp 19) (.tmp 20) rfl (.slice (some ⟨w0.heap.size + 1, 0, none⟩) 0 0) _ [] bs g rfl rfl rfl hE (hb0.moves (((Moves.refl [] w0).alloc (.cells #[.int .u8 2] 5)).alloc (.cells #[] 5)) (by simp)) hl1 ?_
      intro v2 w2 ho2 m2 hat2
      rw [List.nil_append] at ho2
      have hA2 := appended (((Moves.refl [] w0).alloc (.cells #[.int .u8 2] 5)).alloc (.cells #[] 5)) fE m2 hat2
      have hS1 := And.intro (hA2.1.cell c0) (And.intro (hA2.1.cell c1) (hA2.1.cell c2))
      show K _ _
      refine hK.out _ _ ?_ (fun hHeld => ?_)
      ·exact hS1
      clear hK K
      try simp only [Act.put, sp1, sp2, sp3]
      have hX2 := hX.moves m2 (by simp [Value.ownBlock])
      have mX := hA2.1
      have fA := hA2.2
      refine wpAnyH_ready (rs := [4]) (by kernel_rfl) (by simp) ?_
      refine AllReadyH.cons_list (o := ⟨some 23, .call ⟨.builtin .append, #[.tmp 21, .tmp 22], #[40, 40]⟩, 40, "ref.go:62", #[⟨2, .data⟩, ⟨3, .data⟩, ⟨2, .chain⟩], none⟩) rfl (fun K hK => ?_) ?_
      ·refine append_law (.tmp 21) (.tmp 22) rfl _ _ bs [2] _ rfl rfl rfl ho2 hX2 (hl2 _) ?_
       intro v4 w4 ho4 m4 hat4
       have hA4 := appended mX fA m4 hat4
       have hS1 := And.intro (hA4.1.cell c0) (And.intro (hA4.1.cell c1) (hA4.1.cell c2))
       have k0 := hS1.1
       have k1 := hS1.2.1
       have k2 := hS1.2.2
       have M4 := hm0.then hA4.1
       have hv4 := (hc0.moves hA4.1 (by simp))
       show K _ _
       refine hK.out _ _ ?_ (fun hHeld => ?_)
       ·exact hS1
       clear hK K
       try simp only [Act.put, sp1, sp2, sp3]
       refine wpR 7 ⟨some 26, .call ⟨.value (.func 110), #[.tmp 23, .tmp 25], #[40, 97]⟩, 40, "ref.go:62", #[⟨4, .data⟩, ⟨6, .data⟩, ⟨4, .chain⟩], none⟩ (fun K hK => ?_)
       go_simp
       (go_at_call 110; refine (rfloat_w _ _ _ n _ ho4.isB (hl4 _) hf).mono ?_; rintro _ w5 ⟨v5, rfl, ho5, m5, f5⟩; rw [HE.out] at ho5)
       refine hK.out _ _ ?_ (fun hHeld => ?_)
       ·exact ⟨m5.cell k0, m5.cell k1, m5.cell k2⟩
       clear hK K
       try simp only [Act.put, sp1, sp2, sp3]
       refine wpT 8 ⟨some 4, .assign (.tmp 26), 40, "ref.go:62", #[⟨7, .data⟩, ⟨7, .chain⟩, ⟨0, .phase⟩, ⟨1, .phase⟩, ⟨2, .phase⟩, ⟨3, .phase⟩, ⟨4, .phase⟩, ⟨5, .phase⟩, ⟨6, .phase⟩, ⟨7, .phase⟩], none⟩ ?_
       refine wpAnyH_done (by kernel_rfl) ?_ _
       refine NoPanic.normal ?_
       go_wp2
       go_ret
       exact ⟨_, rfl, ho5, M4.then m5, fun j hj => Nat.le_trans M4.size (f5 j hj)⟩
      ·exact AllReadyH.nil
     ·exact AllReadyH.nil
    ·exact AllReadyH.nil
   ·exact AllReadyH.nil
 ·rw [venc_other (by exact e)] at hE
  have HE : Hid (bs ++ [0] = E) := hE
  have t1 : (k == 1) = false := by simpa using z1
  have t2 : (k == 2) = false := by simpa using z2
  clear e hE z1 z2
  have hm0 : Moves [] w (w.alloc (.cells #[.int .i64 k, .slice ad len cap, .float .f64 n] 99)) := (Moves.refl _ _).alloc _
  have esz : (w.alloc (.cells #[.int .i64 k, .slice ad len cap, .float .f64 n] 99)).heap.size = w.heap.size + 1 := by simp
  have ho0 := own_empty (w.alloc (.cells #[.int .i64 k, .slice ad len cap, .float .f64 n] 99))
  have hf0 := fresh_empty (w.alloc (.cells #[.int .i64 k, .slice ad len cap, .float .f64 n] 99))
  rw [esz] at ho0 hf0
  go_enter Tryz.func72, Tryz.ntmps72
  go_wp2_with (first | (at_builtin; refine append_law (.tmp 27) (.tmp 28) rfl _ _ [] bs g rfl rfl rfl ho0 (hb.moves (hm0.alloc _) (by simp)) hl1 ?_; intro v2 w2 ho2 m2 hat2; rw [List.nil_append] at ho2; have hA2 := appended ((Moves.refl [] _).alloc (.cells #[] 5)) hf0 m2 hat2) | (at_builtin; refine append_law (.tmp 29) (.tmp 30) rfl _ _ bs [0] _ rfl rfl rfl (ho2.moves ((Moves.refl [] _).alloc _) (by simp)) (has_new w2 0) (hl2 _) ?_; intro v3 w3 ho3 m3 hat3; have hA3 := appended (hA2.1.alloc _) hA2.2 m3 hat3))
  go_ret
  rw [HE.out] at ho3
  exact ⟨_, rfl, ho3, hm0.then hA3.1, fun j hj => Nat.le_trans hm0.size (hA3.2 j hj)⟩
end Go.Proofs.YtcngllcifcpbkaaGreat
/-
 What the document's own Get of a value does: it takes a value where the document lets it, and else marks its Reader as bad; no other memory is written.
-/
namespace Go.Proofs.YtcngllcifcpbkaaGreat
open Go.RowKit

structure RGot (w w' : World) (q g : Nat) (k : Int) (tx : List Nat) (n : Nat) (rest : List Nat) (c : Vm) : Prop where
 kind : c.kind = k
 bs : c.bs = tx
 n : c.n = n
 own : Own w' c.bv tx
 fresh : Fresh w c.bv
 isIn : c.In w'
 rd : RfIs w' q g rest false
 moves : Moves [q] w w'

theorem RfIs.ltq {w : World} {q g : Nat} {bs : List Nat} {fl : Bool} (h : RfIs w q g bs fl) : q < w.heap.size := by
 obtain ⟨v, hp, _⟩ := h
 exact lt_of_block hp
theorem RfIs.ltg {w : World} {q g : Nat} {bs : List Nat} {fl : Bool} (h : RfIs w q g bs fl) (hn : 1 ≤ bs.length) : g < w.heap.size := by
 obtain ⟨v, _, hb, _⟩ := h
 exact hb.lt (by intro e; rw [e] at hn; simp at hn)
theorem RfIs.moves0 {w w' : World} {q g : Nat} {fl : Bool} {S : List Nat} (h : RfIs w q g [] fl) (m : Moves S w w') (hq : q ∉ S) : RfIs w' q g [] fl := by
 obtain ⟨v, h1, ⟨ad, n, cap, k1, k2, k3, k4, _⟩, h3⟩ := h
 exact ⟨v, m.at h1 hq, ⟨ad, n, cap, k1, k2, k3, k4, .inl rfl⟩, h3⟩

set_option maxHeartbeats 2000000 in
theorem rGet_ok (q g : Nat) (bs : List Nat) (k : Int) (tx : List Nat) (n : Nat) (rest : List Nat) (w : World) (h : RfIs w q g bs false) (hb : bs.length ≤ 1099511627776) (ho : ∀ b ∈ bs, b < 256) (hd : VDec bs k tx n rest) :
  Calls Tryz.prog 120 #[.pointer (some ⟨q, 0, none⟩)] w fun e w' => ∃ c : Vm, e = .returned c.val ∧ RGot w w' q g k tx n rest c := by
 obtain ⟨h1, hd⟩ := hd
 have hp := h.ltq
 have hg := h.ltg h1
 have ho' : ∀ b ∈ bs.drop 1, b < 256 := fun b hb => ho b (List.mem_of_mem_drop hb)
 have hb' : (bs.drop 1).length ≤ 1099511627776 := by rw [List.length_drop]; omega
 have hm0 : Moves [] w (w.alloc (.cells #[.int .i64 0, .slice none 0 0, .float .f64 0] 99)) := (Moves.refl _ _).alloc _
 have hr0 := h.moves hm0 (by simp) (by simp)
 have hbx : w.heap.size ∉ [q] := by simp; omega
 have q0 : (w.alloc (.cells #[.int .i64 0, .slice none 0 0, .float .f64 0] 99)).heap[w.heap.size]? = some (.cells #[.int .i64 0, .slice none 0 0, .float .f64 0] 99 (0, 0)) := heap_alloc_new _ _
 rcases hd with ⟨hv, hok, rfl, htx, rfl, hrest⟩ | ⟨hv, ⟨hc1, hc2⟩, rfl, rfl, hn, hrest⟩
 ·have HV : Hid ((val (bs.take 1) : Int) = 1) := by
   show (val (bs.take 1) : Int) = 1
   omega
  have HT : Hid (tx = ((bs.drop 1).drop 4).take (val ((bs.drop 1).take 4))) := htx
  have HR : Hid (rest = ((bs.drop 1).drop 4).drop (val ((bs.drop 1).take 4))) := hrest
  clear hv htx hrest
  go_enter Tryz.func120, Tryz.ntmps120
  go_wp2_with (first | (go_at_call 118; refine (rfByte_w _ g bs _ hr0 h1 hb).mono ?_; rintro _ w2 ⟨rfl, hr2, m2⟩; rw [HV.out]; have q2 := m2.at q0 hbx) | (go_at_call 85; refine (rfText_w _ g (bs.drop 1) 16 _ hr2 hb' ho' hok).mono ?_; rintro _ w3 ⟨v3, rfl, ho3, hr3, m3, f3⟩; rw [← HT.out] at ho3; rw [← HR.out] at hr3; have q3 := m3.at q2 hbx; have hi3 := ho3.isB; obtain ⟨ad3, n3, cap3, rfl, _⟩ := hi3; obtain ⟨d0, d1, d2, e0, e1, e2⟩ := three_cells q3))
  try simp only [Exit.inBlock, Exit.then]
  have M4 : Moves [q] w w3 := ((hm0.mono (by simp)).then m2).then m3
  have s3 : Moves [w.heap.size] w3 (((w3.setCell ⟨w.heap.size, 0, none⟩ (.int .i64 1)).setCell ⟨w.heap.size, 1, none⟩ (.slice ad3 n3 cap3)).setCell ⟨w.heap.size, 2, none⟩ (.float .f64 0)) := ((moves_set _ _ _ _).then (moves_set _ _ _ _)).then (moves_set _ _ _ _)
  have s1 := heap_set (i := 2) (heap_set (i := 1) (heap_set (i := 0) q3 (.int .i64 1)) (.slice ad3 n3 cap3)) (.float .f64 0)
  have hsz : w.heap.size < w2.heap.size := lt_of_block q2
  have hO := ho3.moves s3 (fun k hk => by have := f3 k hk; simp; omega)
  have hox : ∀ z ∈ tx, z < 256 := fun z hz => by rw [HT.out] at hz; exact ho' z (List.mem_of_mem_drop (List.mem_of_mem_take hz))
  refine bodyPost_ret (ret_val rfl _ _ _ _ _ _ rfl s1) rfl ⟨⟨1, .slice ad3 n3 cap3, (Value.slice ad3 n3 cap3).ownBlock.getD 0, tx, 0⟩, rfl, ⟨rfl, rfl, rfl, hO, fun k hk => by have := f3 k hk; omega, ⟨hO.isB, fits_zero, hox⟩, ?_, M4.trans s3 (fun x hx => .inr (by simp at hx; omega))⟩⟩
  exact hr3.moves s3 (by simp; omega) (by simp; omega)
 ·have HV : Hid ((val (bs.take 1) : Int) = 2) := by
   show (val (bs.take 1) : Int) = 2
   omega
  have HN : Hid (n = val ((bs.drop 1).take 8)) := hn
  have HR : Hid (rest = (bs.drop 1).drop 8) := hrest
  have HF : Hid (Pl.Fits n) := by rw [hn]; exact val_lt8 ho'
  clear hv hn hrest
  go_enter Tryz.func120, Tryz.ntmps120
  go_wp2_with (first | (go_at_call 118; refine (rfByte_w _ g bs _ hr0 h1 hb).mono ?_; rintro _ w2 ⟨rfl, hr2, m2⟩; rw [HV.out]; have q2 := m2.at q0 hbx) | (go_at_call 144; refine (rfFloat_w _ g (bs.drop 1) _ hr2 hc1 hb' ho' hc2).mono ?_; rintro _ w3 ⟨rfl, hr3, m3⟩; rw [← HN.out]; rw [← HR.out] at hr3; have q3 := m3.at q2 hbx; obtain ⟨d0, d1, d2, e0, e1, e2⟩ := three_cells q3))
  try simp only [Exit.inBlock, Exit.then]
  have M4 : Moves [q] w w3 := ((hm0.mono (by simp)).then m2).then m3
  have s3 : Moves [w.heap.size] w3 (((w3.setCell ⟨w.heap.size, 0, none⟩ (.int .i64 2)).setCell ⟨w.heap.size, 1, none⟩ (.slice none 0 0)).setCell ⟨w.heap.size, 2, none⟩ (.float .f64 n)) := ((moves_set _ _ _ _).then (moves_set _ _ _ _)).then (moves_set _ _ _ _)
  have s1 := heap_set (i := 2) (heap_set (i := 1) (heap_set (i := 0) q3 (.int .i64 2)) (.slice none 0 0)) (.float .f64 n)
  refine bodyPost_ret (ret_val rfl _ _ _ _ _ _ rfl s1) rfl ⟨⟨2, .slice none 0 0, 0, [], n⟩, rfl, ⟨rfl, rfl, rfl, Own.nil _, Fresh.nil _, ⟨isB_nil _ _, HF.out, by simp⟩, ?_, M4.trans s3 (fun x hx => .inr (by simp at hx; omega))⟩⟩
  exact hr3.moves s3 (by simp; omega) (by simp; omega)

end Go.Proofs.YtcngllcifcpbkaaGreat
