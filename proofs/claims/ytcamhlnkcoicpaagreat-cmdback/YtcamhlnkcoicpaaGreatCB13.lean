/-
  Rf3, Rf3b, Rf3c, Rf3d, Law3, Any3, Lists1, Ssa: our texts of these names, laid into one.
-/
import Derived.Test.YtcamhlnkcoicpaaGreatCB12
import Derived.Deep.RegionHeld3
import Derived.Test.YtcamhlnkcoicpaaGreatCB11
import Derived.Test.YtcamhlnkcoicpaaGreatCLi0
/-
  What the document's own answer on values (the reference of layer 3) does: Order, Same, Right, Plus and Canon return what package value's functions are proved to return, and write nothing that was there.
-/
namespace Go.Proofs.YtcamhlnkcoicpaaGreat
open Go.RowKit

theorem rkind_w (k : Int) (ad : Option Addr) (len cap n : Nat) (w : World) :
    Calls Tryz.prog 168 #[.agg #[.int .i64 k, .slice ad len cap, .float .f64 n]] w fun e w' => e = .returned (.int .i64 (kd k)) ∧ Moves [] w w' := by
  rcases kd_cases k with ⟨rfl, e⟩ | ⟨rfl, e⟩ | ⟨h1, h2, e⟩
  · rw [e]
    go_enter Tryz.func168, Tryz.ntmps168
    go_wp2
    go_ret
    exact ⟨rfl, (Moves.refl _ _).alloc _⟩
  · rw [e]
    go_enter Tryz.func168, Tryz.ntmps168
    go_wp2
    go_ret
    exact ⟨rfl, (Moves.refl _ _).alloc _⟩
  · rw [e]
    have t1 : (k == 1) = false := by simpa using h1
    have t2 : (k == 2) = false := by simpa using h2
    go_enter Tryz.func168, Tryz.ntmps168
    go_wp2
    go_ret
    exact ⟨rfl, (Moves.refl _ _).alloc _⟩

theorem strOf_toList (bs : List Nat) : (strOf bs).toList = bs.map UInt8.ofNat := by
  unfold strOf
  rw [ByteArray.toList_mk]

theorem less_bcmp : ∀ (a b : List Nat), (∀ z ∈ a, z < 256) → (∀ z ∈ b, z < 256) → Op.bytesLess (a.map UInt8.ofNat) (b.map UInt8.ofNat) = decide (bcmp a b < 0)
  | [], [], _, _ => by simp [Op.bytesLess, bcmp]
  | [], _ :: _, _, _ => by simp [Op.bytesLess, bcmp]
  | _ :: _, [], _, _ => by simp [Op.bytesLess, bcmp]
  | a :: s, b :: t, ha, hb => by
    have ih := less_bcmp s t (fun z hz => ha z (by simp [hz])) (fun z hz => hb z (by simp [hz]))
    have h1 : a < 256 := ha a (by simp)
    have h2 : b < 256 := hb b (by simp)
    have ex : (UInt8.ofNat a).toNat = a := UInt8.toNat_ofNat_of_lt h1
    have ey : (UInt8.ofNat b).toNat = b := UInt8.toNat_ofNat_of_lt h2
    simp only [List.map_cons]
    unfold Op.bytesLess bcmp
    have e1 : (UInt8.ofNat a < UInt8.ofNat b) ↔ a < b := by rw [UInt8.lt_iff_toNat_lt, ex, ey]
    have e2 : (UInt8.ofNat a == UInt8.ofNat b) = decide (a = b) := by
      rw [Bool.eq_iff_iff]
      simp only [beq_iff_eq, decide_eq_true_eq]
      rw [← UInt8.toNat_inj, ex, ey]
    rw [ih, e2]
    by_cases c1 : a < b
    · simp [c1, e1]
    · by_cases c2 : b < a
      · have c3 : ¬ a = b := by omega
        simp [c1, c2, c3, e1]
      · have c3 : a = b := by omega
        simp [c3]

theorem eq_bcmp (a b : List Nat) (ha : ∀ z ∈ a, z < 256) (hb : ∀ z ∈ b, z < 256) : (a.map UInt8.ofNat == b.map UInt8.ofNat) = decide (bcmp a b = 0) := by
  rw [Bool.eq_iff_iff]
  simp only [beq_iff_eq, decide_eq_true_eq]
  rw [← bcmp_lib a b ha hb]
  constructor
  · intro h
    rw [h, bcmp_lib b b hb hb]
    exact bcmp_self b
  · intro h
    rw [bcmp_lib a b ha hb] at h
    rw [bcmp_zero h]

set_option maxHeartbeats 2000000 in
theorem rOrder_w (a b : Vm) (w : World) (ha : a.In w) (hb : b.In w) :
    Calls Tryz.prog 156 #[a.val, b.val] w fun e w' => e = .returned (.int .i64 (vord a b)) ∧ Moves [] w w' := by
  obtain ⟨k, bv, g, bs, n⟩ := a
  obtain ⟨l, cv, h, cs, m⟩ := b
  obtain ⟨ha1, ha2, ha3⟩ := ha
  obtain ⟨hb1, hb2, hb3⟩ := hb
  simp only at ha1 ha2 ha3 hb1 hb2 hb3
  have ha0 := ha1
  have hb0 := hb1
  obtain ⟨ad, len, cap, rfl, _⟩ := ha1
  obtain ⟨ad', len', cap', rfl, _⟩ := hb1
  unfold vord
  simp only [Vm.val]
  obtain ⟨pa, pb, mb⟩ := boxes (Moves.refl [] ((w.alloc (.cells #[.int .i64 k, .slice ad len cap, .float .f64 n] 25)).alloc (.cells #[.int .i64 l, .slice ad' len' cap', .float .f64 m] 25)))
  obtain ⟨c0, c1, c2, _, _, _⟩ := three_cells pa
  obtain ⟨d0, d1, d2, _, _, _⟩ := three_cells pb
  clear pa pb
  by_cases ho : icmp (kd k) (kd l) ≠ 0
  · rw [if_pos ho]
    obtain ⟨x, hx⟩ : ∃ x, kd k = x := ⟨_, rfl⟩
    obtain ⟨y, hy⟩ : ∃ y, kd l = y := ⟨_, rfl⟩
    rw [hx, hy] at ho ⊢
    have HK : Hid (kd k = x) := hx
    have HL : Hid (kd l = y) := hy
    clear hx hy
    by_cases hlt : x < y
    · have e : icmp x y = -1 := by simp [icmp, hlt]
      rw [e]
      clear e ho
      go_enter Tryz.func156, Tryz.ntmps156
      go_wp2
      generalize ((w.alloc (.cells #[.int .i64 k, .slice ad len cap, .float .f64 n] 25)).alloc (.cells #[.int .i64 l, .slice ad' len' cap', .float .f64 m] 25)) = W1 at *
      go_region_held3 (fun w' => w'.cell? ⟨w.heap.size, 0, none⟩ = some (.int .i64 k) ∧ w'.cell? ⟨w.heap.size, 1, none⟩ = some (.slice ad len cap) ∧ w'.cell? ⟨w.heap.size, 2, none⟩ = some (.float .f64 n) ∧ w'.cell? ⟨w.heap.size + 1, 0, none⟩ = some (.int .i64 l) ∧ w'.cell? ⟨w.heap.size + 1, 1, none⟩ = some (.slice ad' len' cap') ∧ w'.cell? ⟨w.heap.size + 1, 2, none⟩ = some (.float .f64 m)) (first | (with_reducible exact ⟨c0, c1, c2, d0, d1, d2⟩) | (go_keep; done)) (first | (go_at_call 168; have z := m2; refine (rkind_w _ _ _ _ _ _).mono ?_; rintro _ w3 ⟨rfl, m3⟩; rw [HL.out]; replace c0 := m3.cell c0; replace c1 := m3.cell c1; replace c2 := m3.cell c2; replace d0 := m3.cell d0; replace d1 := m3.cell d1; replace d2 := m3.cell d2) | (go_at_call 168; refine (rkind_w _ _ _ _ _ _).mono ?_; rintro _ w2 ⟨rfl, m2⟩; rw [HK.out]; replace c0 := m2.cell c0; replace c1 := m2.cell c1; replace c2 := m2.cell c2; replace d0 := m2.cell d0; replace d1 := m2.cell d1; replace d2 := m2.cell d2))
      have M3 : Moves [] w w3 := (mb.drew.then m2).then m3
      go_wp2
      go_ret
      exact ⟨rfl, M3⟩
    · have hgt : y < x := by
        unfold icmp at ho
        rw [if_neg hlt] at ho
        by_cases h : y < x
        · exact h
        · simp [h] at ho
      have e : icmp x y = 1 := by simp [icmp, hlt, hgt]
      rw [e]
      clear e ho
      go_enter Tryz.func156, Tryz.ntmps156
      go_wp2
      generalize ((w.alloc (.cells #[.int .i64 k, .slice ad len cap, .float .f64 n] 25)).alloc (.cells #[.int .i64 l, .slice ad' len' cap', .float .f64 m] 25)) = W1 at *
      go_region_held3 (fun w' => w'.cell? ⟨w.heap.size, 0, none⟩ = some (.int .i64 k) ∧ w'.cell? ⟨w.heap.size, 1, none⟩ = some (.slice ad len cap) ∧ w'.cell? ⟨w.heap.size, 2, none⟩ = some (.float .f64 n) ∧ w'.cell? ⟨w.heap.size + 1, 0, none⟩ = some (.int .i64 l) ∧ w'.cell? ⟨w.heap.size + 1, 1, none⟩ = some (.slice ad' len' cap') ∧ w'.cell? ⟨w.heap.size + 1, 2, none⟩ = some (.float .f64 m)) (first | (with_reducible exact ⟨c0, c1, c2, d0, d1, d2⟩) | (go_keep; done)) (first | (go_at_call 168; have z := m2; refine (rkind_w _ _ _ _ _ _).mono ?_; rintro _ w3 ⟨rfl, m3⟩; rw [HL.out]; replace c0 := m3.cell c0; replace c1 := m3.cell c1; replace c2 := m3.cell c2; replace d0 := m3.cell d0; replace d1 := m3.cell d1; replace d2 := m3.cell d2) | (go_at_call 168; refine (rkind_w _ _ _ _ _ _).mono ?_; rintro _ w2 ⟨rfl, m2⟩; rw [HK.out]; replace c0 := m2.cell c0; replace c1 := m2.cell c1; replace c2 := m2.cell c2; replace d0 := m2.cell d0; replace d1 := m2.cell d1; replace d2 := m2.cell d2))
      have M3 : Moves [] w w3 := (mb.drew.then m2).then m3
      go_wp2
      go_ret
      exact ⟨rfl, M3⟩
  · have ho' : icmp (kd k) (kd l) = 0 := Decidable.not_not.1 ho
    rw [if_neg ho]
    clear ho
    rcases kd_cases k with ⟨z, e⟩ | ⟨z, e⟩ | ⟨z, _, e⟩
    · rw [if_pos e]
      rw [e] at ho'
      have HL : Hid (kd l = 1) := icmp_zero ho'
      have HK : Hid (kd k = 1) := e
      clear e ho' z
      have hl := less_bcmp bs cs ha3 hb3
      have he := eq_bcmp bs cs ha3 hb3
      rw [← strOf_toList, ← strOf_toList] at hl he
      have hbd := bcmp_bounds bs cs
      have ways : (bcmp bs cs = -1 ∧ Op.bytesLess (strOf bs).toList (strOf cs).toList = true) ∨ (bcmp bs cs = 1 ∧ Op.bytesLess (strOf bs).toList (strOf cs).toList = false ∧ ((strOf bs).toList == (strOf cs).toList) = false) ∨ (bcmp bs cs = 0 ∧ Op.bytesLess (strOf bs).toList (strOf cs).toList = false ∧ ((strOf bs).toList == (strOf cs).toList) = true) := by
        rw [hl, he]
        rcases (by omega : bcmp bs cs = -1 ∨ bcmp bs cs = 1 ∨ bcmp bs cs = 0) with h | h | h <;> rw [h] <;> decide
      clear hl he hbd
      have hs1 := fun w1 (m1 : Moves [] w w1) => run_str (ha0.moves m1 (by simp)) ha3
      have hs2 := fun w1 (m1 : Moves [] w w1) => run_str (hb0.moves m1 (by simp)) hb3
      rcases ways with ⟨e, t1⟩ | ⟨e, t1, t2⟩ | ⟨e, t1, t2⟩
      all_goals rw [e]
      all_goals clear e
      · go_enter Tryz.func156, Tryz.ntmps156
        go_wp2
        generalize ((w.alloc (.cells #[.int .i64 k, .slice ad len cap, .float .f64 n] 25)).alloc (.cells #[.int .i64 l, .slice ad' len' cap', .float .f64 m] 25)) = W1 at *
        go_region_held3 (fun w' => w'.cell? ⟨w.heap.size, 0, none⟩ = some (.int .i64 k) ∧ w'.cell? ⟨w.heap.size, 1, none⟩ = some (.slice ad len cap) ∧ w'.cell? ⟨w.heap.size, 2, none⟩ = some (.float .f64 n) ∧ w'.cell? ⟨w.heap.size + 1, 0, none⟩ = some (.int .i64 l) ∧ w'.cell? ⟨w.heap.size + 1, 1, none⟩ = some (.slice ad' len' cap') ∧ w'.cell? ⟨w.heap.size + 1, 2, none⟩ = some (.float .f64 m)) (first | (with_reducible exact ⟨c0, c1, c2, d0, d1, d2⟩) | (go_keep; done)) (first | (go_at_call 168; have z := m2; refine (rkind_w _ _ _ _ _ _).mono ?_; rintro _ w3 ⟨rfl, m3⟩; rw [HL.out]; replace c0 := m3.cell c0; replace c1 := m3.cell c1; replace c2 := m3.cell c2; replace d0 := m3.cell d0; replace d1 := m3.cell d1; replace d2 := m3.cell d2) | (go_at_call 168; refine (rkind_w _ _ _ _ _ _).mono ?_; rintro _ w2 ⟨rfl, m2⟩; rw [HK.out]; replace c0 := m2.cell c0; replace c1 := m2.cell c1; replace c2 := m2.cell c2; replace d0 := m2.cell d0; replace d1 := m2.cell d1; replace d2 := m2.cell d2))
        have M3 : Moves [] w w3 := (mb.drew.then m2).then m3
        have r1 := hs1 w3 M3
        have r2 := hs2 w3 M3
        clear hs1 hs2
        go_wp2
        go_ret
        exact ⟨rfl, M3⟩
      · go_enter Tryz.func156, Tryz.ntmps156
        go_wp2
        generalize ((w.alloc (.cells #[.int .i64 k, .slice ad len cap, .float .f64 n] 25)).alloc (.cells #[.int .i64 l, .slice ad' len' cap', .float .f64 m] 25)) = W1 at *
        go_region_held3 (fun w' => w'.cell? ⟨w.heap.size, 0, none⟩ = some (.int .i64 k) ∧ w'.cell? ⟨w.heap.size, 1, none⟩ = some (.slice ad len cap) ∧ w'.cell? ⟨w.heap.size, 2, none⟩ = some (.float .f64 n) ∧ w'.cell? ⟨w.heap.size + 1, 0, none⟩ = some (.int .i64 l) ∧ w'.cell? ⟨w.heap.size + 1, 1, none⟩ = some (.slice ad' len' cap') ∧ w'.cell? ⟨w.heap.size + 1, 2, none⟩ = some (.float .f64 m)) (first | (with_reducible exact ⟨c0, c1, c2, d0, d1, d2⟩) | (go_keep; done)) (first | (go_at_call 168; have z := m2; refine (rkind_w _ _ _ _ _ _).mono ?_; rintro _ w3 ⟨rfl, m3⟩; rw [HL.out]; replace c0 := m3.cell c0; replace c1 := m3.cell c1; replace c2 := m3.cell c2; replace d0 := m3.cell d0; replace d1 := m3.cell d1; replace d2 := m3.cell d2) | (go_at_call 168; refine (rkind_w _ _ _ _ _ _).mono ?_; rintro _ w2 ⟨rfl, m2⟩; rw [HK.out]; replace c0 := m2.cell c0; replace c1 := m2.cell c1; replace c2 := m2.cell c2; replace d0 := m2.cell d0; replace d1 := m2.cell d1; replace d2 := m2.cell d2))
        have M3 : Moves [] w w3 := (mb.drew.then m2).then m3
        have r1 := hs1 w3 M3
        have r2 := hs2 w3 M3
        clear hs1 hs2
        go_wp2
        go_ret
        exact ⟨rfl, M3⟩
      · go_enter Tryz.func156, Tryz.ntmps156
        go_wp2
        generalize ((w.alloc (.cells #[.int .i64 k, .slice ad len cap, .float .f64 n] 25)).alloc (.cells #[.int .i64 l, .slice ad' len' cap', .float .f64 m] 25)) = W1 at *
        go_region_held3 (fun w' => w'.cell? ⟨w.heap.size, 0, none⟩ = some (.int .i64 k) ∧ w'.cell? ⟨w.heap.size, 1, none⟩ = some (.slice ad len cap) ∧ w'.cell? ⟨w.heap.size, 2, none⟩ = some (.float .f64 n) ∧ w'.cell? ⟨w.heap.size + 1, 0, none⟩ = some (.int .i64 l) ∧ w'.cell? ⟨w.heap.size + 1, 1, none⟩ = some (.slice ad' len' cap') ∧ w'.cell? ⟨w.heap.size + 1, 2, none⟩ = some (.float .f64 m)) (first | (with_reducible exact ⟨c0, c1, c2, d0, d1, d2⟩) | (go_keep; done)) (first | (go_at_call 168; have z := m2; refine (rkind_w _ _ _ _ _ _).mono ?_; rintro _ w3 ⟨rfl, m3⟩; rw [HL.out]; replace c0 := m3.cell c0; replace c1 := m3.cell c1; replace c2 := m3.cell c2; replace d0 := m3.cell d0; replace d1 := m3.cell d1; replace d2 := m3.cell d2) | (go_at_call 168; refine (rkind_w _ _ _ _ _ _).mono ?_; rintro _ w2 ⟨rfl, m2⟩; rw [HK.out]; replace c0 := m2.cell c0; replace c1 := m2.cell c1; replace c2 := m2.cell c2; replace d0 := m2.cell d0; replace d1 := m2.cell d1; replace d2 := m2.cell d2))
        have M3 : Moves [] w w3 := (mb.drew.then m2).then m3
        have r1 := hs1 w3 M3
        have r2 := hs2 w3 M3
        clear hs1 hs2
        go_wp2
        go_ret
        exact ⟨rfl, M3⟩
    · rw [if_neg (by omega), if_pos e]
      rw [e] at ho'
      have HL : Hid (kd l = 2) := icmp_zero ho'
      have HK : Hid (kd k = 2) := e
      clear e ho' z
      go_enter Tryz.func156, Tryz.ntmps156
      go_wp2
      generalize ((w.alloc (.cells #[.int .i64 k, .slice ad len cap, .float .f64 n] 25)).alloc (.cells #[.int .i64 l, .slice ad' len' cap', .float .f64 m] 25)) = W1 at *
      go_region_held3 (fun w' => w'.cell? ⟨w.heap.size, 0, none⟩ = some (.int .i64 k) ∧ w'.cell? ⟨w.heap.size, 1, none⟩ = some (.slice ad len cap) ∧ w'.cell? ⟨w.heap.size, 2, none⟩ = some (.float .f64 n) ∧ w'.cell? ⟨w.heap.size + 1, 0, none⟩ = some (.int .i64 l) ∧ w'.cell? ⟨w.heap.size + 1, 1, none⟩ = some (.slice ad' len' cap') ∧ w'.cell? ⟨w.heap.size + 1, 2, none⟩ = some (.float .f64 m)) (first | (with_reducible exact ⟨c0, c1, c2, d0, d1, d2⟩) | (go_keep; done)) (first | (go_at_call 168; have z := m2; refine (rkind_w _ _ _ _ _ _).mono ?_; rintro _ w3 ⟨rfl, m3⟩; rw [HL.out]; replace c0 := m3.cell c0; replace c1 := m3.cell c1; replace c2 := m3.cell c2; replace d0 := m3.cell d0; replace d1 := m3.cell d1; replace d2 := m3.cell d2) | (go_at_call 168; refine (rkind_w _ _ _ _ _ _).mono ?_; rintro _ w2 ⟨rfl, m2⟩; rw [HK.out]; replace c0 := m2.cell c0; replace c1 := m2.cell c1; replace c2 := m2.cell c2; replace d0 := m2.cell d0; replace d1 := m2.cell d1; replace d2 := m2.cell d2))
      have M3 : Moves [] w w3 := (mb.drew.then m2).then m3
      go_wp2_with (go_at_call 169; refine (refOrder_w _ _ ha2 hb2 _).mono ?_; rintro _ _ ⟨rfl, rfl⟩)
      go_ret
      exact ⟨rfl, M3⟩
    · rw [if_neg (by omega), if_neg (by omega)]
      rw [e] at ho'
      have HL : Hid (kd l = 0) := icmp_zero ho'
      have HK : Hid (kd k = 0) := e
      clear e ho' z
      go_enter Tryz.func156, Tryz.ntmps156
      go_wp2
      generalize ((w.alloc (.cells #[.int .i64 k, .slice ad len cap, .float .f64 n] 25)).alloc (.cells #[.int .i64 l, .slice ad' len' cap', .float .f64 m] 25)) = W1 at *
      go_region_held3 (fun w' => w'.cell? ⟨w.heap.size, 0, none⟩ = some (.int .i64 k) ∧ w'.cell? ⟨w.heap.size, 1, none⟩ = some (.slice ad len cap) ∧ w'.cell? ⟨w.heap.size, 2, none⟩ = some (.float .f64 n) ∧ w'.cell? ⟨w.heap.size + 1, 0, none⟩ = some (.int .i64 l) ∧ w'.cell? ⟨w.heap.size + 1, 1, none⟩ = some (.slice ad' len' cap') ∧ w'.cell? ⟨w.heap.size + 1, 2, none⟩ = some (.float .f64 m)) (first | (with_reducible exact ⟨c0, c1, c2, d0, d1, d2⟩) | (go_keep; done)) (first | (go_at_call 168; have z := m2; refine (rkind_w _ _ _ _ _ _).mono ?_; rintro _ w3 ⟨rfl, m3⟩; rw [HL.out]; replace c0 := m3.cell c0; replace c1 := m3.cell c1; replace c2 := m3.cell c2; replace d0 := m3.cell d0; replace d1 := m3.cell d1; replace d2 := m3.cell d2) | (go_at_call 168; refine (rkind_w _ _ _ _ _ _).mono ?_; rintro _ w2 ⟨rfl, m2⟩; rw [HK.out]; replace c0 := m2.cell c0; replace c1 := m2.cell c1; replace c2 := m2.cell c2; replace d0 := m2.cell d0; replace d1 := m2.cell d1; replace d2 := m2.cell d2))
      have M3 : Moves [] w w3 := (mb.drew.then m2).then m3
      go_wp2
      go_ret
      exact ⟨rfl, M3⟩
end Go.Proofs.YtcamhlnkcoicpaaGreat
/-
  What the document's own Same, Right, Plus and Canon of values do: they return what package value's functions are proved to return, and write nothing that was there.
-/
namespace Go.Proofs.YtcamhlnkcoicpaaGreat
open Go.RowKit

theorem rSame_w (a b : Vm) (w : World) (ha : a.In w) (hb : b.In w) :
    Calls Tryz.prog 136 #[a.val, b.val] w fun e w' => e = .returned (.bool (vord a b == 0)) ∧ Moves [] w w' := by
  obtain ⟨k, bv, g, bs, n⟩ := a
  obtain ⟨l, cv, h, cs, m⟩ := b
  have ha0 := ha.isB
  have hb0 := hb.isB
  simp only at ha0 hb0
  have hc := fun w1 (m1 : Moves [] w w1) => rOrder_w _ _ w1 (ha.moves m1 (by simp)) (hb.moves m1 (by simp))
  obtain ⟨ad, len, cap, rfl, _⟩ := ha0
  obtain ⟨ad', len', cap', rfl, _⟩ := hb0
  generalize vord ⟨k, .slice ad len cap, g, bs, n⟩ ⟨l, .slice ad' len' cap', h, cs, m⟩ = o at hc
  simp only [Vm.val] at hc ⊢
  go_enter Tryz.func136, Tryz.ntmps136
  go_wp2_with (go_at_call 156; refine (hc _ (((Moves.refl [] w).alloc _).alloc _)).mono ?_; rintro _ w2 ⟨rfl, m2⟩)
  go_ret
  exact ⟨rfl, (((Moves.refl [] w).alloc _).alloc _).then m2⟩
end Go.Proofs.YtcamhlnkcoicpaaGreat
/-
  What the document's own Put of a value does: it returns the bytes that it was handed and the value's behind them, in a row of its own, and writes nothing that was there.
-/
namespace Go.Proofs.YtcamhlnkcoicpaaGreat
open Go.RowKit

end Go.Proofs.YtcamhlnkcoicpaaGreat
/-
  What the document's own Get of a value does: it takes a value where the document lets it, and else marks its Reader as bad; no other memory is written.
-/
namespace Go.Proofs.YtcamhlnkcoicpaaGreat
open Go.RowKit

end Go.Proofs.YtcamhlnkcoicpaaGreat
/-
  What the law's own 'writes' and 'reads' do: for every value, and for any bytes, they return true, and write nothing that was there.
-/
namespace Go.Proofs.YtcamhlnkcoicpaaGreat
open Go.RowKit

theorem rsame_b (W w : World) (va vb : Value) (A B : Vm) (ha : VIs W va A) (hb : VIs W vb B) (m : Moves [] W w) :
    Calls Tryz.prog 136 #[va, vb] w fun e w' => e = .returned (.bool (vord A B == 0)) ∧ Moves [] W w' := by
  obtain ⟨rfl, ha⟩ := ha
  obtain ⟨rfl, hb⟩ := hb
  exact (rSame_w A B w (ha.moves m (by simp)) (hb.moves m (by simp))).mono fun e w' h => ⟨h.1, m.then h.2⟩

end Go.Proofs.YtcamhlnkcoicpaaGreat
/-
  'x1, .., xn := f1(y1), .., fn(yn)' over boxes once more, where what is handed back lies in new memory: what is said of it is said of the world.
-/
namespace Go.Proofs.YtcamhlnkcoicpaaGreat
open Go.RowKit

section
variable {P : Program} {ops : Array Oper} {Q : Exit → Act → World → Prop} {a0 : Act} {W : World} {n : Nat} {L C D : Nat → Nat} {T : TypeId} {Z : Array Value} {src : Nat → Value} {Res : World → Nat → Value → Array Value → Prop}

end
end Go.Proofs.YtcamhlnkcoicpaaGreat
/-
  Slices of structs that a call made itself: what lies in them, element by element; what an append leaves. Plain laws, for any element type.
-/
namespace Go.Proofs.YtcamhlnkcoicpaaGreat
open Go.RowKit

end Go.Proofs.YtcamhlnkcoicpaaGreat
/-
  A drawn region each of whose operations writes a slot of its own: what each one leaves there, told of a world, and kept by whatever comes up behind it.
-/
namespace Go.Proofs.YtcamhlnkcoicpaaGreat
open Go.RowKit

end Go.Proofs.YtcamhlnkcoicpaaGreat
