/-
  The document's own Apart.
-/
import Derived.Test.YtgeadpmnnjfkkaaCSp7
import Derived.Deep.RegionHeld3
namespace Go.Proofs.Ytgeadpmnnjfkkaa
open Go.RowKit

set_option maxRecDepth 100000 in
set_option maxHeartbeats 4000000 in
theorem rfApart7_w (w : World) (ad : Option Addr) (n cap : Nat) (xs : List Psp) (h : SpsAt w ad xs) (hn : n = xs.length) (hl : n ≤ 1000000) : Calls Try.prog 35 #[.slice ad n cap] w fun e w' => e = .returned (.bool (spAp xs)) ∧ Moves [] w w' := by
  have HN : Hid (n = xs.length) := hn
  have HS : Hid (SpsAt w ad xs) := h
  obtain ⟨q, hq⟩ : ∃ q, Hid (spAp xs = q) := ⟨_, rfl⟩
  rw [hq.out]
  clear h hn
  go_enter Try.func35, Try.ntmps35
  go_wp2_with fail
  go_loopw [3] (fun vi wr => ∃ (i : Nat), i ≤ n ∧ vi = .int .i64 (i : Nat) ∧ Moves [] w wr ∧ Hid (∀ j x, j < i → xs[j]? = some x → spR x = true ∧ ∀ (k : Nat) y, k < j → xs[k]? = some y → spM y x = false)) (fun vi _ => n - (intOf vi).toNat)
  case atStart => exact ⟨0, by omega, rfl, Moves.refl _ _, fun j x hj => absurd hj (by omega)⟩
  case round =>
    obtain ⟨i, hin, rfl, mr, hw⟩ := hrel
    by_cases hlt : i < n
    · have hk3 : (i : Int) < n := by omega
      obtain ⟨s, hs⟩ : ∃ s, xs[i]? = some s := ⟨_, List.getElem?_eq_getElem (by have := HN.out; omega)⟩
      obtain ⟨g, off, rfl, z0, z1⟩ := HS.out i s hs
      replace z0 := mr.cell z0
      replace z1 := mr.cell z1
      have HX : Hid (xs[i]? = some s) := hs
      have hsr : spR s = spR ⟨s.lo, s.hi⟩ := rfl
      clear hs
      cases h1 : spR ⟨s.lo, s.hi⟩ with
      | false =>
        have e : q = false := by
          rw [← hq.out]
          refine spAp_false (fun hA => ?_)
          have := (hA i s HX.out).1
          rw [hsr, h1] at this
          simp at this
        subst e
        go_wp2_with (go_at_call 31; refine (rfRight7_w _ _ _).mono ?_; rintro _ w2 ⟨rfl, m2⟩; simp only [h1])
        go_ret
        exact ⟨rfl, mr.then m2⟩
      | true =>
        have HR : Hid (spR s = true) := by rw [hsr]; exact h1
        clear hsr
        go_wp2_with (go_at_call 31; refine (rfRight7_w _ _ _).mono ?_; rintro _ w2 ⟨rfl, m2⟩; simp only [h1]; have M2 := mr.then m2; replace z0 := m2.cell z0; replace z1 := m2.cell z1)
        clear m2 mr h1
        go_loopw [4] (fun vk w3 => ∃ (k : Nat), k ≤ i ∧ vk = .int .i64 (k : Nat) ∧ Moves [] w w3 ∧ w3.cell? ⟨g, off + i * 2, none⟩ = some (.string s.lo) ∧ w3.cell? ⟨g, off + i * 2 + 1, none⟩ = some (.string s.hi) ∧ Hid (∀ (k' : Nat) y, k' < k → xs[k']? = some y → spM y s = false)) (fun vk _ => i - (intOf vk).toNat)
        case atStart => exact ⟨0, by omega, rfl, M2, z0, z1, fun j x hj => absurd hj (by omega)⟩
        case round =>
          clear z0 z1
          obtain ⟨k, hki, rfl, m3, c0, c1, hw3⟩ := hrel
          by_cases hkl : k < i
          · have hkI : (k : Int) < i := by omega
            obtain ⟨y, hy⟩ : ∃ y, xs[k]? = some y := ⟨_, List.getElem?_eq_getElem (by have := HN.out; omega)⟩
            obtain ⟨g', off', e1, z0, z1⟩ := HS.out k y hy
            simp only [Option.some.injEq, Addr.mk.injEq] at e1
            obtain ⟨rfl, rfl, _⟩ := e1
            replace z0 := m3.cell z0
            replace z1 := m3.cell z1
            have HY : Hid (xs[k]? = some y) := hy
            have hyr := (hw.out k y hkl hy).1
            have hkn : (k : Int) < n := by omega
            clear hy hyr
            cases h1 : spM ⟨s.lo, s.hi⟩ ⟨y.lo, y.hi⟩ with
            | true =>
              have e : q = false := by
                rw [← hq.out]
                refine spAp_false (fun hA => ?_)
                have := (hA i s HX.out).2 k y hkl HY.out
                rw [spM_comm] at this
                rw [show spM s y = true from h1] at this
                simp at this
              subst e
              go_wp2_with fail
              go_region_held3 (fun w' => w'.cell? ⟨g, off + i * 2, none⟩ = some (.string s.lo) ∧ w'.cell? ⟨g, off + i * 2 + 1, none⟩ = some (.string s.hi) ∧ w'.cell? ⟨g, off + k * 2, none⟩ = some (.string y.lo) ∧ w'.cell? ⟨g, off + k * 2 + 1, none⟩ = some (.string y.hi)) (first | exact ⟨c0, c1, z0, z1⟩ | exact ⟨m4.cell c0, m4.cell c1, m4.cell z0, m4.cell z1⟩ | (go_keep; done)) ((go_at_call 33; refine (rfMeet7_w _ _ _ _ _).mono ?_; rintro _ w4 ⟨rfl, m4⟩; rw [h1]))
              go_wp2_with fail
              go_ret
              exact ⟨rfl, m3.drew.then m4⟩
            | false =>
              go_wp2_with fail
              go_region_held3 (fun w' => w'.cell? ⟨g, off + i * 2, none⟩ = some (.string s.lo) ∧ w'.cell? ⟨g, off + i * 2 + 1, none⟩ = some (.string s.hi) ∧ w'.cell? ⟨g, off + k * 2, none⟩ = some (.string y.lo) ∧ w'.cell? ⟨g, off + k * 2 + 1, none⟩ = some (.string y.hi)) (first | exact ⟨c0, c1, z0, z1⟩ | exact ⟨m4.cell c0, m4.cell c1, m4.cell z0, m4.cell z1⟩ | (go_keep; done)) ((go_at_call 33; refine (rfMeet7_w _ _ _ _ _).mono ?_; rintro _ w4 ⟨rfl, m4⟩; rw [h1]))
              go_wp2_with fail
              go_roundw
              case rel =>
                refine ⟨k + 1, by omega, by go_num, m3.drew.then m4, m4.cell c0, m4.cell c1, fun k' y' hk' hy' => ?_⟩
                by_cases e : k' = k
                · subst e
                  rw [HY.out] at hy'
                  simp at hy'
                  subst hy'
                  rw [spM_comm]; exact h1
                · exact hw3.out k' y' (by omega) hy'
              case measure => simp [intOf]; omega
          · obtain rfl : k = i := by omega
            go_wp2_with fail
            go_roundw
            case rel =>
              refine ⟨k + 1, by omega, by go_num, m3, fun j x hj hx => ?_⟩
              by_cases e : j = k
              · subst e
                rw [HX.out] at hx
                simp at hx
                subst hx
                exact ⟨HR.out, hw3.out⟩
              · exact hw.out j x (by omega) hx
            case measure => simp [intOf]; omega
    · obtain rfl : i = n := by omega
      have e : q = true := by
        rw [← hq.out]
        refine spAp_true (fun j x hx => hw.out j x ?_ hx)
        have := (List.getElem?_eq_some_iff.1 hx).1
        have := HN.out
        omega
      subst e
      go_wp2_with fail
      go_ret
      exact ⟨rfl, mr⟩
end Go.Proofs.Ytgeadpmnnjfkkaa
