/-
  Apart of spans, the program's and the document's own.
-/
import Derived.Test.YtgeadpmnnjfkkaaCSp6
namespace Go.Proofs.Ytgeadpmnnjfkkaa
open Go.RowKit

/-- All are Right, and no two meet. -/
def SpA (xs : List Psp) : Prop := ∀ (i : Nat) x, xs[i]? = some x → spR x = true ∧ ∀ (k : Nat) y, k < i → xs[k]? = some y → spM y x = false
noncomputable def spAp (xs : List Psp) : Bool := @decide (SpA xs) (Classical.propDecidable _)
theorem spAp_true {xs : List Psp} (h : SpA xs) : spAp xs = true := @decide_eq_true _ (Classical.propDecidable _) h
theorem spAp_false {xs : List Psp} (h : ¬ SpA xs) : spAp xs = false := @decide_eq_false _ (Classical.propDecidable _) h
theorem spM_share {a b : Psp} (ha : spR a = true) (hb : spR b = true) : spM a b = (spH a b.lo || spH b a.lo) := by
  unfold spM; rw [ha, hb]; rfl

set_option maxRecDepth 100000 in
set_option maxHeartbeats 4000000 in
theorem spApart_w (w : World) (ad : Option Addr) (n cap : Nat) (xs : List Psp) (h : SpsAt w ad xs) (hn : n = xs.length) (hc : n ≤ cap) (hl : n ≤ 1000000) : Calls Try.prog 19 #[.slice ad n cap] w fun e w' => e = .returned (.bool (spAp xs)) ∧ Moves [] w w' := by
  have HN : Hid (n = xs.length) := hn
  have HS : Hid (SpsAt w ad xs) := h
  obtain ⟨q, hq⟩ : ∃ q, Hid (spAp xs = q) := ⟨_, rfl⟩
  rw [hq.out]
  clear h hn
  go_enter Try.func19, Try.ntmps19
  go_wp2_with fail
  go_loopw [9] (fun vi wr => ∃ (i : Nat), i ≤ n ∧ vi = .int .i64 (i : Nat) ∧ Moves [] w wr ∧ Hid (∀ j x, j < i → xs[j]? = some x → spR x = true ∧ ∀ (k : Nat) y, k < j → xs[k]? = some y → spM y x = false)) (fun vi _ => n - (intOf vi).toNat)
  case atStart => exact ⟨0, by omega, rfl, Moves.refl _ _, fun j x hj => absurd hj (by omega)⟩
  case round =>
    obtain ⟨i, hin, rfl, mr, hw⟩ := hrel
    by_cases hlt : i < n
    · have hk3 : (i : Int) < n := by omega
      have hk4 : i ≤ cap := by omega
      have hk5 : (i : Int) ≤ cap := by omega
      obtain ⟨s, hs⟩ : ∃ s, xs[i]? = some s := ⟨_, List.getElem?_eq_getElem (by have := HN.out; omega)⟩
      obtain ⟨g, off, rfl, z0, z1⟩ := HS.out i s hs
      replace z0 := mr.cell z0
      replace z1 := mr.cell z1
      have HX : Hid (xs[i]? = some s) := hs
      obtain ⟨Q, hQ⟩ : ∃ Q, wr.heap.size = Q := ⟨_, rfl⟩
      have bq := heap_alloc_new wr (.cells #[.string s.lo, .string s.hi] 27)
      rw [hQ] at bq
      have hsr : spR s = spR ⟨s.lo, s.hi⟩ := rfl
      clear hs
      cases h1 : spR ⟨s.lo, s.hi⟩ with
      | false =>
        have e : q = false := by
          rw [← hq.out]
          refine spAp_false (fun hA => ?_)
          have := (hA i s HX.out).1
          rw [hsr, h1] at this
          simp at this
        subst e
        go_wp2_with (go_at_call 27; refine (spRight_w _ _ _).mono ?_; rintro _ w2 ⟨rfl, m2⟩; simp only [h1])
        go_ret
        exact ⟨rfl, (mr.alloc _).then m2⟩
      | true =>
        have HR : Hid (spR s = true) := by rw [hsr]; exact h1
        clear hsr
        go_wp2_with (go_at_call 27; refine (spRight_w _ _ _).mono ?_; rintro _ w2 ⟨rfl, m2⟩; simp only [h1]; replace bq := m2.at bq (by simp); have M2 := (mr.alloc (.cells #[.string s.lo, .string s.hi] 27)).then m2)
        clear m2 mr z0 z1 h1
        go_loopw [21] (fun vk w3 => ∃ (k : Nat), k ≤ i ∧ vk = .int .i64 (k : Nat) ∧ Moves [] w w3 ∧ w3.heap[Q]? = some (.cells #[.string s.lo, .string s.hi] 27 (0, 0)) ∧ Hid (∀ (k' : Nat) y, k' < k → xs[k']? = some y → spM y s = false)) (fun vk _ => i - (intOf vk).toNat)
        case atStart => exact ⟨0, by omega, rfl, M2, bq, fun j x hj => absurd hj (by omega)⟩
        case round =>
          obtain ⟨k, hki, rfl, m3, b3, hw3⟩ := hrel
          by_cases hkl : k < i
          · have hkI : (k : Int) < i := by omega
            obtain ⟨y, hy⟩ : ∃ y, xs[k]? = some y := ⟨_, List.getElem?_eq_getElem (by have := HN.out; omega)⟩
            obtain ⟨g', off', e1, z0, z1⟩ := HS.out k y hy
            simp only [Option.some.injEq, Addr.mk.injEq] at e1
            obtain ⟨rfl, rfl, _⟩ := e1
            replace z0 := m3.cell z0
            replace z1 := m3.cell z1
            have HY : Hid (xs[k]? = some y) := hy
            have b3' := ((Moves.refl [] wr).alloc (.cells #[.string y.lo, .string y.hi] 27)).at b3 (by simp)
            have hlQ := lt_of_block b3
            obtain ⟨c0, c1, f0, f1⟩ := sp_cells b3'
            have hyr := (hw.out k y hkl hy).1
            have hsh : Hid (spM y s = (spH ⟨y.lo, y.hi⟩ s.lo || spH ⟨s.lo, s.hi⟩ y.lo)) := spM_share hyr HR.out
            clear hy hyr
            cases h1 : (spH ⟨y.lo, y.hi⟩ s.lo || spH ⟨s.lo, s.hi⟩ y.lo) with
            | true =>
              have e : q = false := by
                rw [← hq.out]
                refine spAp_false (fun hA => ?_)
                have := (hA i s HX.out).2 k y hkl HY.out
                rw [hsh.out, h1] at this
                simp at this
              subst e
              go_wp2_with (go_at_call 39; refine (spShare_w _ _ _ _ _).mono ?_; rintro _ w4 ⟨rfl, m4⟩; rw [h1])
              go_ret
              exact ⟨rfl, (m3.alloc _).then m4⟩
            | false =>
              go_wp2_with (go_at_call 39; refine (spShare_w _ _ _ _ _).mono ?_; rintro _ w4 ⟨rfl, m4⟩; rw [h1])
              go_roundw
              case rel =>
                refine ⟨k + 1, by omega, by go_num, (m3.alloc _).then m4, m4.at b3' (by simp), fun k' y' hk' hy' => ?_⟩
                by_cases e : k' = k
                · subst e
                  rw [HY.out] at hy'
                  simp at hy'
                  subst hy'
                  rw [hsh.out, h1]
                · exact hw3.out k' y' (by omega) hy'
              case measure => simp [intOf]; omega
          · obtain rfl : k = i := by omega
            go_wp2_with fail
            go_roundw
            case rel =>
              refine ⟨k + 1, by omega, by go_num, m3, fun j x hj hx => ?_⟩
              by_cases e : j = k
              · subst e
                rw [HX.out] at hx
                simp at hx
                subst hx
                exact ⟨HR.out, hw3.out⟩
              · exact hw.out j x (by omega) hx
            case measure => simp [intOf]; omega
    · obtain rfl : i = n := by omega
      have e : q = true := by
        rw [← hq.out]
        refine spAp_true (fun j x hx => hw.out j x ?_ hx)
        have := (List.getElem?_eq_some_iff.1 hx).1
        have := HN.out
        omega
      subst e
      go_wp2_with fail
      go_ret
      exact ⟨rfl, mr⟩
end Go.Proofs.Ytgeadpmnnjfkkaa
