/-
  Lists of spans, as plain data and as they lie; Cover.
-/
import Derived.Test.YtfhdodopjgfedaaGreatCSp4
namespace Go.Proofs.YtfhdodopjgfedaaGreat
open Go.RowKit

/-- These spans lie there, one behind the other. -/
def SpsAt (w : World) (ad : Option Addr) (xs : List Psp) : Prop := ∀ (k : Nat) s, xs[k]? = some s → ∃ g off, ad = some ⟨g, off, none⟩ ∧ w.cell? ⟨g, off + k * 2, none⟩ = some (.string s.lo) ∧ w.cell? ⟨g, off + k * 2 + 1, none⟩ = some (.string s.hi)
theorem drop_at {α : Type} {l : List α} {i : Nat} {s : α} (h : l[i]? = some s) : l.drop i = s :: l.drop (i + 1) := by
  obtain ⟨hi, rfl⟩ := List.getElem?_eq_some_iff.1 h
  exact List.drop_eq_getElem_cons hi
/-- What comes behind a span that ends there, to the end of all. -/
def spK (hi : ByteArray) : List Psp → Bool
  | [] => bz hi
  | s :: t => !bz hi && zeq hi s.lo && spR s && spK s.hi t
def spCov : List Psp → Bool
  | [] => false
  | s :: t => spR s && bz s.lo && spK s.hi t
/-- The same, by joining. -/
def spW (a : Psp) : List Psp → Bool
  | [] => bz a.lo && bz a.hi
  | s :: t => spJ a s && spW ⟨a.lo, s.hi⟩ t
theorem spW_eq : ∀ (t : List Psp) (a : Psp), spW a t = (spR a && bz a.lo && spK a.hi t)
  | [], a => by
    unfold spW spK
    cases h1 : bz a.lo <;> cases h2 : bz a.hi
    case true.true =>
      have : a = Psp.zero := by cases a; simp only [bz_iff] at h1 h2; subst h1 h2; rfl
      rw [this, zero_R]; rfl
    all_goals simp
  | s :: t, a => by
    unfold spW spK
    rw [spW_eq t]
    cases h : spJ a s with
    | true =>
      rw [join_R h]
      obtain ⟨h1, h2, h3, h4⟩ := spJ_parts h
      rw [h1, h2, h3, zeq_iff.2 h4]
      simp
    | false =>
      unfold spJ at h
      cases h1 : spR a <;> cases h2 : spR s <;> cases h3 : bz a.hi <;> cases h4 : zeq a.hi s.lo <;> rw [h1, h2, h3, h4] at h <;> simp at h ⊢
theorem spCov_cons (s : Psp) (t : List Psp) : spCov (s :: t) = spW s t := by rw [spW_eq]; rfl

set_option maxRecDepth 100000 in
set_option maxHeartbeats 4000000 in
theorem spCover_w (w : World) (ad : Option Addr) (n cap : Nat) (xs : List Psp) (h : SpsAt w ad xs) (hn : n = xs.length) (hc : n ≤ cap) (hl : n ≤ 1000000) : Calls Tryz.prog 75 #[.slice ad n cap] w fun e w' => e = .returned (.bool (spCov xs)) ∧ Moves [] w w' := by
  have HN : Hid (n = xs.length) := hn
  have HS : Hid (SpsAt w ad xs) := h
  clear h
  cases xs with
  | nil =>
    simp at hn
    subst hn
    go_enter Tryz.func75, Tryz.ntmps75
    go_wp2_with fail
    go_ret
    exact ⟨rfl, Moves.refl _ _⟩
  | cons s0 t0 =>
    obtain ⟨g, off, rfl, y0, y1⟩ := HS.out 0 s0 (by simp)
    rw [Nat.zero_mul, Nat.add_zero] at y0 y1
    obtain ⟨m, rfl⟩ : ∃ m, n = m + 1 := ⟨t0.length, by simpa using hn⟩
    have HM : Hid (t0.length = m) := by simp at hn; exact hn.symm
    clear hn HN
    have hn0 : ((m : Int) + 1 == 0) = false := by simp; omega
    have hq0 : Hid (spCov (s0 :: t0) = spW s0 (t0.drop 0)) := spCov_cons _ _
    obtain ⟨q, hq⟩ : ∃ q, Hid (spCov (s0 :: t0) = q) := ⟨_, rfl⟩
    rw [hq.out]
    rw [hq.out] at hq0
    have b0 := heap_alloc_new w (.cells #[.string s0.lo, .string s0.hi] 37)
    have mb : Moves [] w (w.alloc (.cells #[.string s0.lo, .string s0.hi] 37)) := (Moves.refl _ _).alloc _
    obtain ⟨P, hP⟩ : ∃ P, w.heap.size = P := ⟨_, rfl⟩
    have hPP : w.heap.size ≤ P := by omega
    rw [hP] at b0
    by_cases hcap : cap = 1
    · obtain rfl : m = 0 := by omega
      subst hcap
      clear hc
      go_enter Tryz.func75, Tryz.ntmps75
      go_wp2_with fail
      go_loopw [17] (fun vi wr => ∃ (i : Nat) (hi : ByteArray), i ≤ 0 ∧ vi = .int .i64 (i : Nat) ∧ Moves [] w wr ∧ wr.heap[P]? = some (.cells #[.string s0.lo, .string hi] 37 (0, 0)) ∧ Hid (q = spW ⟨s0.lo, hi⟩ (t0.drop i))) (fun vi _ => 0 - (intOf vi).toNat)
      case atStart => exact ⟨0, s0.hi, by omega, rfl, mb, b0, hq0⟩
      case round =>
        obtain ⟨i, hi, him, rfl, mr, br, hw⟩ := hrel
        obtain rfl : i = 0 := by omega
        obtain ⟨c0, c1, _, _⟩ := sp_cells br
        cases k1 : s0.lo.toList.isEmpty <;> cases k2 : hi.toList.isEmpty
        all_goals go_wp2_with fail
        all_goals go_ret
        all_goals refine ⟨?_, mr⟩
        all_goals rw [hw.out, List.drop_eq_nil_of_le (by have := HM.out; omega)]
        all_goals show Ending.returned _ = Ending.returned (.bool (s0.lo.toList.isEmpty && hi.toList.isEmpty))
        all_goals rw [k1, k2]
        all_goals rfl
    · have hc1 : 1 < cap := by omega
      clear hc hcap
      go_enter Tryz.func75, Tryz.ntmps75
      go_wp2_with fail
      go_loopw [17] (fun vi wr => ∃ (i : Nat) (hi : ByteArray), i ≤ m ∧ vi = .int .i64 (i : Nat) ∧ Moves [] w wr ∧ wr.heap[P]? = some (.cells #[.string s0.lo, .string hi] 37 (0, 0)) ∧ Hid (q = spW ⟨s0.lo, hi⟩ (t0.drop i))) (fun vi _ => m - (intOf vi).toNat)
      case atStart => exact ⟨0, s0.hi, by omega, rfl, mb, b0, hq0⟩
      case round =>
        obtain ⟨i, hi, him, rfl, mr, br, hw⟩ := hrel
        by_cases hlt : i < m
        · have hk3 : (i : Int) < m := by omega
          obtain ⟨s, hs⟩ : ∃ s, t0[i]? = some s := ⟨_, List.getElem?_eq_getElem (by have := HM.out; omega)⟩
          obtain ⟨g', off', e1, z0, z1⟩ := HS.out (i + 1) s (by simpa using hs)
          simp only [Option.some.injEq, Addr.mk.injEq] at e1
          obtain ⟨rfl, rfl, _⟩ := e1
          have a0 : off + (i + 1) * 2 = off + 2 + i * 2 := by omega
          rw [a0] at z0 z1
          clear a0
          replace z0 := mr.cell z0
          replace z1 := mr.cell z1
          have br' := ((Moves.refl [] wr).alloc (.cells #[.string s.lo, .string s.hi] 37)).at br (by simp)
          have hlP := lt_of_block br
          obtain ⟨c0, c1, f0, f1⟩ := sp_cells br'
          have hd : t0.drop i = s :: t0.drop (i + 1) := drop_at hs
          rw [hd] at hw
          have hw' : Hid (q = (spJ ⟨s0.lo, hi⟩ s && spW ⟨s0.lo, s.hi⟩ (t0.drop (i + 1)))) := hw.out
          clear hd hs hw
          cases hj : spJ ⟨s0.lo, hi⟩ s with
          | false =>
            go_wp2_with (go_at_call 114; refine (spJoin_no _ _ _ _ _ hj).mono ?_; rintro _ w2 ⟨rfl, m2⟩)
            go_ret
            refine ⟨?_, (mr.alloc _).then m2 |>.alloc _⟩
            rw [hw'.out, hj]
            rfl
          | true =>
            go_wp2_with (go_at_call 114; refine (spJoin_yes _ _ _ _ _ hj).mono ?_; rintro _ w2 ⟨rfl, m2⟩; have b2 := ((Moves.refl [] w2).alloc (.cells #[.string s0.lo, .string s.hi] 37)).at (m2.at br' (by simp)) (by simp); clear c0 c1 f0 f1; obtain ⟨c0, c1, f0, f1⟩ := sp_cells b2)
            go_roundw
            case rel =>
              have st := spStored1 (a := .string s0.lo) (b := .string s.hi) b2
              refine ⟨i + 1, s.hi, by omega, by go_num, ((mr.then ((((Moves.refl [] wr).alloc _).then m2).alloc _)).trans st.2 (fun x hx => .inr (by simp at hx; omega))), st.1, ?_⟩
              have := hw'.out
              rw [hj, Bool.true_and] at this
              exact this
            case measure => simp [intOf]; omega
        · obtain rfl : i = m := by omega
          obtain ⟨c0, c1, _, _⟩ := sp_cells br
          cases k1 : s0.lo.toList.isEmpty <;> cases k2 : hi.toList.isEmpty
          all_goals go_wp2_with fail
          all_goals go_ret
          all_goals refine ⟨?_, mr⟩
          all_goals rw [hw.out, List.drop_eq_nil_of_le (by have := HM.out; omega)]
          all_goals show Ending.returned _ = Ending.returned (.bool (s0.lo.toList.isEmpty && hi.toList.isEmpty))
          all_goals rw [k1, k2]
          all_goals rfl
end Go.Proofs.YtfhdodopjgfedaaGreat
