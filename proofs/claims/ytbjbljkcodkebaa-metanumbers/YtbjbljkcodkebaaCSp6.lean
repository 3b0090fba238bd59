/-
  The document's own Cover.
-/
import Derived.Test.YtbjbljkcodkebaaCSp5
namespace Go.Proofs.Ytbjbljkcodkebaa
open Go.RowKit

/-- What the document asks of the spans from there on. -/
def spG (lo : ByteArray) : List Psp → Bool
  | [] => true
  | s :: t => spR s && zeq s.lo lo && (bz s.hi == t.isEmpty) && spG s.hi t
theorem zeq_comm (a b : ByteArray) : zeq a b = zeq b a := by
  cases h : zeq a b with
  | true => rw [zeq_iff.1 h]; exact (zeq_iff.2 rfl).symm
  | false =>
    cases h2 : zeq b a with
    | false => rfl
    | true => rw [zeq_iff.1 h2, zeq_iff.2 rfl] at h; simp at h
theorem spK_eq : ∀ (t : List Psp) (hi : ByteArray), spK hi t = ((bz hi == t.isEmpty) && spG hi t)
  | [], hi => by unfold spK spG; simp
  | s :: t, hi => by
    unfold spK spG
    rw [spK_eq t, zeq_comm s.lo hi]
    cases bz hi <;> cases zeq hi s.lo <;> cases spR s <;> simp
theorem spG_cov {xs : List Psp} (h : xs ≠ []) : spCov xs = spG ⟨#[]⟩ xs := by
  cases xs with
  | nil => exact absurd rfl h
  | cons s t =>
    unfold spCov spG
    dsimp only
    rw [spK_eq]
    have : zeq s.lo ⟨#[]⟩ = bz s.lo := by
      cases hb : bz s.lo with
      | true => exact zeq_iff.2 (bz_iff.1 hb)
      | false =>
        cases hz : zeq s.lo ⟨#[]⟩ with
        | false => rfl
        | true => rw [bz_iff.2 (zeq_iff.1 hz)] at hb; simp at hb
    rw [this]
    simp [Bool.and_assoc]

set_option maxRecDepth 100000 in
set_option maxHeartbeats 4000000 in
theorem rfCover7_w (w : World) (ad : Option Addr) (n cap : Nat) (xs : List Psp) (h : SpsAt w ad xs) (hn : n = xs.length) (hl : n ≤ 1000000) : Calls Try.prog 15 #[.slice ad n cap] w fun e w' => e = .returned (.bool (spCov xs)) ∧ Moves [] w w' := by
  have HN : Hid (n = xs.length) := hn
  have HS : Hid (SpsAt w ad xs) := h
  obtain ⟨q, hq⟩ : ∃ q, Hid (spCov xs = q) := ⟨_, rfl⟩
  have hq0 : Hid (xs ≠ [] → q = spG ⟨#[]⟩ (xs.drop 0)) := fun hne => by rw [← hq.out]; exact spG_cov hne
  have hq1 : Hid (xs = [] → q = false) := fun e => by rw [← hq.out, e]; rfl
  rw [hq.out]
  clear h hn
  go_enter Try.func15, Try.ntmps15
  go_wp2_with fail
  go_loopw [3, 4] (fun vl vi wr => ∃ (i : Nat) (lo : ByteArray), i ≤ n ∧ vl = .string lo ∧ vi = .int .i64 (i : Nat) ∧ Moves [] w wr ∧ Hid (xs ≠ [] → q = spG lo (xs.drop i))) (fun _ vi _ => n - (intOf vi).toNat)
  case atStart => exact ⟨0, ⟨#[]⟩, by omega, rfl, rfl, Moves.refl _ _, hq0⟩
  case round =>
    obtain ⟨i, lo, hin, rfl, rfl, mr, hw⟩ := hrel
    by_cases hlt : i < n
    · have hk3 : (i : Int) < n := by omega
      obtain ⟨s, hs⟩ : ∃ s, xs[i]? = some s := ⟨_, List.getElem?_eq_getElem (by have := HN.out; omega)⟩
      obtain ⟨g, off, rfl, z0, z1⟩ := HS.out i s hs
      replace z0 := mr.cell z0
      replace z1 := mr.cell z1
      have hne : xs ≠ [] := fun e => by rw [e] at hs; simp at hs
      have hd : xs.drop i = s :: xs.drop (i + 1) := drop_at hs
      have hemp : (xs.drop (i + 1)).isEmpty = ((i : Int) + 1 == n) := by
        have := HN.out
        by_cases e : i + 1 = n
        · rw [beq_iff_eq.2 (by omega : (i : Int) + 1 = n), List.drop_eq_nil_of_le (by omega)]; rfl
        · rw [beq_eq_false_iff_ne.2 (by omega : (i : Int) + 1 ≠ n)]
          cases hdd : xs.drop (i + 1) with
          | cons _ _ => rfl
          | nil => have hle : xs.length ≤ i + 1 := by simpa using hdd
                   omega
      have hw' : Hid (q = (spR s && (s.lo.toList == lo.toList) && (s.hi.toList.isEmpty == ((i : Int) + 1 == n)) && spG s.hi (xs.drop (i + 1)))) := by
        have := hw.out hne
        rw [hd] at this
        unfold spG at this
        rw [hemp] at this
        exact this
      have HNE : Hid (xs ≠ []) := hne
      clear hs hne hd hemp hw
      have hsr : spR s = spR ⟨s.lo, s.hi⟩ := rfl
      cases h1 : spR ⟨s.lo, s.hi⟩ <;> cases h2 : (s.lo.toList == lo.toList) <;> cases h3 : s.hi.toList.isEmpty <;> cases h4 : ((i : Int) + 1 == n)
      all_goals rw [hsr, h1, h2, h3, h4] at hw'
      all_goals clear hsr
      all_goals go_wp2_with (go_at_call 29; refine (rfRight7_w _ _ _).mono ?_; rintro _ w2 ⟨rfl, m2⟩; simp only [h1]; replace z0 := m2.cell z0; replace z1 := m2.cell z1)
      all_goals (first | (go_ret; exact ⟨by rw [hw'.out]; simp, mr.then m2⟩) | skip)
      all_goals go_roundw
      all_goals first | (simp [intOf]; omega) | (refine ⟨i + 1, s.hi, by omega, rfl, by go_num, mr.then m2, fun _ => ?_⟩; have := hw'.out; simpa using this)
    · obtain rfl : i = n := by omega
      have hd : xs.drop i = [] := List.drop_eq_nil_of_le (by have := HN.out; omega)
      rw [hd] at hw
      by_cases h0 : 0 < i
      · have e : q = true := hw.out (fun e => by have := HN.out; rw [e] at this; simp at this; omega)
        subst e
        clear hd hw
        go_wp2_with fail
        go_ret
        exact ⟨rfl, mr⟩
      · have e : q = false := hq1.out (List.eq_nil_of_length_eq_zero (by have := HN.out; omega))
        subst e
        clear hd hw
        go_wp2_with fail
        go_ret
        exact ⟨rfl, mr⟩
end Go.Proofs.Ytbjbljkcodkebaa
