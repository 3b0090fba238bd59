/-
  law6's play: the table and the document's own list have the same rows.
-/
import Derived.Test.YtcngllcifcpbkaaCBaseO
import Derived.Test.YtcngllcifcpbkaaCMade6
namespace Go.Proofs.Ytcngllcifcpbkaa
open Go.RowKit

theorem RowAt.stay3 {w w' : World} {v : Value} {R : List Pcol} (h : RowAt w v R) (st : Stay (fun t => t = 5 ∨ t = 79 ∨ t = 33) w w') : RowAt w' v R := by
  obtain ⟨_, e, hc⟩ := h
  exact ⟨_, e, hc.stayX st (.inl rfl) (.inr (.inl rfl)) (.inr (.inr rfl))⟩
theorem InvN.nil : InvN [] := ⟨by simp [RiseN], by simp, by simp, by simp, by simp⟩
theorem psetE_zero {xs : List Pnam} {s : ByteArray} {R : List Pcol} (h : psetE xs s R = 0) : pname s = true ∧ pright R = true ∧ (R = [] ∨ phasN xs s = true ∨ xs.length < 32) := by
  unfold psetE at h
  split at h
  · simp at h
  · rename_i h1
    have h1' : pname s = true ∧ pright R = true := by simpa using h1
    split at h
    · simp at h
    · rename_i h2
      refine ⟨h1'.1, h1'.2, ?_⟩
      cases hR : R with
      | nil => exact .inl rfl
      | cons c R' =>
        cases hh : phasN xs s with
        | true => exact .inr (.inl rfl)
        | false =>
          refine .inr (.inr ?_)
          rw [hR, hh] at h2
          simp at h2
          exact h2
theorem InvN.set {xs : List Pnam} {s : ByteArray} {R : List Pcol} (h : InvN xs) : InvN (psetN xs s R) := by
  unfold psetN
  split
  · rename_i h0
    obtain ⟨hs, hR, hor⟩ := psetE_zero h0
    have hC := pright_canon hR
    have hcc : (R.map pcanonC).map pcanonC = R.map pcanonC := by rw [List.map_map]; exact List.map_congr_left (fun c _ => pcanonC_twice c)
    have hmem : ∀ x ∈ pputN xs s (R.map pcanonC), x ∈ xs ∨ x = ⟨s, R.map pcanonC⟩ := by
      intro x hx
      unfold pputN at hx
      rcases List.mem_append.1 hx with hx | hx
      · exact .inl (List.mem_filter.1 hx).1
      · rcases List.mem_append.1 hx with hx | hx
        · split at hx
          · simp at hx
          · simp at hx; exact .inr hx
        · exact .inl (List.mem_filter.1 hx).1
    refine ⟨?_, ?_, fun x hx => ?_, fun x hx => ?_, fun x hx => ?_⟩
    · unfold pputN RiseN
      have r1 : (xs.filter (fun x => nlt x.name s)).Pairwise (fun a b => nlt a.name b.name = true) := List.Pairwise.sublist List.filter_sublist h.rise
      have r2 : (xs.filter (fun x => nlt s x.name)).Pairwise (fun a b => nlt a.name b.name = true) := List.Pairwise.sublist List.filter_sublist h.rise
      rw [List.pairwise_append, List.pairwise_append]
      refine ⟨r1, ⟨by split <;> simp, r2, ?_⟩, ?_⟩
      · intro x hx y hy
        split at hx
        · simp at hx
        · simp at hx
          rw [hx]
          exact (List.mem_filter.1 hy).2
      · intro x hx y hy
        have hxs := (List.mem_filter.1 hx).2
        rcases List.mem_append.1 hy with hy | hy
        · split at hy
          · simp at hy
          · simp at hy
            rw [hy]
            exact hxs
        · exact nlt_trans hxs (List.mem_filter.1 hy).2
    · obtain ⟨i, hP, e1, e2, e3⟩ := place_ex h.rise s
      have hile := hP.le
      have hl := h.len
      unfold pputN
      rw [e1, e2]
      cases hh : hasAt xs s i with
      | true =>
        have hi : i < xs.length := by
          unfold hasAt at hh
          split at hh
          · rename_i y hy
            exact (List.getElem?_eq_some_iff.1 hy).1
          · simp at hh
        simp only [List.length_append, List.length_take, if_true, List.length_drop]
        split <;> simp <;> omega
      | false =>
        simp only [List.length_append, List.length_take, Bool.false_eq_true, if_false, List.length_drop]
        rcases hor with hor | hor | hor
        · subst hor
          simp
          omega
        · rw [e3, hh] at hor
          simp at hor
        · split <;> simp <;> omega
    · rcases hmem x hx with hx | rfl
      · exact h.right x hx
      · exact hC
    · rcases hmem x hx with hx | rfl
      · exact h.canon x hx
      · exact hcc
    · rcases hmem x hx with hx | rfl
      · exact h.name x hx
      · exact hs
  · exact h
theorem play_keep {w w5 w7 w8 w9 wq : World} {P : Nat} {a a7 : Option Nat} {v v9 : Value} {xs : List Pnam} {s : ByteArray} {R : List Pcol} (hq : GrowN w wq v xs) (hG : GrowN w w7 v xs) (hT : TabIs w w7 P a7 (psetN xs s R)) (h57 : wq.heap.size ≤ w5.heap.size) (m78 : Moves [] w7 w8) (m89 : Moves [] w8 w9) (M8 : w.heap.size ≤ w8.heap.size)
    (hv : (v9 = v ∧ psetE xs s R ≠ 0) ∨ GrowN w8 w9 v9 (psetN xs s R)) (hap : ∀ b, v.ownBlock = some b → b ∉ P :: a.toList) (hb : a7 = a ∨ ∃ k, a7 = some k ∧ w5.heap.size ≤ k) : GrowN w w9 v9 (psetN xs s R) ∧ Hid (∀ b, v9.ownBlock = some b → b ∉ P :: a7.toList) := by
  rcases hv with ⟨rfl, he⟩ | hv
  · have e : psetN xs s R = xs := by unfold psetN; rw [if_neg he]
    rw [e]
    refine ⟨hG.moves0 (m78.then m89), fun b hbk hm => ?_⟩
    have h1 := hap b hbk
    obtain ⟨cur, hc⟩ := hq.blk hbk
    have h2 := lt_of_block hc
    rcases hb with rfl | ⟨k, rfl, hk⟩
    · exact h1 hm
    · simp at hm h1
      rcases hm with hm | hm
      · exact h1.1 hm
      · omega
  · refine ⟨hv.elder M8, fun b hbk hm => ?_⟩
    have h1 := hv.1 b hbk
    have h2 := m78.size
    rcases List.mem_cons.1 hm with rfl | hm
    · have := hT.ltp
      omega
    · obtain ⟨u, _, rfl, hGu⟩ := hT
      obtain ⟨cur, hc⟩ := hGu.blk (Option.mem_toList.1 hm)
      have := lt_of_block hc
      omega

end Go.Proofs.Ytcngllcifcpbkaa
