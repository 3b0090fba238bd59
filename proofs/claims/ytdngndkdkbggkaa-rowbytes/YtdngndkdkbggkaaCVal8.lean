/-
  What package value's Put does: it writes a value's bytes as the chapter gives them, behind what was written, and nothing else.
-/
import Derived.Test.YtdngndkdkbggkaaCBaseG
namespace Go.Proofs.Ytdngndkdkbggkaa
open Go.RowKit

/-- The bytes of a value. -/
def venc (A : Vm) : List Nat := if kd A.kind = 1 then [1] ++ be 4 A.bs.length ++ A.bs else if kd A.kind = 2 then [2] ++ be 8 (Pl.canon A.n) else [0]
theorem venc_text {A : Vm} (h : kd A.kind = 1) : venc A = [1] ++ be 4 A.bs.length ++ A.bs := by simp [venc, h]
theorem venc_num {A : Vm} (h : kd A.kind = 2) : venc A = [2] ++ be 8 (Pl.canon A.n) := by simp [venc, h]
theorem venc_other {A : Vm} (h : kd A.kind = 0) : venc A = [0] := by simp [venc, h]
theorem venc_oct {A : Vm} (h : ∀ z ∈ A.bs, z < 256) : ∀ z ∈ venc A, z < 256 := by
  intro z hz
  rcases kd_cases A.kind with ⟨_, e⟩ | ⟨_, e⟩ | ⟨_, _, e⟩
  · rw [venc_text e] at hz
    rcases List.mem_append.1 hz with h1 | h1
    · rcases List.mem_append.1 h1 with h2 | h2
      · simp at h2; omega
      · exact mem_be h2
    · exact h z h1
  · rw [venc_num e] at hz
    rcases List.mem_append.1 hz with h1 | h1
    · simp at h1; omega
    · exact mem_be h1
  · rw [venc_other e] at hz
    simp at hz; omega
theorem Wrote.after {w w1 w2 : World} {p : Nat} {a a2 : Option Nat} {bs : List Nat} (m : Moves [] w w1) (h : Wrote w1 p a w2 a2 bs) : Wrote w p a w2 a2 bs := by
  obtain ⟨h1, h2, h3⟩ := h
  refine ⟨h1, (m.mono (by simp)).then h2, ?_⟩
  rcases h3 with h3 | ⟨k, h4, h5⟩
  · exact .inl h3
  · exact .inr ⟨k, h4, Nat.le_trans m.size h5⟩

theorem Wr.ltp {w : World} {p : Nat} {a : Option Nat} {bs : List Nat} (h : Wr w p a bs) : p < w.heap.size := by
  obtain ⟨v, hp, _⟩ := h
  exact lt_of_block hp

/-- A block that is not there yet is none of the Writer's. -/
theorem Wr.new {w : World} {p : Nat} {a : Option Nat} {bs : List Nat} (h : Wr w p a bs) : w.heap.size ∉ p :: a.toList := by
  intro hx
  rcases List.mem_cons.1 hx with hx | hx
  · have := h.ltp; omega
  · have := h.lt (k := w.heap.size) (by cases a <;> simp_all)
    omega

theorem pick3 {w w2 w3 : World} {p g : Nat} {a a3 : Option Nat} {v : Value} {cs es : List Nat} (hB : IsB w g v cs) (hg : g ∉ p :: a.toList) (M : Moves [] w w2) (hw : Wrote w2 p a w3 a3 es) (hB3 : IsB w3 g v cs) : ∃ g', g' ∉ p :: a3.toList ∧ IsB w3 g' v cs := by
  refine hB3.pick _ (fun hne hx => ?_)
  have hlt := hB.lt hne
  rcases List.mem_cons.1 hx with hx | hx
  · exact hg (by simp [hx])
  · rcases hw.2.2 with e | ⟨k, e, hk⟩
    · rw [e] at hx; exact hg (by simp [hx])
    · rw [e] at hx
      simp at hx
      have := M.size
      omega

set_option maxHeartbeats 2000000 in
theorem vPut_w (p : Nat) (a : Option Nat) (bs : List Nat) (A : Vm) (w : World) (h : Wr w p a bs) (hb : bs.length + 2000010 ≤ 1099511627776) (ha : A.In w) (hl : A.bs.length ≤ 1048576) (hg : A.bs ≠ [] → A.g ∉ p :: a.toList) :
    Calls Try.prog 107 #[.pointer (some ⟨p, 0, none⟩), A.val] w fun e w' => e = .returned (.tuple #[]) ∧ ∃ a', Wrote w p a w' a' (bs ++ venc A) := by
  have hnew := h.new
  obtain ⟨g', hg', hB⟩ := ha.isB.pick (p :: a.toList) hg
  have hf := ha.fits
  obtain ⟨k, bv, g, cs, n⟩ := A
  simp only at hB hf hl
  have hB0 := hB
  obtain ⟨ad, len, cap, rfl, hlen, _⟩ := hB
  simp only [Vm.val]
  have hb1 : bs.length + 1 ≤ 1099511627776 := by omega
  have hA : ∀ w1, Moves [] (w.alloc (.cells #[.int .i64 k, .slice ad len cap, .float .f64 n] 61)) w1 → w1.heap[w.heap.size]? = some (.cells #[.int .i64 k, .slice ad len cap, .float .f64 n] 61 (0, 0)) ∧ Moves [] w w1 := fun w1 m => ⟨m.at (heap_alloc_new _ _) (by simp), ((Moves.refl [] w).alloc _).then m⟩
  obtain ⟨E, hE⟩ : ∃ E, bs ++ venc ⟨k, .slice ad len cap, g, cs, n⟩ = E := ⟨_, rfl⟩
  rw [hE]
  clear ha hg
  rcases kd_cases k with ⟨z, e⟩ | ⟨z, e⟩ | ⟨z1, z2, e⟩
  · rw [venc_text (by exact e)] at hE
    have HE : Hid (bs ++ ([1] ++ be 4 cs.length ++ cs) = E) := hE
    have hbT : (bs ++ [1]).length + 2000000 ≤ 1099511627776 := by rw [List.length_append, List.length_singleton]; omega
    subst z
    have HK : Hid (kd 1 = 1) := e
    clear e hE
    go_enter Try.func107, Try.ntmps107
    go_wp2_with (first | (go_at_call 130; refine (kind_w _ _ _ _ _ _).mono ?_; rintro _ w2 ⟨rfl, m2⟩; rw [HK.out]; obtain ⟨q2, M2⟩ := hA w2 m2) | (go_at_call 62; refine (wbyte_w _ a bs 1 _ rfl _ (h.moves M2 (by simp) (by simp)) hb1).mono ?_; rintro _ w3 ⟨rfl, a3, hw3⟩; have q3 := hw3.2.1.at q2 hnew; obtain ⟨c0, c1, c2, _, _, _⟩ := three_cells q3; have hB3 := (hB0.moves M2 (by simp)).moves hw3.2.1 hg') | (go_at_call 105; obtain ⟨g3, hg3, hB4⟩ := pick3 hB0 hg' M2 hw3 hB3; refine (wtext_any _ a3 (bs ++ [1]) cs g3 _ _ hw3.1 hbT hB4 hl hg3).mono ?_; rintro _ w4 ⟨rfl, a4, hw4⟩))
    go_end0
    refine ⟨rfl, a4, ?_⟩
    have := (hw3.step hw4).after M2
    rw [List.append_assoc, List.append_assoc, ← List.append_assoc [1], HE.out] at this
    exact this
  · rw [venc_num (by exact e)] at hE
    have HE : Hid (bs ++ ([2] ++ be 8 (Pl.canon n)) = E) := hE
    have hbT : (bs ++ [2]).length + 8 ≤ 1099511627776 := by rw [List.length_append, List.length_singleton]; omega
    subst z
    have HK : Hid (kd 2 = 2) := e
    clear e hE
    go_enter Try.func107, Try.ntmps107
    go_wp2_with (first | (go_at_call 130; refine (kind_w _ _ _ _ _ _).mono ?_; rintro _ w2 ⟨rfl, m2⟩; rw [HK.out]; obtain ⟨q2, M2⟩ := hA w2 m2) | (go_at_call 62; refine (wbyte_w _ a bs 2 _ rfl _ (h.moves M2 (by simp) (by simp)) hb1).mono ?_; rintro _ w3 ⟨rfl, a3, hw3⟩; have q3 := hw3.2.1.at q2 hnew; obtain ⟨c0, c1, c2, _, _, _⟩ := three_cells q3; have hB3 := (hB0.moves M2 (by simp)).moves hw3.2.1 hg') | (go_at_call 131; refine (wfloat_w _ a3 (bs ++ [2]) n _ hw3.1 hbT).mono ?_; rintro _ w4 ⟨rfl, a4, hw4⟩))
    go_end0
    refine ⟨rfl, a4, ?_⟩
    have := (hw3.step hw4).after M2
    rw [List.append_assoc, HE.out] at this
    exact this
  · rw [venc_other (by exact e)] at hE
    have HE : Hid (bs ++ [0] = E) := hE
    have t1 : (k == 1) = false := by simpa using z1
    have t2 : (k == 2) = false := by simpa using z2
    have HK : Hid (kd k = 0) := e
    clear e hE z1 z2
    go_enter Try.func107, Try.ntmps107
    go_wp2_with (first | (go_at_call 130; refine (kind_w _ _ _ _ _ _).mono ?_; rintro _ w2 ⟨rfl, m2⟩; rw [HK.out]; obtain ⟨q2, M2⟩ := hA w2 m2) | (go_at_call 62; refine (wbyte_w _ a bs 0 _ rfl _ (h.moves M2 (by simp) (by simp)) hb1).mono ?_; rintro _ w3 ⟨rfl, a3, hw3⟩; have q3 := hw3.2.1.at q2 hnew; obtain ⟨c0, c1, c2, _, _, _⟩ := three_cells q3; have hB3 := (hB0.moves M2 (by simp)).moves hw3.2.1 hg'))
    go_end0
    refine ⟨rfl, a3, ?_⟩
    have := hw3.after M2
    rw [HE.out] at this
    exact this
end Go.Proofs.Ytdngndkdkbggkaa
