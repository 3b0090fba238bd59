/-
  What covers all: split, joined it covers all; each name is in just one; no two meet. Plain facts.
-/
import Derived.Test.YtgeadpmnnjfkkaaCSp11
import Derived.Test.YtgeadpmnnjfkkaaCSpS
namespace Go.Proofs.Ytgeadpmnnjfkkaa
open Go.RowKit

theorem spK_split {s : Psp} {t : ByteArray} (h : spC s t = true) (post : List Psp) : ∀ (pre : List Psp) (hi : ByteArray), spK hi (pre ++ (⟨s.lo, t⟩ : Psp) :: ⟨t, s.hi⟩ :: post) = spK hi (pre ++ s :: post)
  | [], hi => by
    obtain ⟨h1, h2⟩ := split_R h
    obtain ⟨g1, _, _, _, g5⟩ := spC_split h
    simp only [List.nil_append, spK]
    rw [h1, h2, g1, g5, zeq_iff.2 rfl]
    simp
  | p :: pre, hi => by
    simp only [List.cons_append, spK]
    rw [spK_split h post pre]
theorem spCov_split {s : Psp} {t : ByteArray} (h : spC s t = true) (pre post : List Psp) : spCov (pre ++ (⟨s.lo, t⟩ : Psp) :: ⟨t, s.hi⟩ :: post) = spCov (pre ++ s :: post) := by
  cases pre with
  | nil =>
    obtain ⟨h1, h2⟩ := split_R h
    obtain ⟨g1, _, _, _, g5⟩ := spC_split h
    simp only [List.nil_append, spCov, spK]
    rw [h1, h2, g1, g5, zeq_iff.2 rfl]
    simp
  | cons p pre =>
    simp only [List.cons_append, spCov]
    rw [spK_split h post pre]
theorem spK_join {s1 s2 : Psp} (post : List Psp) : ∀ (pre : List Psp) (hi : ByteArray), spK hi (pre ++ s1 :: s2 :: post) = true → spJ s1 s2 = true ∧ spK hi (pre ++ (⟨s1.lo, s2.hi⟩ : Psp) :: post) = true
  | [], hi, h => by
    simp only [List.nil_append, spK, Bool.and_eq_true, Bool.not_eq_true'] at h
    obtain ⟨⟨⟨h1, h2⟩, h3⟩, ⟨⟨h4, h5⟩, h6⟩, h7⟩ := h
    have hj : spJ s1 s2 = true := by unfold spJ; rw [h3, h6, h4, h5]; rfl
    refine ⟨hj, ?_⟩
    simp only [List.nil_append, spK]
    rw [h1, h2, join_R hj, h7]
    rfl
  | p :: pre, hi, h => by
    simp only [List.cons_append, spK, Bool.and_eq_true] at h ⊢
    obtain ⟨h1, h2⟩ := spK_join post pre _ h.2
    exact ⟨h1, h.1, h2⟩
theorem spCov_join {s1 s2 : Psp} (pre post : List Psp) (h : spCov (pre ++ s1 :: s2 :: post) = true) : spJ s1 s2 = true ∧ spCov (pre ++ (⟨s1.lo, s2.hi⟩ : Psp) :: post) = true := by
  cases pre with
  | nil =>
    simp only [List.nil_append, spCov, spK, Bool.and_eq_true, Bool.not_eq_true'] at h
    obtain ⟨⟨h3, h1⟩, ⟨⟨h4, h5⟩, h6⟩, h7⟩ := h
    have hj : spJ s1 s2 = true := by unfold spJ; rw [h3, h6, h4, h5]; rfl
    refine ⟨hj, ?_⟩
    simp only [List.nil_append, spCov]
    rw [h1, join_R hj, h7]
    rfl
  | cons p pre =>
    simp only [List.cons_append, spCov, Bool.and_eq_true] at h ⊢
    obtain ⟨h1, h2⟩ := spK_join post pre _ h.2
    exact ⟨h1, h.1, h2⟩
theorem spK_lo : ∀ (t : List Psp) (hi : ByteArray), spK hi t = true → ∀ s ∈ t, spR s = true ∧ zlt s.lo hi = false ∧ bz hi = false
  | [], hi, _, s, hs => by simp at hs
  | x :: t, hi, h, s, hs => by
    simp only [spK, Bool.and_eq_true, Bool.not_eq_true'] at h
    obtain ⟨⟨⟨h1, h2⟩, h3⟩, h4⟩ := h
    have e := zeq_iff.1 h2
    rcases List.mem_cons.1 hs with rfl | hs
    · exact ⟨h3, by rw [e]; exact zlt_self _, h1⟩
    · obtain ⟨g1, g2, g3⟩ := spK_lo t _ h4 s hs
      obtain ⟨_, _, r3⟩ := spR_parts h3
      unfold spB at r3
      rw [g3, Bool.false_or] at r3
      refine ⟨g1, ?_, h1⟩
      rw [e]
      exact zlt_asymm (zlt_le r3 g2)
theorem spK_none : ∀ (t : List Psp) (hi n : ByteArray), spK hi t = true → zlt n hi = true → t.filter (fun s => spH s n) = [] := by
  intro t hi n h hn
  rw [List.filter_eq_nil_iff]
  intro s hs
  obtain ⟨_, h2, _⟩ := spK_lo t hi h s hs
  unfold spH
  rw [zlt_le hn h2]
  simp
theorem spK_one : ∀ (t : List Psp) (hi n : ByteArray), spK hi t = true → bz hi = false → zlt n hi = false → (t.filter (fun s => spH s n)).length = 1
  | [], hi, n, h, hb, _ => by simp only [spK] at h; rw [h] at hb; simp at hb
  | x :: t, hi, n, h, hb, hn => by
    simp only [spK, Bool.and_eq_true, Bool.not_eq_true'] at h
    obtain ⟨⟨⟨_, h2⟩, _⟩, h4⟩ := h
    have e := zeq_iff.1 h2
    have e1 : spH x n = spB x n := by unfold spH; rw [← e, hn]; rfl
    rw [List.filter_cons, e1]
    unfold spB
    cases hz : bz x.hi with
    | true =>
      have ht : t = [] := by
        cases t with
        | nil => rfl
        | cons y t' => simp only [spK, hz] at h4; simp at h4
      subst ht
      simp
    | false =>
      cases hl : zlt n x.hi with
      | true => simp [spK_none t _ n h4 hl]
      | false => simpa using spK_one t _ n h4 hz hl
theorem spCov_one {xs : List Psp} (h : spCov xs = true) (n : ByteArray) : (xs.filter (fun s => spH s n)).length = 1 := by
  cases xs with
  | nil => simp [spCov] at h
  | cons x t =>
    simp only [spCov, Bool.and_eq_true] at h
    obtain ⟨⟨_, h2⟩, h4⟩ := h
    have e1 : spH x n = spB x n := by unfold spH; rw [bz_iff.1 h2, zlt_nil]; rfl
    rw [List.filter_cons, e1]
    unfold spB
    cases hz : bz x.hi with
    | true =>
      have ht : t = [] := by
        cases t with
        | nil => rfl
        | cons y t' => simp only [spK, hz] at h4; simp at h4
      subst ht
      simp
    | false =>
      cases hl : zlt n x.hi with
      | true => simp [spK_none t _ n h4 hl]
      | false => simpa using spK_one t _ n h4 hz hl
theorem apart_two {x y : Psp} (hx : spR x = true) (hy : spR y = true) (hb : bz x.hi = false) (h : zlt y.lo x.hi = false) : spM x y = false := by
  rw [spM_share hx hy]
  obtain ⟨_, _, r3⟩ := spR_parts hx
  unfold spB at r3
  rw [hb, Bool.false_or] at r3
  unfold spH spB
  rw [hb, h, zlt_le r3 h]
  simp
theorem spK_apart : ∀ (t : List Psp) (hi : ByteArray), spK hi t = true → t.Pairwise (fun x y => spM x y = false)
  | [], _, _ => List.Pairwise.nil
  | x :: t, hi, h => by
    simp only [spK, Bool.and_eq_true, Bool.not_eq_true'] at h
    obtain ⟨⟨_, h3⟩, h4⟩ := h
    refine List.Pairwise.cons (fun y hy => ?_) (spK_apart t _ h4)
    obtain ⟨g1, g2, g3⟩ := spK_lo t _ h4 y hy
    exact apart_two h3 g1 g3 g2
theorem spCov_apart {xs : List Psp} (h : spCov xs = true) : SpA xs := by
  cases xs with
  | nil => simp [spCov] at h
  | cons x t =>
    simp only [spCov, Bool.and_eq_true] at h
    obtain ⟨⟨h1, _⟩, h4⟩ := h
    have hp : (x :: t).Pairwise (fun x y => spM x y = false) := List.Pairwise.cons (fun y hy => by
      obtain ⟨g1, g2, g3⟩ := spK_lo t _ h4 y hy
      exact apart_two h1 g1 g3 g2) (spK_apart t _ h4)
    intro i y hy
    refine ⟨?_, fun k z hk hz => ?_⟩
    · rcases List.mem_cons.1 (List.mem_of_getElem? hy) with rfl | hm
      · exact h1
      · exact (spK_lo t _ h4 y hm).1
    · obtain ⟨h5, rfl⟩ := List.getElem?_eq_some_iff.1 hy
      obtain ⟨h6, rfl⟩ := List.getElem?_eq_some_iff.1 hz
      exact List.pairwise_iff_getElem.1 hp k i h6 h5 hk

/-- append to a list of the call's own, in a drawn region. -/
theorem spans_step {ops : Array Oper} {o : Oper} {a : Act} {K : Act → World → Prop} {Q : Exit → Act → World → Prop} {w : World} (s x : Operand)
    (ho : o.op = .call { callee := .builtin .append, args := #[s, x], argTypes := #[22, 22] })
    (v : Value) (y : Addr) (n cap : Nat) (xs ys : List Psp) (hs : a.eval s = v) (hx : a.eval x = .slice (some y) n cap) (hw : Region.wanted o (yielded ops a.tmps) = true)
    (hv : OwnS w v xs) (hc : SpsAt w (some y) ys) (hn : n = ys.length) (hb : xs.length + ys.length ≤ 1099511627776)
    (h : ∀ v' w', OwnS w' v' (xs ++ ys) → Moves v.ownBlock.toList w w' → Lain w v v' → K (a.put o.dst v') w') :
    if Region.wanted o (yielded ops a.tmps) then o.wp Try.prog a w K Q else K (a.put o.dst undef) w := by
  rw [if_pos hw]
  obtain ⟨i0, hi, hz0, hz1, hz2⟩ := info_parts Try.info27
  have hcell : ∀ j u, (spCells ys)[j]? = some u → w.cell? (y.add j) = some u := by
    intro j u hj
    obtain ⟨k, z, hk, hz⟩ := spCells_get ys j u hj
    obtain ⟨g, off, e1, e2, e3⟩ := hc k z hk
    simp only [Option.some.injEq] at e1
    subst e1
    rcases hz with ⟨rfl, rfl⟩ | ⟨rfl, rfl⟩
    · have e : (⟨g, off, none⟩ : Addr).add (k * 2) = ⟨g, off + k * 2, none⟩ := by unfold Addr.add; split <;> simp_all
      rw [e]; exact e2
    · have e : (⟨g, off, none⟩ : Addr).add (k * 2 + 1) = ⟨g, off + k * 2 + 1, none⟩ := by unfold Addr.add; split <;> simp_all [Nat.add_assoc]
      rw [e]; exact e3
  obtain ⟨v', w', hr, h2, h3, h4, h5⟩ := run_append_own_at (P := Try.prog) w 0 22 o.type 27 i0 (.agg #[.string ⟨#[]⟩, .string ⟨#[]⟩]) 2 32 Try.underlying22 hi hz0 hz1 hz2 rfl (by decide) v xs.length (spCells xs) hv y ys.length cap (spCells ys) (by rw [spCells_length]) hcell (spCells_one ys) (by unfold maxLen; omega) (by omega) (by simp)
  rw [hn] at hx
  unfold Oper.wp execOp
  simp only [ho, resolve, invoke, builtin, Sem.run_bind, Sem.run_pure, Result.andThen_ok, List.map_toArray, List.map_cons, List.map_nil, hs, hx, hr]
  refine h v' w' ?_ ((Moves.refl _ _).grown h3 (fun k hk => .inl (by rw [hk]; simp))) h5
  unfold OwnS
  rw [spCells_append, List.length_append]
  exact h2
theorem OwnS.empty {w : World} {g : Nat} (h : w.heap[g]? = some (.cells #[] 27 (0, 0))) : OwnS w (.slice (some ⟨g, 0, none⟩) 0 0) [] := by
  unfold OwnS
  refine ⟨by simp [spCells], .inr ⟨g, 0, #[], rfl, Nat.zero_le _, h, Nat.le_refl _, by simp [maxLen], by simp, by simp [spCells]⟩⟩
theorem SpsAt.drop {w : World} {g off : Nat} {xs : List Psp} (h : SpsAt w (some ⟨g, off, none⟩) xs) (k : Nat) : SpsAt w (some ⟨g, off + k * 2, none⟩) (xs.drop k) := by
  intro j s hs
  rw [List.getElem?_drop] at hs
  obtain ⟨g', off', e1, e2, e3⟩ := h (k + j) s hs
  simp only [Option.some.injEq, Addr.mk.injEq] at e1
  obtain ⟨rfl, rfl, _⟩ := e1
  have e : off + (k + j) * 2 = off + k * 2 + j * 2 := by omega
  rw [e] at e2 e3
  exact ⟨g, _, rfl, e2, e3⟩
theorem SpsAt.first {w : World} {ad : Option Addr} {xs : List Psp} (h : SpsAt w ad xs) (i : Nat) : SpsAt w ad (xs.take i) := fun k s hs => h k s (by
  rw [List.getElem?_take] at hs
  split at hs
  · exact hs
  · simp at hs)
end Go.Proofs.Ytgeadpmnnjfkkaa
