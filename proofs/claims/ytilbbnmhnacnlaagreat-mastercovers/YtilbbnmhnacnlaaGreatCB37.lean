/- ours -/
import Derived.Test.YtilbbnmhnacnlaaGreatCB36
import Derived.Test.YtilbbnmhnacnlaaGreatCB12
import Derived.Test.YtilbbnmhnacnlaaGreatCB26
/-
  law11's put as a plain function; it comes to what the table's Put comes to.
-/
namespace Go.Proofs.YtilbbnmhnacnlaaGreat
open Go.RowKit

def lpL (ys : List Ptb) : Bool → List Ptb → List Ptb
  | _, [] => []
  | d, x :: t => if tbMeet ys x then (if d then lpL ys true t else ys ++ lpL ys true t) else x :: lpL ys d t
def lpBad : Option Ptb → List Ptb → Bool
  | _, [] => false
  | none, y :: t => !spR y.sp || lpBad (some y) t
  | some x, y :: t => !spR y.sp || (bz x.hi || !zeq x.hi y.lo) || lpBad (some y) t
def lpErr (xs ys : List Ptb) : Int := if (lpBad none ys || ys.isEmpty || ys.any tbBad) = true then 1 else if (!spCov ((lpL ys false xs).map Ptb.sp)) = true then 1 else if 16 < (lpL ys false xs).length then 13 else 0
def lpTo (xs ys : List Ptb) : List Ptb := if lpErr xs ys = 0 then lpL ys false xs else xs

theorem lpL_true (ys : List Ptb) : ∀ xs, lpL ys true xs = xs.filter (fun x => !tbMeet ys x)
  | [] => rfl
  | x :: t => by
    unfold lpL
    cases h : tbMeet ys x <;> simp [h, lpL_true ys t]
theorem lpL_split {ys A D : List Ptb} {m : Ptb} (hA : ∀ a ∈ A, tbMeet ys a = false) (hm : tbMeet ys m = true) : lpL ys false (A ++ m :: D) = A ++ ys ++ D.filter (fun x => !tbMeet ys x) := by
  induction A with
  | nil => simp [lpL, hm, lpL_true]
  | cons a A ih =>
    have h1 := hA a (by simp)
    simp only [List.cons_append, lpL, h1, Bool.false_eq_true, if_false]
    rw [ih (fun b hb => hA b (by simp [hb]))]
theorem meet_split {ys : List Ptb} : ∀ xs : List Ptb, (∃ x ∈ xs, tbMeet ys x = true) → ∃ A m D, xs = A ++ m :: D ∧ (∀ a ∈ A, tbMeet ys a = false) ∧ tbMeet ys m = true
  | [], h => by simp at h
  | x :: t, h => by
    cases hx : tbMeet ys x with
    | true => exact ⟨[], x, t, rfl, by simp, hx⟩
    | false =>
      obtain ⟨A, m, D, h1, h2, h3⟩ := meet_split t (by
        obtain ⟨z, hz, h⟩ := h
        rcases List.mem_cons.1 hz with rfl | hz
        · rw [hx] at h; simp at h
        · exact ⟨z, hz, h⟩)
      refine ⟨x :: A, m, D, by rw [h1]; rfl, fun a ha => ?_, h3⟩
      rcases List.mem_cons.1 ha with rfl | ha
      · exact hx
      · exact h2 a ha

theorem lpBad_some : ∀ (t : List Ptb) (x : Ptb), lpBad (some x) t = false → spR x.sp = true → inRow (x :: t) = true ∧ (∀ y ∈ x :: t, spR y.sp = true) ∧ RiseZ ((x :: t).map Ptb.lo)
  | [], x, _, hx => ⟨rfl, by simpa using hx, by simp [RiseZ]⟩
  | y :: t, x, h, hx => by
    unfold lpBad at h
    simp only [Bool.or_eq_false_iff, Bool.not_eq_false'] at h
    obtain ⟨⟨h1, h2, h3⟩, h4⟩ := h
    obtain ⟨k1, k2, k3⟩ := lpBad_some t y h4 h1
    have hj : spJ x.sp y.sp = true := by
      show (spR x.sp && spR y.sp && !bz x.hi && zeq x.hi y.lo) = true
      rw [hx, h1, h2, h3]; rfl
    have hlt : zlt x.lo y.lo = true := by
      have e := zeq_iff.1 h3
      have hB : spB x.sp x.lo = true := (spR_parts hx).2.2
      have hB' : (bz x.hi || zlt x.lo x.hi) = true := hB
      rw [h2, Bool.false_or] at hB'
      rw [← e]
      exact hB'
    refine ⟨?_, ?_, ?_⟩
    · unfold inRow
      rw [hj, k1]; rfl
    · intro z hz
      rcases List.mem_cons.1 hz with rfl | hz
      · exact hx
      · exact k2 z hz
    · unfold RiseZ at k3 ⊢
      rw [List.map_cons, List.pairwise_cons]
      refine ⟨fun z hz => ?_, k3⟩
      rw [List.map_cons, List.pairwise_cons] at k3
      rw [List.map_cons] at hz
      rcases List.mem_cons.1 hz with rfl | hz
      · exact hlt
      · exact zlt_trans hlt (k3.1 z hz)
theorem lpBad_no {y : Ptb} {t : List Ptb} (h : lpBad none (y :: t) = false) : inRow (y :: t) = true ∧ (∀ z ∈ y :: t, spR z.sp = true) ∧ RiseZ ((y :: t).map Ptb.lo) := by
  unfold lpBad at h
  simp only [Bool.or_eq_false_iff, Bool.not_eq_false'] at h
  exact lpBad_some t y h.2 h.1
theorem inRow_some : ∀ (t : List Ptb) (x : Ptb), inRow (x :: t) = true → lpBad (some x) t = false
  | [], x, _ => rfl
  | y :: t, x, h => by
    unfold inRow at h
    simp only [Bool.and_eq_true] at h
    obtain ⟨h1, h2⟩ := h
    obtain ⟨r1, r2, r3, r4⟩ := spJ_parts h1
    have k := inRow_some t y h2
    have e : zeq x.hi y.lo = true := zeq_iff.2 r4
    have r3' : bz x.hi = false := r3
    unfold lpBad
    rw [r2, r3', e, k]; rfl
theorem row_bad : ∀ (ys : List Ptb), inRow ys = true → lpBad none ys = true → ∃ y, ys = [y] ∧ spR y.sp = false
  | [], _, h => by simp [lpBad] at h
  | [y], _, h => ⟨y, rfl, by unfold lpBad at h; simpa [lpBad] using h⟩
  | x :: y :: t, h, hb => by
    exfalso
    have k := inRow_some (y :: t) x h
    unfold inRow at h
    simp only [Bool.and_eq_true] at h
    have hx := (spJ_parts h.1).1
    unfold lpBad at hb
    rw [hx, k] at hb
    simp at hb
theorem spK_R : ∀ (t : List Psp) (hi : ByteArray), spK hi t = true → ∀ s ∈ t, spR s = true
  | [], _, _, s, hs => by simp at hs
  | a :: t, hi, h, s, hs => by
    unfold spK at h
    simp only [Bool.and_eq_true] at h
    rcases List.mem_cons.1 hs with rfl | hs
    · simp_all
    · exact spK_R t a.hi (by simp_all) s hs
theorem cov_R {l : List Psp} (h : spCov l = true) : ∀ s ∈ l, spR s = true := by
  cases l with
  | nil => simp
  | cons a t =>
    unfold spCov at h
    simp only [Bool.and_eq_true] at h
    intro s hs
    rcases List.mem_cons.1 hs with rfl | hs
    · simp_all
    · exact spK_R t a.hi (by simp_all) s hs

theorem row_has {ys : List Ptb} (hr : inRow ys = true) (hz : RiseZ (ys.map Ptb.lo)) {s : ByteArray} {y0 : Ptb} (h0 : ys[0]? = some y0) (hs : zlt s y0.lo = false) {j : Nat} {yj : Ptb} (hj : ys[j]? = some yj) (hb : (bz yj.hi || zlt s yj.hi) = true) : ∃ y ∈ ys, spH y.sp s = true := by
  obtain ⟨k, hk⟩ := last_ex (ys.map Ptb.lo) s y0.lo hz (by rw [List.getElem?_map, h0]; rfl) hs
  have hlt := hk.1
  rw [List.length_map] at hlt
  obtain ⟨yk, hyk⟩ : ∃ y, ys[k]? = some y := ⟨_, List.getElem?_eq_getElem hlt⟩
  have hle := hk.2 k yk.lo (by rw [List.getElem?_map, hyk]; rfl) (Nat.le_refl _)
  have hat := (inRow_at ys).1 hr
  refine ⟨yk, List.mem_of_getElem? hyk, ?_⟩
  show (!zlt s yk.lo && (bz yk.hi || zlt s yk.hi)) = true
  rw [hle]
  have hjl := (List.getElem?_eq_some_iff.1 hj).1
  by_cases hl : k + 1 < ys.length
  · obtain ⟨yn, hyn⟩ : ∃ y, ys[k + 1]? = some y := ⟨_, List.getElem?_eq_getElem hl⟩
    obtain ⟨_, _, _, e⟩ := spJ_parts (hat k yk yn hyk hyn)
    have e' : yk.hi = yn.lo := e
    have hgt := hk.3 (k + 1) yn.lo (by rw [List.getElem?_map, hyn]; rfl) (by omega)
    rw [e', hgt]; simp
  · by_cases hjk : j = k
    · subst hjk
      rw [hyk] at hj
      simp at hj
      subst hj
      rw [hb]; rfl
    · exfalso
      obtain ⟨yn, hyn⟩ : ∃ y, ys[j + 1]? = some y := ⟨_, List.getElem?_eq_getElem (by omega)⟩
      obtain ⟨_, _, q, e⟩ := spJ_parts (hat j yj yn hj hyn)
      have e' : yj.hi = yn.lo := e
      have q' : bz yj.hi = false := q
      have hle2 := hk.2 (j + 1) yn.lo (by rw [List.getElem?_map, hyn]; rfl) (by omega)
      rw [q', e', hle2] at hb
      simp at hb
theorem has_meet {ys : List Ptb} (hR : ∀ y ∈ ys, spR y.sp = true) {x : Ptb} (hx : spR x.sp = true) (h : ∃ y ∈ ys, spH y.sp x.lo = true) : tbMeet ys x = true := by
  obtain ⟨y, hy, hh⟩ := h
  unfold tbMeet
  rw [List.any_eq_true]
  refine ⟨y, hy, ?_⟩
  unfold spM
  have e : spH y.sp x.sp.lo = true := hh
  rw [hx, hR y hy, e]; simp
theorem meet_parts {ys : List Ptb} {m : Ptb} (h : tbMeet ys m = true) : ∃ y ∈ ys, (bz m.hi || zlt y.lo m.hi) = true ∧ (bz y.hi || zlt m.lo y.hi) = true := by
  unfold tbMeet at h
  rw [List.any_eq_true] at h
  obtain ⟨y, hy, hm⟩ := h
  unfold spM at hm
  simp only [Bool.and_eq_true] at hm
  obtain ⟨⟨h1, h2⟩, h3⟩ := hm
  have e := spM_eq m.sp y.sp h1 h2
  rw [h3] at e
  have e' := e.symm
  rw [Bool.and_eq_true] at e'
  exact ⟨y, hy, e'.1, e'.2⟩
theorem rise_first {ys : List Ptb} (hz : RiseZ (ys.map Ptb.lo)) {y0 y : Ptb} (h0 : ys[0]? = some y0) (hy : y ∈ ys) : zlt y.lo y0.lo = false := by
  obtain ⟨k, hk, rfl⟩ := List.getElem_of_mem hy
  by_cases h : k = 0
  · subst h
    rw [List.getElem?_eq_getElem hk] at h0
    simp at h0
    rw [h0]; exact zlt_self _
  · exact zlt_asymm (hz.lt (j := 0) (k := k) (by rw [List.getElem?_map, h0]; rfl) (by rw [List.getElem?_map, List.getElem?_eq_getElem hk]; rfl) (by omega))

theorem lp_rise {A D ys : List Ptb} {m : Ptb} (hcov : spCov ((A ++ m :: D).map Ptb.sp) = true) (hyn : ys ≠ []) (hr : inRow ys = true) (hR : ∀ y ∈ ys, spR y.sp = true) (hz : RiseZ (ys.map Ptb.lo)) (hA : ∀ a ∈ A, tbMeet ys a = false) (hm : tbMeet ys m = true) :
    RiseZ ((A ++ ys ++ D.filter (fun x => !tbMeet ys x)).map Ptb.lo) := by
  obtain ⟨y0, h0⟩ : ∃ y, ys[0]? = some y := ⟨_, List.getElem?_eq_getElem (List.length_pos_iff.2 hyn)⟩
  obtain ⟨yj, hyj, hm1, hm2⟩ := meet_parts hm
  obtain ⟨j, hjl, hj⟩ := List.getElem_of_mem hyj
  have hj' : ys[j]? = some yj := by rw [List.getElem?_eq_getElem hjl, hj]
  have hxr := (cov_rise hcov).1
  have hxR := cov_R hcov
  have hnx := (cov_next hcov).1
  have hxp : (A ++ m :: D).Pairwise (fun a b => zlt a.lo b.lo = true) := by
    unfold RiseZ at hxr
    rw [List.pairwise_map] at hxr
    exact hxr
  rw [List.pairwise_append, List.pairwise_cons] at hxp
  obtain ⟨pA, ⟨pm, pD⟩, pAD⟩ := hxp
  have c1 : ∀ a ∈ A, ∀ y ∈ ys, zlt a.lo y.lo = true := by
    intro a ha y hy
    have h1 : zlt a.lo y0.lo = true := by
      cases hq : zlt a.lo y0.lo with
      | true => rfl
      | false =>
        have hb : (bz yj.hi || zlt a.lo yj.hi) = true := by
          cases hbz : bz yj.hi with
          | true => rfl
          | false =>
            rw [hbz, Bool.false_or] at hm2
            rw [zlt_trans (pAD a ha m (by simp)) hm2]; rfl
        have := has_meet hR (hxR a.sp (List.mem_map_of_mem (by simp [ha]))) (row_has hr hz h0 hq hj' hb)
        rw [hA a ha] at this
        simp at this
    exact zlt_le h1 (rise_first hz h0 hy)
  have c2 : ∀ c ∈ D.filter (fun x => !tbMeet ys x), ∀ y ∈ ys, zlt y.lo c.lo = true := by
    intro c hc y hy
    obtain ⟨hcD, hcm⟩ := List.mem_filter.1 hc
    have hcm' : tbMeet ys c = false := by simpa using hcm
    have hmc : bz m.hi = false ∧ zlt c.lo m.hi = false := by
      cases D with
      | nil => simp at hcD
      | cons d0 D' =>
        obtain ⟨q1, q2⟩ := hnx A.length m d0 (by simp) (by simp)
        refine ⟨q1, ?_⟩
        rw [q2]
        rcases List.mem_cons.1 hcD with rfl | hcD
        · exact zlt_self _
        · rw [List.pairwise_cons] at pD
          exact zlt_asymm (pD.1 c hcD)
    rw [hmc.1, Bool.false_or] at hm1
    have hjc : zlt yj.lo c.lo = true := zlt_le hm1 hmc.2
    have h0c : zlt c.lo y0.lo = false := zle_trans (rise_first hz h0 hyj) (zlt_asymm hjc)
    cases hq : zlt y.lo c.lo with
    | true => rfl
    | false =>
      obtain ⟨i, hil, hi⟩ := List.getElem_of_mem hy
      have hi' : ys[i]? = some y := by rw [List.getElem?_eq_getElem hil, hi]
      have hB : (bz y.hi || zlt y.lo y.hi) = true := (spR_parts (hR y hy)).2.2
      have hb : (bz y.hi || zlt c.lo y.hi) = true := by
        cases hbz : bz y.hi with
        | true => rfl
        | false =>
          rw [hbz, Bool.false_or] at hB
          rw [zle_lt hq hB]; rfl
      have := has_meet hR (hxR c.sp (List.mem_map_of_mem (by simp [hcD]))) (row_has hr hz h0 h0c hi' hb)
      rw [hcm'] at this
      simp at this
  unfold RiseZ at hz ⊢
  rw [List.pairwise_map] at hz ⊢
  rw [List.pairwise_append, List.pairwise_append]
  refine ⟨⟨pA, hz, c1⟩, pD.sublist List.filter_sublist, fun a ha c hc => ?_⟩
  rcases List.mem_append.1 ha with ha | ha
  · exact pAD a ha c (by simp [(List.mem_filter.1 hc).1])
  · exact c2 c hc a ha

theorem may_bad {zs : List Ptb} {y : Ptb} (hy : y ∈ zs) (h : spR y.sp = false ∨ tbBad y = true) : mayT zs = 1 := by
  unfold mayT
  rw [if_pos]
  rcases h with h | h
  · have : spCov (zs.map Ptb.sp) = false := by
      cases hc : spCov (zs.map Ptb.sp) with
      | false => rfl
      | true => rw [cov_R hc y.sp (List.mem_map_of_mem hy)] at h; simp at h
    rw [this]; rfl
  · have : zs.any tbBad = true := List.any_eq_true.2 ⟨y, hy, h⟩
    rw [this]; simp

theorem put_law {xs ys xs' : List Ptb} {r : Int} (hmay : mayT xs = 0) (h : PutIs xs ys r xs') : r = lpErr xs ys ∧ xs' = lpTo xs ys := by
  obtain ⟨hcov, hbad, h16⟩ := may_cov hmay
  have one : lpErr xs ys = 1 → lpTo xs ys = xs := fun e => by unfold lpTo; rw [e]; rfl
  have isOne : (lpBad none ys || ys.isEmpty || ys.any tbBad) = true → lpErr xs ys = 1 := fun e => by unfold lpErr; rw [if_pos e]
  rcases h with ⟨h, rfl, rfl⟩ | ⟨hyn, hr, zs, hp, hs, rfl, rfl⟩
  · have e : lpErr xs' ys = 1 := by
      apply isOne
      rcases h with rfl | h
      · simp
      · cases ys with
        | nil => simp
        | cons y t =>
          cases hb : lpBad none (y :: t) with
          | true => rfl
          | false => rw [(lpBad_no hb).1] at h; simp at h
    exact ⟨e.symm, (one e).symm⟩
  · have hmem : ∀ y ∈ ys, y ∈ zs := fun y hy => hp.mem_iff.2 (by unfold tbWith; simp [hy])
    cases hb : lpBad none ys with
    | true =>
      obtain ⟨y, rfl, hy⟩ := row_bad ys hr hb
      have e := isOne (by rw [hb]; rfl)
      have e2 : mayT zs = 1 := may_bad (hmem y (by simp)) (.inl hy)
      rw [e, e2]
      exact ⟨rfl, (one e).symm⟩
    | false =>
      cases ys with
      | nil => exact absurd rfl hyn
      | cons y0 t =>
        obtain ⟨hr', hR, hz⟩ := lpBad_no hb
        cases ht : (y0 :: t).any tbBad with
        | true =>
          obtain ⟨y, hy, hyb⟩ := List.any_eq_true.1 ht
          have e := isOne (by rw [ht]; simp)
          have e2 : mayT zs = 1 := may_bad (hmem y hy) (.inr hyb)
          rw [e, e2]
          exact ⟨rfl, (one e).symm⟩
        | false =>
          obtain ⟨i, hi⟩ := cov_last hcov y0.lo
          have hlt := hi.1
          rw [List.length_map] at hlt
          obtain ⟨x, hx⟩ : ∃ x, xs[i]? = some x := ⟨_, List.getElem?_eq_getElem hlt⟩
          have hxh := last_has hcov hi hx
          have hxm := List.mem_of_getElem? hx
          have hmt : tbMeet (y0 :: t) x = true := by
            unfold tbMeet
            rw [List.any_eq_true]
            refine ⟨y0, by simp, ?_⟩
            unfold spM
            have e : spH x.sp y0.sp.lo = true := hxh
            rw [cov_R hcov x.sp (List.mem_map_of_mem hxm), hR y0 (by simp), e]; rfl
          obtain ⟨A, m, D, rfl, hA, hm⟩ := meet_split xs ⟨x, hxm, hmt⟩
          have hL := lpL_split (D := D) hA hm
          have hrise := lp_rise hcov hyn hr hR hz hA hm
          have hfA : A.filter (fun x => !tbMeet (y0 :: t) x) = A := List.filter_eq_self.2 (fun a ha => by rw [hA a ha]; rfl)
          have hperm : zs.Perm (A ++ (y0 :: t) ++ D.filter (fun x => !tbMeet (y0 :: t) x)) := by
            refine hp.trans ?_
            unfold tbWith
            rw [List.filter_append, hfA, List.filter_cons, hm]
            simp only [Bool.not_true, Bool.false_eq_true, if_false]
            rw [← List.append_assoc]
            exact (List.perm_append_comm).append_right _
          have hzs := perm_sort hperm hs hrise
          rw [← hL] at hzs
          subst hzs
          have hnb : (lpL (y0 :: t) false (A ++ m :: D)).any tbBad = false := by
            cases hq : (lpL (y0 :: t) false (A ++ m :: D)).any tbBad with
            | false => rfl
            | true =>
              obtain ⟨z, hz1, hz2⟩ := List.any_eq_true.1 hq
              rw [hL] at hz1
              have hor : z ∈ A ++ m :: D ∨ z ∈ y0 :: t := by
                rcases List.mem_append.1 hz1 with hz1 | hz1
                · rcases List.mem_append.1 hz1 with hz1 | hz1
                  · exact .inl (by simp [hz1])
                  · exact .inr hz1
                · exact .inl (by simp [(List.mem_filter.1 hz1).1])
              rcases hor with hz1 | hz1
              · rw [List.any_eq_true.2 ⟨z, hz1, hz2⟩] at hbad; simp at hbad
              · rw [List.any_eq_true.2 ⟨z, hz1, hz2⟩] at ht; simp at ht
          have e : mayT (lpL (y0 :: t) false (A ++ m :: D)) = lpErr (A ++ m :: D) (y0 :: t) := by
            unfold mayT lpErr
            rw [hnb, hb, ht]
            simp
          exact ⟨e, by unfold lpTo; rw [e]⟩
end Go.Proofs.YtilbbnmhnacnlaaGreat
/-
  Package meta: Same of tables with the same tablets.
-/
namespace Go.Proofs.YtilbbnmhnacnlaaGreat
open Go.RowKit

end Go.Proofs.YtilbbnmhnacnlaaGreat
/-
  Package meta: Write of a table that may be; Take of what was written.
-/
namespace Go.Proofs.YtilbbnmhnacnlaaGreat
open Go.RowKit

def MtB (B : Nat) (w : World) (p : Nat) (xs : List Ptb) : Prop := ∃ v, w.heap[p]? = some (.cells #[v] 105 (0, 0)) ∧ MsAt B w v (fours xs)
theorem MtB.weak {B B' : Nat} {w : World} {p : Nat} {xs : List Ptb} (h : MtB B w p xs) (hb : B' ≤ B) : MtB B' w p xs := by
  obtain ⟨v, h1, h2⟩ := h
  exact ⟨v, h1, h2.weak hb⟩
end Go.Proofs.YtilbbnmhnacnlaaGreat
/-
  Package master as plain data: what plans make of tablets, and that it covers all names.
-/
namespace Go.Proofs.YtilbbnmhnacnlaaGreat
open Go.RowKit

theorem spB_lt {s : Psp} {n : ByteArray} (h : spB s n = true) (hb : bz s.hi = false) : zlt n s.hi = true := by
  unfold spB at h
  rw [hb, Bool.false_or] at h
  exact h
theorem cov_ahead {A D : List Ptb} {t a : Ptb} (h : spCov ((A ++ t :: D).map Ptb.sp) = true) (ha : a ∈ A) : bz a.hi = false ∧ zlt t.lo a.hi = false := by
  obtain ⟨k, hk, rfl⟩ := List.getElem_of_mem ha
  obtain ⟨hr, _⟩ := cov_rise h
  obtain ⟨hn, _⟩ := cov_next h
  have e0 : (A ++ t :: D)[k]? = some A[k] := by rw [List.getElem?_append_left hk, List.getElem?_eq_getElem hk]
  have et : (A ++ t :: D)[A.length]? = some t := by rw [List.getElem?_append_right (Nat.le_refl _)]; simp
  by_cases h1 : k + 1 < A.length
  · have e1 : (A ++ t :: D)[k + 1]? = some A[k + 1] := by rw [List.getElem?_append_left h1, List.getElem?_eq_getElem h1]
    obtain ⟨n1, n2⟩ := hn k _ _ e0 e1
    refine ⟨n1, ?_⟩
    rw [n2]
    have a1 : ((A ++ t :: D).map Ptb.lo)[k + 1]? = some A[k + 1].lo := by rw [List.getElem?_map, e1]; rfl
    have a2 : ((A ++ t :: D).map Ptb.lo)[A.length]? = some t.lo := by rw [List.getElem?_map, et]; rfl
    obtain ⟨q1, r1⟩ := List.getElem?_eq_some_iff.1 a1
    obtain ⟨q2, r2⟩ := List.getElem?_eq_some_iff.1 a2
    have := List.pairwise_iff_getElem.1 hr (k + 1) A.length q1 q2 (by omega)
    rw [r1, r2] at this
    exact zlt_asymm this
  · have e1 : (A ++ t :: D)[k + 1]? = some t := by rw [show k + 1 = A.length by omega]; exact et
    obtain ⟨n1, n2⟩ := hn k _ _ e0 e1
    refine ⟨n1, ?_⟩
    rw [n2]
    exact zlt_self _
theorem cov_behind {A D : List Ptb} {t d : Ptb} (h : spCov ((A ++ t :: D).map Ptb.sp) = true) (hd : d ∈ D) : bz t.hi = false ∧ zlt d.lo t.hi = false := by
  obtain ⟨k, hk, rfl⟩ := List.getElem_of_mem hd
  obtain ⟨hr, _⟩ := cov_rise h
  obtain ⟨hn, _⟩ := cov_next h
  have et : (A ++ t :: D)[A.length]? = some t := by rw [List.getElem?_append_right (Nat.le_refl _)]; simp
  have e1 : (A ++ t :: D)[A.length + 1]? = some D[0] := by rw [List.getElem?_append_right (by omega)]; simp
  have ek : (A ++ t :: D)[A.length + 1 + k]? = some D[k] := by rw [List.getElem?_append_right (by omega), show A.length + 1 + k - A.length = k + 1 by omega]; simp
  obtain ⟨n1, n2⟩ := hn _ _ _ et e1
  refine ⟨n1, ?_⟩
  rw [n2]
  cases k with
  | zero => exact zlt_self _
  | succ k =>
    have a1 : ((A ++ t :: D).map Ptb.lo)[A.length + 1]? = some D[0].lo := by rw [List.getElem?_map, e1]; rfl
    have a2 : ((A ++ t :: D).map Ptb.lo)[A.length + 1 + (k + 1)]? = some D[k + 1].lo := by rw [List.getElem?_map, ek]; rfl
    obtain ⟨q1, r1⟩ := List.getElem?_eq_some_iff.1 a1
    obtain ⟨q2, r2⟩ := List.getElem?_eq_some_iff.1 a2
    have := List.pairwise_iff_getElem.1 hr _ _ q1 q2 (by omega)
    rw [r1, r2] at this
    exact zlt_asymm this

theorem within_ahead {A D : List Ptb} {t : Ptb} {ys : List Ptb} (h : spCov ((A ++ t :: D).map Ptb.sp) = true) (hy : ∀ y ∈ ys, zlt y.lo t.lo = false) : ∀ a ∈ A, tbMeet ys a = false := by
  intro a ha
  cases hm : tbMeet ys a with
  | false => rfl
  | true =>
    exfalso
    obtain ⟨y, hyy, h1, h2⟩ := meet_parts hm
    obtain ⟨c1, c2⟩ := cov_ahead h ha
    rw [c1, Bool.false_or] at h1
    have := zlt_le h1 c2
    rw [hy y hyy] at this
    simp at this
theorem within_behind {A D : List Ptb} {t : Ptb} {ys : List Ptb} (h : spCov ((A ++ t :: D).map Ptb.sp) = true) (hy : ∀ y ∈ ys, bz t.hi = true ∨ (bz y.hi = false ∧ zlt t.hi y.hi = false)) : D.filter (fun x => !tbMeet ys x) = D := by
  rw [List.filter_eq_self]
  intro d hd
  cases hm : tbMeet ys d with
  | false => rfl
  | true =>
    exfalso
    obtain ⟨y, hyy, h1, h2⟩ := meet_parts hm
    obtain ⟨c1, c2⟩ := cov_behind h hd
    rcases hy y hyy with e | ⟨e1, e2⟩
    · rw [c1] at e; simp at e
    · rw [e1, Bool.false_or] at h2
      rw [zle_trans e2 c2] at h2
      simp at h2
theorem meets_self {A D : List Ptb} {t : Ptb} {ys : List Ptb} (h : spCov ((A ++ t :: D).map Ptb.sp) = true) (hR : ∀ y ∈ ys, spR y.sp = true) (hy : ∃ y ∈ ys, spH y.sp t.lo = true) : tbMeet ys t = true := by
  refine has_meet hR ?_ hy
  exact cov_R h _ (by simp)
end Go.Proofs.YtilbbnmhnacnlaaGreat
