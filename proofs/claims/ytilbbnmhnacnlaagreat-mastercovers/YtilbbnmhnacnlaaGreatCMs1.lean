/- ours -/
import Derived.Test.YtilbbnmhnacnlaaGreatCB37
import Derived.Test.YtilbbnmhnacnlaaGreatCB09
import Derived.Test.YtilbbnmhnacnlaaGreatCB26
namespace Go.Proofs.YtilbbnmhnacnlaaGreat
open Go.RowKit

structure Pms where
  grps : Int
  xs : List Ptb
  last : Int
  pend : Pans
  ca : List Pt
def pTold (c : Int) : Pans := ⟨c, [], ⟨#[]⟩, ⟨#[]⟩, 0, 0, 0, 0, 0, ⟨#[]⟩, []⟩
def pPl (lo hi : ByteArray) (g gen old to act : Int) (s : ByteArray) : Pans := ⟨0, [], lo, hi, g, gen, old, to, act, s, []⟩
def Bare (p : Pans) : Prop := p.rows = [] ∧ p.st = []
def mMade (p : Pans) : List Ptb := if p.act = 1 then [⟨p.lo, p.hi, p.to, p.gen⟩] else if p.act = 2 then [⟨p.lo, p.at', p.grp, p.gen⟩, ⟨p.at', p.hi, p.grp, p.gen⟩] else [⟨p.lo, p.hi, p.grp, p.gen⟩]
inductive PlanOf (xs : List Ptb) (grps : Int) : Pans → Prop
  | move (A D : List Ptb) (t : Ptb) (to gen : Int) (s : ByteArray) (h : xs = A ++ t :: D) (h1 : 1 ≤ to) (h2 : to ≤ grps) (hs : s.size ≤ 16) : PlanOf xs grps (pPl t.lo t.hi t.g gen t.n to 1 s)
  | split (A D : List Ptb) (t : Ptb) (gen : Int) (s : ByteArray) (h : xs = A ++ t :: D) (hc : spC t.sp s = true) (hl : xs.length < 16) : PlanOf xs grps (pPl t.lo t.hi t.g gen t.n 0 2 s)
  | merge (A D : List Ptb) (u t : Ptb) (gen : Int) (s : ByteArray) (h : xs = A ++ u :: t :: D) (hg : u.g = t.g) (hs : s.size ≤ 16) : PlanOf xs grps (pPl u.lo t.hi t.g gen 0 0 3 s)
theorem PlanOf.gen {xs : List Ptb} {grps : Int} {p : Pans} (h : PlanOf xs grps p) (n : Int) : PlanOf xs grps { p with gen := n } := by
  cases h with
  | move A D t to gen s h h1 h2 hs => exact .move A D t to n s h h1 h2 hs
  | split A D t gen s h hc hl => exact .split A D t n s h hc hl
  | merge A D u t gen s h hg hs => exact .merge A D u t n s h hg hs
theorem PlanOf.bare {xs : List Ptb} {grps : Int} {p : Pans} (h : PlanOf xs grps p) : Bare p ∧ p.code = 0 ∧ 1 ≤ p.act ∧ p.act ≤ 3 := by
  cases h <;> exact ⟨⟨rfl, rfl⟩, rfl, by simp [pPl], by simp [pPl]⟩
theorem tbBad_iff {x : Ptb} : tbBad x = false ↔ (0 ≤ x.g ∧ x.g ≤ 255) ∧ 1 ≤ x.n ∧ x.n ≤ 1073741824 := by
  unfold tbBad
  simp only [Bool.or_eq_false_iff, decide_eq_false_iff_not]
  omega
theorem may_mk {xs : List Ptb} (h1 : spCov (xs.map Ptb.sp) = true) (h2 : ∀ x ∈ xs, tbBad x = false) (h3 : xs.length ≤ 16) : mayT xs = 0 := by
  have e : xs.any tbBad = false := by
    rw [List.any_eq_false]
    intro x hx
    rw [h2 x hx]
    simp
  unfold mayT
  rw [h1, e, if_neg (by simp), if_neg (by omega)]
theorem may_good {xs : List Ptb} (h : mayT xs = 0) : ∀ x ∈ xs, tbBad x = false := by
  have h2 := (may_cov h).2.1
  rw [List.any_eq_false] at h2
  intro x hx
  have := h2 x hx
  simpa using this
theorem next_of {A B D ys : List Ptb} (hm : mayT (A ++ B ++ D) = 0) (hR : ∀ y ∈ ys, spR y.sp = true) (hrow : lpBad none ys = false) (hyn : ys ≠ []) (hcov : spCov ((A ++ ys ++ D).map Ptb.sp) = true) (hgood : ∀ y ∈ ys, tbBad y = false) (hlen : (A ++ ys ++ D).length ≤ 16) (hlp : lpL ys false (A ++ B ++ D) = A ++ ys ++ D) :
    lpErr (A ++ B ++ D) ys = 0 ∧ lpTo (A ++ B ++ D) ys = A ++ ys ++ D ∧ mayT (A ++ ys ++ D) = 0 := by
  have hgd := may_good hm
  have hm' : mayT (A ++ ys ++ D) = 0 := by
    refine may_mk hcov ?_ hlen
    intro x hx
    simp only [List.mem_append] at hx
    rcases hx with (hx | hx) | hx
    · exact hgd x (by simp [hx])
    · exact hgood x hx
    · exact hgd x (by simp [hx])
  have e2 : ys.any tbBad = false := by
    rw [List.any_eq_false]
    intro x hx
    rw [hgood x hx]
    simp
  have e3 : ys.isEmpty = false := by cases ys with
    | nil => exact absurd rfl hyn
    | cons _ _ => rfl
  have hE : lpErr (A ++ B ++ D) ys = 0 := by
    unfold lpErr
    rw [hlp, hcov, hrow, e2, e3, if_neg (by simp), if_neg (by simp), if_neg (by omega)]
  refine ⟨hE, ?_, hm'⟩
  unfold lpTo
  rw [hE, if_pos rfl, hlp]
theorem lpBad_one {y : Ptb} (h : spR y.sp = true) : lpBad none [y] = false := by
  unfold lpBad lpBad
  rw [h]; rfl
theorem spH_self {s : Psp} (h : spR s = true) : spH s s.lo = true := by
  unfold spH
  rw [zlt_self, (spR_parts h).2.2]; rfl
theorem plan_next {xs : List Ptb} {grps : Int} {p : Pans} (h : PlanOf xs grps p) (hm : mayT xs = 0) (hg : grps ≤ 3) (hin : ∀ x ∈ xs, 1 ≤ x.g ∧ x.g ≤ grps) (hn1 : 1 ≤ p.gen) (hn2 : p.gen ≤ 1073741824) :
    ∃ A B D, xs = A ++ B ++ D ∧ (lpErr xs (mMade p) = 0 ∧ lpTo xs (mMade p) = A ++ mMade p ++ D ∧ mayT (A ++ mMade p ++ D) = 0) ∧ (∀ y ∈ mMade p, y.n = p.gen ∧ 1 ≤ y.g ∧ y.g ≤ grps) ∧ (∀ b ∈ B, spM b.sp ⟨p.lo, p.hi⟩ = true) ∧ (mMade p).length ≤ 2 ∧ mMade p ≠ [] := by
  have hcov := (may_cov hm).1
  have hlen := (may_cov hm).2.2
  have hgd := may_good hm
  cases h with
  | move A D t to gen s h h1 h2 hs =>
    subst h
    have hR := cov_R hcov t.sp (by simp)
    have eM : mMade (pPl t.lo t.hi t.g gen t.n to 1 s) = [⟨t.lo, t.hi, to, gen⟩] := rfl
    have hX : A ++ t :: D = A ++ [t] ++ D := by simp
    rw [eM]
    refine ⟨A, [t], D, hX, ?_, ?_, ?_, by simp, by simp⟩
    · rw [hX]
      refine next_of (by rw [← hX]; exact hm) (by intro y hy; simp at hy; subst hy; exact hR) (lpBad_one hR) (by simp) ?_ ?_ ?_ ?_
      · have e : (A ++ [(⟨t.lo, t.hi, to, gen⟩ : Ptb)] ++ D).map Ptb.sp = (A ++ t :: D).map Ptb.sp := by simp [Ptb.sp]
        rw [e]; exact hcov
      · intro y hy
        simp at hy; subst hy
        exact tbBad_iff.2 ⟨⟨by show 0 ≤ to; omega, by show to ≤ 255; omega⟩, hn1, hn2⟩
      · simp at hlen ⊢; omega
      · rw [← hX, lpL_split (within_ahead hcov (by intro y hy; simp at hy; subst hy; exact zlt_self _)) (meets_self hcov (by intro y hy; simp at hy; subst hy; exact hR) ⟨⟨t.lo, t.hi, to, gen⟩, List.mem_singleton.2 rfl, spH_self hR⟩), within_behind hcov]
        intro y hy
        simp at hy
        subst hy
        cases hb : bz t.hi with
        | true => exact .inl rfl
        | false => exact .inr ⟨rfl, zlt_self _⟩
    · intro y hy
      simp at hy
      subst hy
      exact ⟨rfl, h1, h2⟩
    · intro b hb
      simp at hb
      subst hb
      show spM b.sp b.sp = true
      unfold spM
      rw [hR, spH_self hR]; rfl
  | split A D t gen s h hc hl =>
    subst h
    have hR := cov_R hcov t.sp (by simp)
    obtain ⟨r1, r2⟩ := split_R hc
    obtain ⟨g1, g2, g3, g4, g5⟩ := spC_split hc
    have eM : mMade (pPl t.lo t.hi t.g gen t.n 0 2 s) = [⟨t.lo, s, t.g, gen⟩, ⟨s, t.hi, t.g, gen⟩] := rfl
    have hX : A ++ t :: D = A ++ [t] ++ D := by simp
    have htg := hin t (by simp)
    rw [eM]
    refine ⟨A, [t], D, hX, ?_, ?_, ?_, by simp, by simp⟩
    · rw [hX]
      refine next_of (by rw [← hX]; exact hm) (by intro y hy; simp at hy; rcases hy with rfl | rfl; exact r1; exact r2) ?_ (by simp) ?_ ?_ ?_ ?_
      · unfold lpBad lpBad lpBad
        rw [show spR (Ptb.sp ⟨t.lo, s, t.g, gen⟩) = true from r1, show spR (Ptb.sp ⟨s, t.hi, t.g, gen⟩) = true from r2]
        show (!true || (!true || (bz s || !zeq s s) || false)) = false
        rw [g5, zeq_iff.2 rfl]; rfl
      · have e : (A ++ [(⟨t.lo, s, t.g, gen⟩ : Ptb), ⟨s, t.hi, t.g, gen⟩] ++ D).map Ptb.sp = A.map Ptb.sp ++ (⟨t.sp.lo, s⟩ : Psp) :: ⟨s, t.sp.hi⟩ :: D.map Ptb.sp := by simp [Ptb.sp]
        rw [e, spCov_split hc]
        have e2 : A.map Ptb.sp ++ t.sp :: D.map Ptb.sp = (A ++ t :: D).map Ptb.sp := by simp
        rw [e2]; exact hcov
      · intro y hy
        simp at hy
        rcases hy with rfl | rfl
        · exact tbBad_iff.2 ⟨⟨by show 0 ≤ t.g; omega, by show t.g ≤ 255; omega⟩, hn1, hn2⟩
        · exact tbBad_iff.2 ⟨⟨by show 0 ≤ t.g; omega, by show t.g ≤ 255; omega⟩, hn1, hn2⟩
      · simp at hl ⊢; omega
      · rw [← hX, lpL_split (within_ahead hcov (by
          intro y hy
          simp at hy
          rcases hy with rfl | rfl
          · exact zlt_self _
          · exact zlt_asymm g3)) (meets_self hcov (by intro y hy; simp at hy; rcases hy with rfl | rfl; exact r1; exact r2) ⟨⟨t.lo, s, t.g, gen⟩, by simp, spH_self r1⟩), within_behind hcov]
        intro y hy
        simp at hy
        cases hb : bz t.hi with
        | true => exact .inl rfl
        | false =>
          right
          rcases hy with rfl | rfl
          · exact ⟨g5, zlt_asymm (spB_lt g4 hb)⟩
          · exact ⟨hb, zlt_self _⟩
    · intro y hy
      simp at hy
      rcases hy with rfl | rfl
      · exact ⟨rfl, htg.1, htg.2⟩
      · exact ⟨rfl, htg.1, htg.2⟩
    · intro b hb
      simp at hb
      subst hb
      show spM b.sp b.sp = true
      unfold spM
      rw [hR, spH_self hR]; rfl
  | merge A D u t gen s h hg' hs =>
    subst h
    have e0 : (A ++ u :: t :: D).map Ptb.sp = A.map Ptb.sp ++ u.sp :: t.sp :: D.map Ptb.sp := by simp
    obtain ⟨hj, hcj⟩ := spCov_join (A.map Ptb.sp) (D.map Ptb.sp) (by rw [← e0]; exact hcov)
    obtain ⟨j1, j2, j3, j4⟩ := spJ_parts hj
    have hRw : spR ⟨u.lo, t.hi⟩ = true := join_R hj
    have eM : mMade (pPl u.lo t.hi t.g gen 0 0 3 s) = [⟨u.lo, t.hi, t.g, gen⟩] := rfl
    have hX : A ++ u :: t :: D = A ++ [u, t] ++ D := by simp
    have htg := hin t (by simp)
    have hut : zlt u.lo t.lo = true := by
      have := spB_lt (spR_parts j1).2.2 j3
      rw [j4] at this
      exact this
    rw [eM]
    refine ⟨A, [u, t], D, hX, ?_, ?_, ?_, by simp, by simp⟩
    · rw [hX]
      refine next_of (by rw [← hX]; exact hm) (by intro y hy; simp at hy; subst hy; exact hRw) (lpBad_one hRw) (by simp) ?_ ?_ ?_ ?_
      · have e : (A ++ [(⟨u.lo, t.hi, t.g, gen⟩ : Ptb)] ++ D).map Ptb.sp = A.map Ptb.sp ++ (⟨u.sp.lo, t.sp.hi⟩ : Psp) :: D.map Ptb.sp := by simp [Ptb.sp]
        rw [e]; exact hcj
      · intro y hy
        simp at hy; subst hy
        exact tbBad_iff.2 ⟨⟨by show 0 ≤ t.g; omega, by show t.g ≤ 255; omega⟩, hn1, hn2⟩
      · simp at hlen ⊢; omega
      · have hcov2 : spCov (((A ++ [u]) ++ t :: D).map Ptb.sp) = true := by
          have : (A ++ [u]) ++ t :: D = A ++ u :: t :: D := by simp
          rw [this]; exact hcov
        have hmt : tbMeet [(⟨u.lo, t.hi, t.g, gen⟩ : Ptb)] t = true := meets_self hcov2 (by intro y hy; simp at hy; subst hy; exact hRw) ⟨⟨u.lo, t.hi, t.g, gen⟩, List.mem_singleton.2 rfl, by
          unfold spH
          rw [show zlt t.lo (Ptb.sp ⟨u.lo, t.hi, t.g, gen⟩).lo = false from zlt_asymm hut]
          exact (spR_parts j2).2.2⟩
        rw [← hX, lpL_split (within_ahead hcov (by intro y hy; simp at hy; subst hy; exact zlt_self _)) (meets_self hcov (by intro y hy; simp at hy; subst hy; exact hRw) ⟨⟨u.lo, t.hi, t.g, gen⟩, List.mem_singleton.2 rfl, spH_self hRw⟩), List.filter_cons, hmt]
        simp only [Bool.not_true, Bool.false_eq_true, if_false]
        rw [within_behind hcov2]
        intro y hy
        simp at hy
        subst hy
        cases hb : bz t.hi with
        | true => exact .inl rfl
        | false => exact .inr ⟨rfl, zlt_self _⟩
    · intro y hy
      simp at hy
      subst hy
      exact ⟨rfl, htg.1, htg.2⟩
    · intro b hb
      simp at hb
      rcases hb with rfl | rfl
      · show spM b.sp ⟨b.lo, t.hi⟩ = true
        unfold spM
        rw [j1, hRw, show spH b.sp (Psp.mk b.lo t.hi).lo = true from spH_self j1]; rfl
      · show spM b.sp ⟨u.lo, b.hi⟩ = true
        have e : spH ⟨u.lo, b.hi⟩ b.sp.lo = true := by
          unfold spH
          rw [show zlt b.sp.lo u.lo = false from zlt_asymm hut]
          exact (spR_parts j2).2.2
        unfold spM
        rw [j2, hRw, e]; simp

noncomputable def mIx (xs : List Ptb) (s : ByteArray) : Nat := open Classical in if h : ∃ i, LastZ (xs.map Ptb.lo) s i then Classical.choose h else 0
theorem mIx_last {xs : List Ptb} (h : spCov (xs.map Ptb.sp) = true) (s : ByteArray) : LastZ (xs.map Ptb.lo) s (mIx xs s) := by
  have he := cov_last h s
  unfold mIx
  rw [dif_pos he]
  exact Classical.choose_spec he
theorem mIx_one {xs : List Ptb} {s : ByteArray} {i : Nat} (h : LastZ (xs.map Ptb.lo) s i) : mIx xs s = i := by
  have he : ∃ i, LastZ (xs.map Ptb.lo) s i := ⟨i, h⟩
  unfold mIx
  rw [dif_pos he]
  exact (Classical.choose_spec he).one h
noncomputable def mTb (xs : List Ptb) (s : ByteArray) : Ptb := (xs[mIx xs s]?).getD Ptb.zero
noncomputable def mAhead (xs : List Ptb) (s : ByteArray) : Ptb := if mIx xs s = 0 then Ptb.zero else (xs[mIx xs s - 1]?).getD Ptb.zero
theorem mTb_get {xs : List Ptb} (h : spCov (xs.map Ptb.sp) = true) (s : ByteArray) : xs[mIx xs s]? = some (mTb xs s) := by
  have hlt := (mIx_last h s).lt
  simp only [List.length_map] at hlt
  unfold mTb
  rw [List.getElem?_eq_getElem hlt]
  rfl
theorem mTb_parts {xs : List Ptb} (h : spCov (xs.map Ptb.sp) = true) (s : ByteArray) : xs = xs.take (mIx xs s) ++ mTb xs s :: xs.drop (mIx xs s + 1) := by
  have e := mTb_get h s
  obtain ⟨h1, h2⟩ := List.getElem?_eq_some_iff.1 e
  conv => lhs; rw [← List.take_append_drop (mIx xs s) xs, List.drop_eq_getElem_cons h1, h2]
theorem mAhead_parts {xs : List Ptb} (h : spCov (xs.map Ptb.sp) = true) (s : ByteArray) (h0 : 0 < mIx xs s) : xs = xs.take (mIx xs s - 1) ++ mAhead xs s :: mTb xs s :: xs.drop (mIx xs s + 1) := by
  obtain ⟨h1, h2⟩ := List.getElem?_eq_some_iff.1 (mTb_get h s)
  have hl : mIx xs s - 1 < xs.length := by omega
  have e : mAhead xs s = xs[mIx xs s - 1] := by
    unfold mAhead
    rw [if_neg (by omega), List.getElem?_eq_getElem hl]; rfl
  have e2 : xs.drop (mIx xs s - 1) = xs[mIx xs s - 1] :: xs.drop (mIx xs s) := by
    rw [List.drop_eq_getElem_cons hl, show mIx xs s - 1 + 1 = mIx xs s by omega]
  conv => lhs; rw [← List.take_append_drop (mIx xs s - 1) xs, e2, List.drop_eq_getElem_cons h1, h2, ← e]
noncomputable def mDraw (S : Pms) (act : Int) (s : ByteArray) (to : Int) : Pans :=
  if act = 1 then (if (1 ≤ to ∧ to ≤ S.grps) ∧ to ≠ (mTb S.xs s).g then pPl (mTb S.xs s).lo (mTb S.xs s).hi (mTb S.xs s).g 0 (mTb S.xs s).n to 1 s else pTold 1)
  else if act = 2 then (if spC (mTb S.xs s).sp s = true then (if 16 ≤ S.xs.length then pTold 13 else pPl (mTb S.xs s).lo (mTb S.xs s).hi (mTb S.xs s).g 0 (mTb S.xs s).n 0 2 s) else pTold 1)
  else (if ((mTb S.xs s).lo = s ∧ 0 < mIx S.xs s) ∧ (mAhead S.xs s).g = (mTb S.xs s).g then pPl (mAhead S.xs s).lo (mTb S.xs s).hi (mTb S.xs s).g 0 0 0 3 s else pTold 1)
theorem mDraw_is (S : Pms) (act : Int) (s : ByteArray) (to : Int) (hc : spCov (S.xs.map Ptb.sp) = true) (h1 : 1 ≤ act) (h2 : act ≤ 3) (hs : s.size ≤ 16) :
    (mDraw S act s to = pTold 1 ∨ mDraw S act s to = pTold 13) ∨ (PlanOf S.xs S.grps (mDraw S act s to) ∧ (mDraw S act s to).gen = 0 ∧ (mDraw S act s to).act = act) := by
  unfold mDraw
  split
  · rename_i ha
    subst ha
    split
    · rename_i h
      exact .inr ⟨.move _ _ _ _ 0 _ (mTb_parts hc s) h.1.1 h.1.2 hs, rfl, rfl⟩
    · exact .inl (.inl rfl)
  · rename_i ha
    split
    · rename_i ha2
      subst ha2
      split
      · rename_i h
        split
        · exact .inl (.inr rfl)
        · exact .inr ⟨.split _ _ _ 0 _ (mTb_parts hc s) h (by omega), rfl, rfl⟩
      · exact .inl (.inl rfl)
    · rename_i ha2
      have ha3 : act = 3 := by omega
      subst ha3
      split
      · rename_i h
        exact .inr ⟨.merge _ _ _ _ 0 _ (mAhead_parts hc s h.1.2) h.2 hs, rfl, rfl⟩
      · exact .inl (.inl rfl)
structure OkM (S : Pms) : Prop where
  g0 : 1 ≤ S.grps
  g1 : S.grps ≤ 3
  may : mayT S.xs = 0
  ins : ∀ x ∈ S.xs, (1 ≤ x.g ∧ x.g ≤ S.grps) ∧ x.n ≤ S.last
  l0 : 1 ≤ S.last
  l1 : S.last ≤ 1073741824
  pe : S.pend = pTold 0 ∨ (PlanOf S.xs S.grps S.pend ∧ S.pend.gen = S.last)
  ri : RiseT S.ca
  ca : ∀ x ∈ S.ca, (0 ≤ x.c ∧ x.c ≤ 255) ∧ ∃ A, Bare A ∧ rAns A = true ∧ x.a = strOf (encA A)
theorem riseT_low : ∀ (xs : List Pt) (b : Int), RiseT xs → (∀ x ∈ xs, b ≤ x.c) → ∀ (k : Nat) x, xs[k]? = some x → b + (k : Int) ≤ x.c
  | [], b, _, _, k, x, hx => by simp at hx
  | y :: t, b, hr, hb, 0, x, hx => by simp at hx; subst hx; have := hb y (by simp); omega
  | y :: t, b, hr, hb, k + 1, x, hx => by
    have := riseT_low t (b + 1) hr.tail (fun z hz => by have h1 := (List.pairwise_cons.1 hr).1 z hz; have h2 := hb y (by simp); omega) k x (by simpa using hx)
    omega
theorem OkM.len {S : Pms} (h : OkM S) : S.ca.length ≤ 256 := by
  rcases Nat.lt_or_ge 256 S.ca.length with hl | hl
  · exfalso
    have := riseT_low S.ca 0 h.ri (fun x hx => (h.ca x hx).1.1) 256 _ (List.getElem?_eq_getElem hl)
    have := (h.ca _ (List.getElem_mem hl)).1.2
    omega
  · exact hl
theorem OkM.cov {S : Pms} (h : OkM S) : spCov (S.xs.map Ptb.sp) = true := (may_cov h.may).1
theorem OkM.few {S : Pms} (h : OkM S) : S.xs.length ≤ 16 := (may_cov h.may).2.2
theorem OkM.ne {S : Pms} (h : OkM S) : S.xs ≠ [] := may_ne h.may
theorem pTold_r {c : Int} (h0 : 0 ≤ c) (h1 : c ≤ 255) : rAns (pTold c) = true := by
  rw [rAns_iff]
  refine ⟨wi_iff.2 ⟨h0, h1⟩, rfl, (by decide +kernel : spR ⟨⟨#[]⟩, ⟨#[]⟩⟩ = true), rfl, rfl, rfl, rfl, rfl, rfl, ?_⟩
  show 0 ≤ 1048576
  omega
theorem PlanOf.r {S : Pms} (ok : OkM S) {p : Pans} (h : PlanOf S.xs S.grps p) (h0 : 0 ≤ p.gen) (h1 : p.gen ≤ 1073741824) : rAns p = true := by
  have hg1 := ok.g1
  have hl1 := ok.l1
  cases h with
  | move A D t to gen s h a1 a2 hs =>
    have ht := ok.ins t (by rw [h]; simp)
    have hb := tbBad_iff.1 (may_good ok.may t (by rw [h]; simp))
    rw [rAns_iff]
    exact ⟨rfl, rfl, cov_R ok.cov t.sp (by rw [h]; simp), wi_iff.2 ⟨by show 0 ≤ t.g; omega, by show t.g ≤ 255; omega⟩, wi_iff.2 ⟨by show 0 ≤ to; omega, by show to ≤ 255; omega⟩, rfl, wi_iff.2 ⟨h0, h1⟩, wi_iff.2 ⟨by show 0 ≤ t.n; omega, by show t.n ≤ 1073741824; omega⟩, decide_eq_true hs, by show 0 ≤ 1048576; omega⟩
  | split A D t gen s h hc hl =>
    have ht := ok.ins t (by rw [h]; simp)
    have hb := tbBad_iff.1 (may_good ok.may t (by rw [h]; simp))
    obtain ⟨g1, g2, _⟩ := spC_split hc
    rw [rAns_iff]
    exact ⟨rfl, rfl, g1, wi_iff.2 ⟨by show 0 ≤ t.g; omega, by show t.g ≤ 255; omega⟩, rfl, rfl, wi_iff.2 ⟨h0, h1⟩, wi_iff.2 ⟨by show 0 ≤ t.n; omega, by show t.n ≤ 1073741824; omega⟩, g2, by show 0 ≤ 1048576; omega⟩
  | merge A D u t gen s h hgg hs =>
    have ht := ok.ins t (by rw [h]; simp)
    have e0 : S.xs.map Ptb.sp = A.map Ptb.sp ++ u.sp :: t.sp :: D.map Ptb.sp := by rw [h]; simp
    obtain ⟨hj, _⟩ := spCov_join (A.map Ptb.sp) (D.map Ptb.sp) (by rw [← e0]; exact ok.cov)
    rw [rAns_iff]
    exact ⟨rfl, rfl, join_R hj, wi_iff.2 ⟨by show 0 ≤ t.g; omega, by show t.g ≤ 255; omega⟩, rfl, rfl, wi_iff.2 ⟨h0, h1⟩, rfl, decide_eq_true hs, by show 0 ≤ 1048576; omega⟩
noncomputable def mBegin (S : Pms) (act : Int) (s : ByteArray) (to : Int) : Pans × Pms :=
  if S.pend.act ≠ 0 then (pTold 4, S)
  else if (mDraw S act s to).code ≠ 0 then (mDraw S act s to, S)
  else if S.last = 1073741824 then (pTold 13, S)
  else ({ mDraw S act s to with gen := S.last + 1 }, { S with last := S.last + 1, pend := { mDraw S act s to with gen := S.last + 1 } })
def mDec (bs : List Nat) : Pans := (dWhole bs).getD (pTold 0)
noncomputable def mPlan (S : Pms) (c q act : Int) (s : ByteArray) (to : Int) : Pans × Pms :=
  if act = 0 then ((if S.pend.act ≠ 0 then S.pend else pTold 22), S)
  else if lookT (ofT S.ca c) q = 2 then (mDec (sayT (ofT S.ca c) q), S)
  else if lookT (ofT S.ca c) q = 3 ∨ ¬ (0 ≤ c ∧ c ≤ 255 ∧ q ≤ 1073741824) then (pTold 27, S)
  else ((mBegin S act s to).1, { (mBegin S act s to).2 with ca := keepT S.ca ⟨c, q, strOf (encA (mBegin S act s to).1)⟩ })
def mPub (S : Pms) (gen to : Int) : Pans × Pms :=
  if S.last < gen then (pTold 22, S)
  else if gen ≠ S.pend.gen then (pTold 0, S)
  else (pTold 0, { S with xs := if to ≠ -1 then lpTo S.xs (mMade S.pend) else S.xs, pend := pTold 0 })
noncomputable def mDo (S : Pms) (c q : Int) (C : Pcmd) : Pans × Pms :=
  if C.kind = 7 ∨ C.kind = 8 ∨ C.kind = 9 ∨ C.kind = 10 then
    (if rCmd C = false then (pTold 1, S)
    else if C.kind = 7 then (⟨0, [], (mTb S.xs C.at').lo, (mTb S.xs C.at').hi, (mTb S.xs C.at').g, (mTb S.xs C.at').n, 0, 0, 0, ⟨#[]⟩, []⟩, S)
    else if C.kind = 8 then mPlan S c q C.act C.at' C.to
    else if C.kind = 9 then mPub S C.gen C.to
    else (pTold 0, S))
  else (pTold 24, S)
theorem dWhole_bare {A : Pans} (hb : Bare A) (hr : rAns A = true) : dWhole (encA A) = some A := by
  obtain ⟨code, rows, lo, hi, grp, gen, old, to, act, at', st⟩ := A
  obtain ⟨h1, h2⟩ := hb
  dsimp only at h1 h2
  subst h1 h2
  exact dWhole_enc hr (by simp)
theorem mBegin_is (S : Pms) (ok : OkM S) (act : Int) (s : ByteArray) (to : Int) (h1 : 1 ≤ act) (h2 : act ≤ 3) (hs : s.size ≤ 16) :
    OkM (mBegin S act s to).2 ∧ (mBegin S act s to).2.ca = S.ca ∧ Bare (mBegin S act s to).1 ∧ rAns (mBegin S act s to).1 = true ∧ (mBegin S act s to).2.xs = S.xs ∧
    (((mBegin S act s to).1.code ≠ 0 ∧ (mBegin S act s to).2 = S) ∨ ((mBegin S act s to).1.code = 0 ∧ (mBegin S act s to).1.gen = S.last + 1 ∧ (mBegin S act s to).2.last = S.last + 1 ∧ (mBegin S act s to).2.pend = (mBegin S act s to).1 ∧ S.pend = pTold 0)) := by
  unfold mBegin
  split
  · exact ⟨ok, rfl, ⟨rfl, rfl⟩, pTold_r (by omega) (by omega), rfl, .inl ⟨by simp [pTold], rfl⟩⟩
  · rename_i hp
    split
    · rename_i hc
      rcases mDraw_is S act s to ok.cov h1 h2 hs with (e | e) | ⟨hP, _⟩
      · rw [e]; exact ⟨ok, rfl, ⟨rfl, rfl⟩, pTold_r (by omega) (by omega), rfl, .inl ⟨by simp [pTold], rfl⟩⟩
      · rw [e]; exact ⟨ok, rfl, ⟨rfl, rfl⟩, pTold_r (by omega) (by omega), rfl, .inl ⟨by simp [pTold], rfl⟩⟩
      · exact absurd hP.bare.2.1 hc
    · rename_i hc
      split
      · exact ⟨ok, rfl, ⟨rfl, rfl⟩, pTold_r (by omega) (by omega), rfl, .inl ⟨by simp [pTold], rfl⟩⟩
      · rename_i hl
        have l1 := ok.l1
        have l0 := ok.l0
        rcases mDraw_is S act s to ok.cov h1 h2 hs with (e | e) | ⟨hP, _⟩
        · rw [e] at hc; exact absurd (by decide) hc
        · rw [e] at hc; exact absurd (by decide) hc
        · have hP' := hP.gen (S.last + 1)
          have hr := hP'.r ok (by show 0 ≤ S.last + 1; omega) (by show S.last + 1 ≤ 1073741824; omega)
          refine ⟨⟨ok.g0, ok.g1, ok.may, fun x hx => ⟨(ok.ins x hx).1, by have := (ok.ins x hx).2; show x.n ≤ S.last + 1; omega⟩, by show 1 ≤ S.last + 1; omega, by show S.last + 1 ≤ 1073741824; omega, .inr ⟨hP', rfl⟩, ok.ri, ok.ca⟩, rfl, hP'.bare.1, hr, rfl, .inr ⟨hP'.bare.2.1, rfl, rfl, rfl, ?_⟩⟩
          rcases ok.pe with e | ⟨hq, _⟩
          · exact e
          · exfalso
            have := hq.bare.2.2.1
            omega
theorem OkM.keep {S : Pms} (ok : OkM S) {c q : Int} {A : Pans} (hb : Bare A) (hr : rAns A = true) (h0 : 0 ≤ c) (h1 : c ≤ 255) : OkM { S with ca := keepT S.ca ⟨c, q, strOf (encA A)⟩ } := by
  refine ⟨ok.g0, ok.g1, ok.may, ok.ins, ok.l0, ok.l1, ok.pe, keepT_rise ok.ri _, ?_⟩
  intro x hx
  have hx' : x ∈ keepT S.ca ⟨c, q, strOf (encA A)⟩ := hx
  unfold keepT at hx'
  split at hx'
  · rcases putT_mem.1 hx' with rfl | ⟨hx', _⟩
    · exact ⟨⟨h0, h1⟩, A, hb, hr, rfl⟩
    · exact ok.ca x hx'
  · exact ok.ca x hx'
theorem mPlan_ok (S : Pms) (ok : OkM S) (c q act : Int) (s : ByteArray) (to : Int) (h1 : 0 ≤ act) (h2 : act ≤ 3) (hs : s.size ≤ 16) : OkM (mPlan S c q act s to).2 := by
  unfold mPlan
  split
  · exact ok
  · rename_i ha
    split
    · exact ok
    · split
      · exact ok
      · rename_i h
        have hm : 0 ≤ c ∧ c ≤ 255 ∧ q ≤ 1073741824 := by
          rcases Classical.em (0 ≤ c ∧ c ≤ 255 ∧ q ≤ 1073741824) with h' | h'
          · exact h'
          · exact absurd (.inr h') h
        obtain ⟨k1, k2, k3, k4, _⟩ := mBegin_is S ok act s to (by omega) h2 hs
        have := k1.keep (c := c) (q := q) k3 k4 hm.1 hm.2.1
        rw [k2] at this
        exact this
theorem mPub_ok (S : Pms) (ok : OkM S) (gen to : Int) (hg : 1 ≤ gen) : OkM (mPub S gen to).2 ∧ ((mPub S gen to).2.xs = S.xs ∨ lpErr S.xs (mMade S.pend) = 0) := by
  unfold mPub
  split
  · exact ⟨ok, .inl rfl⟩
  · split
    · exact ⟨ok, .inl rfl⟩
    · rename_i he
      have he' : gen = S.pend.gen := by omega
      rcases ok.pe with e | ⟨hP, hl⟩
      · rw [e] at he'
        have : (pTold 0).gen = 0 := rfl
        omega
      · have l0 := ok.l0
        have l1 := ok.l1
        split
        · obtain ⟨A, B, D, e1, ⟨e2, e3, e4⟩, e5, e6, _⟩ := plan_next hP ok.may ok.g1 (fun x hx => (ok.ins x hx).1) (by omega) (by omega)
          refine ⟨⟨ok.g0, ok.g1, ?_, ?_, ok.l0, ok.l1, .inl rfl, ok.ri, ok.ca⟩, .inr e2⟩
          · show mayT (lpTo S.xs (mMade S.pend)) = 0
            rw [e3]; exact e4
          · intro x hx
            have hx' : x ∈ lpTo S.xs (mMade S.pend) := hx
            rw [e3] at hx'
            simp only [List.mem_append] at hx'
            rcases hx' with (hx' | hx') | hx'
            · exact ok.ins x (by rw [e1]; simp [hx'])
            · obtain ⟨f1, f2⟩ := e5 x hx'
              exact ⟨f2, by show x.n ≤ S.last; omega⟩
            · exact ok.ins x (by rw [e1]; simp [hx'])
        · exact ⟨⟨ok.g0, ok.g1, ok.may, ok.ins, ok.l0, ok.l1, .inl rfl, ok.ri, ok.ca⟩, .inl rfl⟩
end Go.Proofs.YtilbbnmhnacnlaaGreat
