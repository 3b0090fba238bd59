/-
  A cache's allBelow, takeNext, Take, of any bytes.
-/
import Derived.Test.YtoijkdknjbgebaaCOb1
namespace Go.Proofs.Ytoijkdknjbgebaa
open Go.RowKit

set_option maxRecDepth 100000 in
set_option maxHeartbeats 4000000 in
theorem obelow_w (W w : World) (p : Nat) (a : Option Nat) (zs : List Pt) (c : Int) (h : CaIs W w p a zs) (hl : zs.length ≤ 100000) :
    Calls Try.prog 55 #[.pointer (some ⟨p, 0, none⟩), .int .i64 c] w fun e w' => e = .returned (.bool (belowT zs c)) ∧ w = w' := by
  obtain ⟨v, hp, -, hG⟩ := h
  obtain ⟨ad, n, cap, rfl, hn, hcap⟩ := hG.open
  obtain ⟨x1, -⟩ := one_cell hp
  have hln : n ≤ 100000 := by have := hn.out; omega
  cases n with
  | zero =>
    have e : zs = [] := List.eq_nil_of_length_eq_zero hn.out.symm
    subst e
    have e2 : belowT [] c = true := rfl
    rw [e2]
    clear hG
    go_enter Try.func55, Try.ntmps55
    go_wp2_with fail
    go_ret
    exact ⟨rfl, rfl⟩
  | succ m =>
    obtain ⟨x, hx⟩ : ∃ x, zs[m]? = some x := ⟨_, List.getElem?_eq_getElem (by have := hn.out; omega)⟩
    obtain ⟨g, off, rfl, z0, -, -⟩ := hG.at.at hx
    have e2 : belowT zs c = decide (x.c < c) := by
      have e3 : zs.getLast? = some x := by rw [List.getLast?_eq_getElem?, ← hn.out]; exact hx
      unfold belowT
      rw [e3]
    rw [e2]
    obtain ⟨xc, hxc⟩ : ∃ xc, x.c = xc := ⟨_, rfl⟩
    rw [hxc] at z0 ⊢
    have h0 : ¬ ((m + 1 : Nat) : Int) = 0 := by omega
    have h1 : ((m + 1 : Nat) : Int) - 1 = (m : Int) := by omega
    have h2 : (m : Int) < ((m + 1 : Nat) : Int) := by omega
    clear hG e2 hxc hx
    go_enter Try.func55, Try.ntmps55
    go_wp2_with fail
    go_ret
    exact ⟨rfl, rfl⟩

/-- A Reader and a cache of one's own beside it. -/
structure TkIs (w0 w : World) (r g p : Nat) (a : Option Nat) (bs : List Nat) (zs : List Pt) : Prop where
  rd : RdIs w r g bs false
  ca : CaIs w0 w p a zs
  mv : Moves [r] w0 w
  hr : r < w0.heap.size
  hg : g < w0.heap.size
  hp : w0.heap.size ≤ p
  oct : ∀ b ∈ bs, b < 256
theorem TkIs.rp {w0 w : World} {r g p : Nat} {a : Option Nat} {bs : List Nat} {zs : List Pt} (h : TkIs w0 w r g p a bs zs) : p ∉ [r] ∧ ∀ k, a = some k → k ∉ [r] := by
  have h1 := h.hr
  have h2 := h.hp
  refine ⟨by simp; omega, fun k hk => ?_⟩
  have := (h.ca.lta hk).2
  simp
  omega
/-- Something was read. -/
theorem TkIs.read {w0 w w' : World} {r g p : Nat} {a : Option Nat} {bs bs' : List Nat} {zs : List Pt} (h : TkIs w0 w r g p a bs zs) (hr : RdIs w' r g bs' false) (m : Moves [r] w w') (ho : ∀ b ∈ bs', b < 256) : TkIs w0 w' r g p a bs' zs :=
  ⟨hr, h.ca.moves m h.rp.1 h.rp.2, h.mv.then m, h.hr, h.hg, h.hp, ho⟩
theorem TkIs.kept {w0 w w' : World} {r g p : Nat} {a a' : Option Nat} {bs : List Nat} {zs ys : List Pt} (h : TkIs w0 w r g p a bs zs) (hT : CaTo w0 w p a w' a' ys) : TkIs w0 w' r g p a' bs ys := by
  have k1 := h.hr
  have k2 := h.hp
  have k3 := h.hg
  have ha : ∀ k ∈ a.toList, w0.heap.size ≤ k := fun k hk => (h.ca.lta (Option.mem_toList.1 hk)).2
  refine ⟨h.rd.moves hT.2.1 ?_ ?_, hT.1, h.mv.trans hT.2.1 ?_, k1, k3, k2, h.oct⟩
  · intro hm
    rcases List.mem_cons.1 hm with e | e
    · omega
    · have := ha _ e; omega
  · intro hm
    rcases List.mem_cons.1 hm with e | e
    · omega
    · have := ha _ e; omega
  · intro x hx
    rcases List.mem_cons.1 hx with rfl | e
    · exact .inr k2
    · exact .inr (ha _ e)
theorem keepT_last {zs : List Pt} {x : Pt} (hx : 1 ≤ x.s) (h : ∀ y ∈ zs, y.c < x.c) : keepT zs x = zs ++ [x] ∧ (ofT zs x.c).s < x.s := by
  have hof : ofT zs x.c = noT := ofT_none fun y hy => by have := h y hy; omega
  have hlt : (ofT zs x.c).s < x.s := by rw [hof]; show (0 : Int) < x.s; omega
  refine ⟨?_, hlt⟩
  unfold keepT
  rw [if_pos hlt]
  unfold putT
  rw [List.filter_eq_self.2 (fun y hy => decide_eq_true (h y hy)), List.filter_eq_nil_iff.2 (fun y hy => by have := h y hy; simp; omega)]
theorem belowT_all {zs : List Pt} (hr : RiseT zs) {c : Int} (h : belowT zs c = true) : ∀ y ∈ zs, y.c < c := by
  intro y hy
  unfold belowT at h
  split at h
  · rename_i e
    rw [List.getLast?_eq_none_iff] at e
    subst e
    simp at hy
  · rename_i x e
    have hx : x.c < c := of_decide_eq_true h
    obtain ⟨k, hk, rfl⟩ := List.getElem_of_mem hy
    rw [List.getLast?_eq_getElem?] at e
    by_cases hk2 : k = zs.length - 1
    · subst hk2
      rw [List.getElem?_eq_getElem hk] at e
      simp at e
      rw [e]
      exact hx
    · have := hr.lt (List.getElem?_eq_getElem hk) e (by omega)
      omega

theorem dNum_some {n : Nat} {bs r : List Nat} {v : Nat} (h : dNum n bs = some (v, r)) : n ≤ bs.length ∧ val (bs.take n) = v ∧ bs.drop n = r := by
  unfold dNum at h
  by_cases hn : n ≤ bs.length
  · rw [if_pos hn] at h
    simp at h
    exact ⟨hn, h.1, h.2⟩
  · rw [if_neg hn] at h
    simp at h
theorem dNum_none {n : Nat} {bs : List Nat} (h : dNum n bs = none) : bs.length < n := by
  unfold dNum at h
  by_cases hn : n ≤ bs.length
  · rw [if_pos hn] at h
    simp at h
  · omega
theorem dTxt_some {bs r t : List Nat} (h : dTxt bs = some (t, r)) : textOk bs 1048576 ∧ (bs.drop 4).take (val (bs.take 4)) = t ∧ (bs.drop 4).drop (val (bs.take 4)) = r := by
  unfold dTxt at h
  by_cases hn : textOk bs 1048576
  · rw [if_pos hn] at h
    simp at h
    exact ⟨hn, h.1, by simp; exact h.2⟩
  · rw [if_neg hn] at h
    simp at h
theorem dTxt_none {bs : List Nat} (h : dTxt bs = none) : ¬ textOk bs 1048576 := by
  unfold dTxt at h
  by_cases hn : textOk bs 1048576
  · rw [if_pos hn] at h
    simp at h
  · exact hn

/-- What takeNext leaves. -/
def Nexted (w0 : World) (r g p : Nat) (zs : List Pt) (o : Option (Pt × List Nat)) (e : Ending) (w' : World) : Prop := match o with
  | some (x, rest) => e = .returned (.bool true) ∧ ∃ a', TkIs w0 w' r g p a' rest (zs ++ [x])
  | none => (e = .panicked (stop r) ∨ e = .returned (.bool false)) ∧ (∃ bs', RdIs w' r g bs' (match e with | .panicked _ => true | _ => false)) ∧ Moves [r] w0 w'

set_option maxRecDepth 100000 in
set_option maxHeartbeats 8000000 in
theorem onext_w (w0 w : World) (r g p : Nat) (a : Option Nat) (bs : List Nat) (zs : List Pt) (h : TkIs w0 w r g p a bs zs) (hr : RiseT zs) (hl : zs.length ≤ 1000) :
    Calls Try.prog 44 #[.pointer (some ⟨p, 0, none⟩), .pointer (some ⟨r, 0, none⟩)] w fun e w' => Nexted w0 r g p zs (dOne zs bs) e w' := by
  have H : Hid (TkIs w0 w r g p a bs zs) := h
  clear h
  cases h1 : dNum 1 bs with
  | none =>
    have e0 : dOne zs bs = none := by unfold dOne; rw [h1]
    rw [e0]
    have hf := rbyte_fail_w r g bs w H.out.rd (dNum_none h1)
    clear h1 e0
    go_enter Try.func44, Try.ntmps44
    go_wp2_with fail
    refine hf.mono ?_
    rintro _ w2 ⟨rfl, hr2, m2⟩
    exact ⟨rfl, .inl rfl, ⟨_, hr2⟩, H.out.mv.then m2⟩
  | some p1 =>
    obtain ⟨c, b1⟩ := p1
    obtain ⟨n1, v1, d1⟩ := dNum_some h1
    have hb := rbyte_w r g bs w H.out.rd n1 H.out.oct
    have hc := val_lt H.out.oct 1
    rw [v1] at hb hc
    rw [d1] at hb
    have ho1 : ∀ b ∈ b1, b < 256 := fun b hb => H.out.oct b (by rw [← d1] at hb; exact List.mem_of_mem_drop hb)
    have hc' : (c : Int) ≤ 255 := by omega
    cases h2 : dNum 4 b1 with
    | none =>
      have e0 : dOne zs bs = none := by unfold dOne; rw [h1]; dsimp only; rw [h2]
      rw [e0]
      have hn2 := dNum_none h2
      clear h1 h2 e0 v1 d1 n1
      go_enter Try.func44, Try.ntmps44
      go_wp2_with fail
      refine hb.mono ?_
      rintro _ w2 ⟨rfl, hr2, m2⟩
      have hf := rnumr_fail_w r g b1 w2 hr2 hn2
      go_wp2_with fail
      refine hf.mono ?_
      rintro _ w3 ⟨rfl, hr3, m3⟩
      exact ⟨rfl, .inl rfl, ⟨_, hr3⟩, (H.out.mv.then m2).then m3⟩
    | some p2 =>
      obtain ⟨s, b2⟩ := p2
      obtain ⟨n2, v2, d2⟩ := dNum_some h2
      have hs := val_lt ho1 4
      rw [v2] at hs
      have ho2 : ∀ b ∈ b2, b < 256 := fun b hb => ho1 b (by rw [← d2] at hb; exact List.mem_of_mem_drop hb)
      have hs' : (s : Int) ≤ 4294967295 := by omega
      have hnum : ∀ w2, RdIs w2 r g b1 false → Calls Try.prog 43 #[.pointer (some ⟨r, 0, none⟩)] w2 fun e w' => e = .returned (.int .u32 (s : Int)) ∧ RdIs w' r g b2 false ∧ Moves [r] w2 w' := fun w2 hr2 => by
        have q := rnumr_w r g b1 w2 hr2 n2 ho1
        rw [v2, d2] at q
        exact q
      cases h3 : dTxt b2 with
      | none =>
        have e0 : dOne zs bs = none := by unfold dOne; rw [h1]; dsimp only; rw [h2]; dsimp only; rw [h3]
        rw [e0]
        have hn3 := dTxt_none h3
        clear h1 h2 h3 e0 v1 d1 n1 v2 d2 n2
        go_enter Try.func44, Try.ntmps44
        go_wp2_with fail
        refine hb.mono ?_
        rintro _ w2 ⟨rfl, hr2, m2⟩
        go_wp2_with fail
        refine (hnum w2 hr2).mono ?_
        rintro _ w3 ⟨rfl, hr3, m3⟩
        have hf := rtextr_fail_w r g b2 1048576 w3 hr3 ho2 hn3
        go_wp2_with fail
        refine hf.mono ?_
        rintro _ w4 ⟨rfl, hr4, m4⟩
        exact ⟨rfl, .inl rfl, ⟨_, hr4⟩, ((H.out.mv.then m2).then m3).then m4⟩
      | some p3 =>
        obtain ⟨t, b3⟩ := p3
        obtain ⟨n3, v3, d3⟩ := dTxt_some h3
        have htxt : ∀ w3, RdIs w3 r g b2 false → Calls Try.prog 54 #[.pointer (some ⟨r, 0, none⟩), .int .i64 1048576] w3 fun e w' => ∃ v', e = .returned v' ∧ Own w' v' t ∧ RdIs w' r g b3 false ∧ Moves [r] w3 w' ∧ Fresh w3 v' := fun w3 hr3 => by
          have q := rtextr_w r g b2 1048576 w3 hr3 ho2 n3
          rw [v3, d3] at q
          exact q
        have hot : ∀ b ∈ t, b < 256 := fun b hb => ho2 b (by rw [← v3] at hb; exact List.mem_of_mem_drop (List.mem_of_mem_take hb))
        have ho3 : ∀ b ∈ b3, b < 256 := fun b hb => ho2 b (by rw [← d3] at hb; exact List.mem_of_mem_drop (List.mem_of_mem_drop hb))
        have wc : IntKind.i64.wrap (c : Int) = (c : Int) := by rw [IntWalk.i64_in _ (by omega)]
        have ws : IntKind.i64.wrap (s : Int) = (s : Int) := by rw [IntWalk.i64_in _ (by omega)]
        cases h4 : belowT zs (c : Int) with
        | false =>
          have e0 : dOne zs bs = none := by unfold dOne; rw [h1]; dsimp only; rw [h2]; dsimp only; rw [h3]; dsimp only; rw [h4]; rfl
          rw [e0]
          clear h1 h2 h3 e0 v1 d1 n1 v2 d2 n2 v3 d3 n3
          go_enter Try.func44, Try.ntmps44
          go_wp2_with fail
          refine hb.mono ?_
          rintro _ w2 ⟨rfl, hr2, m2⟩
          have T2 := H.out.read hr2 m2 ho1
          go_wp2_with fail
          refine (hnum w2 hr2).mono ?_
          rintro _ w3 ⟨rfl, hr3, m3⟩
          have T3 := T2.read hr3 m3 ho2
          go_wp2_with fail
          refine (htxt w3 hr3).mono ?_
          rintro _ w4 ⟨v4, rfl, hO4, hr4, m4, f4⟩
          have T4 := T3.read hr4 m4 ho3
          have hbl := obelow_w w0 w4 p a zs (c : Int) T4.ca (by omega)
          rw [h4] at hbl
          clear T2 T3
          go_wp2_with fail
          refine hbl.mono ?_
          rintro _ _ ⟨rfl, rfl⟩
          go_wp2_with fail
          go_ret
          exact ⟨.inr rfl, ⟨_, T4.rd⟩, T4.mv⟩
        | true =>
          have hall := belowT_all hr h4
          cases h5 : mayK (c : Int) (s : Int) t.length with
          | false =>
            have e0 : dOne zs bs = none := by unfold dOne; rw [h1]; dsimp only; rw [h2]; dsimp only; rw [h3]; dsimp only; rw [h4, h5]; rfl
            rw [e0]
            clear h1 h2 h3 e0 v1 d1 n1 v2 d2 n2 v3 d3 n3
            go_enter Try.func44, Try.ntmps44
            go_wp2_with fail
            refine hb.mono ?_
            rintro _ w2 ⟨rfl, hr2, m2⟩
            have T2 := H.out.read hr2 m2 ho1
            go_wp2_with fail
            refine (hnum w2 hr2).mono ?_
            rintro _ w3 ⟨rfl, hr3, m3⟩
            have T3 := T2.read hr3 m3 ho2
            go_wp2_with fail
            refine (htxt w3 hr3).mono ?_
            rintro _ w4 ⟨v4, rfl, hO4, hr4, m4, f4⟩
            have T4 := T3.read hr4 m4 ho3
            have hbl := obelow_w w0 w4 p a zs (c : Int) T4.ca (by omega)
            rw [h4] at hbl
            have hB4 := hO4.isB
            obtain ⟨a5, n5, c5, rfl, hn5, _⟩ := id hB4
            have hkp := okeep_no w4 (.pointer (some ⟨p, 0, none⟩)) (c : Int) (s : Int) a5 n5 c5 (by rw [← hn5]; exact h5)
            clear T2 T3 hO4 hB4
            go_wp2_with fail
            refine hbl.mono ?_
            rintro _ _ ⟨rfl, rfl⟩
            go_wp2_with fail
            refine hkp.mono ?_
            rintro _ _ ⟨rfl, rfl⟩
            go_wp2_with fail
            go_ret
            exact ⟨.inr rfl, ⟨_, T4.rd⟩, T4.mv⟩
          | true =>
            have e0 := dOne_mk h1 h2 h3 h4 h5
            rw [e0]
            obtain ⟨q1, q2⟩ := keepT_last (zs := zs) (x := ⟨(c : Int), (s : Int), strOf t⟩) (mayK_iff.1 h5).2.2.1 hall
            clear h1 h2 h3 e0 v1 d1 n1 v2 d2 n2 v3 d3 n3
            go_enter Try.func44, Try.ntmps44
            go_wp2_with fail
            refine hb.mono ?_
            rintro _ w2 ⟨rfl, hr2, m2⟩
            have T2 := H.out.read hr2 m2 ho1
            go_wp2_with fail
            refine (hnum w2 hr2).mono ?_
            rintro _ w3 ⟨rfl, hr3, m3⟩
            have T3 := T2.read hr3 m3 ho2
            go_wp2_with fail
            refine (htxt w3 hr3).mono ?_
            rintro _ w4 ⟨v4, rfl, hO4, hr4, m4, f4⟩
            have T4 := T3.read hr4 m4 ho3
            have hbl := obelow_w w0 w4 p a zs (c : Int) T4.ca (by omega)
            rw [h4] at hbl
            have hkp := okeep_w w0 w4 p a zs (c : Int) (s : Int) v4 _ t T4.ca hr hl hO4.isB hot T4.mv.size
            rw [h5, if_pos rfl, q1, Bool.true_and, decide_eq_true q2] at hkp
            obtain ⟨a5, n5, c5, rfl, hn5, _⟩ := hO4.isB
            clear T2 T3 hO4 q1 q2 hall
            go_wp2_with fail
            refine hbl.mono ?_
            rintro _ _ ⟨rfl, rfl⟩
            go_wp2_with fail
            refine hkp.mono ?_
            rintro _ w6 ⟨rfl, a6, hT6⟩
            go_wp2_with fail
            go_ret
            exact ⟨rfl, a6, T4.kept hT6⟩
end Go.Proofs.Ytoijkdknjbgebaa
