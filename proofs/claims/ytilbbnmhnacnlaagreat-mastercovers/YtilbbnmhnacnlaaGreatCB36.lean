/- ours -/
import Derived.Test.YtilbbnmhnacnlaaGreatCMta
import Derived.Test.YtilbbnmhnacnlaaGreatCB14
import Derived.Test.YtilbbnmhnacnlaaGreatCB10
import Derived.Test.YtilbbnmhnacnlaaGreatCB19
/-
  Package meta: with, Put.
-/
namespace Go.Proofs.YtilbbnmhnacnlaaGreat
open Go.RowKit

theorem OwnT.somes {w : World} {v : Value} {xs : List Ptb} (h : OwnT w v xs) (hne : xs ≠ []) : ∃ g n cap, v = .slice (some ⟨g, 0, none⟩) n cap ∧ n = xs.length := by
  rcases h.2 with ⟨rfl, h0⟩ | ⟨g', cap, cur, rfl, _⟩
  · exact absurd (List.eq_nil_of_length_eq_zero h0) hne
  · exact ⟨_, _, _, rfl, rfl⟩

def tbWith (xs ys : List Ptb) : List Ptb := ys ++ xs.filter (fun x => !tbMeet ys x)

set_option maxRecDepth 100000 in
set_option maxHeartbeats 4000000 in
theorem mtWith_w (w : World) (p : Nat) (xs : List Ptb) (h : MtIs w p xs) (hne : xs ≠ []) (hl : xs.length ≤ 16) (g : Nat) (v : Value) (ys : List Ptb) (hy : TbL w g v ys) (hyl : ys.length ≤ 4) (hyn : ys ≠ []) :
    Calls Tryz.prog 110 #[.pointer (some ⟨p, 0, none⟩), v] w fun e w' => ∃ v', e = .returned v' ∧ (∃ zs, OwnT w' v' zs ∧ zs.Perm (tbWith xs ys) ∧ SortT zs) ∧ Fresh w v' ∧ Moves [] w w' := by
  have hcl := mtClone_w w g v ys hy (by omega)
  have hal := fun w1 (m : Moves [] w w1) => mtAll_w w1 p xs (h.moves0 m) hne (by omega)
  have hme := fun w1 (m : Moves [] w w1) x => mtMeets_w w1 g v ys (hy.moves m (by simp)) (by omega) x
  obtain ⟨ad, n, cap, rfl, hn, hc, HL⟩ := hy.open
  have hstep : ∀ {i : Nat} {x : Ptb}, xs[i]? = some x → (xs.take (i + 1)).filter (fun x => !tbMeet ys x) = (xs.take i).filter (fun x => !tbMeet ys x) ++ (if tbMeet ys x then [] else [x]) := by
    intro i x hx
    rw [List.take_add_one, hx, List.filter_append]
    cases htm : tbMeet ys x <;> simp [htm]
  have hbd : ∀ i, ((xs.take i).filter (fun x => !tbMeet ys x)).length ≤ 16 := by
    intro i
    have h1 := List.length_filter_le (fun x => !tbMeet ys x) (xs.take i)
    have h2 : (xs.take i).length ≤ xs.length := List.length_take_le' _ _
    omega
  have HXL : Hid (xs.length ≤ 16) := hl
  have HYL : Hid (ys.length ≤ 4) := hyl
  have HYN : Hid (ys ≠ []) := hyn
  clear h hy hl hyl hyn
  go_enter Tryz.func110, Tryz.ntmps110
  go_wp2_with fail
  refine hcl.mono ?_
  rintro _ w1 ⟨v1, rfl, hO1, hF1, m1⟩
  obtain ⟨ad1, n1, cap1, rfl, hn1⟩ := hO1.open
  have HO1 : Hid (OwnT w1 (.slice ad1 n1 cap1) ys) := hO1
  clear hO1
  go_wp2_with fail
  refine (hal w1 m1).mono ?_
  rintro _ w2 ⟨v2, rfl, hO2, hF2, m2⟩
  obtain ⟨g2, hT2, hg2⟩ := hO2.ex hF2
  obtain ⟨ad2, n2, cap2, rfl, hn2, hc2, HT2⟩ := hT2.open
  have m12 : Moves [] w w2 := m1.then m2
  have HO1b : Hid (OwnT w2 (.slice ad1 n1 cap1) ys) := HO1.out.moves m2 (by simp)
  have H12 : Hid (w2.heap.size ≤ w2.heap.size) := Nat.le_refl _
  have hne2 : Hid (∀ k, (Value.slice ad1 n1 cap1).ownBlock = some k → k ≠ g2) := by
    intro k hk e
    subst e
    have := HO1.out.lt hk
    omega
  have hw2 : Hid (w1.heap.size ≤ w2.heap.size) := m2.size
  clear hT2 hO2 hF2
  go_wp2_with fail
  go_loopw [5, 13] (fun vo vi wr => ∃ (i : Nat) (u : Value), i ≤ n2 ∧ u = vo ∧ vi = .int .i64 (i : Nat) ∧ Hid (OwnT wr u (ys ++ (xs.take i).filter (fun x => !tbMeet ys x))) ∧ Fresh w u ∧ Moves [] w wr ∧ Hid (TbL wr g2 (.slice ad2 n2 cap2) xs) ∧ Hid (∀ k, u.ownBlock = some k → k ≠ g2) ∧ Hid (g2 < wr.heap.size)) (fun _ vi _ => n2 - (intOf vi).toNat)
  case atStart =>
    refine ⟨0, _, Nat.zero_le _, rfl, rfl, (by unfold Hid; simpa using HO1b.out), hF1, m12, HT2.out, hne2.out, ?_⟩
    obtain ⟨x0, hx0⟩ : ∃ x, xs[0]? = some x := by
      cases xs with
      | nil => exact absurd rfl hne
      | cons x t => exact ⟨x, rfl⟩
    obtain ⟨off, _, h1, _⟩ := HT2.out.at hx0
    exact lt_of_cell h1
  case round =>
    obtain ⟨i, vo, hin, rfl, rfl, hO, hF, mr, hT, hap, hg2⟩ := hrel
    by_cases hlt : i < n2
    · have hk3 : (i : Int) < n2 := by omega
      have hi3 : i < 1000 := by have := hn2.out; have := HXL.out; omega
      obtain ⟨x, hx⟩ : ∃ x, xs[i]? = some x := ⟨_, List.getElem?_eq_getElem (by have := hn2.out; omega)⟩
      obtain ⟨off, rfl, y0, y1, y2, y3⟩ := hT.out.at hx
      have mA : Moves [] wr (wr.alloc (.cells #[.string x.lo, .string x.hi, .int .i64 x.g, .int .i64 x.n] 54)) := (Moves.refl _ _).alloc _
      have hA := heap_alloc_new wr (.cells #[.string x.lo, .string x.hi, .int .i64 x.g, .int .i64 x.n] 54)
      have HX : Hid (xs[i]? = some x) := hx
      clear hx
      go_wp2_with fail
      refine (hme _ (mr.then mA) x).mono ?_
      rintro _ w3 ⟨rfl, m3⟩
      have mr3 : Moves [] wr w3 := mA.then m3
      have hb3 := m3.at hA (by simp)
      obtain ⟨d0, d1, d2, d3, _⟩ := four_cells hb3
      clear y0 y1 y2 y3
      cases htm : tbMeet ys x with
      | true =>
        have HTM : Hid (tbMeet ys x = true) := htm
        clear htm
        obtain ⟨ad5, n5, cap5, rfl, hn5⟩ := hO.out.open
        go_wp2_with fail
        go_roundw
        case rel =>
          refine ⟨i + 1, _, by omega, rfl, by go_num, ?_, hF, mr.then mr3, hT.out.moves mr3 (by simp), hap.out, by have := mr3.size; have := hg2.out; unfold Hid; omega⟩
          unfold Hid
          rw [hstep HX.out, HTM.out]
          simpa using hO.out.moves mr3 (by simp)
        case measure => simp [intOf]; omega
      | false =>
        have HTM : Hid (tbMeet ys x = false) := htm
        clear htm
        have mB : Moves [] w3 (w3.alloc (.cells #[.string x.lo, .string x.hi, .int .i64 x.g, .int .i64 x.n] 54)) := (Moves.refl _ _).alloc _
        have hO3 : Hid (OwnT (w3.alloc (.cells #[.string x.lo, .string x.hi, .int .i64 x.g, .int .i64 x.n] 54)) vo (ys ++ (xs.take i).filter (fun x => !tbMeet ys x))) := hO.out.moves (mr3.then mB) (by simp)
        have hN : Hid (TbL (w3.alloc (.cells #[.string x.lo, .string x.hi, .int .i64 x.g, .int .i64 x.n] 54)) w3.heap.size (.slice (some ⟨w3.heap.size, 0, none⟩) 1 1) [x]) := tb_new w3 x
        have hbd1 : Hid ((ys ++ (xs.take i).filter (fun x => !tbMeet ys x)).length + [x].length ≤ 1048576) := by
          have := hbd i
          have := HYL.out
          unfold Hid
          rw [List.length_append]
          simp only [List.length_cons, List.length_nil]
          omega
        have mr4 := mr3.then mB
        go_wp2_with (at_builtin; refine tabs_append _ _ rfl _ _ w3.heap.size _ [x] rfl rfl rfl hO3.out hN.out hbd1.out ?_; intro v' w4 hO4 m4 hla; obtain ⟨ad5, n5, cap5, rfl, hn5⟩ := hO4.open)
        go_roundw
        case rel =>
          have mfin : Moves vo.ownBlock.toList wr w4 := (mr4.mono (by simp)).then m4
          refine ⟨i + 1, _, by omega, rfl, by go_num, ?_, lain_fresh hF (mr.then mr4).size hla, fresh_trans (mr.then mr4) hF m4, hT.out.moves mfin (fun hm => hap.out g2 (Option.mem_toList.1 hm) rfl), ?_, by have := mfin.size; have := hg2.out; unfold Hid; omega⟩
          · unfold Hid
            rw [hstep HX.out, HTM.out, ← List.append_assoc]
            exact hO4
          · intro k hk e
            subst e
            rcases hla with e | e
            · rw [e] at hk; exact hap.out _ hk rfl
            · rw [e] at hk
              simp at hk
              have hs4 := mr3.size
              have hg := hg2.out
              omega
        case measure => simp [intOf]; omega
    · obtain rfl : i = n2 := by omega
      have e : xs.take i = xs := List.take_of_length_le (by have := hn2.out; omega)
      rw [e] at hO
      have hk3 : ¬ (i : Int) < i := by omega
      obtain ⟨g6, n6, cap6, rfl, hn6⟩ := hO.out.somes (by have := HYN.out; simp [this])
      have hso := mtSort_w wr g6 n6 cap6 _ hO.out hn6 (by
        rw [hn6, List.length_append]
        have h1 := List.length_filter_le (fun x => !tbMeet ys x) xs
        have := HYL.out
        have := HXL.out
        omega)
      clear hn6
      go_wp2_with fail
      refine hso.mono ?_
      rintro _ w7 ⟨⟨vv, rfl⟩, hR⟩
      have HR : Hid (∃ zs, OwnT w7 (.slice (some ⟨g6, 0, none⟩) n6 cap6) zs ∧ zs.Perm (ys ++ xs.filter (fun x => !tbMeet ys x)) ∧ SortT zs ∧ Moves [g6] wr w7) := hR
      clear hR
      go_wp2_with fail
      go_ret
      obtain ⟨zs, z1, z2, z3, z4⟩ := HR.out
      exact ⟨_, rfl, ⟨zs, z1, z2, z3⟩, hF, mr.trans z4 (fun k hk => .inr (by simp at hk; subst hk; exact hF _ rfl))⟩

def PutIs (xs ys : List Ptb) (r : Int) (xs' : List Ptb) : Prop :=
  ((ys = [] ∨ inRow ys = false) ∧ r = 1 ∧ xs' = xs) ∨ (ys ≠ [] ∧ inRow ys = true ∧ ∃ zs, zs.Perm (tbWith xs ys) ∧ SortT zs ∧ r = mayT zs ∧ xs' = if r = 0 then zs else xs)

end Go.Proofs.YtilbbnmhnacnlaaGreat
/-
  law11's asked: some tablets, four at most.
-/
namespace Go.Proofs.YtilbbnmhnacnlaaGreat
open Go.RowKit

theorem tb_new2 (w : World) (x y : Ptb) : TbL (w.alloc (.cells #[.string x.lo, .string x.hi, .int .i64 x.g, .int .i64 x.n, .string y.lo, .string y.hi, .int .i64 y.g, .int .i64 y.n] 54)) w.heap.size (.slice (some ⟨w.heap.size, 0, none⟩) 2 2) [x, y] :=
  ⟨_, _, _, rfl, rfl, Nat.le_refl _, fun h => by simp at h, TbAt.block (xs := [x, y]) (heap_alloc_new w _)⟩

end Go.Proofs.YtilbbnmhnacnlaaGreat
/-
  law11's known; what is held against what.
-/
namespace Go.Proofs.YtilbbnmhnacnlaaGreat
open Go.RowKit

theorem perm_sort {zs ys : List Ptb} (hp : zs.Perm ys) (hs : SortT zs) (hr : RiseZ (ys.map Ptb.lo)) : zs = ys := by
  have hr' : ys.Pairwise (fun a b => zlt a.lo b.lo = true) := by
    unfold RiseZ at hr
    rw [List.pairwise_map] at hr
    exact hr
  have hs2 : SortT ys := hr'.imp (fun h => zlt_asymm h)
  refine List.Perm.eq_of_pairwise (le := fun (a b : Ptb) => zlt b.lo a.lo = false) ?_ hs hs2 hp
  intro a b ha hb h1 h2
  have e := zlt_total h2 h1
  have ha' := hp.mem_iff.1 ha
  obtain ⟨i, hi, rfl⟩ := List.getElem_of_mem ha'
  obtain ⟨j, hj, rfl⟩ := List.getElem_of_mem hb
  rcases Nat.lt_trichotomy i j with h | h | h
  · have := List.pairwise_iff_getElem.1 hr' i j hi hj h
    rw [e, zlt_self] at this
    simp at this
  · subst h; rfl
  · have := List.pairwise_iff_getElem.1 hr' j i hj hi h
    rw [e, zlt_self] at this
    simp at this

def k11 : List Ptb := [⟨⟨#[]⟩, ⟨#[]⟩, 1, 1⟩]
theorem zbsl (a : Array UInt8) : (ByteArray.mk a).toList = a.toList := by rw [ByteArray.toList_eq]
theorem k11_may : mayT k11 = 0 := by
  simp only [mayT, k11, Ptb.sp, List.map_cons, List.map_nil, spCov, spK, spR, spB, spE, bz, zlt, zbsl]
  decide
theorem may_cov {xs : List Ptb} (h : mayT xs = 0) : spCov (xs.map Ptb.sp) = true ∧ xs.any tbBad = false ∧ xs.length ≤ 16 := by
  unfold mayT at h
  split at h
  · simp at h
  · rename_i h1
    split at h
    · simp at h
    · simp only [Bool.or_eq_true, Bool.not_eq_true', not_or, Bool.not_eq_false, Bool.not_eq_true] at h1
      exact ⟨h1.1, h1.2, by omega⟩
end Go.Proofs.YtilbbnmhnacnlaaGreat
/-
  MetaSplits' walk.
-/
namespace Go.Proofs.YtilbbnmhnacnlaaGreat
open Go.RowKit

theorem spK_next : ∀ (t : List Ptb) (hi : ByteArray), spK hi (t.map Ptb.sp) = true → (∀ i x y, t[i]? = some x → t[i + 1]? = some y → bz x.hi = false ∧ x.hi = y.lo) ∧ (∀ i x, t[i]? = some x → i + 1 = t.length → bz x.hi = true) ∧ (∀ y, t[0]? = some y → bz hi = false ∧ hi = y.lo) ∧ (t = [] → bz hi = true)
  | [], hi, h => ⟨fun i x y hx => by simp at hx, fun i x hx => by simp at hx, fun y hy => by simp at hy, fun _ => h⟩
  | a :: t, hi, h => by
    simp only [List.map_cons, spK, Bool.and_eq_true, Bool.not_eq_true'] at h
    obtain ⟨⟨⟨h1, h2⟩, h3⟩, h4⟩ := h
    obtain ⟨p1, p2, p3, p4⟩ := spK_next t a.hi h4
    refine ⟨fun i x y hx hy => ?_, fun i x hx hi' => ?_, fun y hy => ?_, fun e => by simp at e⟩
    · match i, hx, hy with
      | 0, hx, hy => simp at hx; subst hx; exact p3 y (by simpa using hy)
      | i + 1, hx, hy => exact p1 i x y (by simpa using hx) (by simpa using hy)
    · match i, hx with
      | 0, hx => simp at hx hi'; subst hx; exact p4 hi'
      | i + 1, hx => exact p2 i x (by simpa using hx) (by simpa using hi')
    · simp at hy; subst hy; exact ⟨h1, zeq_iff.1 h2⟩
theorem cov_next {xs : List Ptb} (h : spCov (xs.map Ptb.sp) = true) : (∀ i x y, xs[i]? = some x → xs[i + 1]? = some y → bz x.hi = false ∧ x.hi = y.lo) ∧ (∀ i x, xs[i]? = some x → i + 1 = xs.length → bz x.hi = true) := by
  cases xs with
  | nil => simp [spCov] at h
  | cons a t =>
    simp only [List.map_cons, spCov, Bool.and_eq_true] at h
    obtain ⟨⟨h1, h2⟩, h4⟩ := h
    obtain ⟨p1, p2, p3, p4⟩ := spK_next t a.hi h4
    refine ⟨fun i x y hx hy => ?_, fun i x hx hi' => ?_⟩
    · match i, hx, hy with
      | 0, hx, hy => simp at hx; subst hx; exact p3 y (by simpa using hy)
      | i + 1, hx, hy => exact p1 i x y (by simpa using hx) (by simpa using hy)
    · match i, hx with
      | 0, hx => simp at hx hi'; subst hx; exact p4 hi'
      | i + 1, hx => exact p2 i x (by simpa using hx) (by simpa using hi')
theorem last_has {xs : List Ptb} (h : spCov (xs.map Ptb.sp) = true) {s : ByteArray} {i : Nat} (hi : LastZ (xs.map Ptb.lo) s i) {x : Ptb} (hx : xs[i]? = some x) : spH x.sp s = true := by
  obtain ⟨c1, c2⟩ := cov_next h
  have hl : (xs.map Ptb.lo)[i]? = some x.lo := by rw [List.getElem?_map, hx]; rfl
  have a1 := hi.lo i x.lo hl (Nat.le_refl _)
  unfold spH spB
  rw [show x.sp.lo = x.lo from rfl, show x.sp.hi = x.hi from rfl, a1]
  by_cases hlast : i + 1 = xs.length
  · rw [c2 i x hx hlast]; rfl
  · have hlt := hi.lt
    simp only [List.length_map] at hlt
    obtain ⟨y, hy⟩ : ∃ y, xs[i + 1]? = some y := ⟨_, List.getElem?_eq_getElem (by omega)⟩
    obtain ⟨e1, e2⟩ := c1 i x y hx hy
    have a2 := hi.hi (i + 1) y.lo (by rw [List.getElem?_map, hy]; rfl) (by omega)
    rw [e2, a2]
    simp
theorem last_first {xs : List Ptb} (h : spCov (xs.map Ptb.sp) = true) {i : Nat} {x : Ptb} (hx : xs[i]? = some x) : bz x.lo = decide (i = 0) := by
  obtain ⟨hr, a, t, rfl, ha⟩ := cov_rise h
  by_cases hi : i = 0
  · subst hi
    simp at hx
    subst hx
    rw [bz_iff.2 ha]
    rfl
  · rw [decide_eq_false hi]
    have h0 : ((a :: t).map Ptb.lo)[0]? = some a.lo := rfl
    have h1 : ((a :: t).map Ptb.lo)[i]? = some x.lo := by rw [List.getElem?_map, hx]; rfl
    have := hr.lt h0 h1 (by omega)
    rw [ha, nil_zlt] at this
    simpa using this
theorem may_ne {xs : List Ptb} (h : mayT xs = 0) : xs ≠ [] := by
  rintro rfl
  simp [mayT, spCov] at h

end Go.Proofs.YtilbbnmhnacnlaaGreat
/-
  law11's tells: of a table of just these tablets it is true.
-/
namespace Go.Proofs.YtilbbnmhnacnlaaGreat
open Go.RowKit

theorem has_one {xs : List Ptb} (h : spCov (xs.map Ptb.sp) = true) {s : ByteArray} {i0 : Nat} (hi : LastZ (xs.map Ptb.lo) s i0) {i : Nat} {x : Ptb} (hx : xs[i]? = some x) : spH x.sp s = decide (i = i0) := by
  have hl : (xs.map Ptb.lo)[i]? = some x.lo := by rw [List.getElem?_map, hx]; rfl
  rcases Nat.lt_trichotomy i i0 with hlt | rfl | hlt
  · rw [decide_eq_false (by omega)]
    have hlt0 := hi.lt
    simp only [List.length_map] at hlt0
    obtain ⟨y, hy⟩ : ∃ y, xs[i + 1]? = some y := ⟨_, List.getElem?_eq_getElem (by omega)⟩
    obtain ⟨e1, e2⟩ := (cov_next h).1 i x y hx hy
    have a2 := hi.lo (i + 1) y.lo (by rw [List.getElem?_map, hy]; rfl) (by omega)
    unfold spH spB
    rw [show x.sp.hi = x.hi from rfl, e1, e2, a2]
    simp
  · rw [last_has h hi hx]; simp
  · rw [decide_eq_false (by omega)]
    have a2 := hi.hi i x.lo hl hlt
    unfold spH
    rw [show x.sp.lo = x.lo from rfl, a2]
    rfl

end Go.Proofs.YtilbbnmhnacnlaaGreat
/-
  law11's spans, right; what New and the document's own test say of the same tablets.
-/
namespace Go.Proofs.YtilbbnmhnacnlaaGreat
open Go.RowKit

end Go.Proofs.YtilbbnmhnacnlaaGreat
