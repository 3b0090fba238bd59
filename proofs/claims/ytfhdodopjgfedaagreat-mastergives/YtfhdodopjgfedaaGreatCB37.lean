/- ours -/
import Derived.Test.YtfhdodopjgfedaaGreatCMta
import Derived.Test.YtfhdodopjgfedaaGreatCB13
import Derived.Test.YtfhdodopjgfedaaGreatCB08
import Derived.Test.YtfhdodopjgfedaaGreatCB18
/-
  Package meta: with, Put.
-/
namespace Go.Proofs.YtfhdodopjgfedaaGreat
open Go.RowKit

theorem OwnT.somes {w : World} {v : Value} {xs : List Ptb} (h : OwnT w v xs) (hne : xs ≠ []) : ∃ g n cap, v = .slice (some ⟨g, 0, none⟩) n cap ∧ n = xs.length := by
  rcases h.2 with ⟨rfl, h0⟩ | ⟨g', cap, cur, rfl, _⟩
  · exact absurd (List.eq_nil_of_length_eq_zero h0) hne
  · exact ⟨_, _, _, rfl, rfl⟩

def tbWith (xs ys : List Ptb) : List Ptb := ys ++ xs.filter (fun x => !tbMeet ys x)

set_option maxRecDepth 100000 in
set_option maxHeartbeats 4000000 in
theorem mtWith_w (w : World) (p : Nat) (xs : List Ptb) (h : MtIs w p xs) (hne : xs ≠ []) (hl : xs.length ≤ 16) (g : Nat) (v : Value) (ys : List Ptb) (hy : TbL w g v ys) (hyl : ys.length ≤ 4) (hyn : ys ≠ []) :
    Calls Tryz.prog 110 #[.pointer (some ⟨p, 0, none⟩), v] w fun e w' => ∃ v', e = .returned v' ∧ (∃ zs, OwnT w' v' zs ∧ zs.Perm (tbWith xs ys) ∧ SortT zs) ∧ Fresh w v' ∧ Moves [] w w' := by
  have hcl := mtClone_w w g v ys hy (by omega)
  have hal := fun w1 (m : Moves [] w w1) => mtAll_w w1 p xs (h.moves0 m) hne (by omega)
  have hme := fun w1 (m : Moves [] w w1) x => mtMeets_w w1 g v ys (hy.moves m (by simp)) (by omega) x
  obtain ⟨ad, n, cap, rfl, hn, hc, HL⟩ := hy.open
  have hstep : ∀ {i : Nat} {x : Ptb}, xs[i]? = some x → (xs.take (i + 1)).filter (fun x => !tbMeet ys x) = (xs.take i).filter (fun x => !tbMeet ys x) ++ (if tbMeet ys x then [] else [x]) := by
    intro i x hx
    rw [List.take_add_one, hx, List.filter_append]
    cases htm : tbMeet ys x <;> simp [htm]
  have hbd : ∀ i, ((xs.take i).filter (fun x => !tbMeet ys x)).length ≤ 16 := by
    intro i
    have h1 := List.length_filter_le (fun x => !tbMeet ys x) (xs.take i)
    have h2 : (xs.take i).length ≤ xs.length := List.length_take_le' _ _
    omega
  have HXL : Hid (xs.length ≤ 16) := hl
  have HYL : Hid (ys.length ≤ 4) := hyl
  have HYN : Hid (ys ≠ []) := hyn
  clear h hy hl hyl hyn
  go_enter Tryz.func110, Tryz.ntmps110
  go_wp2_with fail
  refine hcl.mono ?_
  rintro _ w1 ⟨v1, rfl, hO1, hF1, m1⟩
  obtain ⟨ad1, n1, cap1, rfl, hn1⟩ := hO1.open
  have HO1 : Hid (OwnT w1 (.slice ad1 n1 cap1) ys) := hO1
  clear hO1
  go_wp2_with fail
  refine (hal w1 m1).mono ?_
  rintro _ w2 ⟨v2, rfl, hO2, hF2, m2⟩
  obtain ⟨g2, hT2, hg2⟩ := hO2.ex hF2
  obtain ⟨ad2, n2, cap2, rfl, hn2, hc2, HT2⟩ := hT2.open
  have m12 : Moves [] w w2 := m1.then m2
  have HO1b : Hid (OwnT w2 (.slice ad1 n1 cap1) ys) := HO1.out.moves m2 (by simp)
  have H12 : Hid (w2.heap.size ≤ w2.heap.size) := Nat.le_refl _
  have hne2 : Hid (∀ k, (Value.slice ad1 n1 cap1).ownBlock = some k → k ≠ g2) := by
    intro k hk e
    subst e
    have := HO1.out.lt hk
    omega
  have hw2 : Hid (w1.heap.size ≤ w2.heap.size) := m2.size
  clear hT2 hO2 hF2
  go_wp2_with fail
  go_loopw [5, 13] (fun vo vi wr => ∃ (i : Nat) (u : Value), i ≤ n2 ∧ u = vo ∧ vi = .int .i64 (i : Nat) ∧ Hid (OwnT wr u (ys ++ (xs.take i).filter (fun x => !tbMeet ys x))) ∧ Fresh w u ∧ Moves [] w wr ∧ Hid (TbL wr g2 (.slice ad2 n2 cap2) xs) ∧ Hid (∀ k, u.ownBlock = some k → k ≠ g2) ∧ Hid (g2 < wr.heap.size)) (fun _ vi _ => n2 - (intOf vi).toNat)
  case atStart =>
    refine ⟨0, _, Nat.zero_le _, rfl, rfl, (by unfold Hid; simpa using HO1b.out), hF1, m12, HT2.out, hne2.out, ?_⟩
    obtain ⟨x0, hx0⟩ : ∃ x, xs[0]? = some x := by
      cases xs with
      | nil => exact absurd rfl hne
      | cons x t => exact ⟨x, rfl⟩
    obtain ⟨off, _, h1, _⟩ := HT2.out.at hx0
    exact lt_of_cell h1
  case round =>
    obtain ⟨i, vo, hin, rfl, rfl, hO, hF, mr, hT, hap, hg2⟩ := hrel
    by_cases hlt : i < n2
    · have hk3 : (i : Int) < n2 := by omega
      have hi3 : i < 1000 := by have := hn2.out; have := HXL.out; omega
      obtain ⟨x, hx⟩ : ∃ x, xs[i]? = some x := ⟨_, List.getElem?_eq_getElem (by have := hn2.out; omega)⟩
      obtain ⟨off, rfl, y0, y1, y2, y3⟩ := hT.out.at hx
      have mA : Moves [] wr (wr.alloc (.cells #[.string x.lo, .string x.hi, .int .i64 x.g, .int .i64 x.n] 54)) := (Moves.refl _ _).alloc _
      have hA := heap_alloc_new wr (.cells #[.string x.lo, .string x.hi, .int .i64 x.g, .int .i64 x.n] 54)
      have HX : Hid (xs[i]? = some x) := hx
      clear hx
      go_wp2_with fail
      refine (hme _ (mr.then mA) x).mono ?_
      rintro _ w3 ⟨rfl, m3⟩
      have mr3 : Moves [] wr w3 := mA.then m3
      have hb3 := m3.at hA (by simp)
      obtain ⟨d0, d1, d2, d3, _⟩ := four_cells hb3
      clear y0 y1 y2 y3
      cases htm : tbMeet ys x with
      | true =>
        have HTM : Hid (tbMeet ys x = true) := htm
        clear htm
        obtain ⟨ad5, n5, cap5, rfl, hn5⟩ := hO.out.open
        go_wp2_with fail
        go_roundw
        case rel =>
          refine ⟨i + 1, _, by omega, rfl, by go_num, ?_, hF, mr.then mr3, hT.out.moves mr3 (by simp), hap.out, by have := mr3.size; have := hg2.out; unfold Hid; omega⟩
          unfold Hid
          rw [hstep HX.out, HTM.out]
          simpa using hO.out.moves mr3 (by simp)
        case measure => simp [intOf]; omega
      | false =>
        have HTM : Hid (tbMeet ys x = false) := htm
        clear htm
        have mB : Moves [] w3 (w3.alloc (.cells #[.string x.lo, .string x.hi, .int .i64 x.g, .int .i64 x.n] 54)) := (Moves.refl _ _).alloc _
        have hO3 : Hid (OwnT (w3.alloc (.cells #[.string x.lo, .string x.hi, .int .i64 x.g, .int .i64 x.n] 54)) vo (ys ++ (xs.take i).filter (fun x => !tbMeet ys x))) := hO.out.moves (mr3.then mB) (by simp)
        have hN : Hid (TbL (w3.alloc (.cells #[.string x.lo, .string x.hi, .int .i64 x.g, .int .i64 x.n] 54)) w3.heap.size (.slice (some ⟨w3.heap.size, 0, none⟩) 1 1) [x]) := tb_new w3 x
        have hbd1 : Hid ((ys ++ (xs.take i).filter (fun x => !tbMeet ys x)).length + [x].length ≤ 1048576) := by
          have := hbd i
          have := HYL.out
          unfold Hid
          rw [List.length_append]
          simp only [List.length_cons, List.length_nil]
          omega
        have mr4 := mr3.then mB
        go_wp2_with (at_builtin; refine tabs_append _ _ rfl _ _ w3.heap.size _ [x] rfl rfl rfl hO3.out hN.out hbd1.out ?_; intro v' w4 hO4 m4 hla; obtain ⟨ad5, n5, cap5, rfl, hn5⟩ := hO4.open)
        go_roundw
        case rel =>
          have mfin : Moves vo.ownBlock.toList wr w4 := (mr4.mono (by simp)).then m4
          refine ⟨i + 1, _, by omega, rfl, by go_num, ?_, lain_fresh hF (mr.then mr4).size hla, fresh_trans (mr.then mr4) hF m4, hT.out.moves mfin (fun hm => hap.out g2 (Option.mem_toList.1 hm) rfl), ?_, by have := mfin.size; have := hg2.out; unfold Hid; omega⟩
          · unfold Hid
            rw [hstep HX.out, HTM.out, ← List.append_assoc]
            exact hO4
          · intro k hk e
            subst e
            rcases hla with e | e
            · rw [e] at hk; exact hap.out _ hk rfl
            · rw [e] at hk
              simp at hk
              have hs4 := mr3.size
              have hg := hg2.out
              omega
        case measure => simp [intOf]; omega
    · obtain rfl : i = n2 := by omega
      have e : xs.take i = xs := List.take_of_length_le (by have := hn2.out; omega)
      rw [e] at hO
      have hk3 : ¬ (i : Int) < i := by omega
      obtain ⟨g6, n6, cap6, rfl, hn6⟩ := hO.out.somes (by have := HYN.out; simp [this])
      have hso := mtSort_w wr g6 n6 cap6 _ hO.out hn6 (by
        rw [hn6, List.length_append]
        have h1 := List.length_filter_le (fun x => !tbMeet ys x) xs
        have := HYL.out
        have := HXL.out
        omega)
      clear hn6
      go_wp2_with fail
      refine hso.mono ?_
      rintro _ w7 ⟨⟨vv, rfl⟩, hR⟩
      have HR : Hid (∃ zs, OwnT w7 (.slice (some ⟨g6, 0, none⟩) n6 cap6) zs ∧ zs.Perm (ys ++ xs.filter (fun x => !tbMeet ys x)) ∧ SortT zs ∧ Moves [g6] wr w7) := hR
      clear hR
      go_wp2_with fail
      go_ret
      obtain ⟨zs, z1, z2, z3, z4⟩ := HR.out
      exact ⟨_, rfl, ⟨zs, z1, z2, z3⟩, hF, mr.trans z4 (fun k hk => .inr (by simp at hk; subst hk; exact hF _ rfl))⟩

def PutIs (xs ys : List Ptb) (r : Int) (xs' : List Ptb) : Prop :=
  ((ys = [] ∨ inRow ys = false) ∧ r = 1 ∧ xs' = xs) ∨ (ys ≠ [] ∧ inRow ys = true ∧ ∃ zs, zs.Perm (tbWith xs ys) ∧ SortT zs ∧ r = mayT zs ∧ xs' = if r = 0 then zs else xs)

end Go.Proofs.YtfhdodopjgfedaaGreat
/-
  law11's asked: some tablets, four at most.
-/
namespace Go.Proofs.YtfhdodopjgfedaaGreat
open Go.RowKit

theorem tb_new2 (w : World) (x y : Ptb) : TbL (w.alloc (.cells #[.string x.lo, .string x.hi, .int .i64 x.g, .int .i64 x.n, .string y.lo, .string y.hi, .int .i64 y.g, .int .i64 y.n] 54)) w.heap.size (.slice (some ⟨w.heap.size, 0, none⟩) 2 2) [x, y] :=
  ⟨_, _, _, rfl, rfl, Nat.le_refl _, fun h => by simp at h, TbAt.block (xs := [x, y]) (heap_alloc_new w _)⟩

end Go.Proofs.YtfhdodopjgfedaaGreat
/-
  law11's known; what is held against what.
-/
namespace Go.Proofs.YtfhdodopjgfedaaGreat
open Go.RowKit

theorem perm_sort {zs ys : List Ptb} (hp : zs.Perm ys) (hs : SortT zs) (hr : RiseZ (ys.map Ptb.lo)) : zs = ys := by
  have hr' : ys.Pairwise (fun a b => zlt a.lo b.lo = true) := by
    unfold RiseZ at hr
    rw [List.pairwise_map] at hr
    exact hr
  have hs2 : SortT ys := hr'.imp (fun h => zlt_asymm h)
  refine List.Perm.eq_of_pairwise (le := fun (a b : Ptb) => zlt b.lo a.lo = false) ?_ hs hs2 hp
  intro a b ha hb h1 h2
  have e := zlt_total h2 h1
  have ha' := hp.mem_iff.1 ha
  obtain ⟨i, hi, rfl⟩ := List.getElem_of_mem ha'
  obtain ⟨j, hj, rfl⟩ := List.getElem_of_mem hb
  rcases Nat.lt_trichotomy i j with h | h | h
  · have := List.pairwise_iff_getElem.1 hr' i j hi hj h
    rw [e, zlt_self] at this
    simp at this
  · subst h; rfl
  · have := List.pairwise_iff_getElem.1 hr' j i hj hi h
    rw [e, zlt_self] at this
    simp at this

def k11 : List Ptb := [⟨⟨#[]⟩, ⟨#[]⟩, 1, 1⟩]
theorem zbsl (a : Array UInt8) : (ByteArray.mk a).toList = a.toList := by rw [ByteArray.toList_eq]
theorem k11_may : mayT k11 = 0 := by
  simp only [mayT, k11, Ptb.sp, List.map_cons, List.map_nil, spCov, spK, spR, spB, spE, bz, zlt, zbsl]
  decide
theorem may_cov {xs : List Ptb} (h : mayT xs = 0) : spCov (xs.map Ptb.sp) = true ∧ xs.any tbBad = false ∧ xs.length ≤ 16 := by
  unfold mayT at h
  split at h
  · simp at h
  · rename_i h1
    split at h
    · simp at h
    · simp only [Bool.or_eq_true, Bool.not_eq_true', not_or, Bool.not_eq_false, Bool.not_eq_true] at h1
      exact ⟨h1.1, h1.2, by omega⟩
end Go.Proofs.YtfhdodopjgfedaaGreat
/-
  MetaSplits' walk.
-/
namespace Go.Proofs.YtfhdodopjgfedaaGreat
open Go.RowKit

theorem spK_next : ∀ (t : List Ptb) (hi : ByteArray), spK hi (t.map Ptb.sp) = true → (∀ i x y, t[i]? = some x → t[i + 1]? = some y → bz x.hi = false ∧ x.hi = y.lo) ∧ (∀ i x, t[i]? = some x → i + 1 = t.length → bz x.hi = true) ∧ (∀ y, t[0]? = some y → bz hi = false ∧ hi = y.lo) ∧ (t = [] → bz hi = true)
  | [], hi, h => ⟨fun i x y hx => by simp at hx, fun i x hx => by simp at hx, fun y hy => by simp at hy, fun _ => h⟩
  | a :: t, hi, h => by
    simp only [List.map_cons, spK, Bool.and_eq_true, Bool.not_eq_true'] at h
    obtain ⟨⟨⟨h1, h2⟩, h3⟩, h4⟩ := h
    obtain ⟨p1, p2, p3, p4⟩ := spK_next t a.hi h4
    refine ⟨fun i x y hx hy => ?_, fun i x hx hi' => ?_, fun y hy => ?_, fun e => by simp at e⟩
    · match i, hx, hy with
      | 0, hx, hy => simp at hx; subst hx; exact p3 y (by simpa using hy)
      | i + 1, hx, hy => exact p1 i x y (by simpa using hx) (by simpa using hy)
    · match i, hx with
      | 0, hx => simp at hx hi'; subst hx; exact p4 hi'
      | i + 1, hx => exact p2 i x (by simpa using hx) (by simpa using hi')
    · simp at hy; subst hy; exact ⟨h1, zeq_iff.1 h2⟩
theorem cov_next {xs : List Ptb} (h : spCov (xs.map Ptb.sp) = true) : (∀ i x y, xs[i]? = some x → xs[i + 1]? = some y → bz x.hi = false ∧ x.hi = y.lo) ∧ (∀ i x, xs[i]? = some x → i + 1 = xs.length → bz x.hi = true) := by
  cases xs with
  | nil => simp [spCov] at h
  | cons a t =>
    simp only [List.map_cons, spCov, Bool.and_eq_true] at h
    obtain ⟨⟨h1, h2⟩, h4⟩ := h
    obtain ⟨p1, p2, p3, p4⟩ := spK_next t a.hi h4
    refine ⟨fun i x y hx hy => ?_, fun i x hx hi' => ?_⟩
    · match i, hx, hy with
      | 0, hx, hy => simp at hx; subst hx; exact p3 y (by simpa using hy)
      | i + 1, hx, hy => exact p1 i x y (by simpa using hx) (by simpa using hy)
    · match i, hx with
      | 0, hx => simp at hx hi'; subst hx; exact p4 hi'
      | i + 1, hx => exact p2 i x (by simpa using hx) (by simpa using hi')
theorem last_has {xs : List Ptb} (h : spCov (xs.map Ptb.sp) = true) {s : ByteArray} {i : Nat} (hi : LastZ (xs.map Ptb.lo) s i) {x : Ptb} (hx : xs[i]? = some x) : spH x.sp s = true := by
  obtain ⟨c1, c2⟩ := cov_next h
  have hl : (xs.map Ptb.lo)[i]? = some x.lo := by rw [List.getElem?_map, hx]; rfl
  have a1 := hi.lo i x.lo hl (Nat.le_refl _)
  unfold spH spB
  rw [show x.sp.lo = x.lo from rfl, show x.sp.hi = x.hi from rfl, a1]
  by_cases hlast : i + 1 = xs.length
  · rw [c2 i x hx hlast]; rfl
  · have hlt := hi.lt
    simp only [List.length_map] at hlt
    obtain ⟨y, hy⟩ : ∃ y, xs[i + 1]? = some y := ⟨_, List.getElem?_eq_getElem (by omega)⟩
    obtain ⟨e1, e2⟩ := c1 i x y hx hy
    have a2 := hi.hi (i + 1) y.lo (by rw [List.getElem?_map, hy]; rfl) (by omega)
    rw [e2, a2]
    simp
def tbEq (y x : Ptb) : Bool := decide (y.lo.toList = x.lo.toList) && (decide (y.hi.toList = x.hi.toList) && (decide (y.g = x.g) && decide (y.n = x.n)))
theorem tbEq_self (x : Ptb) : tbEq x x = true := by simp [tbEq]
theorem tb_eql (y x : Ptb) (w1 : World) : (binOp .eql 54 (.agg #[.string y.lo, .string y.hi, .int .i64 y.g, .int .i64 y.n]) (.agg #[.string x.lo, .string x.hi, .int .i64 x.g, .int .i64 x.n])).run Tryz.prog w1 = .ok (.bool (tbEq y x)) w1 := by
  obtain ⟨q, hq⟩ : ∃ q, tbEq y x = q := ⟨_, rfl⟩
  rw [hq]
  go_simp
  unfold tbEq at hq
  by_cases h1 : y.lo.toList = x.lo.toList <;> by_cases h2 : y.hi.toList = x.hi.toList <;> by_cases h3 : y.g = x.g <;> by_cases h4 : y.n = x.n <;> simp [h1, h2, h3, h4] at hq ⊢ <;> exact hq
theorem eqGuard25 (i j : Nat) (y x : Ptb) (w : World) : (eqGuard .eql 54 (.tmp i) (.tmp j) (.agg #[.string y.lo, .string y.hi, .int .i64 y.g, .int .i64 y.n]) (.agg #[.string x.lo, .string x.hi, .int .i64 x.g, .int .i64 x.n])).run Tryz.prog w = .ok () w := by
  kernel_rfl
theorem wp_eql25 {o : Oper} {a : Act} {w : World} {K : Act → World → Prop} {Q : Exit → Act → World → Prop} (i j : Nat) (ho : o.op = .binOp .eql 54 (.tmp i) (.tmp j) 54) (y x : Ptb) (hs : a.eval (.tmp i) = .agg #[.string y.lo, .string y.hi, .int .i64 y.g, .int .i64 y.n]) (ht : a.eval (.tmp j) = .agg #[.string x.lo, .string x.hi, .int .i64 x.g, .int .i64 x.n]) (h : K (a.put o.dst (.bool (tbEq y x))) w) : o.wp Tryz.prog a w K Q := by
  unfold Oper.wp execOp
  simp only [ho, hs, ht, Sem.run_bind, tb_eql, Sem.run_pure, eqGuard25, Result.andThen_ok]
  exact h

theorem may_ne {xs : List Ptb} (h : mayT xs = 0) : xs ≠ [] := by
  rintro rfl
  simp [mayT, spCov] at h

end Go.Proofs.YtfhdodopjgfedaaGreat
/-
  law11's tells: of a table of just these tablets it is true.
-/
namespace Go.Proofs.YtfhdodopjgfedaaGreat
open Go.RowKit

set_option maxRecDepth 100000 in
set_option maxHeartbeats 4000000 in
theorem bookSame_yes (w : World) (g1 : Nat) (v1 : Value) (g2 : Nat) (v2 : Value) (xs : List Ptb) (h1 : TbL w g1 v1 xs) (h2 : TbL w g2 v2 xs) (hl : xs.length ≤ 1000) :
    Calls Tryz.prog 16 #[v1, v2] w fun e w' => e = .returned (.bool true) ∧ Moves [] w w' := by
  obtain ⟨ad1, n, cap1, rfl, hn, hc1, H1⟩ := h1.open
  obtain ⟨ad2, n2, cap2, rfl, hn2, hc2, H2⟩ := h2.open
  obtain rfl : n = n2 := hn.out.trans hn2.out.symm
  have HB : n ≤ 1000 := by rw [hn.out]; exact hl
  clear h1 h2 hn2
  go_enter Tryz.func16, Tryz.ntmps16
  go_wp2_with fail
  go_loopw [5] (fun vi wr => ∃ i : Nat, i ≤ n ∧ vi = .int .i64 (i : Nat) ∧ Moves [] w wr) (fun vi _ => n - (intOf vi).toNat)
  case atStart => exact ⟨0, Nat.zero_le _, rfl, Moves.refl _ _⟩
  case round =>
    obtain ⟨i, hin, rfl, mr⟩ := hrel
    by_cases hlt : i < n
    · have hk3 : (i : Int) < n := by omega
      obtain ⟨x, hx⟩ : ∃ x, xs[i]? = some x := ⟨_, List.getElem?_eq_getElem (by have := hn.out; omega)⟩
      obtain ⟨off1, rfl, x0, x1, x2, x3⟩ := H1.out.at hx
      obtain ⟨off2, rfl, y0, y1, y2, y3⟩ := H2.out.at hx
      replace x0 := mr.cell x0
      replace x1 := mr.cell x1
      replace x2 := mr.cell x2
      replace x3 := mr.cell x3
      replace y0 := mr.cell y0
      replace y1 := mr.cell y1
      replace y2 := mr.cell y2
      replace y3 := mr.cell y3
      clear hx
      go_wp2_with fail
      go_region_held3 (fun w' => w'.cell? ⟨g1, off1 + i * 4, none⟩ = some (.string x.lo) ∧ w'.cell? ⟨g1, off1 + i * 4 + 1, none⟩ = some (.string x.hi) ∧ w'.cell? ⟨g1, off1 + i * 4 + 2, none⟩ = some (.int .i64 x.g) ∧ w'.cell? ⟨g1, off1 + i * 4 + 3, none⟩ = some (.int .i64 x.n) ∧ w'.cell? ⟨g2, off2 + i * 4, none⟩ = some (.string x.lo) ∧ w'.cell? ⟨g2, off2 + i * 4 + 1, none⟩ = some (.string x.hi) ∧ w'.cell? ⟨g2, off2 + i * 4 + 2, none⟩ = some (.int .i64 x.g) ∧ w'.cell? ⟨g2, off2 + i * 4 + 3, none⟩ = some (.int .i64 x.n)) (first | (with_reducible exact ⟨x0, x1, x2, x3, y0, y1, y2, y3⟩) | (go_keep; done)) (fail)
      go_wp2_with fail
      go_roundw
      case rel => exact ⟨i + 1, by omega, by go_num, mr.drew⟩
      case measure => simp [intOf]; omega
    · obtain rfl : i = n := by omega
      have hk3 : ¬ (i : Int) < i := by omega
      go_wp2_with fail
      go_ret
      exact ⟨rfl, mr⟩

end Go.Proofs.YtfhdodopjgfedaaGreat
/-
  law11's spans, right; what New and the document's own test say of the same tablets.
-/
namespace Go.Proofs.YtfhdodopjgfedaaGreat
open Go.RowKit

end Go.Proofs.YtfhdodopjgfedaaGreat
