/- ours -/
import Derived.Test.YtilbbnmhnacnlaaGreatCB34
namespace Go.Proofs.YtilbbnmhnacnlaaGreat
open Go.RowKit

def inRow : List Ptb → Bool
  | [] => true
  | [_] => true
  | x :: y :: t => spJ x.sp y.sp && inRow (y :: t)
theorem inRow_at : ∀ (l : List Ptb), inRow l = true ↔ ∀ i x y, l[i]? = some x → l[i + 1]? = some y → spJ x.sp y.sp = true
  | [] => by simp [inRow]
  | [x] => by
    simp only [inRow, true_iff]
    intro i a b _ hb
    simp at hb
  | x :: y :: t => by
    simp only [inRow, Bool.and_eq_true]
    rw [inRow_at (y :: t)]
    constructor
    · rintro ⟨h1, h2⟩ i a b ha hb
      match i, ha, hb with
      | 0, ha, hb => simp at ha hb; subst ha hb; exact h1
      | i + 1, ha, hb => exact h2 i a b (by simpa using ha) (by simpa using hb)
    · intro h
      exact ⟨h 0 x y rfl rfl, fun i a b ha hb => h (i + 1) a b (by simpa using ha) (by simpa using hb)⟩

set_option maxRecDepth 100000 in
set_option maxHeartbeats 4000000 in
theorem mtInRow_w (w : World) (g : Nat) (v : Value) (xs : List Ptb) (h : TbL w g v xs) (hl : xs.length ≤ 1000) (hne : xs ≠ []) :
    Calls Tryz.prog 109 #[v] w fun e w' => e = .returned (.bool (inRow xs)) ∧ Moves [] w w' := by
  obtain ⟨ad, n, cap, rfl, hn, hc, HL⟩ := h.open
  have hn1 : 1 ≤ n := by rw [hn.out]; exact List.length_pos_iff.2 hne
  obtain ⟨n1, hn2⟩ : ∃ n1, n = n1 + 1 := ⟨n - 1, by omega⟩
  have HB : n ≤ 1000 := by rw [hn.out]; exact hl
  have hmx : Tryz.prog.follows .mixedOrders = true := by kernel_rfl
  have hc1 : (1 : Int) ≤ cap := by omega
  have hc2 : (1 : Int) ≤ n := by omega
  have en : n - 1 = n1 := by omega
  have HN2 : Hid (n = n1 + 1) := hn2
  obtain ⟨q, hq⟩ : ∃ q, Hid (inRow xs = q) := ⟨_, rfl⟩
  rw [hq.out]
  clear h
  by_cases hcap : cap = 1
  · subst hcap
    have hn1' : n = 1 := by omega
    have hq1 : Hid (q = true) := by
      unfold Hid
      rw [← hq.out]
      refine (inRow_at xs).2 fun k x y hx hy => ?_
      have := (List.getElem?_eq_some_iff.1 hy).1
      have := hn.out
      omega
    subst hn1'
    clear HN2 hn2 en hc1 hc2 hn1 HB hn HL
    go_enter Tryz.func109, Tryz.ntmps109
    go_wp2_with fail
    go_loopw [9] (fun vi wr => vi = .int .i64 0 ∧ w = wr) (fun _ _ => 0)
    case atStart => exact ⟨rfl, rfl⟩
    case round =>
      obtain ⟨rfl, rfl⟩ := hrel
      go_wp2_with fail
      go_ret
      exact ⟨by rw [hq1.out]; rfl, Moves.refl _ _⟩
  have hcap1 : 1 < cap := by omega
  have hcapI : ¬ (cap : Int) = 1 := by omega
  clear hn2
  go_enter Tryz.func109, Tryz.ntmps109
  go_wp2_with fail
  go_loopw [9] (fun vi wr => ∃ i : Nat, i ≤ n1 ∧ vi = .int .i64 (i : Nat) ∧ Moves [] w wr ∧ Hid (∀ k x y, k < i → xs[k]? = some x → xs[k + 1]? = some y → spJ x.sp y.sp = true)) (fun vi _ => n1 - (intOf vi).toNat)
  case atStart => exact ⟨0, Nat.zero_le _, rfl, Moves.refl _ _, fun k x y hk => absurd hk (by omega)⟩
  case round =>
    obtain ⟨i, hin, rfl, mr, hI⟩ := hrel
    by_cases hlt : i < n1
    · have hk3 : (i : Int) < n1 := by omega
      obtain ⟨x, hx⟩ : ∃ x, xs[i]? = some x := ⟨_, List.getElem?_eq_getElem (by have := hn.out; have := HN2.out; omega)⟩
      obtain ⟨y, hy⟩ : ∃ y, xs[i + 1]? = some y := ⟨_, List.getElem?_eq_getElem (by have := hn.out; have := HN2.out; omega)⟩
      obtain ⟨off, rfl, x0, x1, _, _⟩ := HL.out.at hx
      obtain ⟨off', e', y0, y1, _, _⟩ := HL.out.at hy
      simp only [Option.some.injEq, Addr.mk.injEq, and_true, true_and] at e'
      subst e'
      obtain ⟨i1, hi1⟩ : ∃ i1, i1 = i + 1 := ⟨_, rfl⟩
      rw [← hi1] at y0 y1
      have hw1 : IntKind.i64.wrap ((i : Int) + 1) = (i1 : Int) := by rw [IntKind.wrap_i64]; have := HN2.out; omega
      have hin1 : (i : Int) < n := by have := HN2.out; omega
      have hin2 : (i1 : Int) < n := by have := HN2.out; omega
      replace x0 := mr.cell x0
      replace x1 := mr.cell x1
      replace y0 := mr.cell y0
      replace y1 := mr.cell y1
      have HX : Hid (xs[i]? = some x) := hx
      have HY : Hid (xs[i + 1]? = some y) := hy
      have HI1 : Hid (i1 = i + 1) := hi1
      clear hx hy hi1
      obtain ⟨fine, hfine⟩ : ∃ fine, Hid (spJ x.sp y.sp = fine) := ⟨_, rfl⟩
      obtain ⟨jl, hjl⟩ : ∃ jl, (spJn x.sp y.sp).lo = jl := ⟨_, rfl⟩
      obtain ⟨jh, hjh⟩ : ∃ jh, (spJn x.sp y.sp).hi = jh := ⟨_, rfl⟩
      have hjoin : ∀ w1 : World, Calls Tryz.prog 114 #[.agg #[.string x.lo, .string x.hi], .agg #[.string y.lo, .string y.hi]] w1 fun e w' => e = .returned (.tuple #[.agg #[.string jl, .string jh], .bool fine]) ∧ Moves [] w1 w' := by
        intro w1
        have := spJoin_w x.lo x.hi y.lo y.hi w1
        rw [show (⟨x.lo, x.hi⟩ : Psp) = x.sp from rfl, show (⟨y.lo, y.hi⟩ : Psp) = y.sp from rfl, hjl, hjh, hfine.out] at this
        exact this
      have hS : ∀ w', Moves [] wr w' → (w'.cell? ⟨g, off + i * 4, none⟩ = some (.string x.lo) ∧ w'.cell? ⟨g, off + i * 4 + 1, none⟩ = some (.string x.hi) ∧ w'.cell? ⟨g, off + i1 * 4, none⟩ = some (.string y.lo) ∧ w'.cell? ⟨g, off + i1 * 4 + 1, none⟩ = some (.string y.hi)) := fun w' m' => ⟨m'.cell x0, m'.cell x1, m'.cell y0, m'.cell y1⟩
      have mW : Moves [] wr wr.drew := (Moves.refl _ _).drew
      clear hjl hjh x0 x1 y0 y1
      go_wp2_with fail
      refine wp_some7 [12, 13, 14, 15, 16, 17, 18, 19, 20, 21, 22, 23, 24, 25, 26, 4, 5] (fun u w' => u 5 = .bool fine ∧ Moves [] wr w') ?_ ?_
      · refine wp_region_noPanic ?_
        refine wp_region_held_drew (S := (fun w' => w'.cell? ⟨g, off + i * 4, none⟩ = some (.string x.lo) ∧ w'.cell? ⟨g, off + i * 4 + 1, none⟩ = some (.string x.hi) ∧ w'.cell? ⟨g, off + i1 * 4, none⟩ = some (.string y.lo) ∧ w'.cell? ⟨g, off + i1 * 4 + 1, none⟩ = some (.string y.hi))) (by kernel_rfl) ?_ (fun hHeld => ?_)
        · first | (go_keep; done) | first | exact hS _ mS | exact hS _ mW
        refine wpT 0 ⟨some 13, .move (.tmp 0), 51, "meta.go:138", #[], none⟩ ?_
        refine wpT 1 ⟨some 14, .move (.tmp 3), 3, "meta.go:138", #[], none⟩ ?_
        refine wpT 2 ⟨some 15, .indexAddr 51 (.tmp 13) (.tmp 14), 0, "meta.go:138", #[⟨0, .data⟩, ⟨1, .data⟩], none⟩ ?_
        refine wpT 3 ⟨some 16, .fieldAddr 54 (.tmp 15) 0, 0, "meta.go:138", #[⟨2, .data⟩], none⟩ ?_
        refine wpT 4 ⟨some 17, .load 37 (.tmp 16), 37, "meta.go:138", #[⟨3, .data⟩], none⟩ ?_
        refine wpT 5 ⟨some 18, .move (.tmp 0), 51, "meta.go:138", #[], none⟩ ?_
        refine wpT 6 ⟨some 19, .move (.tmp 3), 3, "meta.go:138", #[], none⟩ ?_
        refine wpT 7 ⟨some 20, .binOp .add 3 (.tmp 19) (.const (.int .i64 1)) 3, 3, "meta.go:138", #[⟨6, .data⟩], none⟩ ?_
        refine wpT 8 ⟨some 21, .indexAddr 51 (.tmp 18) (.tmp 20), 0, "meta.go:138", #[⟨5, .data⟩, ⟨7, .data⟩], none⟩ ?_
        refine wpT 9 ⟨some 22, .fieldAddr 54 (.tmp 21) 0, 0, "meta.go:138", #[⟨8, .data⟩], none⟩ ?_
        refine wpT 10 ⟨some 23, .load 37 (.tmp 22), 37, "meta.go:138", #[⟨9, .data⟩], none⟩ ?_
        refine wpAnyH_ready (rs := [11, 15]) (by kernel_rfl) (by simp) ?_
        refine AllReadyH.cons (o := ⟨some 24, .call ⟨.value (.func 114), #[.tmp 17, .tmp 23], #[37, 37]⟩, 185, "meta.go:138", #[⟨4, .data⟩, ⟨10, .data⟩], none⟩) rfl (fun K hK => ?_) (AllReadyH.cons (o := ⟨some 4, .alloc 37, 0, "meta.go:138", #[], none⟩) rfl (fun K hK => ?_) AllReadyH.nil)
        · go_simp
          refine (hjoin _).mono ?_
          rintro _ w11 ⟨rfl, m11⟩
          replace mW := mW.then m11
          refine hK.out _ _ ?_ (fun hHeld => ?_)
          · first | exact hS _ mS | exact hS _ mW
          clear hK K
          refine wpT 12 ⟨some 12, .move (.tmp 24), 185, "meta.go:138", #[⟨11, .data⟩], none⟩ ?_
          refine wpT 13 ⟨some 25, .extract (.tmp 12) 0, 37, "meta.go:138", #[⟨12, .data⟩], none⟩ ?_
          refine wpT 14 ⟨some 26, .extract (.tmp 12) 1, 4, "meta.go:138", #[⟨12, .data⟩, { on := 16, ground := Ground.gcOnly Departure.lateStores }], none⟩ ?_
          refine wpR 15 ⟨some 4, .alloc 37, 0, "meta.go:138", #[], none⟩ (fun K hK => ?_)
          go_simp
          have hle := mW.size
          obtain ⟨w15, hwa⟩ : ∃ w15, w11.alloc (.cells #[.string ⟨#[]⟩, .string ⟨#[]⟩] 37) = w15 := ⟨_, rfl⟩
          have hb : w15.heap[w11.heap.size]? = some (.cells #[.string ⟨#[]⟩, .string ⟨#[]⟩] 37 (0, 0)) := by rw [← hwa]; exact heap_alloc_new w11 _
          have mA : Moves [] w11 w15 := by rw [← hwa]; exact (Moves.refl _ _).alloc _
          rw [hwa]
          obtain ⟨pb, hpb⟩ : ∃ pb, w11.heap.size = pb := ⟨_, rfl⟩
          rw [hpb] at hb ⊢
          have hle : wr.heap.size ≤ pb := by rw [← hpb]; first | exact hle | exact Nat.le_refl _
          replace mW := mW.then mA
          clear hwa hpb
          refine hK.out _ _ ?_ (fun hHeld => ?_)
          · first | exact hS _ mS | exact hS _ mW
          clear hK K
          refine wpR 16 ⟨none, .store 37 (.tmp 4) (.tmp 25), 0, "meta.go:138", #[⟨15, .data⟩, ⟨13, .data⟩, ⟨11, .chain⟩, ⟨0, .phase⟩, ⟨1, .phase⟩, ⟨2, .phase⟩, ⟨3, .phase⟩, ⟨4, .phase⟩, ⟨5, .phase⟩, ⟨6, .phase⟩, ⟨7, .phase⟩, ⟨8, .phase⟩, ⟨9, .phase⟩, ⟨10, .phase⟩, ⟨11, .phase⟩, ⟨12, .phase⟩, ⟨13, .phase⟩, { on := 14, ground := Ground.textOnly Departure.lateStores }, ⟨15, .phase⟩], none⟩ (fun K hK => ?_)
          obtain ⟨f0, f1, f2, f3⟩ := sp_cells hb
          have mS : Moves [] wr ((w15.setCell ⟨pb, 0, none⟩ (.string jl)).setCell ⟨pb, 1, none⟩ (.string jh)) := mW.trans (spStored1 hb).2 (fun x hx => .inr (by simp at hx; omega))
          go_simp
          refine hK.out _ _ ?_ (fun hHeld => ?_)
          · first | exact hS _ mS | exact hS _ mW
          clear hK K
          refine wpT 17 ⟨some 5, .assign (.tmp 26), 4, "meta.go:138", #[⟨14, .data⟩, ⟨16, .chain⟩, ⟨0, .phase⟩, ⟨1, .phase⟩, ⟨2, .phase⟩, ⟨3, .phase⟩, ⟨4, .phase⟩, ⟨5, .phase⟩, ⟨6, .phase⟩, ⟨7, .phase⟩, ⟨8, .phase⟩, ⟨9, .phase⟩, ⟨10, .phase⟩, ⟨11, .phase⟩, ⟨12, .phase⟩, ⟨13, .phase⟩, ⟨14, .phase⟩, ⟨15, .phase⟩, ⟨16, .phase⟩], none⟩ ?_
          refine wpAnyH_done (by kernel_rfl) ?_ _
          refine NoPanic.normal ?_
          exact ⟨rfl, by kernel_rfl, by kernel_rfl, mS⟩
        · go_simp
          have hle := mW.size
          obtain ⟨w15, hwa⟩ : ∃ w15, (wr.alloc (.cells #[.string ⟨#[]⟩, .string ⟨#[]⟩] 37)).drew = w15 := ⟨_, rfl⟩
          have hb : w15.heap[wr.heap.size]? = some (.cells #[.string ⟨#[]⟩, .string ⟨#[]⟩] 37 (0, 0)) := by rw [← hwa]; exact heap_alloc_new wr _
          have mA : Moves [] wr w15 := by rw [← hwa]; exact ((Moves.refl _ _).alloc _).drew
          rw [hwa]
          obtain ⟨pb, hpb⟩ : ∃ pb, wr.heap.size = pb := ⟨_, rfl⟩
          rw [hpb] at hb ⊢
          have hle : wr.heap.size ≤ pb := by rw [← hpb]; first | exact hle | exact Nat.le_refl _
          replace mW := mA
          clear hwa hpb
          refine hK.out _ _ ?_ (fun hHeld => ?_)
          · first | exact hS _ mS | exact hS _ mW
          clear hK K
          refine wpR 11 ⟨some 24, .call ⟨.value (.func 114), #[.tmp 17, .tmp 23], #[37, 37]⟩, 185, "meta.go:138", #[⟨4, .data⟩, ⟨10, .data⟩], none⟩ (fun K hK => ?_)
          go_simp
          refine (hjoin _).mono ?_
          rintro _ w11 ⟨rfl, m11⟩
          replace mW := mW.then m11
          replace hb := m11.at hb (by simp)
          refine hK.out _ _ ?_ (fun hHeld => ?_)
          · first | exact hS _ mS | exact hS _ mW
          clear hK K
          refine wpT 12 ⟨some 12, .move (.tmp 24), 185, "meta.go:138", #[⟨11, .data⟩], none⟩ ?_
          refine wpT 13 ⟨some 25, .extract (.tmp 12) 0, 37, "meta.go:138", #[⟨12, .data⟩], none⟩ ?_
          refine wpT 14 ⟨some 26, .extract (.tmp 12) 1, 4, "meta.go:138", #[⟨12, .data⟩, { on := 16, ground := Ground.gcOnly Departure.lateStores }], none⟩ ?_
          refine wpR 16 ⟨none, .store 37 (.tmp 4) (.tmp 25), 0, "meta.go:138", #[⟨15, .data⟩, ⟨13, .data⟩, ⟨11, .chain⟩, ⟨0, .phase⟩, ⟨1, .phase⟩, ⟨2, .phase⟩, ⟨3, .phase⟩, ⟨4, .phase⟩, ⟨5, .phase⟩, ⟨6, .phase⟩, ⟨7, .phase⟩, ⟨8, .phase⟩, ⟨9, .phase⟩, ⟨10, .phase⟩, ⟨11, .phase⟩, ⟨12, .phase⟩, ⟨13, .phase⟩, { on := 14, ground := Ground.textOnly Departure.lateStores }, ⟨15, .phase⟩], none⟩ (fun K hK => ?_)
          obtain ⟨f0, f1, f2, f3⟩ := sp_cells hb
          have mS : Moves [] wr ((w11.setCell ⟨pb, 0, none⟩ (.string jl)).setCell ⟨pb, 1, none⟩ (.string jh)) := mW.trans (spStored1 hb).2 (fun x hx => .inr (by simp at hx; omega))
          go_simp
          refine hK.out _ _ ?_ (fun hHeld => ?_)
          · first | exact hS _ mS | exact hS _ mW
          clear hK K
          refine wpT 17 ⟨some 5, .assign (.tmp 26), 4, "meta.go:138", #[⟨14, .data⟩, ⟨16, .chain⟩, ⟨0, .phase⟩, ⟨1, .phase⟩, ⟨2, .phase⟩, ⟨3, .phase⟩, ⟨4, .phase⟩, ⟨5, .phase⟩, ⟨6, .phase⟩, ⟨7, .phase⟩, ⟨8, .phase⟩, ⟨9, .phase⟩, ⟨10, .phase⟩, ⟨11, .phase⟩, ⟨12, .phase⟩, ⟨13, .phase⟩, ⟨14, .phase⟩, ⟨15, .phase⟩, ⟨16, .phase⟩], none⟩ ?_
          refine wpAnyH_done (by kernel_rfl) ?_ _
          refine NoPanic.normal ?_
          exact ⟨rfl, by kernel_rfl, by kernel_rfl, mS⟩
      · rintro u wx ⟨hu, mx⟩
        simp only [List.foldl_cons, List.foldl_nil, List.setIfInBounds_toArray, List.set_cons_zero, List.set_cons_succ, hu]
        clear hu
        generalize u 12 = u12
        generalize u 13 = u13
        generalize u 14 = u14
        generalize u 15 = u15
        generalize u 16 = u16
        generalize u 17 = u17
        generalize u 18 = u18
        generalize u 19 = u19
        generalize u 20 = u20
        generalize u 21 = u21
        generalize u 22 = u22
        generalize u 23 = u23
        generalize u 24 = u24
        generalize u 25 = u25
        generalize u 26 = u26
        generalize u 4 = u4
        clear mW hS hjoin
        cases hf : fine with
        | false =>
          rw [hf] at hfine
          have HJ : Hid (q = false) := by
            unfold Hid
            rw [← hq.out]
            cases hr : inRow xs with
            | false => rfl
            | true => have := (inRow_at xs).1 hr i x y HX.out HY.out; rw [hfine.out] at this; simp at this
          go_wp2_with fail
          go_ret
          exact ⟨by rw [HJ.out]; rfl, mr.then mx⟩
        | true =>
          rw [hf] at hfine
          go_wp2_with fail
          go_roundw
          case rel =>
            have hi3 := HI1.out
            refine ⟨i1, by omega, rfl, mr.then mx, fun k a b hk ha hb => ?_⟩
            by_cases hki : k < i
            · exact hI.out k a b hki ha hb
            · obtain rfl : k = i := by omega
              rw [HX.out] at ha
              rw [HY.out] at hb
              simp at ha hb
              subst ha hb
              exact hfine.out
          case measure => have := HI1.out; simp [intOf]; omega
    · obtain rfl : i = n1 := by omega
      have hk3 : ¬ (i : Int) < i := by omega
      have HJ : Hid (q = true) := by
        unfold Hid
        rw [← hq.out]
        refine (inRow_at xs).2 fun k x y hx hy => hI.out k x y ?_ hx hy
        have := (List.getElem?_eq_some_iff.1 hy).1
        have := hn.out
        have := HN2.out
        omega
      go_wp2_with fail
      go_ret
      exact ⟨by rw [HJ.out]; rfl, mr⟩
end Go.Proofs.YtilbbnmhnacnlaaGreat
