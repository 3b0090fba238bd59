/- ours -/
import Derived.Test.YtilbbnmhnacnlaaGreatCB24
namespace Go.Proofs.YtilbbnmhnacnlaaGreat
open Go.RowKit

structure TaIs (N : Nat) (w0 w : World) (r g R B : Nat) (bs : List Nat) (xs : List Pnam) (v0 rv v2 v3 v4 v5 v6 v7 v8 v9 v10 : Value) : Prop where
  rd : RdIs w r g bs false
  bx : w.heap[B]? = some (.cells #[v0, rv, v2, v3, v4, v5, v6, v7, v8, v9, v10] 48 (0, 0))
  rx : w.heap[R]? = some (.cells #[.int .i64 0, .slice none 0 0, .string ⟨#[]⟩, .string ⟨#[]⟩, .int .i64 0, .int .i64 0, .int .i64 0, .int .i64 0, .int .i64 0, .string ⟨#[]⟩, .slice none 0 0] 48 (0, 0))
  gr : GrowN w0 w rv xs
  mv : Moves [r] w0 w
  hr : r < w0.heap.size
  hg : g < w0.heap.size
  hR : w0.heap.size ≤ R
  hB : w0.heap.size ≤ B
  hn : R ≠ B
  oct : OctN N bs
theorem TaIs.read {N : Nat} {w0 w w' : World} {r g R B : Nat} {bs bs' : List Nat} {xs : List Pnam} {v0 rv v2 v3 v4 v5 v6 v7 v8 v9 v10 : Value} (h : TaIs N w0 w r g R B bs xs v0 rv v2 v3 v4 v5 v6 v7 v8 v9 v10) (hr : RdIs w' r g bs' false) (m : Moves [r] w w') (ho : OctN N bs') : TaIs N w0 w' r g R B bs' xs v0 rv v2 v3 v4 v5 v6 v7 v8 v9 v10 := by
  have k1 := h.hr
  have k2 := h.hB
  have k3 := h.hR
  have hst : Stay (fun t => t = 5 ∨ t = 146 ∨ t = 144) w w' := by
    refine Stay.ofMovesS m (fun b hb c t fz hc ht => ?_)
    simp at hb
    subst hb
    obtain ⟨v, hv, _⟩ := h.rd
    rw [hv] at hc
    simp at hc
    rw [← hc.2.1] at ht
    revert ht
    decide
  exact ⟨hr, m.at h.bx (by simp; omega), m.at h.rx (by simp; omega), h.gr.moves m (fun k hk => by have := h.gr.1 k hk; simp; omega) hst, h.mv.then m, h.hr, h.hg, h.hR, h.hB, h.hn, ho⟩
theorem TaIs.set {N : Nat} {w0 w w' : World} {r g R B : Nat} {bs : List Nat} {xs : List Pnam} {v0 rv v2 v3 v4 v5 v6 v7 v8 v9 v10 u0 u2 u3 u4 u5 u6 u7 u8 u9 u10 : Value} (h : TaIs N w0 w r g R B bs xs v0 rv v2 v3 v4 v5 v6 v7 v8 v9 v10) (m : Moves [B] w w') (hb : w'.heap[B]? = some (.cells #[u0, rv, u2, u3, u4, u5, u6, u7, u8, u9, u10] 48 (0, 0))) : TaIs N w0 w' r g R B bs xs u0 rv u2 u3 u4 u5 u6 u7 u8 u9 u10 := by
  have k1 := h.hr
  have k2 := h.hB
  have k3 := h.hg
  have k4 := h.hn
  have hst : Stay (fun t => t = 5 ∨ t = 146 ∨ t = 144) w w' := by
    refine Stay.ofMovesS m (fun b hb c t fz hc ht => ?_)
    simp at hb
    subst hb
    rw [h.bx] at hc
    simp at hc
    rw [← hc.2.1] at ht
    revert ht
    decide
  refine ⟨h.rd.moves m (by simp; omega) (by simp; omega), hb, m.at h.rx (by simpa using k4), h.gr.moves m (fun k hk hm => ?_) hst, h.mv.trans m (fun x hx => .inr (by simp at hx; omega)), h.hr, h.hg, h.hR, h.hB, h.hn, h.oct⟩
  simp at hm
  subst hm
  have := Grow.neT h.gr h.bx (by decide)
  exact this (by rw [hk]; simp)
theorem TaIs.more {N : Nat} {w0 w w1 w2 : World} {r g R B : Nat} {bs : List Nat} {xs ys : List Pnam} {v0 rv v2 v3 v4 v5 v6 v7 v8 v9 v10 nv : Value} (h : TaIs N w0 w r g R B bs xs v0 rv v2 v3 v4 v5 v6 v7 v8 v9 v10) (m1 : Moves [] w w1) (m2 : Moves rv.ownBlock.toList w1 w2) (hG : GrowN w0 w2 nv ys) : w2.heap[B]? = some (.cells #[v0, rv, v2, v3, v4, v5, v6, v7, v8, v9, v10] 48 (0, 0)) ∧ TaIs N w0 (w2.setCell ⟨B, 1, none⟩ nv) r g R B bs ys v0 nv v2 v3 v4 v5 v6 v7 v8 v9 v10 := by
  have k1 := h.hr
  have k2 := h.hB
  have k3 := h.hg
  have k4 := h.hn
  have k5 := h.hR
  have hBn : B ∉ rv.ownBlock.toList := Grow.neT h.gr h.bx (by decide)
  have hRn : R ∉ rv.ownBlock.toList := Grow.neT h.gr h.rx (by decide)
  have hrn : r ∉ rv.ownBlock.toList := Grow.notP h.gr h.hr
  have hgn : g ∉ rv.ownBlock.toList := Grow.notP h.gr h.hg
  have b2 := m2.at (m1.at h.bx (by simp)) hBn
  have ms := moves_set w2 B 1 nv
  refine ⟨b2, ((h.rd.moves m1 (by simp) (by simp)).moves m2 hrn hgn).moves ms (by simp; omega) (by simp; omega), heap_set (i := 1) b2 nv, ms.at (m2.at (m1.at h.rx (by simp)) hRn) (by simpa using k4), ?_, ?_, h.hr, h.hg, h.hR, h.hB, h.hn, h.oct⟩
  · refine hG.moves ms (fun k hk hm => ?_) (Stay.set b2 (by decide) _)
    simp at hm
    subst hm
    exact (Grow.neT hG b2 (by decide)) (by rw [hk]; simp)
  · have M1 : Moves [r] w0 w1 := h.mv.then (m1.mono (by simp))
    have M2 : Moves [r] w0 w2 := M1.trans m2 (fun x hx => .inr (h.gr.1 x (Option.mem_toList.1 hx)))
    exact M2.trans ms (fun x hx => .inr (by simp at hx; omega))

def TookA (w0 : World) (r g : Nat) (o : Option (Pans × List Nat)) (e : Ending) (w' : World) : Prop := match o with
  | some (p, rest) => ∃ c, e = .returned (.agg c.toArray) ∧ AnsC w' c p ∧ RdIs w' r g rest false ∧ Moves [r] w0 w'
  | none => e = .panicked (stop r) ∧ (∃ bs', RdIs w' r g bs' true) ∧ Moves [r] w0 w'

theorem eleven_fz {w : World} {p : Nat} {a0 a1 a2 a3 a4 a5 a6 a7 a8 a9 a10 : Value} {t : TypeId} (h : w.heap[p]? = some (.cells #[a0, a1, a2, a3, a4, a5, a6, a7, a8, a9, a10] t (0, 0))) : ∀ i, w.frozen? ⟨p, i, none⟩ = false := by
  intro i
  simp [World.frozen?, h]
theorem dSpan_rest {N : Nat} {s : Psp} {bs r : List Nat} (h : dSpan bs = some (s, r)) (ho : OctN N bs) : OctN N r := by
  unfold dSpan at h
  cases e1 : dText 16 bs with
  | none => rw [pbn_none e1] at h; simp at h
  | some pr =>
    obtain ⟨lo, b1⟩ := pr
    rw [pbn_some e1] at h
    have h1 := dText_rest e1 ho
    cases e2 : dText 16 b1 with
    | none => rw [pbn_none e2] at h; simp at h
    | some pr =>
      obtain ⟨hi, b2⟩ := pr
      rw [pbn_some e2] at h
      have h2 := dText_rest e2 h1
      split at h
      · simp at h
        rw [← h.2]
        exact h2
      · simp at h
theorem dNum_oct {N n v : Nat} {bs r : List Nat} (h : dNum n bs = some (v, r)) (ho : OctN N bs) : OctN N r ∧ v < 256 ^ n := by
  obtain ⟨h1, h2, h3⟩ := dNum_some h
  rw [← h3, ← h2]
  exact ⟨ho.drop n, val_lt ho.2 n⟩
theorem rbyteD_w (N r g : Nat) (bs : List Nat) (w : World) (h : RdIs w r g bs false) (ho : OctN N bs) : Calls Tryz.prog 135 #[.pointer (some ⟨r, 0, none⟩)] w fun e w' => match dNum 1 bs with
    | some (v, rest) => e = .returned (.int .u8 (v : Int)) ∧ RdIs w' r g rest false ∧ Moves [r] w w'
    | none => e = .panicked (stop r) ∧ RdIs w' r g bs true ∧ Moves [r] w w' := by
  cases hd : dNum 1 bs with
  | some pr =>
    obtain ⟨v, rest⟩ := pr
    obtain ⟨h1, h2, h3⟩ := dNum_some hd
    have q := rbyte_w r g bs w h h1 ho.2
    rw [h2, h3] at q
    exact q
  | none => exact rbyte_fail_w r g bs w h (dNum_none hd)
theorem rnumD_w (N r g : Nat) (bs : List Nat) (w : World) (h : RdIs w r g bs false) (ho : OctN N bs) : Calls Tryz.prog 139 #[.pointer (some ⟨r, 0, none⟩)] w fun e w' => match dNum 4 bs with
    | some (v, rest) => e = .returned (.int .u32 (v : Int)) ∧ RdIs w' r g rest false ∧ Moves [r] w w'
    | none => e = .panicked (stop r) ∧ RdIs w' r g bs true ∧ Moves [r] w w' := by
  cases hd : dNum 4 bs with
  | some pr =>
    obtain ⟨v, rest⟩ := pr
    obtain ⟨h1, h2, h3⟩ := dNum_some hd
    have q := rnumr_w r g bs w h h1 ho.2
    rw [h2, h3] at q
    exact q
  | none => exact rnumr_fail_w r g bs w h (dNum_none hd)

theorem ownU8 {w : World} {v : Value} {bs : List Nat} (h : Own w v bs) : ∃ g, IsB w g v bs ∧ U8 w g bs := by
  refine ⟨v.ownBlock.getD 0, h.isB, ?_⟩
  rcases h.2 with ⟨rfl, h0⟩ | ⟨g, cap, cur, rfl, hb, hgg, _⟩
  · exact .inl (List.eq_nil_of_length_eq_zero h0)
  · exact .inr ⟨cur, _, hgg⟩
theorem rtextD_w (N r g : Nat) (bs : List Nat) (w : World) (h : RdIs w r g bs false) (ho : OctN N bs) : Calls Tryz.prog 140 #[.pointer (some ⟨r, 0, none⟩), .int .i64 1048576] w fun e w' => match dText 1048576 bs with
    | some (tx, rest) => ∃ v', e = .returned v' ∧ Own w' v' tx ∧ RdIs w' r g rest false ∧ Moves [r] w w' ∧ Fresh w v'
    | none => e = .panicked (stop r) ∧ RdIs w' r g bs true ∧ Moves [r] w w' := by
  cases hd : dText 1048576 bs with
  | some pr =>
    obtain ⟨tx, rest⟩ := pr
    obtain ⟨h1, h2, h3⟩ := dText_yes hd
    have hR := rtextr_w r g bs 1048576 w h ho.2 h1
    rw [h2, h3] at hR
    exact hR
  | none => exact rtextr_fail_w r g bs 1048576 w h ho.2 (dText_no hd)
theorem Tryz.size48 : (Tryz.prog.info? 48).map (·.size) = some 11 := by kernel_rfl
theorem stored11 {w : World} {p : Nat} {a0 a1 a2 a3 a4 a5 a6 a7 a8 a9 a10 : Value} {t : TypeId} (hp : w.heap[p]? = some (.cells #[a0, a1, a2, a3, a4, a5, a6, a7, a8, a9, a10] t (0, 0))) (x0 x1 x2 x3 x4 x5 x6 x7 x8 x9 x10 : Value) :
    ((((((((((((w).setCell ⟨p, 0, none⟩ x0).setCell ⟨p, 1, none⟩ x1).setCell ⟨p, 2, none⟩ x2).setCell ⟨p, 3, none⟩ x3).setCell ⟨p, 4, none⟩ x4).setCell ⟨p, 5, none⟩ x5).setCell ⟨p, 6, none⟩ x6).setCell ⟨p, 7, none⟩ x7).setCell ⟨p, 8, none⟩ x8).setCell ⟨p, 9, none⟩ x9).setCell ⟨p, 10, none⟩ x10).heap[p]? = some (.cells #[x0, x1, x2, x3, x4, x5, x6, x7, x8, x9, x10] t (0, 0)) ∧ Moves [p] w ((((((((((((w).setCell ⟨p, 0, none⟩ x0).setCell ⟨p, 1, none⟩ x1).setCell ⟨p, 2, none⟩ x2).setCell ⟨p, 3, none⟩ x3).setCell ⟨p, 4, none⟩ x4).setCell ⟨p, 5, none⟩ x5).setCell ⟨p, 6, none⟩ x6).setCell ⟨p, 7, none⟩ x7).setCell ⟨p, 8, none⟩ x8).setCell ⟨p, 9, none⟩ x9).setCell ⟨p, 10, none⟩ x10) := by
  have h0 : (w.setCell ⟨p, 0, none⟩ x0).heap[p]? = some (.cells #[x0, a1, a2, a3, a4, a5, a6, a7, a8, a9, a10] t (0, 0)) := heap_set (i := 0) hp x0
  have n0 : Moves [p] w (w.setCell ⟨p, 0, none⟩ x0) := moves_set _ _ _ _
  generalize w.setCell ⟨p, 0, none⟩ x0 = w1 at h0 n0 ⊢
  have h1 : (w1.setCell ⟨p, 1, none⟩ x1).heap[p]? = some (.cells #[x0, x1, a2, a3, a4, a5, a6, a7, a8, a9, a10] t (0, 0)) := heap_set (i := 1) h0 x1
  have n1 : Moves [p] w (w1.setCell ⟨p, 1, none⟩ x1) := n0.then (moves_set _ _ _ _)
  generalize w1.setCell ⟨p, 1, none⟩ x1 = w2 at h1 n1 ⊢
  have h2 : (w2.setCell ⟨p, 2, none⟩ x2).heap[p]? = some (.cells #[x0, x1, x2, a3, a4, a5, a6, a7, a8, a9, a10] t (0, 0)) := heap_set (i := 2) h1 x2
  have n2 : Moves [p] w (w2.setCell ⟨p, 2, none⟩ x2) := n1.then (moves_set _ _ _ _)
  generalize w2.setCell ⟨p, 2, none⟩ x2 = w3 at h2 n2 ⊢
  have h3 : (w3.setCell ⟨p, 3, none⟩ x3).heap[p]? = some (.cells #[x0, x1, x2, x3, a4, a5, a6, a7, a8, a9, a10] t (0, 0)) := heap_set (i := 3) h2 x3
  have n3 : Moves [p] w (w3.setCell ⟨p, 3, none⟩ x3) := n2.then (moves_set _ _ _ _)
  generalize w3.setCell ⟨p, 3, none⟩ x3 = w4 at h3 n3 ⊢
  have h4 : (w4.setCell ⟨p, 4, none⟩ x4).heap[p]? = some (.cells #[x0, x1, x2, x3, x4, a5, a6, a7, a8, a9, a10] t (0, 0)) := heap_set (i := 4) h3 x4
  have n4 : Moves [p] w (w4.setCell ⟨p, 4, none⟩ x4) := n3.then (moves_set _ _ _ _)
  generalize w4.setCell ⟨p, 4, none⟩ x4 = w5 at h4 n4 ⊢
  have h5 : (w5.setCell ⟨p, 5, none⟩ x5).heap[p]? = some (.cells #[x0, x1, x2, x3, x4, x5, a6, a7, a8, a9, a10] t (0, 0)) := heap_set (i := 5) h4 x5
  have n5 : Moves [p] w (w5.setCell ⟨p, 5, none⟩ x5) := n4.then (moves_set _ _ _ _)
  generalize w5.setCell ⟨p, 5, none⟩ x5 = w6 at h5 n5 ⊢
  have h6 : (w6.setCell ⟨p, 6, none⟩ x6).heap[p]? = some (.cells #[x0, x1, x2, x3, x4, x5, x6, a7, a8, a9, a10] t (0, 0)) := heap_set (i := 6) h5 x6
  have n6 : Moves [p] w (w6.setCell ⟨p, 6, none⟩ x6) := n5.then (moves_set _ _ _ _)
  generalize w6.setCell ⟨p, 6, none⟩ x6 = w7 at h6 n6 ⊢
  have h7 : (w7.setCell ⟨p, 7, none⟩ x7).heap[p]? = some (.cells #[x0, x1, x2, x3, x4, x5, x6, x7, a8, a9, a10] t (0, 0)) := heap_set (i := 7) h6 x7
  have n7 : Moves [p] w (w7.setCell ⟨p, 7, none⟩ x7) := n6.then (moves_set _ _ _ _)
  generalize w7.setCell ⟨p, 7, none⟩ x7 = w8 at h7 n7 ⊢
  have h8 : (w8.setCell ⟨p, 8, none⟩ x8).heap[p]? = some (.cells #[x0, x1, x2, x3, x4, x5, x6, x7, x8, a9, a10] t (0, 0)) := heap_set (i := 8) h7 x8
  have n8 : Moves [p] w (w8.setCell ⟨p, 8, none⟩ x8) := n7.then (moves_set _ _ _ _)
  generalize w8.setCell ⟨p, 8, none⟩ x8 = w9 at h8 n8 ⊢
  have h9 : (w9.setCell ⟨p, 9, none⟩ x9).heap[p]? = some (.cells #[x0, x1, x2, x3, x4, x5, x6, x7, x8, x9, a10] t (0, 0)) := heap_set (i := 9) h8 x9
  have n9 : Moves [p] w (w9.setCell ⟨p, 9, none⟩ x9) := n8.then (moves_set _ _ _ _)
  generalize w9.setCell ⟨p, 9, none⟩ x9 = w10 at h9 n9 ⊢
  have h10 : (w10.setCell ⟨p, 10, none⟩ x10).heap[p]? = some (.cells #[x0, x1, x2, x3, x4, x5, x6, x7, x8, x9, x10] t (0, 0)) := heap_set (i := 10) h9 x10
  have n10 : Moves [p] w (w10.setCell ⟨p, 10, none⟩ x10) := n9.then (moves_set _ _ _ _)
  exact ⟨h10, n10⟩
theorem ret_ans {fn : Func} {p : Tmp} (h : fn.results = #[.cell p 48]) (tmps : Array Value) (w : World) (g : Nat) (x0 x1 x2 x3 x4 x5 x6 x7 x8 x9 x10 : Value) (hp : tmps.getD p undef = .pointer (some ⟨g, 0, none⟩)) (hg : w.heap[g]? = some (.cells #[x0, x1, x2, x3, x4, x5, x6, x7, x8, x9, x10] 48 (0, 0))) :
    (results fn tmps).run Tryz.prog w = .ok (.agg #[x0, x1, x2, x3, x4, x5, x6, x7, x8, x9, x10]) w :=
  results_cell_row h tmps w g 48 _ (0, 0) _ hp hg Tryz.underlying48 rfl Tryz.size48

set_option maxRecDepth 100000 in
set_option maxHeartbeats 32000000 in
theorem ctakeA_w (N r g : Nat) (bs : List Nat) (w : World) (h : RdIs w r g bs false) (ho : OctN N bs) (hg : g < w.heap.size) :
    Calls Tryz.prog 105 #[.pointer (some ⟨r, 0, none⟩)] w fun e w' => TookA w r g (dAns bs) e w' := by
  have lr : r < w.heap.size := h.ltp
  have hb0 := heap_alloc_new w (.cells #[.int .i64 0, .slice none 0 0, .string ⟨#[]⟩, .string ⟨#[]⟩, .int .i64 0, .int .i64 0, .int .i64 0, .int .i64 0, .int .i64 0, .string ⟨#[]⟩, .slice none 0 0] 48)
  have m0 : Moves [] w (w.alloc (.cells #[.int .i64 0, .slice none 0 0, .string ⟨#[]⟩, .string ⟨#[]⟩, .int .i64 0, .int .i64 0, .int .i64 0, .int .i64 0, .int .i64 0, .string ⟨#[]⟩, .slice none 0 0] 48)) := (Moves.refl _ _).alloc _
  have h0 := h.moves m0 (by simp) (by simp)
  obtain ⟨R, hR⟩ : ∃ R, w.heap.size = R := ⟨_, rfl⟩
  rw [hR] at hb0
  have hby := rbyteD_w N r g bs _ h0 ho
  have D0 : Hid (dAns bs = pbn (dNum 1) _ bs) := rfl
  go_enter Tryz.func105, Tryz.ntmps105
  go_wp2_with fail
  cases e1 : dNum 1 bs with
  | none =>
    rw [e1] at hby
    refine hby.mono ?_
    rintro _ w1 ⟨rfl, hr1, m1⟩
    refine ⟨rfl, ?_⟩
    rw [D0.out, pbn_none e1]
    exact ⟨rfl, ⟨_, hr1⟩, (m0.mono (by simp)).then m1⟩
  | some pr =>
    obtain ⟨code, b1⟩ := pr
    rw [e1] at hby
    obtain ⟨ho1, hcode⟩ := dNum_oct e1 ho
    have D1 := D0.out.trans (pbn_some e1)
    refine hby.mono ?_
    rintro _ w1 ⟨rfl, hr1, m1⟩
    have wc : IntKind.i64.wrap (code : Int) = (code : Int) := by rw [IntWalk.i64_in _ (by omega)]
    have mB : Moves [] w1 (w1.alloc (.cells #[.int .i64 (code : Int), .slice none 0 0, .string ⟨#[]⟩, .string ⟨#[]⟩, .int .i64 0, .int .i64 0, .int .i64 0, .int .i64 0, .int .i64 0, .string ⟨#[]⟩, .slice none 0 0] 48)) := (Moves.refl _ _).alloc _
    have hbB := heap_alloc_new w1 (.cells #[.int .i64 (code : Int), .slice none 0 0, .string ⟨#[]⟩, .string ⟨#[]⟩, .int .i64 0, .int .i64 0, .int .i64 0, .int .i64 0, .int .i64 0, .string ⟨#[]⟩, .slice none 0 0] 48)
    obtain ⟨B, hB⟩ : ∃ B, w1.heap.size = B := ⟨_, rfl⟩
    rw [hB] at hbB
    have M1 : Moves [r] w w1 := (m0.mono (by simp)).then m1
    have rx1 := m1.at hb0 (by simp; omega)
    have T1 : TaIs N w _ r g R B b1 [] (.int .i64 (code : Int)) (.slice none 0 0) (.string ⟨#[]⟩) (.string ⟨#[]⟩) (.int .i64 0) (.int .i64 0) (.int .i64 0) (.int .i64 0) (.int .i64 0) (.string ⟨#[]⟩) (.slice none 0 0) := ⟨hr1.moves mB (by simp) (by simp), hbB, mB.at rx1 (by simp), GrowN.nil _ _, M1.then (mB.mono (by simp)), lr, hg, by omega, by have := M1.size; omega, by have := lt_of_block rx1; omega, ho1⟩
    have hby2 := rbyteD_w N r g b1 _ T1.rd ho1
    clear hby hr1 m1 hbB rx1 mB
    go_wp2_with fail
    cases e2 : dNum 1 b1 with
    | none =>
      rw [e2] at hby2
      refine hby2.mono ?_
      rintro _ w2 ⟨rfl, hr2, m2⟩
      refine ⟨rfl, ?_⟩
      rw [D1, pbn_none e2]
      exact ⟨rfl, ⟨_, hr2⟩, T1.mv.then m2⟩
    | some pr =>
      obtain ⟨n, b2⟩ := pr
      rw [e2] at hby2
      obtain ⟨ho2, hn⟩ := dNum_oct e2 ho1
      have D2 := D1.trans (pbn_some e2)
      refine hby2.mono ?_
      rintro _ w2 ⟨rfl, hr2, m2⟩
      have T2 := T1.read hr2 m2 ho2
      clear hby2 hr2 m2 T1
      have hn255 : n ≤ 255 := by omega
      have HD2 : Hid (dAns bs = pbn (iter dNam n) _ b2) := D2
      have HT2 : Hid (TaIs N w w2 r g R B b2 [] (.int .i64 (code : Int)) (.slice none 0 0) (.string ⟨#[]⟩) (.string ⟨#[]⟩) (.int .i64 0) (.int .i64 0) (.int .i64 0) (.int .i64 0) (.int .i64 0) (.string ⟨#[]⟩) (.slice none 0 0)) := T2
      clear D0 D1 D2 T2 e1 e2
      go_wp2_with fail
      go_loopw [10] (fun iv wr => ∃ (k : Nat) (rv : Value) (xs : List Pnam) (b' : List Nat), k ≤ n ∧ iv = .int .u8 (k : Int) ∧ iter dNam k b2 = some (xs, b') ∧ TaIs N w wr r g R B b' xs (.int .i64 (code : Int)) rv (.string ⟨#[]⟩) (.string ⟨#[]⟩) (.int .i64 0) (.int .i64 0) (.int .i64 0) (.int .i64 0) (.int .i64 0) (.string ⟨#[]⟩) (.slice none 0 0)) (fun iv _ => (n - intOf iv).toNat)
      case atStart => exact ⟨0, _, [], b2, Nat.zero_le _, rfl, rfl, HT2.out⟩
      case round =>
        obtain ⟨k, rv, xs, b', hk, rfl, hit, hT⟩ := hrel
        have HIT : Hid (iter dNam k b2 = some (xs, b')) := hit
        obtain ⟨ad, nn, cap, rfl, hnn, hcap⟩ := hT.gr.open
        have HT : Hid (TaIs N w wr r g R B b' xs (.int .i64 (code : Int)) (.slice ad nn cap) (.string ⟨#[]⟩) (.string ⟨#[]⟩) (.int .i64 0) (.int .i64 0) (.int .i64 0) (.int .i64 0) (.int .i64 0) (.string ⟨#[]⟩) (.slice none 0 0)) := hT
        have hxl : xs.length = k := iter_len hit
        clear hit hT HT2
        by_cases hkn : k < n
        · have hkn' : (k : Int) < (n : Int) := by omega
          obtain ⟨x0, x1, x2, x3, x4, x5, x6, x7, x8, x9, x10⟩ := eleven_cells HT.out.bx
          cases htx : dText 16 b' with
          | none =>
            have HNO : Hid (dAns bs = none) := by
              unfold Hid
              rw [HD2.out]
              exact pbn_none (iter_none (iter_stop HIT.out (dNam_no1 htx)) (by omega))
            have hnm : ∀ w1, RdIs w1 r g b' false → Calls Tryz.prog 136 #[.pointer (some ⟨r, 0, none⟩)] w1 fun e w' => e = .panicked (stop r) ∧ RdIs w' r g b' true ∧ Moves [r] w1 w' := fun w1 h1 => by
              have q := cname_w N r g b' w1 h1 HT.out.oct
              rw [htx] at q
              exact q
            go_wp2_with fail
            refine wp_region_held_drew (S := (fun w' => w'.cell? ⟨B, 1, none⟩ = some (.slice ad nn cap))) (by kernel_rfl) ?_ (fun hHeld => ?_)
            · first | (go_keep; done) | first | exact x1 | exact y1 | exact z1 | exact u1 | exact t1
            refine wpT 0 ⟨some 12, .fieldAddr 48 (.tmp 3) 1, 0, "answer.go:74", #[], none⟩ ?_
            refine wpT 1 ⟨some 13, .load 46 (.tmp 12), 46, "answer.go:74", #[⟨0, .data⟩], none⟩ ?_
            refine wpT 2 ⟨some 14, .move (.tmp 0), 176, "answer.go:74", #[], none⟩ ?_
            refine wpT 4 ⟨some 16, .move (.tmp 0), 176, "answer.go:74", #[], none⟩ ?_
            refine wpR 3 ⟨some 15, .call ⟨.value (.func 136), #[.tmp 14], #[176]⟩, 9, "answer.go:74", #[⟨2, .data⟩], none⟩ (fun K hK => ?_)
            go_simp
            (go_at_call 136; refine (hnm _ (HT.out.rd.moves (Moves.refl [] wr).drew (by simp) (by simp))).mono ?_; rintro _ w3 ⟨rfl, hr3, m3⟩)
            refine ⟨rfl, ?_⟩
            rw [HNO.out]
            exact ⟨rfl, ⟨_, hr3⟩, HT.out.mv.then ((Moves.refl [r] wr).drew.then m3)⟩
          | some pr =>
            obtain ⟨tx, b3⟩ := pr
            have ho3 := dText_rest htx HT.out.oct
            obtain ⟨z, hz⟩ : ∃ z, strOf tx = z := ⟨_, rfl⟩
            have hnm : ∀ w1, RdIs w1 r g b' false → Calls Tryz.prog 136 #[.pointer (some ⟨r, 0, none⟩)] w1 fun e w' => e = .returned (.string z) ∧ RdIs w' r g b3 false ∧ Moves [r] w1 w' := fun w1 h1 => by
              have q := cname_w N r g b' w1 h1 HT.out.oct
              rw [htx] at q
              dsimp only at q
              rw [hz] at q
              exact q
            cases hdg : dGood tAny b3 with
            | none =>
              have HNO : Hid (dAns bs = none) := by
                unfold Hid
                rw [HD2.out]
                exact pbn_none (iter_none (iter_stop HIT.out (dNam_no2 htx hdg)) (by omega))
              go_wp2_with fail
              refine wp_region_held_drew (S := (fun w' => w'.cell? ⟨B, 1, none⟩ = some (.slice ad nn cap))) (by kernel_rfl) ?_ (fun hHeld => ?_)
              · first | (go_keep; done) | first | exact x1 | exact y1 | exact z1 | exact u1 | exact t1
              refine wpT 0 ⟨some 12, .fieldAddr 48 (.tmp 3) 1, 0, "answer.go:74", #[], none⟩ ?_
              refine wpT 1 ⟨some 13, .load 46 (.tmp 12), 46, "answer.go:74", #[⟨0, .data⟩], none⟩ ?_
              refine wpT 2 ⟨some 14, .move (.tmp 0), 176, "answer.go:74", #[], none⟩ ?_
              refine wpT 4 ⟨some 16, .move (.tmp 0), 176, "answer.go:74", #[], none⟩ ?_
              refine wpR 3 ⟨some 15, .call ⟨.value (.func 136), #[.tmp 14], #[176]⟩, 9, "answer.go:74", #[⟨2, .data⟩], none⟩ (fun K hK => ?_)
              go_simp
              (go_at_call 136; refine (hnm _ (HT.out.rd.moves (Moves.refl [] wr).drew (by simp) (by simp))).mono ?_; rintro _ w3 ⟨rfl, hr3, m3⟩)
              have T3 := HT.out.read hr3 ((Moves.refl [r] wr).drew.then m3) ho3
              obtain ⟨_, y1, _⟩ := eleven_cells T3.bx
              refine hK.out _ _ ?_ (fun hHeld => ?_)
              · first | exact x1 | exact y1 | exact z1 | exact u1 | exact t1
              clear hK K
              try simp only [Act.put, sp1, sp2, sp3]
              refine wpR 5 ⟨some 17, .call ⟨.value (.func 137), #[.tmp 16], #[176]⟩, 97, "answer.go:74", #[⟨4, .data⟩, ⟨3, .chain⟩], none⟩ (fun K hK => ?_)
              go_simp
              (go_at_call 137; refine (rowTake_w N r g b3 w3 T3.rd ho3 (Nat.lt_of_lt_of_le hg T3.mv.size)).mono ?_; intro e5 w5 hT5; obtain ⟨rfl, bs', hr6, m6⟩ := TookR_no hT5 hdg)
              refine ⟨rfl, ?_⟩
              rw [HNO.out]
              exact ⟨rfl, ⟨bs', hr6⟩, T3.mv.then m6⟩
            | some pr2 =>
              obtain ⟨Q, b4⟩ := pr2
              have HST : Hid (iter dNam (k + 1) b2 = some (xs ++ [⟨z, Q⟩], b4)) := by
                have q := iter_step HIT.out (dNam_of htx hdg)
                rw [hz] at q
                exact q
              have ho4 : OctN N b4 := dRow_rest (dGood_yes hdg).1 ho3
              clear htx hz
              have hbd : xs.length + [(⟨z, Q⟩ : Pnam)].length ≤ 1048576 := by simp only [List.length_singleton]; omega
              go_wp2_with fail
              refine wp_region_noPanic ?_
              refine region_peel (S := (fun w' => w'.cell? ⟨B, 1, none⟩ = some (.slice ad nn cap))) (pre := #[⟨some 12, .fieldAddr 48 (.tmp 3) 1, 0, "answer.go:74", #[], none⟩, ⟨some 13, .load 46 (.tmp 12), 46, "answer.go:74", #[⟨0, .data⟩], none⟩, ⟨some 14, .move (.tmp 0), 176, "answer.go:74", #[], none⟩, ⟨some 15, .call ⟨.value (.func 136), #[.tmp 14], #[176]⟩, 9, "answer.go:74", #[⟨2, .data⟩], none⟩, ⟨some 16, .move (.tmp 0), 176, "answer.go:74", #[], none⟩, ⟨some 17, .call ⟨.value (.func 137), #[.tmp 16], #[176]⟩, 97, "answer.go:74", #[⟨4, .data⟩, ⟨3, .chain⟩], none⟩, ⟨some 18, .build 99 #[(0, .tmp 15), (1, .tmp 17)], 99, "answer.go:74", #[⟨3, .data⟩, ⟨5, .data⟩], none⟩, ⟨some 19, .buildSlice 46 1 #[(0, .tmp 18)], 46, "answer.go:74", #[⟨6, .data⟩], none⟩, ⟨some 20, .call ⟨.builtin .append, #[.tmp 13, .tmp 19], #[46, 46]⟩, 46, "answer.go:74", #[⟨1, .data⟩, ⟨7, .data⟩, ⟨5, .chain⟩], none⟩, ⟨some 21, .fieldAddr 48 (.tmp 3) 1, 0, "answer.go:74", #[⟨0, .phase⟩, ⟨1, .phase⟩, ⟨2, .phase⟩, ⟨3, .phase⟩, ⟨4, .phase⟩, ⟨5, .phase⟩, ⟨6, .phase⟩, ⟨7, .phase⟩, ⟨8, .phase⟩], none⟩]) (o := ⟨none, .store 46 (.tmp 21) (.tmp 20), 0, "answer.go:74", #[⟨9, .data⟩, ⟨8, .data⟩, ⟨8, .chain⟩, ⟨0, .phase⟩, ⟨1, .phase⟩, ⟨2, .phase⟩, ⟨3, .phase⟩, ⟨4, .phase⟩, ⟨5, .phase⟩, ⟨6, .phase⟩, ⟨7, .phase⟩, ⟨8, .phase⟩], none⟩) (by kernel_rfl) (by kernel_rfl) (by kernel_rfl) ?_ (fun hHeld => ?_)
              · first | exact x1 | exact y1 | exact z1 | exact u1 | exact t1
              refine wpT 0 ⟨some 12, .fieldAddr 48 (.tmp 3) 1, 0, "answer.go:74", #[], none⟩ ?_
              refine wpT 1 ⟨some 13, .load 46 (.tmp 12), 46, "answer.go:74", #[⟨0, .data⟩], none⟩ ?_
              refine wpT 2 ⟨some 14, .move (.tmp 0), 176, "answer.go:74", #[], none⟩ ?_
              refine wpT 4 ⟨some 16, .move (.tmp 0), 176, "answer.go:74", #[], none⟩ ?_
              refine wpR 3 ⟨some 15, .call ⟨.value (.func 136), #[.tmp 14], #[176]⟩, 9, "answer.go:74", #[⟨2, .data⟩], none⟩ (fun K hK => ?_)
              go_simp
              (go_at_call 136; refine (hnm _ (HT.out.rd.moves (Moves.refl [] wr).drew (by simp) (by simp))).mono ?_; rintro _ w3 ⟨rfl, hr3, m3⟩)
              have T3 := HT.out.read hr3 ((Moves.refl [r] wr).drew.then m3) ho3
              obtain ⟨_, y1, _⟩ := eleven_cells T3.bx
              refine hK.out _ _ ?_ (fun hHeld => ?_)
              · first | exact x1 | exact y1 | exact z1 | exact u1 | exact t1
              clear hK K
              try simp only [Act.put, sp1, sp2, sp3]
              refine wpR 5 ⟨some 17, .call ⟨.value (.func 137), #[.tmp 16], #[176]⟩, 97, "answer.go:74", #[⟨4, .data⟩, ⟨3, .chain⟩], none⟩ (fun K hK => ?_)
              go_simp
              (go_at_call 137; refine (rowTake_w N r g b3 w3 T3.rd ho3 (Nat.lt_of_lt_of_le hg T3.mv.size)).mono ?_; intro e5 w5 hT5; obtain ⟨ad5, n5, cap5, rfl, hG5, hr5, m5⟩ := TookR_ok hT5 hdg)
              have T5 := T3.read hr5 m5 ho4
              obtain ⟨_, z1, _⟩ := eleven_cells T5.bx
              have CO : ColsAt w5 (.slice ad5 n5 cap5) Q := hG5.at
              refine hK.out _ _ ?_ (fun hHeld => ?_)
              · first | exact x1 | exact y1 | exact z1 | exact u1 | exact t1
              clear hK K
              try simp only [Act.put, sp1, sp2, sp3]
              refine wpT 6 ⟨some 18, .build 99 #[(0, .tmp 15), (1, .tmp 17)], 99, "answer.go:74", #[⟨3, .data⟩, ⟨5, .data⟩], none⟩ ?_
              refine wpR 7 ⟨some 19, .buildSlice 46 1 #[(0, .tmp 18)], 46, "answer.go:74", #[⟨6, .data⟩], none⟩ (fun K hK => ?_)
              go_simp
              have ma : Moves [] w5 (w5.alloc (.cells #[.string z, .slice ad5 n5 cap5] 99)) := (Moves.refl [] w5).alloc _
              have u1 := ma.cell z1
              refine hK.out _ _ ?_ (fun hHeld => ?_)
              · first | exact x1 | exact y1 | exact z1 | exact u1 | exact t1
              clear hK K
              try simp only [Act.put, sp1, sp2, sp3]
              refine wpR 8 ⟨some 20, .call ⟨.builtin .append, #[.tmp 13, .tmp 19], #[46, 46]⟩, 46, "answer.go:74", #[⟨1, .data⟩, ⟨7, .data⟩, ⟨5, .chain⟩], none⟩ (fun K hK => ?_)
              refine growN_step (W := w) (.tmp 13) (.tmp 19) rfl _ _ xs [⟨z, Q⟩] rfl rfl (by rfl) (T5.gr.moves0 ma) (nams_new w5 _ _ ⟨z, Q⟩ ⟨_, rfl, CO⟩) (Nat.le_trans T5.mv.size ma.size) hbd ?_
              intro v8 w8 hG8 m8 s8 l8
              obtain ⟨ad8, n8, cap8, rfl, _, _⟩ := hG8.open
              obtain ⟨b8, T8⟩ := T5.more ma m8 hG8
              obtain ⟨_, t1, _⟩ := eleven_cells b8
              have fz8 := eleven_fz b8 1
              refine hK.out _ _ ?_ (fun hHeld => ?_)
              · first | exact x1 | exact y1 | exact z1 | exact u1 | exact t1
              clear hK K
              try simp only [Act.put, sp1, sp2, sp3]
              refine wpT 9 ⟨some 21, .fieldAddr 48 (.tmp 3) 1, 0, "answer.go:74", #[⟨0, .phase⟩, ⟨1, .phase⟩, ⟨2, .phase⟩, ⟨3, .phase⟩, ⟨4, .phase⟩, ⟨5, .phase⟩, ⟨6, .phase⟩, ⟨7, .phase⟩, ⟨8, .phase⟩], none⟩ ?_
              refine wpAnyH_done (by kernel_rfl) ?_ _
              unfold PeelQ
              refine wpOp_of_wp rfl rfl ?_
              go_simp
              apply NoPanic.normal
              try simp only [Exit.then]
              go_wp2_with fail
              go_roundw
              case rel => exact ⟨k + 1, _, _, b4, by omega, by go_num, HST.out, T8⟩
              case measure => simp [intOf]; omega
        · have hkn' : ¬ (k : Int) < (n : Int) := by omega
          obtain rfl : k = n := by omega
          have D3 := HD2.out.trans (pbn_some HIT.out)
          clear HD2 HIT hkn
          have HD3 : Hid (dAns bs = pbn dSpan _ b') := D3
          clear D3
          have hsp := spTakeF_w N r g b' wr HT.out.rd HT.out.oct (Nat.lt_of_lt_of_le hg HT.out.mv.size)
          go_wp2_with fail
          cases e3 : dSpan b' with
          | none =>
            rw [e3] at hsp
            refine hsp.mono ?_
            rintro _ w3 ⟨rfl, hr3, m3⟩
            refine ⟨rfl, ?_⟩
            show TookA w r g (dAns bs) _ _
            rw [HD3.out, pbn_none e3]
            exact ⟨rfl, hr3, HT.out.mv.then m3⟩
          | some pr =>
            obtain ⟨⟨lo, hi⟩, b3⟩ := pr
            rw [e3] at hsp
            have HD4 : Hid (dAns bs = pbn (dNum 1) _ b3) := HD3.out.trans (pbn_some e3)
            have ho3 : OctN N b3 := dSpan_rest e3 HT.out.oct
            refine hsp.mono ?_
            rintro _ w3 ⟨rfl, hr3, m3⟩
            have T3 := HT.out.read hr3 m3 ho3
            obtain ⟨y0, y1, y2, y3, y4, y5, y6, y7, y8, y9, y10⟩ := eleven_cells T3.bx
            have yfz := eleven_fz T3.bx
            have HT3 : Hid (TaIs N w w3 r g R B b3 xs (.int .i64 (code : Int)) (.slice ad nn cap) (.string ⟨#[]⟩) (.string ⟨#[]⟩) (.int .i64 0) (.int .i64 0) (.int .i64 0) (.int .i64 0) (.int .i64 0) (.string ⟨#[]⟩) (.slice none 0 0)) := T3
            clear hsp hr3 m3 HT HD3 e3 T3
            go_wp2_with fail
            clear y0 y1 y2 y3 y4 y5 y6 y7 y8 y9 y10 yfz
            have S3 : TaIs N w (((w3).setCell ⟨B, 2, none⟩ (.string lo)).setCell ⟨B, 3, none⟩ (.string hi)) r g R B b3 xs (.int .i64 (code : Int)) (.slice ad nn cap) (.string lo) (.string hi) (.int .i64 0) (.int .i64 0) (.int .i64 0) (.int .i64 0) (.int .i64 0) (.string ⟨#[]⟩) (.slice none 0 0) := HT3.out.set ((moves_set _ _ _ _).then (moves_set _ _ _ _)) (heap_set (i := 3) (heap_set (i := 2) (HT3.out.bx) (.string lo)) (.string hi))
            generalize ((w3).setCell ⟨B, 2, none⟩ (.string lo)).setCell ⟨B, 3, none⟩ (.string hi) = v3 at S3 ⊢
            have hc := rbyteD_w N r g b3 v3 S3.rd S3.oct
            cases e4 : (dNum 1) b3 with
            | none =>
              rw [e4] at hc
              refine hc.mono ?_
              rintro _ w4 ⟨rfl, hr, m⟩
              refine ⟨rfl, ?_⟩
              show TookA w r g (dAns bs) _ _
              rw [HD4.out, pbn_none e4]
              exact ⟨rfl, ⟨_, hr⟩, S3.mv.then m⟩
            | some pr =>
              obtain ⟨gp, b4⟩ := pr
              rw [e4] at hc
              obtain ⟨ho4, hgp⟩ := dNum_oct e4 S3.oct
              have HD5 : Hid (dAns bs = pbn (dNum 1) _ b4) := HD4.out.trans (pbn_some e4)
              refine hc.mono ?_
              rintro _ w4 ⟨rfl, hr, m⟩
              have HT4 : Hid (TaIs N w w4 r g R B b4 xs (.int .i64 (code : Int)) (.slice ad nn cap) (.string lo) (.string hi) (.int .i64 0) (.int .i64 0) (.int .i64 0) (.int .i64 0) (.int .i64 0) (.string ⟨#[]⟩) (.slice none 0 0)) := S3.read hr m ho4
              have wc : IntKind.i64.wrap (gp : Int) = (gp : Int) := by rw [IntWalk.i64_in _ (by omega)]
              obtain ⟨y0, y1, y2, y3, y4, y5, y6, y7, y8, y9, y10⟩ := eleven_cells HT4.out.bx
              have yfz := eleven_fz HT4.out.bx
              clear hc hr m e4 HD4 S3
              go_wp2_with fail
              clear wc y0 y1 y2 y3 y4 y5 y6 y7 y8 y9 y10 yfz
              have hc := rbyteD_w N r g b4 w4 HT4.out.rd HT4.out.oct
              cases e5 : (dNum 1) b4 with
              | none =>
                rw [e5] at hc
                refine hc.mono ?_
                rintro _ w5 ⟨rfl, hr, m⟩
                refine ⟨rfl, ?_⟩
                show TookA w r g (dAns bs) _ _
                rw [HD5.out, pbn_none e5]
                exact ⟨rfl, ⟨_, hr⟩, HT4.out.mv.then m⟩
              | some pr =>
                obtain ⟨to, b5⟩ := pr
                rw [e5] at hc
                obtain ⟨ho5, hto⟩ := dNum_oct e5 HT4.out.oct
                have HD6 : Hid (dAns bs = pbn (dNum 1) _ b5) := HD5.out.trans (pbn_some e5)
                refine hc.mono ?_
                rintro _ w5 ⟨rfl, hr, m⟩
                have HT5 : Hid (TaIs N w w5 r g R B b5 xs (.int .i64 (code : Int)) (.slice ad nn cap) (.string lo) (.string hi) (.int .i64 0) (.int .i64 0) (.int .i64 0) (.int .i64 0) (.int .i64 0) (.string ⟨#[]⟩) (.slice none 0 0)) := HT4.out.read hr m ho5
                have wc : IntKind.i64.wrap (to : Int) = (to : Int) := by rw [IntWalk.i64_in _ (by omega)]
                obtain ⟨y0, y1, y2, y3, y4, y5, y6, y7, y8, y9, y10⟩ := eleven_cells HT5.out.bx
                have yfz := eleven_fz HT5.out.bx
                clear hc hr m e5 HD5 HT4
                go_wp2_with fail
                clear wc y0 y1 y2 y3 y4 y5 y6 y7 y8 y9 y10 yfz
                have hc := rbyteD_w N r g b5 w5 HT5.out.rd HT5.out.oct
                cases e6 : (dNum 1) b5 with
                | none =>
                  rw [e6] at hc
                  refine hc.mono ?_
                  rintro _ w6 ⟨rfl, hr, m⟩
                  refine ⟨rfl, ?_⟩
                  show TookA w r g (dAns bs) _ _
                  rw [HD6.out, pbn_none e6]
                  exact ⟨rfl, ⟨_, hr⟩, HT5.out.mv.then m⟩
                | some pr =>
                  obtain ⟨ac, b6⟩ := pr
                  rw [e6] at hc
                  obtain ⟨ho6, hac⟩ := dNum_oct e6 HT5.out.oct
                  have HD7 : Hid (dAns bs = pbn (dNum 4) _ b6) := HD6.out.trans (pbn_some e6)
                  refine hc.mono ?_
                  rintro _ w6 ⟨rfl, hr, m⟩
                  have HT6 : Hid (TaIs N w w6 r g R B b6 xs (.int .i64 (code : Int)) (.slice ad nn cap) (.string lo) (.string hi) (.int .i64 0) (.int .i64 0) (.int .i64 0) (.int .i64 0) (.int .i64 0) (.string ⟨#[]⟩) (.slice none 0 0)) := HT5.out.read hr m ho6
                  have wc : IntKind.i64.wrap (ac : Int) = (ac : Int) := by rw [IntWalk.i64_in _ (by omega)]
                  obtain ⟨y0, y1, y2, y3, y4, y5, y6, y7, y8, y9, y10⟩ := eleven_cells HT6.out.bx
                  have yfz := eleven_fz HT6.out.bx
                  clear hc hr m e6 HD6 HT5
                  go_wp2_with fail
                  clear wc y0 y1 y2 y3 y4 y5 y6 y7 y8 y9 y10 yfz
                  have S6 : TaIs N w ((((w6).setCell ⟨B, 4, none⟩ (.int .i64 (gp : Int))).setCell ⟨B, 7, none⟩ (.int .i64 (to : Int))).setCell ⟨B, 8, none⟩ (.int .i64 (ac : Int))) r g R B b6 xs (.int .i64 (code : Int)) (.slice ad nn cap) (.string lo) (.string hi) (.int .i64 (gp : Int)) (.int .i64 0) (.int .i64 0) (.int .i64 (to : Int)) (.int .i64 (ac : Int)) (.string ⟨#[]⟩) (.slice none 0 0) := HT6.out.set (((moves_set _ _ _ _).then (moves_set _ _ _ _)).then (moves_set _ _ _ _)) (heap_set (i := 8) (heap_set (i := 7) (heap_set (i := 4) (HT6.out.bx) (.int .i64 (gp : Int))) (.int .i64 (to : Int))) (.int .i64 (ac : Int)))
                  generalize (((w6).setCell ⟨B, 4, none⟩ (.int .i64 (gp : Int))).setCell ⟨B, 7, none⟩ (.int .i64 (to : Int))).setCell ⟨B, 8, none⟩ (.int .i64 (ac : Int)) = v6 at S6 ⊢
                  have hc := rnumD_w N r g b6 v6 S6.rd S6.oct
                  cases e7 : (dNum 4) b6 with
                  | none =>
                    rw [e7] at hc
                    refine hc.mono ?_
                    rintro _ w7 ⟨rfl, hr, m⟩
                    refine ⟨rfl, ?_⟩
                    show TookA w r g (dAns bs) _ _
                    rw [HD7.out, pbn_none e7]
                    exact ⟨rfl, ⟨_, hr⟩, S6.mv.then m⟩
                  | some pr =>
                    obtain ⟨ge, b7⟩ := pr
                    rw [e7] at hc
                    obtain ⟨ho7, hge⟩ := dNum_oct e7 S6.oct
                    have HD8 : Hid (dAns bs = pbn (dNum 4) _ b7) := HD7.out.trans (pbn_some e7)
                    refine hc.mono ?_
                    rintro _ w7 ⟨rfl, hr, m⟩
                    have HT7 : Hid (TaIs N w w7 r g R B b7 xs (.int .i64 (code : Int)) (.slice ad nn cap) (.string lo) (.string hi) (.int .i64 (gp : Int)) (.int .i64 0) (.int .i64 0) (.int .i64 (to : Int)) (.int .i64 (ac : Int)) (.string ⟨#[]⟩) (.slice none 0 0)) := S6.read hr m ho7
                    have wc : IntKind.i64.wrap (ge : Int) = (ge : Int) := by rw [IntWalk.i64_in _ (by omega)]
                    obtain ⟨y0, y1, y2, y3, y4, y5, y6, y7, y8, y9, y10⟩ := eleven_cells HT7.out.bx
                    have yfz := eleven_fz HT7.out.bx
                    clear hc hr m e7 HD7 S6
                    go_wp2_with fail
                    clear wc y0 y1 y2 y3 y4 y5 y6 y7 y8 y9 y10 yfz
                    have hc := rnumD_w N r g b7 w7 HT7.out.rd HT7.out.oct
                    cases e8 : (dNum 4) b7 with
                    | none =>
                      rw [e8] at hc
                      refine hc.mono ?_
                      rintro _ w8 ⟨rfl, hr, m⟩
                      refine ⟨rfl, ?_⟩
                      show TookA w r g (dAns bs) _ _
                      rw [HD8.out, pbn_none e8]
                      exact ⟨rfl, ⟨_, hr⟩, HT7.out.mv.then m⟩
                    | some pr =>
                      obtain ⟨ol, b8⟩ := pr
                      rw [e8] at hc
                      obtain ⟨ho8, hol⟩ := dNum_oct e8 HT7.out.oct
                      have HD9 : Hid (dAns bs = pbn (dText 16) _ b8) := HD8.out.trans (pbn_some e8)
                      refine hc.mono ?_
                      rintro _ w8 ⟨rfl, hr, m⟩
                      have HT8 : Hid (TaIs N w w8 r g R B b8 xs (.int .i64 (code : Int)) (.slice ad nn cap) (.string lo) (.string hi) (.int .i64 (gp : Int)) (.int .i64 0) (.int .i64 0) (.int .i64 (to : Int)) (.int .i64 (ac : Int)) (.string ⟨#[]⟩) (.slice none 0 0)) := HT7.out.read hr m ho8
                      have wc : IntKind.i64.wrap (ol : Int) = (ol : Int) := by rw [IntWalk.i64_in _ (by omega)]
                      obtain ⟨y0, y1, y2, y3, y4, y5, y6, y7, y8, y9, y10⟩ := eleven_cells HT8.out.bx
                      have yfz := eleven_fz HT8.out.bx
                      clear hc hr m e8 HD8 HT7
                      go_wp2_with fail
                      clear wc y0 y1 y2 y3 y4 y5 y6 y7 y8 y9 y10 yfz
                      have S8 : TaIs N w (((w8).setCell ⟨B, 5, none⟩ (.int .i64 (ge : Int))).setCell ⟨B, 6, none⟩ (.int .i64 (ol : Int))) r g R B b8 xs (.int .i64 (code : Int)) (.slice ad nn cap) (.string lo) (.string hi) (.int .i64 (gp : Int)) (.int .i64 (ge : Int)) (.int .i64 (ol : Int)) (.int .i64 (to : Int)) (.int .i64 (ac : Int)) (.string ⟨#[]⟩) (.slice none 0 0) := HT8.out.set ((moves_set _ _ _ _).then (moves_set _ _ _ _)) (heap_set (i := 6) (heap_set (i := 5) (HT8.out.bx) (.int .i64 (ge : Int))) (.int .i64 (ol : Int)))
                      generalize ((w8).setCell ⟨B, 5, none⟩ (.int .i64 (ge : Int))).setCell ⟨B, 6, none⟩ (.int .i64 (ol : Int)) = v8 at S8 ⊢
                      have hc := cname_w N r g b8 v8 S8.rd S8.oct
                      cases e9 : dText 16 b8 with
                      | none =>
                        rw [e9] at hc
                        refine hc.mono ?_
                        rintro _ w9 ⟨rfl, hr, m⟩
                        refine ⟨rfl, ?_⟩
                        show TookA w r g (dAns bs) _ _
                        rw [HD9.out, pbn_none e9]
                        exact ⟨rfl, ⟨_, hr⟩, S8.mv.then m⟩
                      | some pr =>
                        obtain ⟨tx, b9⟩ := pr
                        rw [e9] at hc
                        have ho9 := dText_rest e9 S8.oct
                        have HD10 : Hid (dAns bs = pbn (dText 1048576) _ b9) := HD9.out.trans (pbn_some e9)
                        obtain ⟨z, hz⟩ : ∃ z, strOf tx = z := ⟨_, rfl⟩
                        rw [hz] at HD10
                        dsimp only at hc
                        rw [hz] at hc
                        refine hc.mono ?_
                        rintro _ w9 ⟨rfl, hr, m⟩
                        have HT9 : Hid (TaIs N w w9 r g R B b9 xs (.int .i64 (code : Int)) (.slice ad nn cap) (.string lo) (.string hi) (.int .i64 (gp : Int)) (.int .i64 (ge : Int)) (.int .i64 (ol : Int)) (.int .i64 (to : Int)) (.int .i64 (ac : Int)) (.string ⟨#[]⟩) (.slice none 0 0)) := S8.read hr m ho9
                        clear hc hr m e9 HD9 S8 hz
                        go_wp2_with fail
                        have hc := rtextD_w N r g b9 w9 HT9.out.rd HT9.out.oct
                        cases e10 : dText 1048576 b9 with
                        | none =>
                          rw [e10] at hc
                          refine hc.mono ?_
                          rintro _ w10 ⟨rfl, hr, m⟩
                          refine ⟨rfl, ?_⟩
                          show TookA w r g (dAns bs) _ _
                          rw [HD10.out, pbn_none e10]
                          exact ⟨rfl, ⟨_, hr⟩, HT9.out.mv.then m⟩
                        | some pr =>
                          obtain ⟨st, b10⟩ := pr
                          rw [e10] at hc
                          have ho10 := dText_rest e10 HT9.out.oct
                          have HD11 : Hid (dAns bs = if rAns ⟨(code : Int), xs, lo, hi, (gp : Int), (ge : Int), (ol : Int), (to : Int), (ac : Int), z, st⟩ then some (⟨(code : Int), xs, lo, hi, (gp : Int), (ge : Int), (ol : Int), (to : Int), (ac : Int), z, st⟩, b10) else none) := HD10.out.trans (pbn_some e10)
                          have hst : ∀ z ∈ st, z < 256 := (dText_text e10 HT9.out.oct).1
                          refine hc.mono ?_
                          rintro _ w10 ⟨sv, rfl, hO, hr, m, hF⟩
                          have HT10 : Hid (TaIs N w w10 r g R B b10 xs (.int .i64 (code : Int)) (.slice ad nn cap) (.string lo) (.string hi) (.int .i64 (gp : Int)) (.int .i64 (ge : Int)) (.int .i64 (ol : Int)) (.int .i64 (to : Int)) (.int .i64 (ac : Int)) (.string ⟨#[]⟩) (.slice none 0 0)) := HT9.out.read hr m ho10
                          have hBs : sv.ownBlock ≠ some B := hO.ne HT10.out.bx (by decide)
                          obtain ⟨y0, y1, y2, y3, y4, y5, y6, y7, y8, y9, y10⟩ := eleven_cells HT10.out.bx
                          have yfz := eleven_fz HT10.out.bx
                          obtain ⟨sa, ns, cs, rfl⟩ : ∃ sa ns cs, sv = .slice sa ns cs := by obtain ⟨_, _, _, e, _⟩ := hO.isB; exact ⟨_, _, _, e⟩
                          have HO : Hid (Own w10 (.slice sa ns cs) st) := hO
                          have HB : Hid ((Value.slice sa ns cs).ownBlock ≠ some B) := hBs
                          clear hc hr m hF hO hBs e10 HD10 HT9
                          have HM : Hid (Moves [B] w10 (((w10).setCell ⟨B, 9, none⟩ (.string z)).setCell ⟨B, 10, none⟩ (.slice sa ns cs))) := (moves_set _ _ _ _).then (moves_set _ _ _ _)
                          go_wp2_with fail
                          clear y0 y1 y2 y3 y4 y5 y6 y7 y8 y9 y10 yfz
                          have S10 : TaIs N w (((w10).setCell ⟨B, 9, none⟩ (.string z)).setCell ⟨B, 10, none⟩ (.slice sa ns cs)) r g R B b10 xs (.int .i64 (code : Int)) (.slice ad nn cap) (.string lo) (.string hi) (.int .i64 (gp : Int)) (.int .i64 (ge : Int)) (.int .i64 (ol : Int)) (.int .i64 (to : Int)) (.int .i64 (ac : Int)) (.string z) (.slice sa ns cs) := HT10.out.set ((moves_set _ _ _ _).then (moves_set _ _ _ _)) (heap_set (i := 10) (heap_set (i := 9) (HT10.out.bx) (.string z)) (.slice sa ns cs))
                          generalize ((w10).setCell ⟨B, 9, none⟩ (.string z)).setCell ⟨B, 10, none⟩ (.slice sa ns cs) = v10 at HM S10 ⊢
                          obtain ⟨g9, kB, kU⟩ := ownU8 (HO.out.moves HM.out (fun k hk hm => HB.out (by simp at hm; rw [← hm]; exact hk)))
                          have hA : AnsC v10 [.int .i64 (code : Int), .slice ad nn cap, .string lo, .string hi, .int .i64 (gp : Int), .int .i64 (ge : Int), .int .i64 (ol : Int), .int .i64 (to : Int), .int .i64 (ac : Int), .string z, .slice sa ns cs] ⟨(code : Int), xs, lo, hi, (gp : Int), (ge : Int), (ol : Int), (to : Int), (ac : Int), z, st⟩ := ⟨_, _, _, _, _, _, g9, rfl, S10.gr.at, kB, kU, hst⟩
                          have hc := crightA_w v10 v10 _ _ hA (Moves.refl _ _)
                          refine hc.mono ?_
                          rintro _ w11 ⟨rfl, m⟩
                          have HA : Hid (AnsC w11 [.int .i64 (code : Int), .slice ad nn cap, .string lo, .string hi, .int .i64 (gp : Int), .int .i64 (ge : Int), .int .i64 (ol : Int), .int .i64 (to : Int), .int .i64 (ac : Int), .string z, .slice sa ns cs] ⟨(code : Int), xs, lo, hi, (gp : Int), (ge : Int), (ol : Int), (to : Int), (ac : Int), z, st⟩) := hA.moves m
                          have HT11 : Hid (TaIs N w w11 r g R B b10 xs (.int .i64 (code : Int)) (.slice ad nn cap) (.string lo) (.string hi) (.int .i64 (gp : Int)) (.int .i64 (ge : Int)) (.int .i64 (ol : Int)) (.int .i64 (to : Int)) (.int .i64 (ac : Int)) (.string z) (.slice sa ns cs)) := S10.set (m.mono (by simp)) (m.at S10.bx (by simp))
                          clear hc m hA kB kU HM HO HB S10 HT10
                          obtain ⟨y0, y1, y2, y3, y4, y5, y6, y7, y8, y9, y10⟩ := eleven_cells HT11.out.bx
                          have yfz := eleven_fz HT11.out.bx
                          cases hR : rAns ⟨(code : Int), xs, lo, hi, (gp : Int), (ge : Int), (ol : Int), (to : Int), (ac : Int), z, st⟩ with
                          | false =>
                            go_wp2_with fail
                            refine (rfail_w r g _ _ HT11.out.rd).mono ?_
                            rintro _ w12 ⟨rfl, hr, m⟩
                            refine ⟨rfl, ?_⟩
                            show TookA w r g (dAns bs) _ _
                            rw [HD11.out, hR, if_neg (by simp)]
                            exact ⟨rfl, ⟨_, hr⟩, HT11.out.mv.then m⟩
                          | true =>
                            obtain ⟨q0, q1, q2, q3, q4, q5, q6, q7, q8, q9, q10⟩ := eleven_cells HT11.out.rx
                            have qfz := eleven_fz HT11.out.rx
                            go_wp2_with fail
                            have so := stored11 HT11.out.rx (.int .i64 (code : Int)) (.slice ad nn cap) (.string lo) (.string hi) (.int .i64 (gp : Int)) (.int .i64 (ge : Int)) (.int .i64 (ol : Int)) (.int .i64 (to : Int)) (.int .i64 (ac : Int)) (.string z) (.slice sa ns cs)
                            have hsy : Stay (fun t => t = 5 ∨ t = 146 ∨ t = 144) w11 _ := Stay.ofMovesS so.2 (fun b hb c t fz hc ht => by simp at hb; subst hb; rw [HT11.out.rx] at hc; simp at hc; rw [← hc.2.1] at ht; revert ht; decide)
                            have gN := HT11.out.gr.moves so.2 (fun k hk hm => by simp at hm; subst hm; exact (Grow.neT HT11.out.gr HT11.out.rx (by decide)) (by rw [hk]; simp)) hsy
                            obtain ⟨g8, kB, kU⟩ : ∃ g8, IsB w11 g8 (.slice sa ns cs) st ∧ U8 w11 g8 st := by
                              obtain ⟨_, _, _, _, _, _, g8, e, _, k1, k2, _⟩ := HA.out
                              simp only [List.cons.injEq, Value.slice.injEq, and_true, true_and] at e
                              obtain ⟨-, rfl, rfl, rfl⟩ := e
                              exact ⟨g8, k1, k2⟩
                            obtain ⟨kB2, kU2⟩ := kB.stay hsy (.inl rfl) kU
                            have l1 := HT11.out.hr
                            have l2 := HT11.out.hg
                            have l3 := HT11.out.hR
                            refine bodyPost_ret (ret_ans rfl _ _ _ _ _ _ _ _ _ _ _ _ _ _ rfl so.1) rfl ?_
                            show TookA w r g (dAns bs) _ _
                            rw [HD11.out, hR, if_pos rfl]
                            exact ⟨_, rfl, ⟨_, _, _, _, _, _, g8, rfl, gN.at, kB2, kU2, hst⟩, HT11.out.rd.moves so.2 (by simp; omega) (by simp; omega), HT11.out.mv.trans so.2 (fun k hk => .inr (by simp at hk; omega))⟩
end Go.Proofs.YtilbbnmhnacnlaaGreat
