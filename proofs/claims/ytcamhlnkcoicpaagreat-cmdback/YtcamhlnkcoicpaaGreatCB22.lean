/-
  Am3, Am4, Am5: our texts of these names, laid into one.
-/
import Derived.Test.YtcamhlnkcoicpaaGreatCB21
/-
  cmd's EncodeAnswer of any answer; takeName, span.Take, takeAnswer of any bytes.
-/
namespace Go.Proofs.YtcamhlnkcoicpaaGreat
open Go.RowKit

/-- A text that is not too long, of any bytes. -/
theorem cname_w (N r g : Nat) (bs : List Nat) (w : World) (h : RdIs w r g bs false) (ho : OctN N bs) :
    Calls Tryz.prog 109 #[.pointer (some ⟨r, 0, none⟩)] w fun e w' => match dText 16 bs with
      | some (tx, rest) => e = .returned (.string (strOf tx)) ∧ RdIs w' r g rest false ∧ Moves [r] w w'
      | none => e = .panicked (stop r) ∧ RdIs w' r g bs true ∧ Moves [r] w w' := by
  cases hd : dText 16 bs with
  | some pr =>
    obtain ⟨tx, rest⟩ := pr
    obtain ⟨h1, h2, h3⟩ := dText_yes hd
    have hR := rtextr_w r g bs 16 w h ho.2 h1
    rw [h2, h3] at hR
    have hz := (dText_text hd ho).1
    clear h1 h2 h3 hd
    dsimp only
    obtain ⟨z, hzz⟩ : ∃ z, strOf tx = z := ⟨_, rfl⟩
    rw [hzz]
    go_enter Tryz.func109, Tryz.ntmps109
    go_wp2_with fail
    refine hR.mono ?_
    rintro _ w2 ⟨v, rfl, hO, hr, m, _⟩
    have hrun := run_str hO.isB hz
    rw [hzz] at hrun
    go_wp2_with fail
    go_ret
    exact ⟨rfl, hr, m⟩
  | none =>
    have hR := rtextr_fail_w r g bs 16 w h ho.2 (dText_no hd)
    go_enter Tryz.func109, Tryz.ntmps109
    go_wp2_with fail
    refine hR.mono ?_
    rintro _ w2 ⟨rfl, hr, m⟩
    exact ⟨rfl, rfl, hr, m⟩
theorem stakeEnd_w (N r g : Nat) (bs : List Nat) (w : World) (h : RdIs w r g bs false) (ho : OctN N bs) :
    Calls Tryz.prog 154 #[.pointer (some ⟨r, 0, none⟩)] w fun e w' => match dText 16 bs with
      | some (tx, rest) => e = .returned (.string (strOf tx)) ∧ RdIs w' r g rest false ∧ Moves [r] w w'
      | none => e = .panicked (stop r) ∧ RdIs w' r g bs true ∧ Moves [r] w w' := by
  cases hd : dText 16 bs with
  | some pr =>
    obtain ⟨tx, rest⟩ := pr
    obtain ⟨h1, h2, h3⟩ := dText_yes hd
    have hR := rtextr_w r g bs 16 w h ho.2 h1
    rw [h2, h3] at hR
    have hz := (dText_text hd ho).1
    clear h1 h2 h3 hd
    dsimp only
    obtain ⟨z, hzz⟩ : ∃ z, strOf tx = z := ⟨_, rfl⟩
    rw [hzz]
    go_enter Tryz.func154, Tryz.ntmps154
    go_wp2_with fail
    refine hR.mono ?_
    rintro _ w2 ⟨v, rfl, hO, hr, m, _⟩
    have hrun := run_str hO.isB hz
    rw [hzz] at hrun
    go_wp2_with fail
    go_ret
    exact ⟨rfl, hr, m⟩
  | none =>
    have hR := rtextr_fail_w r g bs 16 w h ho.2 (dText_no hd)
    go_enter Tryz.func154, Tryz.ntmps154
    go_wp2_with fail
    refine hR.mono ?_
    rintro _ w2 ⟨rfl, hr, m⟩
    exact ⟨rfl, rfl, hr, m⟩

/-- What span.Take leaves. -/
def TookS (w0 : World) (r g : Nat) (o : Option (Psp × List Nat)) (e : Ending) (w' : World) : Prop := match o with
  | some (s, rest) => e = .returned (.agg #[.string s.lo, .string s.hi]) ∧ RdIs w' r g rest false ∧ Moves [r] w0 w'
  | none => e = .panicked (stop r) ∧ (∃ bs', RdIs w' r g bs' true) ∧ Moves [r] w0 w'

set_option maxRecDepth 100000 in
set_option maxHeartbeats 4000000 in
theorem spTakeF_w (N r g : Nat) (bs : List Nat) (w : World) (h : RdIs w r g bs false) (ho : OctN N bs) (hg : g < w.heap.size) :
    Calls Tryz.prog 133 #[.pointer (some ⟨r, 0, none⟩)] w fun e w' => TookS w r g (dSpan bs) e w' := by
  have lp : r < w.heap.size := h.ltp
  have hb := heap_alloc_new w (.cells #[.string ⟨#[]⟩, .string ⟨#[]⟩] 34)
  have m0 : Moves [] w (w.alloc (.cells #[.string ⟨#[]⟩, .string ⟨#[]⟩] 34)) := (Moves.refl _ _).alloc _
  have h0 := h.moves m0 (by simp) (by simp)
  obtain ⟨P, hP⟩ : ∃ P, w.heap.size = P := ⟨_, rfl⟩
  rw [hP] at hb
  have hpe : ∀ w1 : World, (binOp .eql 110 (.pointer (some ⟨r, 0, none⟩)) (.pointer none)).run Tryz.prog w1 = .ok (.bool false) w1 := by intro w1; kernel_rfl
  have hE := stakeEnd_w N r g bs _ h0 ho
  cases h1 : dText 16 bs with
  | none =>
    rw [h1] at hE
    have e0 : dSpan bs = none := pbn_none h1
    rw [e0]
    go_enter Tryz.func133, Tryz.ntmps133
    go_wp2_with fail
    refine hE.mono ?_
    rintro _ w2 ⟨rfl, hr2, m2⟩
    exact ⟨rfl, rfl, ⟨_, hr2⟩, (m0.mono (by simp)).then m2⟩
  | some pr =>
    obtain ⟨lo, b1⟩ := pr
    rw [h1] at hE
    have ho1 := dText_rest h1 ho
    have HD1 : Hid (dSpan bs = _) := pbn_some h1
    cases h2 : dText 16 b1 with
    | none =>
      have e0 : dSpan bs = none := by rw [HD1.out]; exact pbn_none h2
      rw [e0]
      clear HD1 e0
      go_enter Tryz.func133, Tryz.ntmps133
      go_wp2_with fail
      refine hE.mono ?_
      rintro _ w2 ⟨rfl, hr2, m2⟩
      have hE2 := stakeEnd_w N r g b1 w2 hr2 ho1
      rw [h2] at hE2
      go_wp2_with fail
      refine hE2.mono ?_
      rintro _ w3 ⟨rfl, hr3, m3⟩
      exact ⟨rfl, rfl, ⟨_, hr3⟩, ((m0.mono (by simp)).then m2).then m3⟩
    | some pr2 =>
      obtain ⟨hi, b2⟩ := pr2
      have HD2 : dSpan bs = if spR ⟨strOf lo, strOf hi⟩ then some (⟨strOf lo, strOf hi⟩, b2) else none := by rw [HD1.out]; exact pbn_some h2
      rw [HD2]
      clear HD1 HD2
      obtain ⟨zl, hzl⟩ : ∃ zl, strOf lo = zl := ⟨_, rfl⟩
      obtain ⟨zh, hzh⟩ : ∃ zh, strOf hi = zh := ⟨_, rfl⟩
      dsimp only at hE
      rw [hzl] at hE ⊢
      rw [hzh]
      cases hR : spR ⟨zl, zh⟩ with
      | false =>
        rw [if_neg (by simp)]
        go_enter Tryz.func133, Tryz.ntmps133
        go_wp2_with fail
        refine hE.mono ?_
        rintro _ w2 ⟨rfl, hr2, m2⟩
        have hE2 := stakeEnd_w N r g b1 w2 hr2 ho1
        rw [h2] at hE2
        dsimp only at hE2
        rw [hzh] at hE2
        have hb2 := m2.at hb (by simp; omega)
        go_wp2_with fail
        refine hE2.mono ?_
        rintro _ w3 ⟨rfl, hr3, m3⟩
        have hb3 := m3.at hb2 (by simp; omega)
        have hq := heap_alloc_new w3 (.cells #[.string zl, .string zh] 34)
        have mq : Moves [] w3 (w3.alloc (.cells #[.string zl, .string zh] 34)) := (Moves.refl _ _).alloc _
        have hr4 := hr3.moves mq (by simp) (by simp)
        obtain ⟨Q, hQ⟩ : ∃ Q, w3.heap.size = Q := ⟨_, rfl⟩
        rw [hQ] at hq
        go_wp2_with fail
        refine (spRight_w _ _ _).mono ?_
        rintro _ w5 ⟨rfl, m5⟩
        rw [hR]
        have hr5 := hr4.moves m5 (by simp) (by simp)
        obtain ⟨c0, c1, _, _⟩ := sp_cells (m5.at hq (by simp))
        go_wp2_with fail
        refine (rfail_w r g _ _ hr5).mono ?_
        rintro _ w6 ⟨rfl, hr6, m6⟩
        exact ⟨rfl, rfl, ⟨_, hr6⟩, (((m0.mono (by simp)).then (m2.then m3)).then ((mq.then m5).mono (by simp))).then m6⟩
      | true =>
        rw [if_pos rfl]
        go_enter Tryz.func133, Tryz.ntmps133
        go_wp2_with fail
        refine hE.mono ?_
        rintro _ w2 ⟨rfl, hr2, m2⟩
        have hE2 := stakeEnd_w N r g b1 w2 hr2 ho1
        rw [h2] at hE2
        dsimp only at hE2
        rw [hzh] at hE2
        have hb2 := m2.at hb (by simp; omega)
        go_wp2_with fail
        refine hE2.mono ?_
        rintro _ w3 ⟨rfl, hr3, m3⟩
        have hb3 := m3.at hb2 (by simp; omega)
        have hq := heap_alloc_new w3 (.cells #[.string zl, .string zh] 34)
        have mq : Moves [] w3 (w3.alloc (.cells #[.string zl, .string zh] 34)) := (Moves.refl _ _).alloc _
        have hb4 := mq.at hb3 (by simp)
        have hr4 := hr3.moves mq (by simp) (by simp)
        obtain ⟨Q, hQ⟩ : ∃ Q, w3.heap.size = Q := ⟨_, rfl⟩
        rw [hQ] at hq
        have lp3 : P < w3.heap.size := lt_of_block hb3
        go_wp2_with fail
        refine (spRight_w _ _ _).mono ?_
        rintro _ w5 ⟨rfl, m5⟩
        rw [hR]
        have hb5 := m5.at hb4 (by simp)
        have hr5 := hr4.moves m5 (by simp) (by simp)
        obtain ⟨c0, c1, _, _⟩ := sp_cells (m5.at hq (by simp))
        obtain ⟨d0, d1, f0, f1⟩ := sp_cells hb5
        go_wp2_with fail
        try simp only [Exit.inBlock, Exit.then]
        have st := spStored1 (a := .string zl) (b := .string zh) hb5
        refine bodyPost_ret (ret_span rfl _ _ _ _ _ rfl st.1) rfl ⟨rfl, hr5.moves st.2 (by simp; omega) (by simp; omega), ?_⟩
        have M : Moves [r] w w5 := ((m0.mono (by simp)).then (m2.then m3)).then ((mq.then m5).mono (by simp))
        exact M.trans st.2 (fun x hx => .inr (by simp at hx; omega))
end Go.Proofs.YtcamhlnkcoicpaaGreat
/-
  cmd's takeAnswer of any bytes.
-/
namespace Go.Proofs.YtcamhlnkcoicpaaGreat
open Go.RowKit

theorem eleven_fz {w : World} {p : Nat} {a0 a1 a2 a3 a4 a5 a6 a7 a8 a9 a10 : Value} {t : TypeId} (h : w.heap[p]? = some (.cells #[a0, a1, a2, a3, a4, a5, a6, a7, a8, a9, a10] t (0, 0))) : ∀ i, w.frozen? ⟨p, i, none⟩ = false := by
  intro i
  simp [World.frozen?, h]
theorem dSpan_rest {N : Nat} {s : Psp} {bs r : List Nat} (h : dSpan bs = some (s, r)) (ho : OctN N bs) : OctN N r := by
  unfold dSpan at h
  cases e1 : dText 16 bs with
  | none => rw [pbn_none e1] at h; simp at h
  | some pr =>
    obtain ⟨lo, b1⟩ := pr
    rw [pbn_some e1] at h
    have h1 := dText_rest e1 ho
    cases e2 : dText 16 b1 with
    | none => rw [pbn_none e2] at h; simp at h
    | some pr =>
      obtain ⟨hi, b2⟩ := pr
      rw [pbn_some e2] at h
      have h2 := dText_rest e2 h1
      split at h
      · simp at h
        rw [← h.2]
        exact h2
      · simp at h
theorem dNum_oct {N n v : Nat} {bs r : List Nat} (h : dNum n bs = some (v, r)) (ho : OctN N bs) : OctN N r ∧ v < 256 ^ n := by
  obtain ⟨h1, h2, h3⟩ := dNum_some h
  rw [← h3, ← h2]
  exact ⟨ho.drop n, val_lt ho.2 n⟩
theorem rbyteD_w (N r g : Nat) (bs : List Nat) (w : World) (h : RdIs w r g bs false) (ho : OctN N bs) : Calls Tryz.prog 64 #[.pointer (some ⟨r, 0, none⟩)] w fun e w' => match dNum 1 bs with
    | some (v, rest) => e = .returned (.int .u8 (v : Int)) ∧ RdIs w' r g rest false ∧ Moves [r] w w'
    | none => e = .panicked (stop r) ∧ RdIs w' r g bs true ∧ Moves [r] w w' := by
  cases hd : dNum 1 bs with
  | some pr =>
    obtain ⟨v, rest⟩ := pr
    obtain ⟨h1, h2, h3⟩ := dNum_some hd
    have q := rbyte_w r g bs w h h1 ho.2
    rw [h2, h3] at q
    exact q
  | none => exact rbyte_fail_w r g bs w h (dNum_none hd)
theorem rnumD_w (N r g : Nat) (bs : List Nat) (w : World) (h : RdIs w r g bs false) (ho : OctN N bs) : Calls Tryz.prog 65 #[.pointer (some ⟨r, 0, none⟩)] w fun e w' => match dNum 4 bs with
    | some (v, rest) => e = .returned (.int .u32 (v : Int)) ∧ RdIs w' r g rest false ∧ Moves [r] w w'
    | none => e = .panicked (stop r) ∧ RdIs w' r g bs true ∧ Moves [r] w w' := by
  cases hd : dNum 4 bs with
  | some pr =>
    obtain ⟨v, rest⟩ := pr
    obtain ⟨h1, h2, h3⟩ := dNum_some hd
    have q := rnumr_w r g bs w h h1 ho.2
    rw [h2, h3] at q
    exact q
  | none => exact rnumr_fail_w r g bs w h (dNum_none hd)

theorem ownU8 {w : World} {v : Value} {bs : List Nat} (h : Own w v bs) : ∃ g, IsB w g v bs ∧ U8 w g bs := by
  refine ⟨v.ownBlock.getD 0, h.isB, ?_⟩
  rcases h.2 with ⟨rfl, h0⟩ | ⟨g, cap, cur, rfl, hb, hgg, _⟩
  · exact .inl (List.eq_nil_of_length_eq_zero h0)
  · exact .inr ⟨cur, _, hgg⟩
theorem rtextD_w (N r g : Nat) (bs : List Nat) (w : World) (h : RdIs w r g bs false) (ho : OctN N bs) : Calls Tryz.prog 66 #[.pointer (some ⟨r, 0, none⟩), .int .i64 1048576] w fun e w' => match dText 1048576 bs with
    | some (tx, rest) => ∃ v', e = .returned v' ∧ Own w' v' tx ∧ RdIs w' r g rest false ∧ Moves [r] w w' ∧ Fresh w v'
    | none => e = .panicked (stop r) ∧ RdIs w' r g bs true ∧ Moves [r] w w' := by
  cases hd : dText 1048576 bs with
  | some pr =>
    obtain ⟨tx, rest⟩ := pr
    obtain ⟨h1, h2, h3⟩ := dText_yes hd
    have hR := rtextr_w r g bs 1048576 w h ho.2 h1
    rw [h2, h3] at hR
    exact hR
  | none => exact rtextr_fail_w r g bs 1048576 w h ho.2 (dText_no hd)
theorem stored11 {w : World} {p : Nat} {a0 a1 a2 a3 a4 a5 a6 a7 a8 a9 a10 : Value} {t : TypeId} (hp : w.heap[p]? = some (.cells #[a0, a1, a2, a3, a4, a5, a6, a7, a8, a9, a10] t (0, 0))) (x0 x1 x2 x3 x4 x5 x6 x7 x8 x9 x10 : Value) :
    ((((((((((((w).setCell ⟨p, 0, none⟩ x0).setCell ⟨p, 1, none⟩ x1).setCell ⟨p, 2, none⟩ x2).setCell ⟨p, 3, none⟩ x3).setCell ⟨p, 4, none⟩ x4).setCell ⟨p, 5, none⟩ x5).setCell ⟨p, 6, none⟩ x6).setCell ⟨p, 7, none⟩ x7).setCell ⟨p, 8, none⟩ x8).setCell ⟨p, 9, none⟩ x9).setCell ⟨p, 10, none⟩ x10).heap[p]? = some (.cells #[x0, x1, x2, x3, x4, x5, x6, x7, x8, x9, x10] t (0, 0)) ∧ Moves [p] w ((((((((((((w).setCell ⟨p, 0, none⟩ x0).setCell ⟨p, 1, none⟩ x1).setCell ⟨p, 2, none⟩ x2).setCell ⟨p, 3, none⟩ x3).setCell ⟨p, 4, none⟩ x4).setCell ⟨p, 5, none⟩ x5).setCell ⟨p, 6, none⟩ x6).setCell ⟨p, 7, none⟩ x7).setCell ⟨p, 8, none⟩ x8).setCell ⟨p, 9, none⟩ x9).setCell ⟨p, 10, none⟩ x10) := by
  have h0 : (w.setCell ⟨p, 0, none⟩ x0).heap[p]? = some (.cells #[x0, a1, a2, a3, a4, a5, a6, a7, a8, a9, a10] t (0, 0)) := heap_set (i := 0) hp x0
  have n0 : Moves [p] w (w.setCell ⟨p, 0, none⟩ x0) := moves_set _ _ _ _
  generalize w.setCell ⟨p, 0, none⟩ x0 = w1 at h0 n0 ⊢
  have h1 : (w1.setCell ⟨p, 1, none⟩ x1).heap[p]? = some (.cells #[x0, x1, a2, a3, a4, a5, a6, a7, a8, a9, a10] t (0, 0)) := heap_set (i := 1) h0 x1
  have n1 : Moves [p] w (w1.setCell ⟨p, 1, none⟩ x1) := n0.then (moves_set _ _ _ _)
  generalize w1.setCell ⟨p, 1, none⟩ x1 = w2 at h1 n1 ⊢
  have h2 : (w2.setCell ⟨p, 2, none⟩ x2).heap[p]? = some (.cells #[x0, x1, x2, a3, a4, a5, a6, a7, a8, a9, a10] t (0, 0)) := heap_set (i := 2) h1 x2
  have n2 : Moves [p] w (w2.setCell ⟨p, 2, none⟩ x2) := n1.then (moves_set _ _ _ _)
  generalize w2.setCell ⟨p, 2, none⟩ x2 = w3 at h2 n2 ⊢
  have h3 : (w3.setCell ⟨p, 3, none⟩ x3).heap[p]? = some (.cells #[x0, x1, x2, x3, a4, a5, a6, a7, a8, a9, a10] t (0, 0)) := heap_set (i := 3) h2 x3
  have n3 : Moves [p] w (w3.setCell ⟨p, 3, none⟩ x3) := n2.then (moves_set _ _ _ _)
  generalize w3.setCell ⟨p, 3, none⟩ x3 = w4 at h3 n3 ⊢
  have h4 : (w4.setCell ⟨p, 4, none⟩ x4).heap[p]? = some (.cells #[x0, x1, x2, x3, x4, a5, a6, a7, a8, a9, a10] t (0, 0)) := heap_set (i := 4) h3 x4
  have n4 : Moves [p] w (w4.setCell ⟨p, 4, none⟩ x4) := n3.then (moves_set _ _ _ _)
  generalize w4.setCell ⟨p, 4, none⟩ x4 = w5 at h4 n4 ⊢
  have h5 : (w5.setCell ⟨p, 5, none⟩ x5).heap[p]? = some (.cells #[x0, x1, x2, x3, x4, x5, a6, a7, a8, a9, a10] t (0, 0)) := heap_set (i := 5) h4 x5
  have n5 : Moves [p] w (w5.setCell ⟨p, 5, none⟩ x5) := n4.then (moves_set _ _ _ _)
  generalize w5.setCell ⟨p, 5, none⟩ x5 = w6 at h5 n5 ⊢
  have h6 : (w6.setCell ⟨p, 6, none⟩ x6).heap[p]? = some (.cells #[x0, x1, x2, x3, x4, x5, x6, a7, a8, a9, a10] t (0, 0)) := heap_set (i := 6) h5 x6
  have n6 : Moves [p] w (w6.setCell ⟨p, 6, none⟩ x6) := n5.then (moves_set _ _ _ _)
  generalize w6.setCell ⟨p, 6, none⟩ x6 = w7 at h6 n6 ⊢
  have h7 : (w7.setCell ⟨p, 7, none⟩ x7).heap[p]? = some (.cells #[x0, x1, x2, x3, x4, x5, x6, x7, a8, a9, a10] t (0, 0)) := heap_set (i := 7) h6 x7
  have n7 : Moves [p] w (w7.setCell ⟨p, 7, none⟩ x7) := n6.then (moves_set _ _ _ _)
  generalize w7.setCell ⟨p, 7, none⟩ x7 = w8 at h7 n7 ⊢
  have h8 : (w8.setCell ⟨p, 8, none⟩ x8).heap[p]? = some (.cells #[x0, x1, x2, x3, x4, x5, x6, x7, x8, a9, a10] t (0, 0)) := heap_set (i := 8) h7 x8
  have n8 : Moves [p] w (w8.setCell ⟨p, 8, none⟩ x8) := n7.then (moves_set _ _ _ _)
  generalize w8.setCell ⟨p, 8, none⟩ x8 = w9 at h8 n8 ⊢
  have h9 : (w9.setCell ⟨p, 9, none⟩ x9).heap[p]? = some (.cells #[x0, x1, x2, x3, x4, x5, x6, x7, x8, x9, a10] t (0, 0)) := heap_set (i := 9) h8 x9
  have n9 : Moves [p] w (w9.setCell ⟨p, 9, none⟩ x9) := n8.then (moves_set _ _ _ _)
  generalize w9.setCell ⟨p, 9, none⟩ x9 = w10 at h9 n9 ⊢
  have h10 : (w10.setCell ⟨p, 10, none⟩ x10).heap[p]? = some (.cells #[x0, x1, x2, x3, x4, x5, x6, x7, x8, x9, x10] t (0, 0)) := heap_set (i := 10) h9 x10
  have n10 : Moves [p] w (w10.setCell ⟨p, 10, none⟩ x10) := n9.then (moves_set _ _ _ _)
  exact ⟨h10, n10⟩
end Go.Proofs.YtcamhlnkcoicpaaGreat
/-
  cmd's DecodeAnswer of any bytes.
-/
namespace Go.Proofs.YtcamhlnkcoicpaaGreat
open Go.RowKit

theorem isB_inA {w : World} {g : Nat} {v : Value} {bs : List Nat} (h : IsB w g v bs) (hp : 0 < w.heap.size) : ∃ g', g' < w.heap.size ∧ IsB w g' v bs := by
  by_cases hb : bs = []
  · subst hb
    obtain ⟨ad, n, cap, h1, h2, h3, h4, _⟩ := h
    exact ⟨0, hp, ad, n, cap, h1, h2, h3, h4, .inl rfl⟩
  · exact ⟨g, h.lt hb, h⟩
end Go.Proofs.YtcamhlnkcoicpaaGreat
