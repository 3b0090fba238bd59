/-
  The law's own play: calls, one behind the other, of the program and of the document: they say the same.
-/
import Derived.Test.YtfegflimnngfaaaCTells4
import Derived.Test.YtfegflimnngfaaaCRef8
import Derived.Test.YtfegflimnngfaaaCMade4
import Derived.Test.YtfegflimnngfaaaCOpen4
namespace Go.Proofs.Ytfegflimnngfaaa
open Go.RowKit

theorem pPut_bad {R : List Pcol} {s : ByteArray} {t : Int} {p : Pv} (h : pPutE R s t p ≠ 0) : pPut R s t p = [] := by
  unfold pPut
  rw [if_neg h]

set_option maxRecDepth 100000 in
set_option maxHeartbeats 16000000 in
theorem play_w (W w : World) (u0 : Value) (h0 : CArgs W u0) (m : Moves [] W w) :
    Calls Try.prog 8 #[u0] w fun e w' => e = .returned (.bool true) ∧ Moves [] w w' := by
  obtain ⟨adv, nv, cv, rfl, hcv, hV⟩ := h0
  have HVs := hV
  have HW : Hid (Moves [] W w) := m
  clear hV m
  go_enter Try.func8, Try.ntmps8
  go_wp2_with fail
  obtain ⟨w1, hw1⟩ : ∃ w1, (w.alloc (.cells #[.slice none 0 0] 28)).alloc (.cells #[.slice none 0 0] 28) = w1 := ⟨_, rfl⟩
  obtain ⟨p0, p1, m1⟩ : w1.heap[w.heap.size]? = some (.cells #[.slice none 0 0] 28 (0, 0)) ∧ w1.heap[w.heap.size + 1]? = some (.cells #[.slice none 0 0] 28 (0, 0)) ∧ Moves [] w w1 := by rw [← hw1]; exact boxes (Moves.refl _ _)
  rw [hw1]
  obtain ⟨pm, hpm⟩ : ∃ pm, w.heap.size + 1 = pm := ⟨_, rfl⟩
  obtain ⟨pr, hpr⟩ : ∃ pr, w.heap.size = pr := ⟨_, rfl⟩
  rw [hpm] at p1
  rw [hpr] at p0
  rw [hpm, hpr]
  have hpm' : w.heap.size < pm := by omega
  have hpr' : w.heap.size ≤ pr := by omega
  have hne : ¬ pr = pm := by omega
  have hne' : ¬ pm = pr := by omega
  clear hw1 hpm hpr
  go_loopw [5] (fun i wr => ∃ (k : Nat) (lv lm : Value) (R : List Pcol), (k ≤ 40 ∧ k ≤ nv) ∧ i = .int .i64 k ∧ Moves [] w wr ∧ wr.heap[pr]? = some (.cells #[lv] 28 (0, 0)) ∧ wr.heap[pm]? = some (.cells #[lm] 28 (0, 0)) ∧ RowAt wr (.agg #[lv]) R ∧ RowAt wr (.agg #[lm]) R ∧ pright R = true) (fun i _ => 40 - (intOf i).toNat)
  case atStart => exact ⟨0, _, _, [], ⟨by omega, by omega⟩, rfl, m1, p0, p1, RowAt.nil _, RowAt.nil _, pright_nil⟩
  case round =>
    obtain ⟨k, lv, lm, R, ⟨hk1, hk2⟩, rfl, mr, q0', q1', hR, hM, hPr⟩ := hrel
    obtain ⟨_, elv, hCr⟩ := id hR
    simp at elv
    subst elv
    obtain ⟨_, elm, hCm⟩ := id hM
    simp at elm
    subst elm
    obtain ⟨adr, capr, elv, _⟩ := hCr.slice
    obtain ⟨adm, capm, elm, _⟩ := hCm.slice
    obtain ⟨nr, hnr⟩ : ∃ nr, Hid (nr = R.length) := ⟨_, rfl⟩
    rw [← hnr.out] at elv elm
    subst elv elm
    have HPr : Hid (pright R = true) := hPr
    have HRr : Hid (RowAt wr (.agg #[.slice adr nr capr]) R) := hR
    have HMr : Hid (RowAt wr (.agg #[.slice adm nr capm]) R) := hM
    clear hR hM hPr hCr hCm p0 p1
    by_cases hc : k < nv ∧ k < 40
    · obtain ⟨hc1, hc2⟩ := hc
      have hc1' : (k : Int) < nv := by omega
      have hc2' : (k : Int) < 40 := by omega
      obtain ⟨b, off, tk, tc, tnm, tm, tb, tn, tx, a2, l2, c2, rfl, e0, e1, e2, e3, e4, e5, e6, e7, hK⟩ := HVs k hc1
      have MV := HW.out.then mr
      have v0 := MV.cell e0
      have v1 := MV.cell e1
      have v2 := MV.cell e2
      have v3 := MV.cell e3
      have v4 := MV.cell e4
      have v5 := MV.cell e5
      have v6 := MV.cell e6
      have v7 := MV.cell e7
      have HK : Hid (KArg W (.agg #[.bool tb, .int .i64 tn, .float .f64 tx, .slice a2 l2 c2])) := hK
      clear e0 e1 e2 e3 e4 e5 e6 e7 hK MV
      go_wp2_with fail
      refine wp_region_noPanic ?_
      refine wp_region_held_drew (S := (fun w' => w'.cell? ⟨b, off + k * 8, none⟩ = some (.int .i64 tk) ∧ w'.cell? ⟨b, off + k * 8 + 1, none⟩ = some (.int .i64 tc) ∧ w'.cell? ⟨b, off + k * 8 + 2, none⟩ = some (.string tnm) ∧ w'.cell? ⟨b, off + k * 8 + 3, none⟩ = some (.int .i64 tm) ∧ w'.cell? ⟨b, off + k * 8 + 4, none⟩ = some (.bool tb) ∧ w'.cell? ⟨b, off + k * 8 + 5, none⟩ = some (.int .i64 tn) ∧ w'.cell? ⟨b, off + k * 8 + 6, none⟩ = some (.float .f64 tx) ∧ w'.cell? ⟨b, off + k * 8 + 7, none⟩ = some (.slice a2 l2 c2))) (by kernel_rfl) ?_ (fun hHeld => ?_)
      · first | (go_keep; done) | first | exact ⟨m5.cell v0, m5.cell v1, m5.cell v2, m5.cell v3, m5.cell v4, m5.cell v5, m5.cell v6, m5.cell v7⟩ | exact ⟨v0, v1, v2, v3, v4, v5, v6, v7⟩
      refine wpAnyH_take (i := 0) (oi := { dst := some 23, op := Op.move (Operand.tmp 0), type := 22, pos := "law.go:52", after := #[], guard := none }) (v := ?_) rfl (by kernel_rfl) (by kernel_rfl) (by kernel_rfl) (fun _ _ _ h => h) (Or.inl ⟨by rfl, ?_⟩) (by assumption) ?_
      rotate_left
      · (intro w hSw; (try dsimp only at hSw); go_simp; try (with_reducible rfl))
      try simp only [Act.put, List.setIfInBounds_toArray, List.set_cons_zero, List.set_cons_succ]
      refine wpAnyH_take (i := 1) (oi := { dst := some 24, op := Op.move (Operand.tmp 5), type := 3, pos := "law.go:52", after := #[], guard := none }) (v := ?_) rfl (by kernel_rfl) (by kernel_rfl) (by kernel_rfl) (fun _ _ _ h => h) (Or.inl ⟨by rfl, ?_⟩) (by assumption) ?_
      rotate_left
      · (intro w hSw; (try dsimp only at hSw); go_simp; try (with_reducible rfl))
      try simp only [Act.put, List.setIfInBounds_toArray, List.set_cons_zero, List.set_cons_succ]
      refine wpAnyH_take (i := 2) (oi := { dst := some 25, op := Op.indexAddr 22 (Operand.tmp 23) (Operand.tmp 24), type := 0, pos := "law.go:52", after := #[{ on := 0, ground := Ground.data }, { on := 1, ground := Ground.data }], guard := none }) (v := ?_) rfl (by kernel_rfl) (by kernel_rfl) (by kernel_rfl) (fun _ _ _ h => h) (Or.inl ⟨by rfl, ?_⟩) (by assumption) ?_
      rotate_left
      · (intro w hSw; (try dsimp only at hSw); go_simp; try (with_reducible rfl))
      try simp only [Act.put, List.setIfInBounds_toArray, List.set_cons_zero, List.set_cons_succ]
      refine wpAnyH_take (i := 3) (oi := { dst := some 26, op := Op.load 61 (Operand.tmp 25), type := 61, pos := "law.go:52", after := #[{ on := 2, ground := Ground.data }], guard := none }) (v := ?_) rfl (by kernel_rfl) (by kernel_rfl) (by kernel_rfl) (fun _ _ _ h => h) (Or.inl ⟨by rfl, ?_⟩) (by assumption) ?_
      rotate_left
      · (intro w hSw; (try dsimp only at hSw); go_simp; try (with_reducible rfl))
      try simp only [Act.put, List.setIfInBounds_toArray, List.set_cons_zero, List.set_cons_succ]
      refine wpAnyH_take (i := 5) (oi := { dst := some 28, op := Op.move (Operand.tmp 0), type := 22, pos := "law.go:52", after := #[{ on := 11, ground := Ground.gcOnly Departure.lateStores }], guard := none }) (v := ?_) rfl (by kernel_rfl) (by kernel_rfl) (by kernel_rfl) (fun _ _ _ h => h) (Or.inl ⟨by rfl, ?_⟩) (by assumption) ?_
      rotate_left
      · (intro w hSw; (try dsimp only at hSw); go_simp; try (with_reducible rfl))
      try simp only [Act.put, List.setIfInBounds_toArray, List.set_cons_zero, List.set_cons_succ]
      refine wpAnyH_take (i := 6) (oi := { dst := some 29, op := Op.move (Operand.tmp 5), type := 3, pos := "law.go:52", after := #[{ on := 11, ground := Ground.gcOnly Departure.lateStores }], guard := none }) (v := ?_) rfl (by kernel_rfl) (by kernel_rfl) (by kernel_rfl) (fun _ _ _ h => h) (Or.inl ⟨by rfl, ?_⟩) (by assumption) ?_
      rotate_left
      · (intro w hSw; (try dsimp only at hSw); go_simp; try (with_reducible rfl))
      try simp only [Act.put, List.setIfInBounds_toArray, List.set_cons_zero, List.set_cons_succ]
      refine wpAnyH_take (i := 7) (oi := { dst := some 30, op := Op.indexAddr 22 (Operand.tmp 28) (Operand.tmp 29), type := 0, pos := "law.go:52", after := #[{ on := 5, ground := Ground.data }, { on := 6, ground := Ground.data }, { on := 11, ground := Ground.gcOnly Departure.lateStores }], guard := none }) (v := ?_) rfl (by kernel_rfl) (by kernel_rfl) (by kernel_rfl) (fun _ _ _ h => h) (Or.inl ⟨by rfl, ?_⟩) (by assumption) ?_
      rotate_left
      · (intro w hSw; (try dsimp only at hSw); go_simp; try (with_reducible rfl))
      try simp only [Act.put, List.setIfInBounds_toArray, List.set_cons_zero, List.set_cons_succ]
      refine wpAnyH_take (i := 8) (oi := { dst := some 31, op := Op.fieldAddr 61 (Operand.tmp 30) 3, type := 0, pos := "law.go:52", after := #[{ on := 7, ground := Ground.data }, { on := 11, ground := Ground.gcOnly Departure.lateStores }], guard := none }) (v := ?_) rfl (by kernel_rfl) (by kernel_rfl) (by kernel_rfl) (fun _ _ _ h => h) (Or.inl ⟨by rfl, ?_⟩) (by assumption) ?_
      rotate_left
      · (intro w hSw; (try dsimp only at hSw); go_simp; try (with_reducible rfl))
      try simp only [Act.put, List.setIfInBounds_toArray, List.set_cons_zero, List.set_cons_succ]
      refine wpAnyH_take (i := 9) (oi := { dst := some 32, op := Op.load 2 (Operand.tmp 31), type := 2, pos := "law.go:52", after := #[{ on := 8, ground := Ground.data }, { on := 11, ground := Ground.gcOnly Departure.lateStores }], guard := none }) (v := ?_) rfl (by kernel_rfl) (by kernel_rfl) (by kernel_rfl) (fun _ _ _ h => h) (Or.inl ⟨by rfl, ?_⟩) (by assumption) ?_
      rotate_left
      · (intro w hSw; (try dsimp only at hSw); go_simp; try (with_reducible rfl))
      try simp only [Act.put, List.setIfInBounds_toArray, List.set_cons_zero, List.set_cons_succ]
      refine wpAnyH_take (i := 10) (oi := { dst := some 33, op := Op.binOp BinOp.rem 2 (Operand.tmp 32) (Operand.const (Value.int IntKind.i64 12)) 2, type := 2, pos := "law.go:52", after := #[{ on := 9, ground := Ground.data }, { on := 11, ground := Ground.gcOnly Departure.lateStores }], guard := none }) (v := ?_) rfl (by kernel_rfl) (by kernel_rfl) (by kernel_rfl) (fun _ _ _ h => h) (Or.inl ⟨by rfl, ?_⟩) (by assumption) ?_
      rotate_left
      · (intro w hSw; (try dsimp only at hSw); go_simp; try (with_reducible rfl))
      try simp only [Act.put, List.setIfInBounds_toArray, List.set_cons_zero, List.set_cons_succ]
      refine wpAnyH_ready (rs := [4]) (by kernel_rfl) (by simp) ?_
      refine AllReadyH.cons (o := { dst := some 27, op := Op.call { callee := Callee.value (Operand.func 24), args := #[Operand.tmp 26], argTypes := #[61] }, type := 9, pos := "law.go:52", after := #[{ on := 3, ground := Ground.data }], guard := none }) rfl (fun K hK => ?_) AllReadyH.nil
      go_simp
      (go_at_call 24; refine (col4_w _ _ _ _ _ _ _ _ _ _ _).mono ?_; rintro _ w5 ⟨s, rfl, m5⟩)
      refine hK.out _ _ ?_ (fun hHeld => ?_)
      · first | exact ⟨m5.cell v0, m5.cell v1, m5.cell v2, m5.cell v3, m5.cell v4, m5.cell v5, m5.cell v6, m5.cell v7⟩ | exact ⟨v0, v1, v2, v3, v4, v5, v6, v7⟩
      clear hK K
      try simp only [Act.put, List.setIfInBounds_toArray, List.set_cons_zero, List.set_cons_succ]
      refine wpAnyH_take (i := 11) (oi := { dst := some 6, op := Op.assign (Operand.tmp 27), type := 9, pos := "law.go:52", after := #[{ on := 4, ground := Ground.data }, { on := 4, ground := Ground.chain }, { on := 0, ground := Ground.phase }, { on := 1, ground := Ground.phase }, { on := 2, ground := Ground.phase }, { on := 3, ground := Ground.phase }, { on := 4, ground := Ground.phase }, { on := 5, ground := Ground.textOnly Departure.lateStores }, { on := 6, ground := Ground.textOnly Departure.lateStores }, { on := 7, ground := Ground.textOnly Departure.lateStores }, { on := 8, ground := Ground.textOnly Departure.lateStores }, { on := 9, ground := Ground.textOnly Departure.lateStores }, { on := 10, ground := Ground.textOnly Departure.lateStores }], guard := none }) (v := ?_) rfl (by kernel_rfl) (by kernel_rfl) (by kernel_rfl) (fun _ _ _ h => h) (Or.inl ⟨by rfl, ?_⟩) (by assumption) ?_
      rotate_left
      · (intro w hSw; (try dsimp only at hSw); go_simp; try (with_reducible rfl))
      try simp only [Act.put, List.setIfInBounds_toArray, List.set_cons_zero, List.set_cons_succ]
      refine wpAnyH_take (i := 12) (oi := { dst := some 7, op := Op.assign (Operand.tmp 33), type := 2, pos := "law.go:52", after := #[{ on := 10, ground := Ground.data }, { on := 11, ground := Ground.chain }, { on := 0, ground := Ground.phase }, { on := 1, ground := Ground.phase }, { on := 2, ground := Ground.phase }, { on := 3, ground := Ground.phase }, { on := 4, ground := Ground.phase }, { on := 5, ground := Ground.phase }, { on := 6, ground := Ground.phase }, { on := 7, ground := Ground.phase }, { on := 8, ground := Ground.phase }, { on := 9, ground := Ground.phase }, { on := 10, ground := Ground.phase }, { on := 11, ground := Ground.phase }], guard := none }) (v := ?_) rfl (by kernel_rfl) (by kernel_rfl) (by kernel_rfl) (fun _ _ _ h => h) (Or.inl ⟨by rfl, ?_⟩) (by assumption) ?_
      rotate_left
      · (intro w hSw; (try dsimp only at hSw); go_simp; try (with_reducible rfl))
      try simp only [Act.put, List.setIfInBounds_toArray, List.set_cons_zero, List.set_cons_succ]
      refine wpAnyH_done (by kernel_rfl) ?_ _
      refine NoPanic.normal ?_
      have MX := mr.drew.then m5
      have mq5 : Moves [] wr w5 := (Moves.refl [] wr).drew.then m5
      have q0 := mq5.at q0' (by simp)
      have q1 := mq5.at q1' (by simp)
      have MWr : Hid (Moves [] w w5) := MX
      have MWW : Hid (Moves [] W w5) := HW.out.then MX
      have HR : Hid (RowAt w5 (.agg #[.slice adr nr capr]) R) := HRr.out.moves mq5
      have HM : Hid (RowAt w5 (.agg #[.slice adm nr capm]) R) := HMr.out.moves mq5
      obtain ⟨r0, _⟩ := one_cell q0
      obtain ⟨r1, _⟩ := one_cell q1
      have v00 := m5.cell v0
      have v40 := m5.cell v4
      have v50 := m5.cell v5
      have v60 := m5.cell v6
      have v70 := m5.cell v7
      obtain ⟨t, ht⟩ : ∃ t, tm.tmod 12 = t := ⟨_, rfl⟩
      rw [ht]
      clear HRr HMr q0' q1' v0 v1 v2 v3 v4 v5 v6 v7 MX m5 mr mq5 ht
      have mW : Moves [] w5 w5.drew := (Moves.refl _ _).drew
      have hprl : pr < w5.heap.size := lt_of_block q0
      have hpml : pm < w5.heap.size := lt_of_block q1
      by_cases hk1' : tk = 1
      · subst hk1'
        go_wp2_with (first | (go_at_call 15; refine (keep_b' W _ _ HK.out).mono ?_; rintro _ w7 ⟨A, adA, lenA, capA, rfl, hA, yA, m7⟩; have HA : Hid (VA W [.int .i64 A.kind, .slice adA lenA capA, .float .f64 A.n] A.pv) := hA.va (by have := yA.len16; omega); clear hA yA; have mv : Moves [] w7 (w7.alloc (.cells #[.int .i64 A.kind, .slice adA lenA capA, .float .f64 A.n] 39)) := (Moves.refl _ _).alloc _; have M7 := m7.then mv; obtain ⟨vb0, vb1, vb2, _⟩ := three_cells (heap_alloc_new w7 (.cells #[.int .i64 A.kind, .slice adA lenA capA, .float .f64 A.n] 39)); have s70 := M7.cell r0; have s71 := M7.cell r1) | (go_at_call 16; refine (rput_w w5 _ _ R s t A.kind adA lenA capA A.n A.pv HR.out (HA.out.moves MWW.out) M7).mono ?_; rintro _ w1 ⟨ad1, n1, cap1, rfl, hc1, m1⟩; have HC1 : Hid (RowAt w1 (.agg #[.slice ad1 n1 cap1]) (pPut R s t A.pv)) := ⟨_, rfl, hc1⟩; have HL1 : Hid (n1 = (pPut R s t A.pv).length) := hc1.len; clear hc1; have mb1 : Moves [] w1 (w1.alloc (.cells #[.slice ad1 n1 cap1] 28)) := (Moves.refl _ _).alloc _; have M1 := M7.then (m1.then mb1); have v10 := (m1.then mb1).cell vb0; have v11 := (m1.then mb1).cell vb1; have v12 := (m1.then mb1).cell vb2; have s11 := M1.cell r1; have hxb := heap_alloc_new w1 (.cells #[.slice ad1 n1 cap1] 28); obtain ⟨x10, _⟩ := one_cell hxb))
        obtain ⟨E, hE⟩ : ∃ E, pPutE R s t A.pv = E := ⟨_, rfl⟩
        have HE : Hid (pPutE R s t A.pv = E) := hE
        rw [hE]
        by_cases hE0 : E = 0
        · subst hE0
          clear hE
          go_wp2_with (go_at_call 25; refine (refPut_p w5 _ _ R s t A.kind adA lenA capA A.n A.pv HM.out (HA.out.moves MWW.out) M1 HPr.out).mono ?_; rintro _ w2 ⟨ad2, n2, cap2, rfl, hc2, m2⟩; rw [HE.out]; have HC2 : Hid (RowAt w2 (.agg #[.slice ad2 n2 cap2]) (pPut R s t A.pv)) := ⟨_, rfl, hc2⟩; clear hc2; have mb2 : Moves [] w2 (w2.alloc (.cells #[.slice ad2 n2 cap2] 28)) := (Moves.refl _ _).alloc _; have M2 := M1.then (m2.then mb2); have hyb := heap_alloc_new w2 (.cells #[.slice ad2 n2 cap2] 28); have hxb2 := (m2.then mb2).at hxb (by simp); obtain ⟨x20, _⟩ := one_cell hxb2; have o0 := M2.cell r0; have o1 := M2.cell r1)
          have HPx : Hid (pright (pPut R s t A.pv) = true) := pPut_right R s t A.pv
          replace HC1 := HC1.out.moves (mb1.then (m2.then mb2))
          replace HC2 := HC2.out.moves mb2
          obtain ⟨P, hP⟩ : ∃ P, pPut R s t A.pv = P := ⟨_, rfl⟩
          rw [hP] at HPx HC1 HC2
          obtain ⟨wz, hwz⟩ : ∃ wz, w2.alloc (.cells #[.slice ad2 n2 cap2] 28) = wz := ⟨_, rfl⟩
          rw [hwz] at HC1 HC2 M2 hxb2 hyb x20 ⊢
          have hl1 : w5.heap.size ≤ w1.heap.size := (M7.then m1).size
          have hl2 : w5.heap.size ≤ w2.heap.size := (M1.then m2).size
          obtain ⟨px, hpx⟩ : ∃ px, w1.heap.size = px := ⟨_, rfl⟩
          obtain ⟨py, hpy⟩ : ∃ py, w2.heap.size = py := ⟨_, rfl⟩
          rw [hpx] at hl1 hxb2 x20
          rw [hpy] at hl2 hyb
          rw [hpx, hpy]
          obtain ⟨yz0, _⟩ := one_cell hyb
          have xz0 := x20
          have zq0 := M2.at q0 (by simp)
          have zq1 := M2.at q1 (by simp)
          have Mz : Hid (Moves [] w wz) := MWr.out.then M2
          replace HC1 : Hid (RowAt wz (.agg #[.slice ad1 n1 cap1]) P) := HC1
          replace HC2 : Hid (RowAt wz (.agg #[.slice ad2 n2 cap2]) P) := HC2
          clear hwz hpx hpy hP HL1 HE o0 o1 M1 M2 M7 m1 m2 m7 mb1 mb2 mv s70 s71 s11 v10 v11 v12 vb0 vb1 vb2 x10 hxb x20 HA v00 v40 v50 v60 v70
          refine wp_some [78, 79] (fun _ w' => ∃ (adx : Option Addr) (nx capx : Nat) (ady : Option Addr) (ny capy : Nat), w'.heap[pr]? = some (.cells #[.slice adx nx capx] 28 (0, 0)) ∧ w'.heap[pm]? = some (.cells #[.slice ady ny capy] 28 (0, 0)) ∧ RowAt w' (.agg #[.slice adx nx capx]) P ∧ RowAt w' (.agg #[.slice ady ny capy]) P ∧ Moves [] w w') ?_ ?_
          · refine wp_region_noPanic ?_
            refine wp_region_held_drew (S := (fun _ => True)) (by kernel_rfl) ?_ (fun hHeld => ?_)
            · first | (go_keep; done) | trivial
            refine wpAnyH_ready (rs := [0, 1]) (by kernel_rfl) (by simp) ?_
            refine AllReadyH.cons (o := { dst := some 78, op := Op.load 28 (Operand.tmp 9), type := 28, pos := "law.go:62", after := #[], guard := none }) rfl (fun K hK => ?_) (AllReadyH.cons (o := { dst := some 79, op := Op.load 28 (Operand.tmp 11), type := 28, pos := "law.go:62", after := #[{ on := 2, ground := Ground.gcOnly Departure.lateStores }], guard := none }) rfl (fun K hK => ?_) AllReadyH.nil)
            · have a0 : wz.drew.cell? ⟨px, 0, none⟩ = _ := xz0
              go_simp
              refine hK.out _ _ ?_ (fun hHeld => ?_)
              · trivial
              clear hK K
              refine wpAnyH_ready (rs := [1, 2]) (by kernel_rfl) (by simp) ?_
              refine AllReadyH.cons (o := { dst := some 79, op := Op.load 28 (Operand.tmp 11), type := 28, pos := "law.go:62", after := #[{ on := 2, ground := Ground.gcOnly Departure.lateStores }], guard := none }) rfl (fun K hK => ?_) (AllReadyH.cons (o := { dst := none, op := Op.store 28 (Operand.tmp 3) (Operand.tmp 78), type := 0, pos := "law.go:62", after := #[{ on := 0, ground := Ground.data }, { on := 0, ground := Ground.phase }, { on := 1, ground := Ground.textOnly Departure.lateStores }], guard := none }) rfl (fun K hK => ?_) AllReadyH.nil)
              · have a1 : wz.drew.cell? ⟨py, 0, none⟩ = _ := yz0
                go_simp
                refine hK.out _ _ ?_ (fun hHeld => ?_)
                · trivial
                clear hK K
                refine wpAnyH_ready (rs := [2]) (by kernel_rfl) (by simp) ?_
                refine AllReadyH.cons (o := { dst := none, op := Op.store 28 (Operand.tmp 3) (Operand.tmp 78), type := 0, pos := "law.go:62", after := #[{ on := 0, ground := Ground.data }, { on := 0, ground := Ground.phase }, { on := 1, ground := Ground.textOnly Departure.lateStores }], guard := none }) rfl (fun K hK => ?_) AllReadyH.nil
                obtain ⟨f0', f1'⟩ := one_cell zq0
                have f0 : wz.drew.cell? ⟨pr, 0, none⟩ = _ := f0'
                have f1 : wz.drew.frozen? ⟨pr, 0, none⟩ = _ := f1'
                go_simp
                refine hK.out _ _ ?_ (fun hHeld => ?_)
                · trivial
                clear hK K
                refine wpAnyH_ready (rs := [3]) (by kernel_rfl) (by simp) ?_
                refine AllReadyH.cons (o := { dst := none, op := Op.store 28 (Operand.tmp 4) (Operand.tmp 79), type := 0, pos := "law.go:62", after := #[{ on := 1, ground := Ground.data }, { on := 2, ground := Ground.chain }, { on := 0, ground := Ground.phase }, { on := 1, ground := Ground.phase }, { on := 2, ground := Ground.phase }], guard := none }) rfl (fun K hK => ?_) AllReadyH.nil
                have hz1 := (moves_set wz pr 0 (.slice ad1 n1 cap1)).at zq1 (by simp; omega)
                obtain ⟨f2', f3'⟩ := one_cell hz1
                have f2 : (wz.setCell ⟨pr, 0, none⟩ (.slice ad1 n1 cap1)).drew.cell? ⟨pm, 0, none⟩ = _ := f2'
                have f3 : (wz.setCell ⟨pr, 0, none⟩ (.slice ad1 n1 cap1)).drew.frozen? ⟨pm, 0, none⟩ = _ := f3'
                go_simp
                refine hK.out _ _ ?_ (fun hHeld => ?_)
                · trivial
                clear hK K
                refine wpAnyH_done (by kernel_rfl) ?_ _
                refine NoPanic.normal ?_
                exact ⟨rfl, by kernel_rfl, ad1, n1, cap1, ad2, n2, cap2, (moves_set _ _ _ _).at (set_one zq0 _) (by simp; omega), set_one hz1 _, ((HC1.out.setRow zq0 _).setRow hz1 _).moves ((Moves.refl _ _).drew), ((HC2.out.setRow zq0 _).setRow hz1 _).moves ((Moves.refl _ _).drew), ((Mz.out.setCell (.inr (by show w.heap.size ≤ pr; omega)) _).setCell (.inr (by show w.heap.size ≤ pm; omega)) _).drew⟩
              · obtain ⟨f0', f1'⟩ := one_cell zq0
                have f0 : wz.drew.cell? ⟨pr, 0, none⟩ = _ := f0'
                have f1 : wz.drew.frozen? ⟨pr, 0, none⟩ = _ := f1'
                go_simp
                refine hK.out _ _ ?_ (fun hHeld => ?_)
                · trivial
                clear hK K
                refine wpAnyH_ready (rs := [1]) (by kernel_rfl) (by simp) ?_
                refine AllReadyH.cons (o := { dst := some 79, op := Op.load 28 (Operand.tmp 11), type := 28, pos := "law.go:62", after := #[{ on := 2, ground := Ground.gcOnly Departure.lateStores }], guard := none }) rfl (fun K hK => ?_) AllReadyH.nil
                obtain ⟨a1', _⟩ := one_cell ((moves_set wz pr 0 (.slice ad1 n1 cap1)).at hyb (by simp; omega))
                have a1 : (wz.setCell ⟨pr, 0, none⟩ (.slice ad1 n1 cap1)).drew.cell? ⟨py, 0, none⟩ = _ := a1'
                go_simp
                refine hK.out _ _ ?_ (fun hHeld => ?_)
                · trivial
                clear hK K
                refine wpAnyH_ready (rs := [3]) (by kernel_rfl) (by simp) ?_
                refine AllReadyH.cons (o := { dst := none, op := Op.store 28 (Operand.tmp 4) (Operand.tmp 79), type := 0, pos := "law.go:62", after := #[{ on := 1, ground := Ground.data }, { on := 2, ground := Ground.chain }, { on := 0, ground := Ground.phase }, { on := 1, ground := Ground.phase }, { on := 2, ground := Ground.phase }], guard := none }) rfl (fun K hK => ?_) AllReadyH.nil
                have hz1 := (moves_set wz pr 0 (.slice ad1 n1 cap1)).at zq1 (by simp; omega)
                obtain ⟨f2', f3'⟩ := one_cell hz1
                have f2 : (wz.setCell ⟨pr, 0, none⟩ (.slice ad1 n1 cap1)).drew.cell? ⟨pm, 0, none⟩ = _ := f2'
                have f3 : (wz.setCell ⟨pr, 0, none⟩ (.slice ad1 n1 cap1)).drew.frozen? ⟨pm, 0, none⟩ = _ := f3'
                go_simp
                refine hK.out _ _ ?_ (fun hHeld => ?_)
                · trivial
                clear hK K
                refine wpAnyH_done (by kernel_rfl) ?_ _
                refine NoPanic.normal ?_
                exact ⟨rfl, by kernel_rfl, ad1, n1, cap1, ad2, n2, cap2, (moves_set _ _ _ _).at (set_one zq0 _) (by simp; omega), set_one hz1 _, ((HC1.out.setRow zq0 _).setRow hz1 _).moves ((Moves.refl _ _).drew), ((HC2.out.setRow zq0 _).setRow hz1 _).moves ((Moves.refl _ _).drew), ((Mz.out.setCell (.inr (by show w.heap.size ≤ pr; omega)) _).setCell (.inr (by show w.heap.size ≤ pm; omega)) _).drew⟩
            · have a1 : wz.drew.cell? ⟨py, 0, none⟩ = _ := yz0
              go_simp
              refine hK.out _ _ ?_ (fun hHeld => ?_)
              · trivial
              clear hK K
              refine wpAnyH_ready (rs := [0]) (by kernel_rfl) (by simp) ?_
              refine AllReadyH.cons (o := { dst := some 78, op := Op.load 28 (Operand.tmp 9), type := 28, pos := "law.go:62", after := #[], guard := none }) rfl (fun K hK => ?_) AllReadyH.nil
              have a0 : wz.drew.cell? ⟨px, 0, none⟩ = _ := xz0
              go_simp
              refine hK.out _ _ ?_ (fun hHeld => ?_)
              · trivial
              clear hK K
              refine wpAnyH_ready (rs := [2]) (by kernel_rfl) (by simp) ?_
              refine AllReadyH.cons (o := { dst := none, op := Op.store 28 (Operand.tmp 3) (Operand.tmp 78), type := 0, pos := "law.go:62", after := #[{ on := 0, ground := Ground.data }, { on := 0, ground := Ground.phase }, { on := 1, ground := Ground.textOnly Departure.lateStores }], guard := none }) rfl (fun K hK => ?_) AllReadyH.nil
              obtain ⟨f0', f1'⟩ := one_cell zq0
              have f0 : wz.drew.cell? ⟨pr, 0, none⟩ = _ := f0'
              have f1 : wz.drew.frozen? ⟨pr, 0, none⟩ = _ := f1'
              go_simp
              refine hK.out _ _ ?_ (fun hHeld => ?_)
              · trivial
              clear hK K
              refine wpAnyH_ready (rs := [3]) (by kernel_rfl) (by simp) ?_
              refine AllReadyH.cons (o := { dst := none, op := Op.store 28 (Operand.tmp 4) (Operand.tmp 79), type := 0, pos := "law.go:62", after := #[{ on := 1, ground := Ground.data }, { on := 2, ground := Ground.chain }, { on := 0, ground := Ground.phase }, { on := 1, ground := Ground.phase }, { on := 2, ground := Ground.phase }], guard := none }) rfl (fun K hK => ?_) AllReadyH.nil
              have hz1 := (moves_set wz pr 0 (.slice ad1 n1 cap1)).at zq1 (by simp; omega)
              obtain ⟨f2', f3'⟩ := one_cell hz1
              have f2 : (wz.setCell ⟨pr, 0, none⟩ (.slice ad1 n1 cap1)).drew.cell? ⟨pm, 0, none⟩ = _ := f2'
              have f3 : (wz.setCell ⟨pr, 0, none⟩ (.slice ad1 n1 cap1)).drew.frozen? ⟨pm, 0, none⟩ = _ := f3'
              go_simp
              refine hK.out _ _ ?_ (fun hHeld => ?_)
              · trivial
              clear hK K
              refine wpAnyH_done (by kernel_rfl) ?_ _
              refine NoPanic.normal ?_
              exact ⟨rfl, by kernel_rfl, ad1, n1, cap1, ad2, n2, cap2, (moves_set _ _ _ _).at (set_one zq0 _) (by simp; omega), set_one hz1 _, ((HC1.out.setRow zq0 _).setRow hz1 _).moves ((Moves.refl _ _).drew), ((HC2.out.setRow zq0 _).setRow hz1 _).moves ((Moves.refl _ _).drew), ((Mz.out.setCell (.inr (by show w.heap.size ≤ pr; omega)) _).setCell (.inr (by show w.heap.size ≤ pm; omega)) _).drew⟩
          · rintro u wx ⟨adx, nx, capx, ady, ny, capy, t0, t1, hx, hy, mwx⟩
            simp only [List.foldl_cons, List.foldl_nil, List.setIfInBounds_toArray, List.set_cons_zero, List.set_cons_succ]
            generalize u 78 = u78
            generalize u 79 = u79
            obtain ⟨o0, _⟩ := one_cell t0
            obtain ⟨o1, _⟩ := one_cell t1
            have HX : Hid (RowAt wx (.agg #[.slice adx nx capx]) P) := hx
            have HY : Hid (RowAt wx (.agg #[.slice ady ny capy]) P) := hy
            have HT := fun w1 s1 t1 (mm : Moves [] wx w1) => tells_yes wx w1 (.agg #[.slice adx nx capx]) (.agg #[.slice ady ny capy]) P s1 t1 HX.out HY.out mm HPx.out
            clear hx hy
            go_wp2_with (first | (revert mA; intro mA; go_at_call 28; refine (HT _ _ _ mA).mono ?_; rintro _ wB ⟨rfl, mB⟩; have mAB := mA.then mB) | (go_at_call 28; refine (HT _ _ _ (Moves.refl _ _)).mono ?_; rintro _ wA ⟨rfl, mA⟩; have oA0 := mA.cell o0; have oA1 := mA.cell o1))
            go_roundw
            case rel => exact ⟨k + 1, _, _, P, ⟨by omega, by omega⟩, by go_num, mwx.then mAB, mAB.at t0 (by simp), mAB.at t1 (by simp), HX.out.moves mAB, HY.out.moves mAB, HPx.out⟩
            case measure => simp [intOf]; omega
        · have hbad := pPut_bad (by rw [hE]; exact hE0)
          obtain rfl : n1 = 0 := by rw [HL1.out, hbad]; rfl
          have HT := fun w1 s1 t1 (mm : Moves [] w5 w1) => tells_yes w5 w1 (.agg #[.slice adr nr capr]) (.agg #[.slice adm nr capm]) R s1 t1 HR.out HM.out mm HPr.out
          clear hE hbad HL1
          go_wp2_with (first | (go_at_call 25; refine (refPut_p w5 _ _ R s t A.kind adA lenA capA A.n A.pv HM.out (HA.out.moves MWW.out) M1 HPr.out).mono ?_; rintro _ w2 ⟨ad2, n2, cap2, rfl, hc2, m2⟩; rw [HE.out]; have HC2 : Hid (RowAt w2 (.agg #[.slice ad2 n2 cap2]) (pPut R s t A.pv)) := ⟨_, rfl, hc2⟩; clear hc2; have mb2 : Moves [] w2 (w2.alloc (.cells #[.slice ad2 n2 cap2] 28)) := (Moves.refl _ _).alloc _; have M2 := M1.then (m2.then mb2); have hyb := heap_alloc_new w2 (.cells #[.slice ad2 n2 cap2] 28); have hxb2 := (m2.then mb2).at hxb (by simp); obtain ⟨x20, _⟩ := one_cell hxb2; have o0 := M2.cell r0; have o1 := M2.cell r1) | (revert mA; intro mA; go_at_call 28; refine (HT _ _ _ (M2.then mA)).mono ?_; rintro _ wB ⟨rfl, mB⟩; have mAB := mA.then mB) | (go_at_call 28; refine (HT _ _ _ M2).mono ?_; rintro _ wA ⟨rfl, mA⟩; have oA0 := mA.cell o0; have oA1 := mA.cell o1))
          go_roundw
          case rel => exact ⟨k + 1, _, _, R, ⟨by omega, by omega⟩, by go_num, MWr.out.then (M2.then mAB), (M2.then mAB).at q0 (by simp), (M2.then mAB).at q1 (by simp), HR.out.moves (M2.then mAB), HM.out.moves (M2.then mAB), HPr.out⟩
          case measure => simp [intOf]; omega
      · by_cases hk2' : tk = 2
        · subst hk2'
          obtain ⟨P, hP⟩ : ∃ P, Hid (pDrop R s t = P) := ⟨_, rfl⟩
          have HPe : Hid (pDrop R s t = P) := hP.out
          have HPx : Hid (pright P = true) := by unfold Hid; rw [← hP.out]; exact pDrop_right R s t
          go_wp2_with fail
          refine wp_some [82, 83, 84, 85, 86, 87, 88, 89] (fun _ w' => ∃ (adx : Option Addr) (nx capx : Nat) (ady : Option Addr) (ny capy : Nat), w'.heap[pr]? = some (.cells #[.slice adx nx capx] 28 (0, 0)) ∧ w'.heap[pm]? = some (.cells #[.slice ady ny capy] 28 (0, 0)) ∧ RowAt w' (.agg #[.slice adx nx capx]) P ∧ RowAt w' (.agg #[.slice ady ny capy]) P ∧ Moves [] w w') ?_ ?_
          · refine wp_region_noPanic ?_
            refine wp_region_held_drew (S := (fun _ => True)) (by kernel_rfl) ?_ (fun hHeld => ?_)
            · first | (go_keep; done) | trivial
            refine wpAnyH_take (i := 1) (oi := { dst := some 83, op := Op.move (Operand.tmp 6), type := 9, pos := "law.go:65", after := #[], guard := none }) (v := ?_) rfl (by kernel_rfl) (by kernel_rfl) (by kernel_rfl) (fun _ _ _ h => h) (Or.inl ⟨by rfl, ?_⟩) (by assumption) ?_
            rotate_left
            · (intro w hSw; (try dsimp only at hSw); go_simp; try (with_reducible rfl))
            try simp only [Act.put, List.setIfInBounds_toArray, List.set_cons_zero, List.set_cons_succ]
            refine wpAnyH_take (i := 2) (oi := { dst := some 84, op := Op.move (Operand.tmp 7), type := 2, pos := "law.go:65", after := #[], guard := none }) (v := ?_) rfl (by kernel_rfl) (by kernel_rfl) (by kernel_rfl) (fun _ _ _ h => h) (Or.inl ⟨by rfl, ?_⟩) (by assumption) ?_
            rotate_left
            · (intro w hSw; (try dsimp only at hSw); go_simp; try (with_reducible rfl))
            try simp only [Act.put, List.setIfInBounds_toArray, List.set_cons_zero, List.set_cons_succ]
            refine wpAnyH_take (i := 5) (oi := { dst := some 87, op := Op.move (Operand.tmp 6), type := 9, pos := "law.go:65", after := #[], guard := none }) (v := ?_) rfl (by kernel_rfl) (by kernel_rfl) (by kernel_rfl) (fun _ _ _ h => h) (Or.inl ⟨by rfl, ?_⟩) (by assumption) ?_
            rotate_left
            · (intro w hSw; (try dsimp only at hSw); go_simp; try (with_reducible rfl))
            try simp only [Act.put, List.setIfInBounds_toArray, List.set_cons_zero, List.set_cons_succ]
            refine wpAnyH_take (i := 6) (oi := { dst := some 88, op := Op.move (Operand.tmp 7), type := 2, pos := "law.go:65", after := #[], guard := none }) (v := ?_) rfl (by kernel_rfl) (by kernel_rfl) (by kernel_rfl) (fun _ _ _ h => h) (Or.inl ⟨by rfl, ?_⟩) (by assumption) ?_
            rotate_left
            · (intro w hSw; (try dsimp only at hSw); go_simp; try (with_reducible rfl))
            try simp only [Act.put, List.setIfInBounds_toArray, List.set_cons_zero, List.set_cons_succ]
            refine wpAnyH_ready (rs := [0, 4]) (by kernel_rfl) (by simp) ?_
            refine AllReadyH.cons (o := { dst := some 82, op := Op.load 28 (Operand.tmp 3), type := 28, pos := "law.go:65", after := #[], guard := none }) rfl (fun K hK => ?_) (AllReadyH.cons (o := { dst := some 86, op := Op.load 28 (Operand.tmp 4), type := 28, pos := "law.go:65", after := #[], guard := none }) rfl (fun K hK => ?_) AllReadyH.nil)
            · have a0 := mW.cell r0
              go_simp
              refine hK.out _ _ ?_ (fun hHeld => ?_)
              · trivial
              clear hK K
              refine wpAnyH_ready (rs := [3, 4]) (by kernel_rfl) (by simp) ?_
              refine AllReadyH.cons (o := { dst := some 85, op := Op.call { callee := Callee.value (Operand.func 22), args := #[Operand.tmp 82, Operand.tmp 83, Operand.tmp 84], argTypes := #[28, 9, 2] }, type := 28, pos := "law.go:65", after := #[{ on := 0, ground := Ground.data }, { on := 1, ground := Ground.data }, { on := 2, ground := Ground.data }], guard := none }) rfl (fun K hK => ?_) (AllReadyH.cons (o := { dst := some 86, op := Op.load 28 (Operand.tmp 4), type := 28, pos := "law.go:65", after := #[], guard := none }) rfl (fun K hK => ?_) AllReadyH.nil)
              · go_simp
                go_at_call 22
                refine (drop2_w w5 _ _ R s t HR.out mW).mono ?_
                rintro _ w1 ⟨ad1, n1, cap1, rfl, hc1, m1⟩
                have HC1 : Hid (RowAt w1 (.agg #[.slice ad1 n1 cap1]) P) := ⟨_, rfl, by rw [← HPe.out]; exact hc1⟩
                clear hc1
                replace mW := mW.then m1
                refine hK.out _ _ ?_ (fun hHeld => ?_)
                · trivial
                clear hK K
                try simp only [Act.put, List.setIfInBounds_toArray, List.set_cons_zero, List.set_cons_succ]
                refine wpAnyH_ready (rs := [4]) (by kernel_rfl) (by simp) ?_
                refine AllReadyH.cons (o := { dst := some 86, op := Op.load 28 (Operand.tmp 4), type := 28, pos := "law.go:65", after := #[], guard := none }) rfl (fun K hK => ?_) AllReadyH.nil
                have a1 := mW.cell r1
                go_simp
                refine hK.out _ _ ?_ (fun hHeld => ?_)
                · trivial
                clear hK K
                refine wpAnyH_ready (rs := [7]) (by kernel_rfl) (by simp) ?_
                refine AllReadyH.cons (o := { dst := some 89, op := Op.call { callee := Callee.value (Operand.func 26), args := #[Operand.tmp 86, Operand.tmp 87, Operand.tmp 88], argTypes := #[28, 9, 2] }, type := 28, pos := "law.go:65", after := #[{ on := 4, ground := Ground.data }, { on := 5, ground := Ground.data }, { on := 6, ground := Ground.data }, { on := 3, ground := Ground.chain }], guard := none }) rfl (fun K hK => ?_) AllReadyH.nil
                go_simp
                go_at_call 26
                refine (refDrop_yes w5 _ _ R s t HM.out mW HPr.out).mono ?_
                rintro _ w2 ⟨ad2, n2, cap2, rfl, hc2, m2⟩
                have HC2 : Hid (RowAt w2 (.agg #[.slice ad2 n2 cap2]) P) := ⟨_, rfl, by rw [← HPe.out]; exact hc2⟩
                clear hc2
                replace HC1 : Hid (RowAt w2 (.agg #[.slice ad1 n1 cap1]) P) := HC1.out.moves m2
                replace mW := mW.then m2
                have hq0 := mW.at q0 (by simp)
                have hq1 := mW.at q1 (by simp)
                refine hK.out _ _ ?_ (fun hHeld => ?_)
                · trivial
                clear hK K
                try simp only [Act.put, List.setIfInBounds_toArray, List.set_cons_zero, List.set_cons_succ]
                refine wpAnyH_ready (rs := [8]) (by kernel_rfl) (by simp) ?_
                refine AllReadyH.cons (o := { dst := none, op := Op.store 28 (Operand.tmp 3) (Operand.tmp 85), type := 0, pos := "law.go:65", after := #[{ on := 3, ground := Ground.data }, { on := 7, ground := Ground.chain }, { on := 0, ground := Ground.phase }, { on := 1, ground := Ground.phase }, { on := 2, ground := Ground.phase }, { on := 3, ground := Ground.phase }, { on := 4, ground := Ground.textOnly Departure.lateStores }, { on := 5, ground := Ground.textOnly Departure.lateStores }, { on := 6, ground := Ground.textOnly Departure.lateStores }, { on := 7, ground := Ground.textOnly Departure.lateStoresUnsure }], guard := none }) rfl (fun K hK => ?_) AllReadyH.nil
                obtain ⟨f0, f1⟩ := one_cell hq0
                go_simp
                refine hK.out _ _ ?_ (fun hHeld => ?_)
                · trivial
                clear hK K
                refine wpAnyH_ready (rs := [9]) (by kernel_rfl) (by simp) ?_
                refine AllReadyH.cons (o := { dst := none, op := Op.store 28 (Operand.tmp 4) (Operand.tmp 89), type := 0, pos := "law.go:65", after := #[{ on := 7, ground := Ground.data }, { on := 8, ground := Ground.chain }, { on := 0, ground := Ground.phase }, { on := 1, ground := Ground.phase }, { on := 2, ground := Ground.phase }, { on := 3, ground := Ground.phase }, { on := 4, ground := Ground.phase }, { on := 5, ground := Ground.phase }, { on := 6, ground := Ground.phase }, { on := 7, ground := Ground.phase }, { on := 8, ground := Ground.phase }], guard := none }) rfl (fun K hK => ?_) AllReadyH.nil
                have hz1 := (moves_set w2 pr 0 (.slice ad1 n1 cap1)).at hq1 (by simp; omega)
                obtain ⟨f2, f3⟩ := one_cell hz1
                go_simp
                refine hK.out _ _ ?_ (fun hHeld => ?_)
                · trivial
                clear hK K
                refine wpAnyH_done (by kernel_rfl) ?_ _
                refine NoPanic.normal ?_
                exact ⟨rfl, by kernel_rfl, ad1, n1, cap1, ad2, n2, cap2, (moves_set _ _ _ _).at (set_one hq0 _) (by simp; omega), set_one hz1 _, (HC1.out.setRow hq0 _).setRow hz1 _, (HC2.out.setRow hq0 _).setRow hz1 _, (((MWr.out.then mW).setCell (.inr (by show w.heap.size ≤ pr; omega)) _).setCell (.inr (by show w.heap.size ≤ pm; omega)) _)⟩
              · have a1 := mW.cell r1
                go_simp
                refine hK.out _ _ ?_ (fun hHeld => ?_)
                · trivial
                clear hK K
                refine wpAnyH_ready (rs := [3]) (by kernel_rfl) (by simp) ?_
                refine AllReadyH.cons (o := { dst := some 85, op := Op.call { callee := Callee.value (Operand.func 22), args := #[Operand.tmp 82, Operand.tmp 83, Operand.tmp 84], argTypes := #[28, 9, 2] }, type := 28, pos := "law.go:65", after := #[{ on := 0, ground := Ground.data }, { on := 1, ground := Ground.data }, { on := 2, ground := Ground.data }], guard := none }) rfl (fun K hK => ?_) AllReadyH.nil
                go_simp
                go_at_call 22
                refine (drop2_w w5 _ _ R s t HR.out mW).mono ?_
                rintro _ w1 ⟨ad1, n1, cap1, rfl, hc1, m1⟩
                have HC1 : Hid (RowAt w1 (.agg #[.slice ad1 n1 cap1]) P) := ⟨_, rfl, by rw [← HPe.out]; exact hc1⟩
                clear hc1
                replace mW := mW.then m1
                refine hK.out _ _ ?_ (fun hHeld => ?_)
                · trivial
                clear hK K
                try simp only [Act.put, List.setIfInBounds_toArray, List.set_cons_zero, List.set_cons_succ]
                refine wpAnyH_ready (rs := [7]) (by kernel_rfl) (by simp) ?_
                refine AllReadyH.cons (o := { dst := some 89, op := Op.call { callee := Callee.value (Operand.func 26), args := #[Operand.tmp 86, Operand.tmp 87, Operand.tmp 88], argTypes := #[28, 9, 2] }, type := 28, pos := "law.go:65", after := #[{ on := 4, ground := Ground.data }, { on := 5, ground := Ground.data }, { on := 6, ground := Ground.data }, { on := 3, ground := Ground.chain }], guard := none }) rfl (fun K hK => ?_) AllReadyH.nil
                go_simp
                go_at_call 26
                refine (refDrop_yes w5 _ _ R s t HM.out mW HPr.out).mono ?_
                rintro _ w2 ⟨ad2, n2, cap2, rfl, hc2, m2⟩
                have HC2 : Hid (RowAt w2 (.agg #[.slice ad2 n2 cap2]) P) := ⟨_, rfl, by rw [← HPe.out]; exact hc2⟩
                clear hc2
                replace HC1 : Hid (RowAt w2 (.agg #[.slice ad1 n1 cap1]) P) := HC1.out.moves m2
                replace mW := mW.then m2
                have hq0 := mW.at q0 (by simp)
                have hq1 := mW.at q1 (by simp)
                refine hK.out _ _ ?_ (fun hHeld => ?_)
                · trivial
                clear hK K
                try simp only [Act.put, List.setIfInBounds_toArray, List.set_cons_zero, List.set_cons_succ]
                refine wpAnyH_ready (rs := [8]) (by kernel_rfl) (by simp) ?_
                refine AllReadyH.cons (o := { dst := none, op := Op.store 28 (Operand.tmp 3) (Operand.tmp 85), type := 0, pos := "law.go:65", after := #[{ on := 3, ground := Ground.data }, { on := 7, ground := Ground.chain }, { on := 0, ground := Ground.phase }, { on := 1, ground := Ground.phase }, { on := 2, ground := Ground.phase }, { on := 3, ground := Ground.phase }, { on := 4, ground := Ground.textOnly Departure.lateStores }, { on := 5, ground := Ground.textOnly Departure.lateStores }, { on := 6, ground := Ground.textOnly Departure.lateStores }, { on := 7, ground := Ground.textOnly Departure.lateStoresUnsure }], guard := none }) rfl (fun K hK => ?_) AllReadyH.nil
                obtain ⟨f0, f1⟩ := one_cell hq0
                go_simp
                refine hK.out _ _ ?_ (fun hHeld => ?_)
                · trivial
                clear hK K
                refine wpAnyH_ready (rs := [9]) (by kernel_rfl) (by simp) ?_
                refine AllReadyH.cons (o := { dst := none, op := Op.store 28 (Operand.tmp 4) (Operand.tmp 89), type := 0, pos := "law.go:65", after := #[{ on := 7, ground := Ground.data }, { on := 8, ground := Ground.chain }, { on := 0, ground := Ground.phase }, { on := 1, ground := Ground.phase }, { on := 2, ground := Ground.phase }, { on := 3, ground := Ground.phase }, { on := 4, ground := Ground.phase }, { on := 5, ground := Ground.phase }, { on := 6, ground := Ground.phase }, { on := 7, ground := Ground.phase }, { on := 8, ground := Ground.phase }], guard := none }) rfl (fun K hK => ?_) AllReadyH.nil
                have hz1 := (moves_set w2 pr 0 (.slice ad1 n1 cap1)).at hq1 (by simp; omega)
                obtain ⟨f2, f3⟩ := one_cell hz1
                go_simp
                refine hK.out _ _ ?_ (fun hHeld => ?_)
                · trivial
                clear hK K
                refine wpAnyH_done (by kernel_rfl) ?_ _
                refine NoPanic.normal ?_
                exact ⟨rfl, by kernel_rfl, ad1, n1, cap1, ad2, n2, cap2, (moves_set _ _ _ _).at (set_one hq0 _) (by simp; omega), set_one hz1 _, (HC1.out.setRow hq0 _).setRow hz1 _, (HC2.out.setRow hq0 _).setRow hz1 _, (((MWr.out.then mW).setCell (.inr (by show w.heap.size ≤ pr; omega)) _).setCell (.inr (by show w.heap.size ≤ pm; omega)) _)⟩
            · have a1 := mW.cell r1
              go_simp
              refine hK.out _ _ ?_ (fun hHeld => ?_)
              · trivial
              clear hK K
              refine wpAnyH_ready (rs := [0]) (by kernel_rfl) (by simp) ?_
              refine AllReadyH.cons (o := { dst := some 82, op := Op.load 28 (Operand.tmp 3), type := 28, pos := "law.go:65", after := #[], guard := none }) rfl (fun K hK => ?_) AllReadyH.nil
              have a0 := mW.cell r0
              go_simp
              refine hK.out _ _ ?_ (fun hHeld => ?_)
              · trivial
              clear hK K
              refine wpAnyH_ready (rs := [3]) (by kernel_rfl) (by simp) ?_
              refine AllReadyH.cons (o := { dst := some 85, op := Op.call { callee := Callee.value (Operand.func 22), args := #[Operand.tmp 82, Operand.tmp 83, Operand.tmp 84], argTypes := #[28, 9, 2] }, type := 28, pos := "law.go:65", after := #[{ on := 0, ground := Ground.data }, { on := 1, ground := Ground.data }, { on := 2, ground := Ground.data }], guard := none }) rfl (fun K hK => ?_) AllReadyH.nil
              go_simp
              go_at_call 22
              refine (drop2_w w5 _ _ R s t HR.out mW).mono ?_
              rintro _ w1 ⟨ad1, n1, cap1, rfl, hc1, m1⟩
              have HC1 : Hid (RowAt w1 (.agg #[.slice ad1 n1 cap1]) P) := ⟨_, rfl, by rw [← HPe.out]; exact hc1⟩
              clear hc1
              replace mW := mW.then m1
              refine hK.out _ _ ?_ (fun hHeld => ?_)
              · trivial
              clear hK K
              try simp only [Act.put, List.setIfInBounds_toArray, List.set_cons_zero, List.set_cons_succ]
              refine wpAnyH_ready (rs := [7]) (by kernel_rfl) (by simp) ?_
              refine AllReadyH.cons (o := { dst := some 89, op := Op.call { callee := Callee.value (Operand.func 26), args := #[Operand.tmp 86, Operand.tmp 87, Operand.tmp 88], argTypes := #[28, 9, 2] }, type := 28, pos := "law.go:65", after := #[{ on := 4, ground := Ground.data }, { on := 5, ground := Ground.data }, { on := 6, ground := Ground.data }, { on := 3, ground := Ground.chain }], guard := none }) rfl (fun K hK => ?_) AllReadyH.nil
              go_simp
              go_at_call 26
              refine (refDrop_yes w5 _ _ R s t HM.out mW HPr.out).mono ?_
              rintro _ w2 ⟨ad2, n2, cap2, rfl, hc2, m2⟩
              have HC2 : Hid (RowAt w2 (.agg #[.slice ad2 n2 cap2]) P) := ⟨_, rfl, by rw [← HPe.out]; exact hc2⟩
              clear hc2
              replace HC1 : Hid (RowAt w2 (.agg #[.slice ad1 n1 cap1]) P) := HC1.out.moves m2
              replace mW := mW.then m2
              have hq0 := mW.at q0 (by simp)
              have hq1 := mW.at q1 (by simp)
              refine hK.out _ _ ?_ (fun hHeld => ?_)
              · trivial
              clear hK K
              try simp only [Act.put, List.setIfInBounds_toArray, List.set_cons_zero, List.set_cons_succ]
              refine wpAnyH_ready (rs := [8]) (by kernel_rfl) (by simp) ?_
              refine AllReadyH.cons (o := { dst := none, op := Op.store 28 (Operand.tmp 3) (Operand.tmp 85), type := 0, pos := "law.go:65", after := #[{ on := 3, ground := Ground.data }, { on := 7, ground := Ground.chain }, { on := 0, ground := Ground.phase }, { on := 1, ground := Ground.phase }, { on := 2, ground := Ground.phase }, { on := 3, ground := Ground.phase }, { on := 4, ground := Ground.textOnly Departure.lateStores }, { on := 5, ground := Ground.textOnly Departure.lateStores }, { on := 6, ground := Ground.textOnly Departure.lateStores }, { on := 7, ground := Ground.textOnly Departure.lateStoresUnsure }], guard := none }) rfl (fun K hK => ?_) AllReadyH.nil
              obtain ⟨f0, f1⟩ := one_cell hq0
              go_simp
              refine hK.out _ _ ?_ (fun hHeld => ?_)
              · trivial
              clear hK K
              refine wpAnyH_ready (rs := [9]) (by kernel_rfl) (by simp) ?_
              refine AllReadyH.cons (o := { dst := none, op := Op.store 28 (Operand.tmp 4) (Operand.tmp 89), type := 0, pos := "law.go:65", after := #[{ on := 7, ground := Ground.data }, { on := 8, ground := Ground.chain }, { on := 0, ground := Ground.phase }, { on := 1, ground := Ground.phase }, { on := 2, ground := Ground.phase }, { on := 3, ground := Ground.phase }, { on := 4, ground := Ground.phase }, { on := 5, ground := Ground.phase }, { on := 6, ground := Ground.phase }, { on := 7, ground := Ground.phase }, { on := 8, ground := Ground.phase }], guard := none }) rfl (fun K hK => ?_) AllReadyH.nil
              have hz1 := (moves_set w2 pr 0 (.slice ad1 n1 cap1)).at hq1 (by simp; omega)
              obtain ⟨f2, f3⟩ := one_cell hz1
              go_simp
              refine hK.out _ _ ?_ (fun hHeld => ?_)
              · trivial
              clear hK K
              refine wpAnyH_done (by kernel_rfl) ?_ _
              refine NoPanic.normal ?_
              exact ⟨rfl, by kernel_rfl, ad1, n1, cap1, ad2, n2, cap2, (moves_set _ _ _ _).at (set_one hq0 _) (by simp; omega), set_one hz1 _, (HC1.out.setRow hq0 _).setRow hz1 _, (HC2.out.setRow hq0 _).setRow hz1 _, (((MWr.out.then mW).setCell (.inr (by show w.heap.size ≤ pr; omega)) _).setCell (.inr (by show w.heap.size ≤ pm; omega)) _)⟩
          · rintro u wx ⟨adx, nx, capx, ady, ny, capy, t0, t1, hx, hy, mwx⟩
            simp only [List.foldl_cons, List.foldl_nil, List.setIfInBounds_toArray, List.set_cons_zero, List.set_cons_succ]
            generalize u 82 = u82
            generalize u 83 = u83
            generalize u 84 = u84
            generalize u 85 = u85
            generalize u 86 = u86
            generalize u 87 = u87
            generalize u 88 = u88
            generalize u 89 = u89
            obtain ⟨o0, _⟩ := one_cell t0
            obtain ⟨o1, _⟩ := one_cell t1
            have HX : Hid (RowAt wx (.agg #[.slice adx nx capx]) P) := hx
            have HY : Hid (RowAt wx (.agg #[.slice ady ny capy]) P) := hy
            have HT := fun w1 s1 t1 (mm : Moves [] wx w1) => tells_yes wx w1 (.agg #[.slice adx nx capx]) (.agg #[.slice ady ny capy]) P s1 t1 HX.out HY.out mm HPx.out
            clear hx hy
            go_wp2_with (first | (revert mA; intro mA; go_at_call 28; refine (HT _ _ _ mA).mono ?_; rintro _ wB ⟨rfl, mB⟩; have mAB := mA.then mB) | (go_at_call 28; refine (HT _ _ _ (Moves.refl _ _)).mono ?_; rintro _ wA ⟨rfl, mA⟩; have oA0 := mA.cell o0; have oA1 := mA.cell o1))
            go_roundw
            case rel => exact ⟨k + 1, _, _, P, ⟨by omega, by omega⟩, by go_num, mwx.then mAB, mAB.at t0 (by simp), mAB.at t1 (by simp), HX.out.moves mAB, HY.out.moves mAB, HPx.out⟩
            case measure => simp [intOf]; omega
        · by_cases hk3' : tk = 3
          · subst hk3'
            obtain ⟨P, hP⟩ : ∃ P, Hid (pDropCol R s = P) := ⟨_, rfl⟩
            have HPe : Hid (pDropCol R s = P) := hP.out
            have HPx : Hid (pright P = true) := by unfold Hid; rw [← hP.out]; exact pDropCol_right R s
            go_wp2_with fail
            refine wp_some [92, 93, 94, 95, 96, 97] (fun _ w' => ∃ (adx : Option Addr) (nx capx : Nat) (ady : Option Addr) (ny capy : Nat), w'.heap[pr]? = some (.cells #[.slice adx nx capx] 28 (0, 0)) ∧ w'.heap[pm]? = some (.cells #[.slice ady ny capy] 28 (0, 0)) ∧ RowAt w' (.agg #[.slice adx nx capx]) P ∧ RowAt w' (.agg #[.slice ady ny capy]) P ∧ Moves [] w w') ?_ ?_
            · refine wp_region_noPanic ?_
              refine wp_region_held_drew (S := (fun _ => True)) (by kernel_rfl) ?_ (fun hHeld => ?_)
              · first | (go_keep; done) | trivial
              refine wpAnyH_take (i := 1) (oi := { dst := some 93, op := Op.move (Operand.tmp 6), type := 9, pos := "law.go:67", after := #[], guard := none }) (v := ?_) rfl (by kernel_rfl) (by kernel_rfl) (by kernel_rfl) (fun _ _ _ h => h) (Or.inl ⟨by rfl, ?_⟩) (by assumption) ?_
              rotate_left
              · (intro w hSw; (try dsimp only at hSw); go_simp; try (with_reducible rfl))
              try simp only [Act.put, List.setIfInBounds_toArray, List.set_cons_zero, List.set_cons_succ]
              refine wpAnyH_take (i := 4) (oi := { dst := some 96, op := Op.move (Operand.tmp 6), type := 9, pos := "law.go:67", after := #[], guard := none }) (v := ?_) rfl (by kernel_rfl) (by kernel_rfl) (by kernel_rfl) (fun _ _ _ h => h) (Or.inl ⟨by rfl, ?_⟩) (by assumption) ?_
              rotate_left
              · (intro w hSw; (try dsimp only at hSw); go_simp; try (with_reducible rfl))
              try simp only [Act.put, List.setIfInBounds_toArray, List.set_cons_zero, List.set_cons_succ]
              refine wpAnyH_ready (rs := [0, 3]) (by kernel_rfl) (by simp) ?_
              refine AllReadyH.cons (o := { dst := some 92, op := Op.load 28 (Operand.tmp 3), type := 28, pos := "law.go:67", after := #[], guard := none }) rfl (fun K hK => ?_) (AllReadyH.cons (o := { dst := some 95, op := Op.load 28 (Operand.tmp 4), type := 28, pos := "law.go:67", after := #[], guard := none }) rfl (fun K hK => ?_) AllReadyH.nil)
              · have a0 := mW.cell r0
                go_simp
                refine hK.out _ _ ?_ (fun hHeld => ?_)
                · trivial
                clear hK K
                refine wpAnyH_ready (rs := [2, 3]) (by kernel_rfl) (by simp) ?_
                refine AllReadyH.cons (o := { dst := some 94, op := Op.call { callee := Callee.value (Operand.func 20), args := #[Operand.tmp 92, Operand.tmp 93], argTypes := #[28, 9] }, type := 28, pos := "law.go:67", after := #[{ on := 0, ground := Ground.data }, { on := 1, ground := Ground.data }], guard := none }) rfl (fun K hK => ?_) (AllReadyH.cons (o := { dst := some 95, op := Op.load 28 (Operand.tmp 4), type := 28, pos := "law.go:67", after := #[], guard := none }) rfl (fun K hK => ?_) AllReadyH.nil)
                · go_simp
                  go_at_call 20
                  refine (dropCol_w w5 _ _ R s HR.out mW).mono ?_
                  rintro _ w1 ⟨ad1, n1, cap1, rfl, hc1, m1⟩
                  have HC1 : Hid (RowAt w1 (.agg #[.slice ad1 n1 cap1]) P) := ⟨_, rfl, by rw [← HPe.out]; exact hc1⟩
                  clear hc1
                  replace mW := mW.then m1
                  refine hK.out _ _ ?_ (fun hHeld => ?_)
                  · trivial
                  clear hK K
                  try simp only [Act.put, List.setIfInBounds_toArray, List.set_cons_zero, List.set_cons_succ]
                  refine wpAnyH_ready (rs := [3]) (by kernel_rfl) (by simp) ?_
                  refine AllReadyH.cons (o := { dst := some 95, op := Op.load 28 (Operand.tmp 4), type := 28, pos := "law.go:67", after := #[], guard := none }) rfl (fun K hK => ?_) AllReadyH.nil
                  have a1 := mW.cell r1
                  go_simp
                  refine hK.out _ _ ?_ (fun hHeld => ?_)
                  · trivial
                  clear hK K
                  refine wpAnyH_ready (rs := [5]) (by kernel_rfl) (by simp) ?_
                  refine AllReadyH.cons (o := { dst := some 97, op := Op.call { callee := Callee.value (Operand.func 27), args := #[Operand.tmp 95, Operand.tmp 96], argTypes := #[28, 9] }, type := 28, pos := "law.go:67", after := #[{ on := 3, ground := Ground.data }, { on := 4, ground := Ground.data }, { on := 2, ground := Ground.chain }], guard := none }) rfl (fun K hK => ?_) AllReadyH.nil
                  go_simp
                  go_at_call 27
                  refine (refDropCol_yes w5 _ _ R s HM.out mW HPr.out).mono ?_
                  rintro _ w2 ⟨ad2, n2, cap2, rfl, hc2, m2⟩
                  have HC2 : Hid (RowAt w2 (.agg #[.slice ad2 n2 cap2]) P) := ⟨_, rfl, by rw [← HPe.out]; exact hc2⟩
                  clear hc2
                  replace HC1 : Hid (RowAt w2 (.agg #[.slice ad1 n1 cap1]) P) := HC1.out.moves m2
                  replace mW := mW.then m2
                  have hq0 := mW.at q0 (by simp)
                  have hq1 := mW.at q1 (by simp)
                  refine hK.out _ _ ?_ (fun hHeld => ?_)
                  · trivial
                  clear hK K
                  try simp only [Act.put, List.setIfInBounds_toArray, List.set_cons_zero, List.set_cons_succ]
                  refine wpAnyH_ready (rs := [6]) (by kernel_rfl) (by simp) ?_
                  refine AllReadyH.cons (o := { dst := none, op := Op.store 28 (Operand.tmp 3) (Operand.tmp 94), type := 0, pos := "law.go:67", after := #[{ on := 2, ground := Ground.data }, { on := 5, ground := Ground.chain }, { on := 0, ground := Ground.phase }, { on := 1, ground := Ground.phase }, { on := 2, ground := Ground.phase }, { on := 3, ground := Ground.textOnly Departure.lateStores }, { on := 4, ground := Ground.textOnly Departure.lateStores }, { on := 5, ground := Ground.textOnly Departure.lateStoresUnsure }], guard := none }) rfl (fun K hK => ?_) AllReadyH.nil
                  obtain ⟨f0, f1⟩ := one_cell hq0
                  go_simp
                  refine hK.out _ _ ?_ (fun hHeld => ?_)
                  · trivial
                  clear hK K
                  refine wpAnyH_ready (rs := [7]) (by kernel_rfl) (by simp) ?_
                  refine AllReadyH.cons (o := { dst := none, op := Op.store 28 (Operand.tmp 4) (Operand.tmp 97), type := 0, pos := "law.go:67", after := #[{ on := 5, ground := Ground.data }, { on := 6, ground := Ground.chain }, { on := 0, ground := Ground.phase }, { on := 1, ground := Ground.phase }, { on := 2, ground := Ground.phase }, { on := 3, ground := Ground.phase }, { on := 4, ground := Ground.phase }, { on := 5, ground := Ground.phase }, { on := 6, ground := Ground.phase }], guard := none }) rfl (fun K hK => ?_) AllReadyH.nil
                  have hz1 := (moves_set w2 pr 0 (.slice ad1 n1 cap1)).at hq1 (by simp; omega)
                  obtain ⟨f2, f3⟩ := one_cell hz1
                  go_simp
                  refine hK.out _ _ ?_ (fun hHeld => ?_)
                  · trivial
                  clear hK K
                  refine wpAnyH_done (by kernel_rfl) ?_ _
                  refine NoPanic.normal ?_
                  exact ⟨rfl, by kernel_rfl, ad1, n1, cap1, ad2, n2, cap2, (moves_set _ _ _ _).at (set_one hq0 _) (by simp; omega), set_one hz1 _, (HC1.out.setRow hq0 _).setRow hz1 _, (HC2.out.setRow hq0 _).setRow hz1 _, (((MWr.out.then mW).setCell (.inr (by show w.heap.size ≤ pr; omega)) _).setCell (.inr (by show w.heap.size ≤ pm; omega)) _)⟩
                · have a1 := mW.cell r1
                  go_simp
                  refine hK.out _ _ ?_ (fun hHeld => ?_)
                  · trivial
                  clear hK K
                  refine wpAnyH_ready (rs := [2]) (by kernel_rfl) (by simp) ?_
                  refine AllReadyH.cons (o := { dst := some 94, op := Op.call { callee := Callee.value (Operand.func 20), args := #[Operand.tmp 92, Operand.tmp 93], argTypes := #[28, 9] }, type := 28, pos := "law.go:67", after := #[{ on := 0, ground := Ground.data }, { on := 1, ground := Ground.data }], guard := none }) rfl (fun K hK => ?_) AllReadyH.nil
                  go_simp
                  go_at_call 20
                  refine (dropCol_w w5 _ _ R s HR.out mW).mono ?_
                  rintro _ w1 ⟨ad1, n1, cap1, rfl, hc1, m1⟩
                  have HC1 : Hid (RowAt w1 (.agg #[.slice ad1 n1 cap1]) P) := ⟨_, rfl, by rw [← HPe.out]; exact hc1⟩
                  clear hc1
                  replace mW := mW.then m1
                  refine hK.out _ _ ?_ (fun hHeld => ?_)
                  · trivial
                  clear hK K
                  try simp only [Act.put, List.setIfInBounds_toArray, List.set_cons_zero, List.set_cons_succ]
                  refine wpAnyH_ready (rs := [5]) (by kernel_rfl) (by simp) ?_
                  refine AllReadyH.cons (o := { dst := some 97, op := Op.call { callee := Callee.value (Operand.func 27), args := #[Operand.tmp 95, Operand.tmp 96], argTypes := #[28, 9] }, type := 28, pos := "law.go:67", after := #[{ on := 3, ground := Ground.data }, { on := 4, ground := Ground.data }, { on := 2, ground := Ground.chain }], guard := none }) rfl (fun K hK => ?_) AllReadyH.nil
                  go_simp
                  go_at_call 27
                  refine (refDropCol_yes w5 _ _ R s HM.out mW HPr.out).mono ?_
                  rintro _ w2 ⟨ad2, n2, cap2, rfl, hc2, m2⟩
                  have HC2 : Hid (RowAt w2 (.agg #[.slice ad2 n2 cap2]) P) := ⟨_, rfl, by rw [← HPe.out]; exact hc2⟩
                  clear hc2
                  replace HC1 : Hid (RowAt w2 (.agg #[.slice ad1 n1 cap1]) P) := HC1.out.moves m2
                  replace mW := mW.then m2
                  have hq0 := mW.at q0 (by simp)
                  have hq1 := mW.at q1 (by simp)
                  refine hK.out _ _ ?_ (fun hHeld => ?_)
                  · trivial
                  clear hK K
                  try simp only [Act.put, List.setIfInBounds_toArray, List.set_cons_zero, List.set_cons_succ]
                  refine wpAnyH_ready (rs := [6]) (by kernel_rfl) (by simp) ?_
                  refine AllReadyH.cons (o := { dst := none, op := Op.store 28 (Operand.tmp 3) (Operand.tmp 94), type := 0, pos := "law.go:67", after := #[{ on := 2, ground := Ground.data }, { on := 5, ground := Ground.chain }, { on := 0, ground := Ground.phase }, { on := 1, ground := Ground.phase }, { on := 2, ground := Ground.phase }, { on := 3, ground := Ground.textOnly Departure.lateStores }, { on := 4, ground := Ground.textOnly Departure.lateStores }, { on := 5, ground := Ground.textOnly Departure.lateStoresUnsure }], guard := none }) rfl (fun K hK => ?_) AllReadyH.nil
                  obtain ⟨f0, f1⟩ := one_cell hq0
                  go_simp
                  refine hK.out _ _ ?_ (fun hHeld => ?_)
                  · trivial
                  clear hK K
                  refine wpAnyH_ready (rs := [7]) (by kernel_rfl) (by simp) ?_
                  refine AllReadyH.cons (o := { dst := none, op := Op.store 28 (Operand.tmp 4) (Operand.tmp 97), type := 0, pos := "law.go:67", after := #[{ on := 5, ground := Ground.data }, { on := 6, ground := Ground.chain }, { on := 0, ground := Ground.phase }, { on := 1, ground := Ground.phase }, { on := 2, ground := Ground.phase }, { on := 3, ground := Ground.phase }, { on := 4, ground := Ground.phase }, { on := 5, ground := Ground.phase }, { on := 6, ground := Ground.phase }], guard := none }) rfl (fun K hK => ?_) AllReadyH.nil
                  have hz1 := (moves_set w2 pr 0 (.slice ad1 n1 cap1)).at hq1 (by simp; omega)
                  obtain ⟨f2, f3⟩ := one_cell hz1
                  go_simp
                  refine hK.out _ _ ?_ (fun hHeld => ?_)
                  · trivial
                  clear hK K
                  refine wpAnyH_done (by kernel_rfl) ?_ _
                  refine NoPanic.normal ?_
                  exact ⟨rfl, by kernel_rfl, ad1, n1, cap1, ad2, n2, cap2, (moves_set _ _ _ _).at (set_one hq0 _) (by simp; omega), set_one hz1 _, (HC1.out.setRow hq0 _).setRow hz1 _, (HC2.out.setRow hq0 _).setRow hz1 _, (((MWr.out.then mW).setCell (.inr (by show w.heap.size ≤ pr; omega)) _).setCell (.inr (by show w.heap.size ≤ pm; omega)) _)⟩
              · have a1 := mW.cell r1
                go_simp
                refine hK.out _ _ ?_ (fun hHeld => ?_)
                · trivial
                clear hK K
                refine wpAnyH_ready (rs := [0]) (by kernel_rfl) (by simp) ?_
                refine AllReadyH.cons (o := { dst := some 92, op := Op.load 28 (Operand.tmp 3), type := 28, pos := "law.go:67", after := #[], guard := none }) rfl (fun K hK => ?_) AllReadyH.nil
                have a0 := mW.cell r0
                go_simp
                refine hK.out _ _ ?_ (fun hHeld => ?_)
                · trivial
                clear hK K
                refine wpAnyH_ready (rs := [2]) (by kernel_rfl) (by simp) ?_
                refine AllReadyH.cons (o := { dst := some 94, op := Op.call { callee := Callee.value (Operand.func 20), args := #[Operand.tmp 92, Operand.tmp 93], argTypes := #[28, 9] }, type := 28, pos := "law.go:67", after := #[{ on := 0, ground := Ground.data }, { on := 1, ground := Ground.data }], guard := none }) rfl (fun K hK => ?_) AllReadyH.nil
                go_simp
                go_at_call 20
                refine (dropCol_w w5 _ _ R s HR.out mW).mono ?_
                rintro _ w1 ⟨ad1, n1, cap1, rfl, hc1, m1⟩
                have HC1 : Hid (RowAt w1 (.agg #[.slice ad1 n1 cap1]) P) := ⟨_, rfl, by rw [← HPe.out]; exact hc1⟩
                clear hc1
                replace mW := mW.then m1
                refine hK.out _ _ ?_ (fun hHeld => ?_)
                · trivial
                clear hK K
                try simp only [Act.put, List.setIfInBounds_toArray, List.set_cons_zero, List.set_cons_succ]
                refine wpAnyH_ready (rs := [5]) (by kernel_rfl) (by simp) ?_
                refine AllReadyH.cons (o := { dst := some 97, op := Op.call { callee := Callee.value (Operand.func 27), args := #[Operand.tmp 95, Operand.tmp 96], argTypes := #[28, 9] }, type := 28, pos := "law.go:67", after := #[{ on := 3, ground := Ground.data }, { on := 4, ground := Ground.data }, { on := 2, ground := Ground.chain }], guard := none }) rfl (fun K hK => ?_) AllReadyH.nil
                go_simp
                go_at_call 27
                refine (refDropCol_yes w5 _ _ R s HM.out mW HPr.out).mono ?_
                rintro _ w2 ⟨ad2, n2, cap2, rfl, hc2, m2⟩
                have HC2 : Hid (RowAt w2 (.agg #[.slice ad2 n2 cap2]) P) := ⟨_, rfl, by rw [← HPe.out]; exact hc2⟩
                clear hc2
                replace HC1 : Hid (RowAt w2 (.agg #[.slice ad1 n1 cap1]) P) := HC1.out.moves m2
                replace mW := mW.then m2
                have hq0 := mW.at q0 (by simp)
                have hq1 := mW.at q1 (by simp)
                refine hK.out _ _ ?_ (fun hHeld => ?_)
                · trivial
                clear hK K
                try simp only [Act.put, List.setIfInBounds_toArray, List.set_cons_zero, List.set_cons_succ]
                refine wpAnyH_ready (rs := [6]) (by kernel_rfl) (by simp) ?_
                refine AllReadyH.cons (o := { dst := none, op := Op.store 28 (Operand.tmp 3) (Operand.tmp 94), type := 0, pos := "law.go:67", after := #[{ on := 2, ground := Ground.data }, { on := 5, ground := Ground.chain }, { on := 0, ground := Ground.phase }, { on := 1, ground := Ground.phase }, { on := 2, ground := Ground.phase }, { on := 3, ground := Ground.textOnly Departure.lateStores }, { on := 4, ground := Ground.textOnly Departure.lateStores }, { on := 5, ground := Ground.textOnly Departure.lateStoresUnsure }], guard := none }) rfl (fun K hK => ?_) AllReadyH.nil
                obtain ⟨f0, f1⟩ := one_cell hq0
                go_simp
                refine hK.out _ _ ?_ (fun hHeld => ?_)
                · trivial
                clear hK K
                refine wpAnyH_ready (rs := [7]) (by kernel_rfl) (by simp) ?_
                refine AllReadyH.cons (o := { dst := none, op := Op.store 28 (Operand.tmp 4) (Operand.tmp 97), type := 0, pos := "law.go:67", after := #[{ on := 5, ground := Ground.data }, { on := 6, ground := Ground.chain }, { on := 0, ground := Ground.phase }, { on := 1, ground := Ground.phase }, { on := 2, ground := Ground.phase }, { on := 3, ground := Ground.phase }, { on := 4, ground := Ground.phase }, { on := 5, ground := Ground.phase }, { on := 6, ground := Ground.phase }], guard := none }) rfl (fun K hK => ?_) AllReadyH.nil
                have hz1 := (moves_set w2 pr 0 (.slice ad1 n1 cap1)).at hq1 (by simp; omega)
                obtain ⟨f2, f3⟩ := one_cell hz1
                go_simp
                refine hK.out _ _ ?_ (fun hHeld => ?_)
                · trivial
                clear hK K
                refine wpAnyH_done (by kernel_rfl) ?_ _
                refine NoPanic.normal ?_
                exact ⟨rfl, by kernel_rfl, ad1, n1, cap1, ad2, n2, cap2, (moves_set _ _ _ _).at (set_one hq0 _) (by simp; omega), set_one hz1 _, (HC1.out.setRow hq0 _).setRow hz1 _, (HC2.out.setRow hq0 _).setRow hz1 _, (((MWr.out.then mW).setCell (.inr (by show w.heap.size ≤ pr; omega)) _).setCell (.inr (by show w.heap.size ≤ pm; omega)) _)⟩
            · rintro u wx ⟨adx, nx, capx, ady, ny, capy, t0, t1, hx, hy, mwx⟩
              simp only [List.foldl_cons, List.foldl_nil, List.setIfInBounds_toArray, List.set_cons_zero, List.set_cons_succ]
              generalize u 92 = u92
              generalize u 93 = u93
              generalize u 94 = u94
              generalize u 95 = u95
              generalize u 96 = u96
              generalize u 97 = u97
              obtain ⟨o0, _⟩ := one_cell t0
              obtain ⟨o1, _⟩ := one_cell t1
              have HX : Hid (RowAt wx (.agg #[.slice adx nx capx]) P) := hx
              have HY : Hid (RowAt wx (.agg #[.slice ady ny capy]) P) := hy
              have HT := fun w1 s1 t1 (mm : Moves [] wx w1) => tells_yes wx w1 (.agg #[.slice adx nx capx]) (.agg #[.slice ady ny capy]) P s1 t1 HX.out HY.out mm HPx.out
              clear hx hy
              go_wp2_with (first | (revert mA; intro mA; go_at_call 28; refine (HT _ _ _ mA).mono ?_; rintro _ wB ⟨rfl, mB⟩; have mAB := mA.then mB) | (go_at_call 28; refine (HT _ _ _ (Moves.refl _ _)).mono ?_; rintro _ wA ⟨rfl, mA⟩; have oA0 := mA.cell o0; have oA1 := mA.cell o1))
              go_roundw
              case rel => exact ⟨k + 1, _, _, P, ⟨by omega, by omega⟩, by go_num, mwx.then mAB, mAB.at t0 (by simp), mAB.at t1 (by simp), HX.out.moves mAB, HY.out.moves mAB, HPx.out⟩
              case measure => simp [intOf]; omega
          · have HPx : Hid (pright R = true) := HPr.out
            obtain ⟨P, hP⟩ : ∃ P, R = P := ⟨_, rfl⟩
            rw [hP] at HPx HR HM
            have t0 := q0
            have t1 := q1
            have hx := HR.out
            have hy := HM.out
            have mwx := MWr.out
            clear hP mW
            obtain ⟨o0, _⟩ := one_cell t0
            obtain ⟨o1, _⟩ := one_cell t1
            have HX : Hid (RowAt w5 (.agg #[.slice adr nr capr]) P) := hx
            have HY : Hid (RowAt w5 (.agg #[.slice adm nr capm]) P) := hy
            have HT := fun w1 s1 t1 (mm : Moves [] w5 w1) => tells_yes w5 w1 (.agg #[.slice adr nr capr]) (.agg #[.slice adm nr capm]) P s1 t1 HX.out HY.out mm HPx.out
            clear hx hy
            go_wp2_with (first | (revert mA; intro mA; go_at_call 28; refine (HT _ _ _ mA).mono ?_; rintro _ wB ⟨rfl, mB⟩; have mAB := mA.then mB) | (go_at_call 28; refine (HT _ _ _ (Moves.refl _ _)).mono ?_; rintro _ wA ⟨rfl, mA⟩; have oA0 := mA.cell o0; have oA1 := mA.cell o1))
            go_roundw
            case rel => exact ⟨k + 1, _, _, P, ⟨by omega, by omega⟩, by go_num, mwx.then mAB, mAB.at t0 (by simp), mAB.at t1 (by simp), HX.out.moves mAB, HY.out.moves mAB, HPx.out⟩
            case measure => simp [intOf]; omega
    · have hways : (¬ (k : Int) < nv) ∨ ((k : Int) < nv ∧ ¬ (k : Int) < 40) := by omega
      clear HVs
      rcases hways with g1 | ⟨g1, g2⟩
      all_goals go_wp2_with fail
      all_goals go_ret
      all_goals exact ⟨rfl, mr⟩
end Go.Proofs.Ytfegflimnngfaaa
