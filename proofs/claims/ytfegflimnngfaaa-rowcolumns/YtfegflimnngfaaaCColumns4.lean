/-
  RowColumns' walk.
-/
import Derived.Test.YtfegflimnngfaaaCMade4
import Derived.Test.YtfegflimnngfaaaCRef6
namespace Go.Proofs.Ytfegflimnngfaaa
open Go.RowKit

/-- One column of a list, as a list. -/
theorem ColsAt.one {w : World} {g off n cap : Nat} {xs : List Pcol} (h : ColsAt w (.slice (some ⟨g, off, none⟩) n cap) xs) {k : Nat} {y : Pcol} (hy : xs[k]? = some y) (hc : n ≤ cap) : ColsAt w (.slice (some ⟨g, off + k * 2, none⟩) 1 (cap - k)) [y] := by
  have hk : k < n := by
    have := (List.getElem?_eq_some_iff.1 hy).1
    have := h.len
    omega
  have h1 := (h.drop (k := k) (by omega)).take (k := 1) (c := cap - k) (by omega) (by omega) (Nat.le_refl _)
  have e : (xs.drop k).take 1 = [y] := by
    have hl := (List.getElem?_eq_some_iff.1 hy).1
    rw [List.drop_eq_getElem_cons hl, List.take_succ_cons, List.take_zero]
    simp [(List.getElem?_eq_some_iff.1 hy).2]
  rw [e] at h1
  exact h1
def sQ : ByteArray := ⟨#[113, 117, 105, 116, 101, 46, 110, 101, 119]⟩
theorem quite_new {R : List Pcol} (hR : pright R = true) (hn : ∀ x ∈ R, x.name ∈ colNames) (p : Pv) (hp : pvr p = true) : pPutE R sQ 1 p = if R.length = 4 then 13 else 0 := by
  have h1 : pvers (pcopy R) sQ = [] := pvers_not fun x hx e => by
    have := hn x hx
    rw [e] at this
    simp [colNames, sQ] at this
  have hl := pright_len4 hR
  have hl2 : (pcopy R).length = R.length := by rw [pcopy_of hR, List.length_map]
  unfold pPutE
  rw [if_neg (by rw [hp]; decide), h1, hl2]
  by_cases h4 : R.length = 4
  · rw [if_pos h4, if_pos ⟨rfl, by omega⟩]
  · rw [if_neg h4, if_neg (by rintro ⟨_, h⟩; omega)]

set_option maxRecDepth 100000 in
set_option maxHeartbeats 16000000 in
theorem columnsLaw_w (u0 u1 : Value) (w : World) (h0 : CArgs w u0) (h1 : KArg w u1) :
    Calls Try.prog 7 #[u0, u1] w fun e w' => e = .returned (.bool true) ∧ Moves [] w w' := by
  have hmade := fun w1 (m1 : Moves [] w w1) => made_w w w1 u0 h0 m1
  obtain ⟨adv, nv, cv, rfl, hcv, _⟩ := h0
  have HK : Hid (KArg w u1) := h1
  obtain ⟨tb, tn, tx, a2, l2, c2, gk, bk, rfl, _⟩ := h1.out
  have mb : Moves [] w (w.alloc (.cells #[.bool tb, .int .i64 tn, .float .f64 tx, .slice a2 l2 c2] 42)) := (Moves.refl _ _).alloc _
  have qb := heap_alloc_new w (.cells #[.bool tb, .int .i64 tn, .float .f64 tx, .slice a2 l2 c2] 42)
  clear h1
  go_enter Try.func7, Try.ntmps7
  go_wp2_with (go_at_call 10; refine (hmade _ mb).mono ?_; rintro _ w2 ⟨adr, nr, capr, R, rfl, hR2, hPr, hnm, m2⟩; have HPr : Hid (pright R = true) := hPr; have HNm : Hid (∀ x ∈ R, x.name ∈ colNames) := hnm; have HR2 : Hid (RowAt w2 (.agg #[.slice adr nr capr]) R) := hR2; clear hPr hnm hR2)
  obtain ⟨w3, hw3⟩ : ∃ w3, w2.alloc (.cells #[.slice adr nr capr] 28) = w3 := ⟨_, rfl⟩
  have m3 : Moves [] w2 w3 := by rw [← hw3]; exact (Moves.refl _ _).alloc _
  have q3 : w3.heap[w2.heap.size]? = some (.cells #[.slice adr nr capr] 28 (0, 0)) := by rw [← hw3]; exact heap_alloc_new _ _
  rw [hw3]
  obtain ⟨pr, hpr⟩ : ∃ pr, w2.heap.size = pr := ⟨_, rfl⟩
  rw [hpr] at q3 ⊢
  have HR3 : Hid (RowAt w3 (.agg #[.slice adr nr capr]) R) := HR2.out.moves m3
  have M3 : Hid (Moves [] w w3) := (mb.then m2).then m3
  have qv := (m2.then m3).at qb (by simp)
  obtain ⟨vb0, vb1, vb2, vb3⟩ := quad_cells qv
  obtain ⟨pr0, _⟩ := one_cell q3
  obtain ⟨_, erow, hCols⟩ := HR3.out
  simp only [Value.agg.injEq, Array.mk.injEq, List.cons.injEq, and_true] at erow
  subst erow
  have hnr : Hid (nr = R.length) := hCols.len
  have hn4 : nr ≤ 4 := by rw [hnr.out]; exact pright_len4 HPr.out
  obtain ⟨_, capr', ecap, hcapr⟩ := hCols.slice
  simp only [Value.slice.injEq] at ecap
  obtain ⟨rfl, hz, rfl⟩ := ecap
  clear hz
  rw [← hnr.out] at hcapr
  have HCols : Hid (ColsAt w3 (.slice _ nr capr) R) := hCols
  clear hw3 hpr HR2 hmade mb qb m2 m3 hCols
  go_loopw [6] (fun i wr => ∃ k : Nat, k ≤ nr ∧ i = .int .i64 k ∧ Moves [] w3 wr) (fun i _ => nr - (intOf i).toNat)
  case atStart => exact ⟨0, Nat.zero_le _, rfl, Moves.refl _ _⟩
  case round =>
    obtain ⟨k, hk, rfl, mr⟩ := hrel
    have rr := mr.cell pr0
    have rv0 := mr.cell vb0
    have rv1 := mr.cell vb1
    have rv2 := mr.cell vb2
    have rv3 := mr.cell vb3
    by_cases hlt : k < nr
    · have hk3 : (k : Int) < nr := by omega
      obtain ⟨x, hx⟩ : ∃ x, R[k]? = some x := ⟨_, List.getElem?_eq_getElem (by rw [← hnr.out]; exact hlt)⟩
      have hcc := HCols.out
      obtain ⟨g, off, a5, n5, c5, eg, f0, f1, _, _, _⟩ := hcc.at hx
      clear hcc
      subst eg
      have d0 := mr.cell f0
      have HX : Hid (R[k]? = some x) := hx
      have HRr : Hid (RowAt wr (.agg #[.slice (some ⟨g, off, none⟩) nr capr]) R) := HR3.out.moves mr
      have MWr : Hid (Moves [] w wr) := M3.out.then mr
      have hS : ∀ w', Moves [] wr w' → ((fun w' => w'.cell? ⟨pr, 0, none⟩ = some (.slice (some ⟨g, off, none⟩) nr capr) ∧ w'.cell? ⟨w.heap.size, 0, none⟩ = some (.bool tb) ∧ w'.cell? ⟨w.heap.size, 1, none⟩ = some (.int .i64 tn) ∧ w'.cell? ⟨w.heap.size, 2, none⟩ = some (.float .f64 tx) ∧ w'.cell? ⟨w.heap.size, 3, none⟩ = some (.slice a2 l2 c2)) w') := fun w' m' => ⟨m'.cell rr, m'.cell rv0, m'.cell rv1, m'.cell rv2, m'.cell rv3⟩
      have mW : Moves [] wr wr.drew := (Moves.refl _ _).drew
      clear hx f0 f1
      go_wp2_with fail
      refine wp_some [29, 30, 31, 32, 33, 34, 35, 36, 8, 9] (fun u w' => ∃ (p : Pv) (pb : Nat) (ad : Option Addr) (cap : Nat), u 9 = .int .i64 0 ∧ u 8 = .pointer (some ⟨pb, 0, none⟩) ∧ pvr p = true ∧ w'.heap[pb]? = some (.cells #[.slice ad nr cap] 28 (0, 0)) ∧ RowAt w' (.agg #[.slice ad nr cap]) (pPut R x.name 50 p) ∧ wr.heap.size ≤ pb ∧ Moves [] wr w') ?_ ?_
      · refine wp_region_noPanic ?_
        refine wp_region_held_drew (S := (fun w' => w'.cell? ⟨pr, 0, none⟩ = some (.slice (some ⟨g, off, none⟩) nr capr) ∧ w'.cell? ⟨w.heap.size, 0, none⟩ = some (.bool tb) ∧ w'.cell? ⟨w.heap.size, 1, none⟩ = some (.int .i64 tn) ∧ w'.cell? ⟨w.heap.size, 2, none⟩ = some (.float .f64 tx) ∧ w'.cell? ⟨w.heap.size, 3, none⟩ = some (.slice a2 l2 c2))) (by kernel_rfl) ?_ (fun hHeld => ?_)
        · first | (go_keep; done) | first | exact hS _ mW | exact hS _ (mW.setCell (.inr (by show wr.heap.size ≤ pb; omega)) _)
        refine wpAnyH_take (i := 0) (oi := { dst := some 30, op := Op.load 28 (Operand.tmp 5), type := 28, pos := "law.go:235", after := #[], guard := none }) (v := ?_) rfl (by kernel_rfl) (by kernel_rfl) (by kernel_rfl) (fun _ _ _ h => h) (Or.inl ⟨by rfl, ?_⟩) (by assumption) ?_
        rotate_left
        · (intro w hSw; (try dsimp only at hSw); go_simp; try (with_reducible rfl))
        try simp only [Act.put, List.setIfInBounds_toArray, List.set_cons_zero, List.set_cons_succ]
        refine wpAnyH_take (i := 1) (oi := { dst := some 31, op := Op.move (Operand.tmp 7), type := 9, pos := "law.go:235", after := #[], guard := none }) (v := ?_) rfl (by kernel_rfl) (by kernel_rfl) (by kernel_rfl) (fun _ _ _ h => h) (Or.inl ⟨by rfl, ?_⟩) (by assumption) ?_
        rotate_left
        · (intro w hSw; (try dsimp only at hSw); go_simp; try (with_reducible rfl))
        try simp only [Act.put, List.setIfInBounds_toArray, List.set_cons_zero, List.set_cons_succ]
        refine wpAnyH_take (i := 2) (oi := { dst := some 32, op := Op.load 42 (Operand.tmp 3), type := 42, pos := "law.go:235", after := #[], guard := none }) (v := ?_) rfl (by kernel_rfl) (by kernel_rfl) (by kernel_rfl) (fun _ _ _ h => h) (Or.inl ⟨by rfl, ?_⟩) (by assumption) ?_
        rotate_left
        · (intro w hSw; (try dsimp only at hSw); go_simp; try (with_reducible rfl))
        try simp only [Act.put, List.setIfInBounds_toArray, List.set_cons_zero, List.set_cons_succ]
        refine wpAnyH_ready (rs := [3, 8]) (by kernel_rfl) (by simp) ?_
        refine AllReadyH.cons (o := { dst := some 33, op := Op.call { callee := Callee.value (Operand.func 15), args := #[Operand.tmp 32], argTypes := #[42] }, type := 39, pos := "law.go:235", after := #[{ on := 2, ground := Ground.data }], guard := none }) rfl (fun K hK => ?_) (AllReadyH.cons (o := { dst := some 8, op := Op.alloc 28, type := 0, pos := "law.go:235", after := #[], guard := none }) rfl (fun K hK => ?_) AllReadyH.nil)
        · go_simp
          go_at_call 15
          refine (keep_b' w _ _ HK.out).mono ?_
          rintro _ w3 ⟨A, adA, lenA, capA, rfl, hA, yA, m3⟩
          have HA : Hid (VA w [.int .i64 A.kind, .slice adA lenA capA, .float .f64 A.n] A.pv) := hA.va (by have := yA.len16; omega)
          have HY : Hid (pvr A.pv = true) := yA.right
          clear hA yA
          replace mW := mW.then m3
          refine hK.out _ _ ?_ (fun hHeld => ?_)
          · first | exact hS _ mW | exact hS _ (mW.setCell (.inr (by show wr.heap.size ≤ pb; omega)) _)
          clear hK K
          try simp only [Act.put, List.setIfInBounds_toArray, List.set_cons_zero, List.set_cons_succ]
          refine wpAnyH_ready (rs := [4, 8]) (by kernel_rfl) (by simp) ?_
          refine AllReadyH.cons (o := { dst := some 34, op := Op.call { callee := Callee.value (Operand.func 16), args := #[Operand.tmp 30, Operand.tmp 31, Operand.const (Value.int IntKind.i64 50), Operand.tmp 33], argTypes := #[28, 9, 2, 39] }, type := 44, pos := "law.go:235", after := #[{ on := 0, ground := Ground.data }, { on := 1, ground := Ground.data }, { on := 3, ground := Ground.data }, { on := 3, ground := Ground.chain }], guard := none }) rfl (fun K hK => ?_) (AllReadyH.cons (o := { dst := some 8, op := Op.alloc 28, type := 0, pos := "law.go:235", after := #[], guard := none }) rfl (fun K hK => ?_) AllReadyH.nil)
          · go_simp
            go_at_call 16
            refine (rput_w wr _ _ R x.name 50 A.kind adA lenA capA A.n A.pv HRr.out (HA.out.moves MWr.out) mW).mono ?_
            rintro _ w4 ⟨ad1, n1, cap1, rfl, hc1, m4⟩
            obtain ⟨hE, hl, _, hkk⟩ := columns_plain HPr.out HX.out A.pv HY.out
            rw [hE]
            obtain rfl : n1 = nr := by rw [hc1.len, hl, hnr.out]
            clear hE hl hkk
            have HC : Hid (RowAt w4 (.agg #[.slice ad1 n1 cap1]) (pPut R x.name 50 A.pv)) := ⟨_, rfl, hc1⟩
            clear hc1
            replace mW := mW.then m4
            refine hK.out _ _ ?_ (fun hHeld => ?_)
            · first | exact hS _ mW | exact hS _ (mW.setCell (.inr (by show wr.heap.size ≤ pb; omega)) _)
            clear hK K
            try simp only [Act.put, List.setIfInBounds_toArray, List.set_cons_zero, List.set_cons_succ]
            refine wpAnyH_take (i := 5) (oi := { dst := some 29, op := Op.move (Operand.tmp 34), type := 44, pos := "law.go:235", after := #[{ on := 4, ground := Ground.data }], guard := none }) (v := ?_) rfl (by kernel_rfl) (by kernel_rfl) (by kernel_rfl) (fun _ _ _ h => h) (Or.inl ⟨by rfl, ?_⟩) (by assumption) ?_
            rotate_left
            · (intro w hSw; (try dsimp only at hSw); go_simp; try (with_reducible rfl))
            try simp only [Act.put, List.setIfInBounds_toArray, List.set_cons_zero, List.set_cons_succ]
            refine wpAnyH_take (i := 6) (oi := { dst := some 35, op := Op.extract (Operand.tmp 29) 0, type := 28, pos := "law.go:235", after := #[{ on := 5, ground := Ground.data }], guard := none }) (v := ?_) rfl (by kernel_rfl) (by kernel_rfl) (by kernel_rfl) (fun _ _ _ h => h) (Or.inl ⟨by rfl, ?_⟩) (by assumption) ?_
            rotate_left
            · (intro w hSw; (try dsimp only at hSw); go_simp; try (with_reducible rfl))
            try simp only [Act.put, List.setIfInBounds_toArray, List.set_cons_zero, List.set_cons_succ]
            refine wpAnyH_take (i := 7) (oi := { dst := some 36, op := Op.extract (Operand.tmp 29) 1, type := 43, pos := "law.go:235", after := #[{ on := 5, ground := Ground.data }, { on := 9, ground := Ground.gcOnly Departure.lateStores }], guard := none }) (v := ?_) rfl (by kernel_rfl) (by kernel_rfl) (by kernel_rfl) (fun _ _ _ h => h) (Or.inl ⟨by rfl, ?_⟩) (by assumption) ?_
            rotate_left
            · (intro w hSw; (try dsimp only at hSw); go_simp; try (with_reducible rfl))
            try simp only [Act.put, List.setIfInBounds_toArray, List.set_cons_zero, List.set_cons_succ]
            refine wpAnyH_ready (rs := [8]) (by kernel_rfl) (by simp) ?_
            refine AllReadyH.cons (o := { dst := some 8, op := Op.alloc 28, type := 0, pos := "law.go:235", after := #[], guard := none }) rfl (fun K hK => ?_) AllReadyH.nil
            go_simp
            have hle := mW.size
            obtain ⟨w8, hwa⟩ : ∃ w8, w4.alloc (.cells #[.slice none 0 0] 28) = w8 := ⟨_, rfl⟩
            have hb : w8.heap[w4.heap.size]? = some (.cells #[.slice none 0 0] 28 (0, 0)) := by rw [← hwa]; exact heap_alloc_new w4 _
            have m8 : Moves [] w4 w8 := by rw [← hwa]; exact (Moves.refl _ _).alloc _
            rw [hwa]
            obtain ⟨pb, hpb⟩ : ∃ pb, w4.heap.size = pb := ⟨_, rfl⟩
            rw [hpb] at hb ⊢
            have hle : wr.heap.size ≤ pb := by rw [← hpb]; first | exact hle | exact Nat.le_refl _
            replace mW := mW.then m8
            replace HC : Hid (RowAt w8 (.agg #[.slice ad1 n1 cap1]) (pPut R x.name 50 A.pv)) := HC.out.moves m8
            clear hwa hpb
            refine hK.out _ _ ?_ (fun hHeld => ?_)
            · first | exact hS _ mW | exact hS _ (mW.setCell (.inr (by show wr.heap.size ≤ pb; omega)) _)
            clear hK K
            try simp only [Act.put, List.setIfInBounds_toArray, List.set_cons_zero, List.set_cons_succ]
            refine wpAnyH_ready (rs := [9]) (by kernel_rfl) (by simp) ?_
            refine AllReadyH.cons (o := { dst := none, op := Op.store 28 (Operand.tmp 8) (Operand.tmp 35), type := 0, pos := "law.go:235", after := #[{ on := 8, ground := Ground.data }, { on := 6, ground := Ground.data }, { on := 4, ground := Ground.chain }, { on := 0, ground := Ground.phase }, { on := 1, ground := Ground.phase }, { on := 2, ground := Ground.phase }, { on := 3, ground := Ground.phase }, { on := 4, ground := Ground.phase }, { on := 5, ground := Ground.phase }, { on := 6, ground := Ground.phase }, { on := 7, ground := Ground.textOnly Departure.lateStores }, { on := 8, ground := Ground.phase }], guard := none }) rfl (fun K hK => ?_) AllReadyH.nil
            obtain ⟨f0, f1⟩ := one_cell hb
            go_simp
            refine hK.out _ _ ?_ (fun hHeld => ?_)
            · first | exact hS _ mW | exact hS _ (mW.setCell (.inr (by show wr.heap.size ≤ pb; omega)) _)
            clear hK K
            try simp only [Act.put, List.setIfInBounds_toArray, List.set_cons_zero, List.set_cons_succ]
            refine wpAnyH_take (i := 10) (oi := { dst := some 9, op := Op.assign (Operand.tmp 36), type := 43, pos := "law.go:235", after := #[{ on := 7, ground := Ground.data }, { on := 9, ground := Ground.chain }, { on := 0, ground := Ground.phase }, { on := 1, ground := Ground.phase }, { on := 2, ground := Ground.phase }, { on := 3, ground := Ground.phase }, { on := 4, ground := Ground.phase }, { on := 5, ground := Ground.phase }, { on := 6, ground := Ground.phase }, { on := 7, ground := Ground.phase }, { on := 8, ground := Ground.phase }, { on := 9, ground := Ground.phase }], guard := none }) (v := ?_) rfl (by kernel_rfl) (by kernel_rfl) (by kernel_rfl) (fun _ _ _ h => h) (Or.inl ⟨by rfl, ?_⟩) (by assumption) ?_
            rotate_left
            · (intro w hSw; (try dsimp only at hSw); go_simp; try (with_reducible rfl))
            try simp only [Act.put, List.setIfInBounds_toArray, List.set_cons_zero, List.set_cons_succ]
            refine wpAnyH_done (by kernel_rfl) ?_ _
            refine NoPanic.normal ?_
            exact ⟨rfl, by kernel_rfl, A.pv, pb, ad1, cap1, by kernel_rfl, by kernel_rfl, HY.out, set_one hb _, HC.out.setRow hb _, hle, mW.setCell (.inr (by show wr.heap.size ≤ pb; omega)) _⟩
          · go_simp
            have hle := mW.size
            obtain ⟨w8, hwa⟩ : ∃ w8, w3.alloc (.cells #[.slice none 0 0] 28) = w8 := ⟨_, rfl⟩
            have hb : w8.heap[w3.heap.size]? = some (.cells #[.slice none 0 0] 28 (0, 0)) := by rw [← hwa]; exact heap_alloc_new w3 _
            have m8 : Moves [] w3 w8 := by rw [← hwa]; exact (Moves.refl _ _).alloc _
            rw [hwa]
            obtain ⟨pb, hpb⟩ : ∃ pb, w3.heap.size = pb := ⟨_, rfl⟩
            rw [hpb] at hb ⊢
            have hle : wr.heap.size ≤ pb := by rw [← hpb]; first | exact hle | exact Nat.le_refl _
            replace mW := mW.then m8
            clear hwa hpb
            refine hK.out _ _ ?_ (fun hHeld => ?_)
            · first | exact hS _ mW | exact hS _ (mW.setCell (.inr (by show wr.heap.size ≤ pb; omega)) _)
            clear hK K
            try simp only [Act.put, List.setIfInBounds_toArray, List.set_cons_zero, List.set_cons_succ]
            refine wpAnyH_ready (rs := [4]) (by kernel_rfl) (by simp) ?_
            refine AllReadyH.cons (o := { dst := some 34, op := Op.call { callee := Callee.value (Operand.func 16), args := #[Operand.tmp 30, Operand.tmp 31, Operand.const (Value.int IntKind.i64 50), Operand.tmp 33], argTypes := #[28, 9, 2, 39] }, type := 44, pos := "law.go:235", after := #[{ on := 0, ground := Ground.data }, { on := 1, ground := Ground.data }, { on := 3, ground := Ground.data }, { on := 3, ground := Ground.chain }], guard := none }) rfl (fun K hK => ?_) AllReadyH.nil
            go_simp
            go_at_call 16
            refine (rput_w wr _ _ R x.name 50 A.kind adA lenA capA A.n A.pv HRr.out (HA.out.moves MWr.out) mW).mono ?_
            rintro _ w4 ⟨ad1, n1, cap1, rfl, hc1, m4⟩
            obtain ⟨hE, hl, _, hkk⟩ := columns_plain HPr.out HX.out A.pv HY.out
            rw [hE]
            obtain rfl : n1 = nr := by rw [hc1.len, hl, hnr.out]
            clear hE hl hkk
            have HC : Hid (RowAt w4 (.agg #[.slice ad1 n1 cap1]) (pPut R x.name 50 A.pv)) := ⟨_, rfl, hc1⟩
            clear hc1
            replace mW := mW.then m4
            have hb := m4.at hb (by simp)
            refine hK.out _ _ ?_ (fun hHeld => ?_)
            · first | exact hS _ mW | exact hS _ (mW.setCell (.inr (by show wr.heap.size ≤ pb; omega)) _)
            clear hK K
            try simp only [Act.put, List.setIfInBounds_toArray, List.set_cons_zero, List.set_cons_succ]
            refine wpAnyH_take (i := 5) (oi := { dst := some 29, op := Op.move (Operand.tmp 34), type := 44, pos := "law.go:235", after := #[{ on := 4, ground := Ground.data }], guard := none }) (v := ?_) rfl (by kernel_rfl) (by kernel_rfl) (by kernel_rfl) (fun _ _ _ h => h) (Or.inl ⟨by rfl, ?_⟩) (by assumption) ?_
            rotate_left
            · (intro w hSw; (try dsimp only at hSw); go_simp; try (with_reducible rfl))
            try simp only [Act.put, List.setIfInBounds_toArray, List.set_cons_zero, List.set_cons_succ]
            refine wpAnyH_take (i := 6) (oi := { dst := some 35, op := Op.extract (Operand.tmp 29) 0, type := 28, pos := "law.go:235", after := #[{ on := 5, ground := Ground.data }], guard := none }) (v := ?_) rfl (by kernel_rfl) (by kernel_rfl) (by kernel_rfl) (fun _ _ _ h => h) (Or.inl ⟨by rfl, ?_⟩) (by assumption) ?_
            rotate_left
            · (intro w hSw; (try dsimp only at hSw); go_simp; try (with_reducible rfl))
            try simp only [Act.put, List.setIfInBounds_toArray, List.set_cons_zero, List.set_cons_succ]
            refine wpAnyH_take (i := 7) (oi := { dst := some 36, op := Op.extract (Operand.tmp 29) 1, type := 43, pos := "law.go:235", after := #[{ on := 5, ground := Ground.data }, { on := 9, ground := Ground.gcOnly Departure.lateStores }], guard := none }) (v := ?_) rfl (by kernel_rfl) (by kernel_rfl) (by kernel_rfl) (fun _ _ _ h => h) (Or.inl ⟨by rfl, ?_⟩) (by assumption) ?_
            rotate_left
            · (intro w hSw; (try dsimp only at hSw); go_simp; try (with_reducible rfl))
            try simp only [Act.put, List.setIfInBounds_toArray, List.set_cons_zero, List.set_cons_succ]
            refine wpAnyH_ready (rs := [9]) (by kernel_rfl) (by simp) ?_
            refine AllReadyH.cons (o := { dst := none, op := Op.store 28 (Operand.tmp 8) (Operand.tmp 35), type := 0, pos := "law.go:235", after := #[{ on := 8, ground := Ground.data }, { on := 6, ground := Ground.data }, { on := 4, ground := Ground.chain }, { on := 0, ground := Ground.phase }, { on := 1, ground := Ground.phase }, { on := 2, ground := Ground.phase }, { on := 3, ground := Ground.phase }, { on := 4, ground := Ground.phase }, { on := 5, ground := Ground.phase }, { on := 6, ground := Ground.phase }, { on := 7, ground := Ground.textOnly Departure.lateStores }, { on := 8, ground := Ground.phase }], guard := none }) rfl (fun K hK => ?_) AllReadyH.nil
            obtain ⟨f0, f1⟩ := one_cell hb
            go_simp
            refine hK.out _ _ ?_ (fun hHeld => ?_)
            · first | exact hS _ mW | exact hS _ (mW.setCell (.inr (by show wr.heap.size ≤ pb; omega)) _)
            clear hK K
            try simp only [Act.put, List.setIfInBounds_toArray, List.set_cons_zero, List.set_cons_succ]
            refine wpAnyH_take (i := 10) (oi := { dst := some 9, op := Op.assign (Operand.tmp 36), type := 43, pos := "law.go:235", after := #[{ on := 7, ground := Ground.data }, { on := 9, ground := Ground.chain }, { on := 0, ground := Ground.phase }, { on := 1, ground := Ground.phase }, { on := 2, ground := Ground.phase }, { on := 3, ground := Ground.phase }, { on := 4, ground := Ground.phase }, { on := 5, ground := Ground.phase }, { on := 6, ground := Ground.phase }, { on := 7, ground := Ground.phase }, { on := 8, ground := Ground.phase }, { on := 9, ground := Ground.phase }], guard := none }) (v := ?_) rfl (by kernel_rfl) (by kernel_rfl) (by kernel_rfl) (fun _ _ _ h => h) (Or.inl ⟨by rfl, ?_⟩) (by assumption) ?_
            rotate_left
            · (intro w hSw; (try dsimp only at hSw); go_simp; try (with_reducible rfl))
            try simp only [Act.put, List.setIfInBounds_toArray, List.set_cons_zero, List.set_cons_succ]
            refine wpAnyH_done (by kernel_rfl) ?_ _
            refine NoPanic.normal ?_
            exact ⟨rfl, by kernel_rfl, A.pv, pb, ad1, cap1, by kernel_rfl, by kernel_rfl, HY.out, set_one hb _, HC.out.setRow hb _, hle, mW.setCell (.inr (by show wr.heap.size ≤ pb; omega)) _⟩
        · go_simp
          have hle := mW.size
          obtain ⟨w8, hwa⟩ : ∃ w8, (wr.alloc (.cells #[.slice none 0 0] 28)).drew = w8 := ⟨_, rfl⟩
          have hb : w8.heap[wr.heap.size]? = some (.cells #[.slice none 0 0] 28 (0, 0)) := by rw [← hwa]; exact heap_alloc_new wr _
          have m8 : Moves [] wr w8 := by rw [← hwa]; exact ((Moves.refl _ _).alloc _).drew
          rw [hwa]
          obtain ⟨pb, hpb⟩ : ∃ pb, wr.heap.size = pb := ⟨_, rfl⟩
          rw [hpb] at hb ⊢
          have hle : wr.heap.size ≤ pb := by rw [← hpb]; first | exact hle | exact Nat.le_refl _
          replace mW := m8
          clear hwa hpb
          refine hK.out _ _ ?_ (fun hHeld => ?_)
          · first | exact hS _ mW | exact hS _ (mW.setCell (.inr (by show wr.heap.size ≤ pb; omega)) _)
          clear hK K
          try simp only [Act.put, List.setIfInBounds_toArray, List.set_cons_zero, List.set_cons_succ]
          refine wpAnyH_ready (rs := [3]) (by kernel_rfl) (by simp) ?_
          refine AllReadyH.cons (o := { dst := some 33, op := Op.call { callee := Callee.value (Operand.func 15), args := #[Operand.tmp 32], argTypes := #[42] }, type := 39, pos := "law.go:235", after := #[{ on := 2, ground := Ground.data }], guard := none }) rfl (fun K hK => ?_) AllReadyH.nil
          go_simp
          go_at_call 15
          refine (keep_b' w _ _ HK.out).mono ?_
          rintro _ w3 ⟨A, adA, lenA, capA, rfl, hA, yA, m3⟩
          have HA : Hid (VA w [.int .i64 A.kind, .slice adA lenA capA, .float .f64 A.n] A.pv) := hA.va (by have := yA.len16; omega)
          have HY : Hid (pvr A.pv = true) := yA.right
          clear hA yA
          replace mW := mW.then m3
          have hb := m3.at hb (by simp)
          refine hK.out _ _ ?_ (fun hHeld => ?_)
          · first | exact hS _ mW | exact hS _ (mW.setCell (.inr (by show wr.heap.size ≤ pb; omega)) _)
          clear hK K
          try simp only [Act.put, List.setIfInBounds_toArray, List.set_cons_zero, List.set_cons_succ]
          refine wpAnyH_ready (rs := [4]) (by kernel_rfl) (by simp) ?_
          refine AllReadyH.cons (o := { dst := some 34, op := Op.call { callee := Callee.value (Operand.func 16), args := #[Operand.tmp 30, Operand.tmp 31, Operand.const (Value.int IntKind.i64 50), Operand.tmp 33], argTypes := #[28, 9, 2, 39] }, type := 44, pos := "law.go:235", after := #[{ on := 0, ground := Ground.data }, { on := 1, ground := Ground.data }, { on := 3, ground := Ground.data }, { on := 3, ground := Ground.chain }], guard := none }) rfl (fun K hK => ?_) AllReadyH.nil
          go_simp
          go_at_call 16
          refine (rput_w wr _ _ R x.name 50 A.kind adA lenA capA A.n A.pv HRr.out (HA.out.moves MWr.out) mW).mono ?_
          rintro _ w4 ⟨ad1, n1, cap1, rfl, hc1, m4⟩
          obtain ⟨hE, hl, _, hkk⟩ := columns_plain HPr.out HX.out A.pv HY.out
          rw [hE]
          obtain rfl : n1 = nr := by rw [hc1.len, hl, hnr.out]
          clear hE hl hkk
          have HC : Hid (RowAt w4 (.agg #[.slice ad1 n1 cap1]) (pPut R x.name 50 A.pv)) := ⟨_, rfl, hc1⟩
          clear hc1
          replace mW := mW.then m4
          have hb := m4.at hb (by simp)
          refine hK.out _ _ ?_ (fun hHeld => ?_)
          · first | exact hS _ mW | exact hS _ (mW.setCell (.inr (by show wr.heap.size ≤ pb; omega)) _)
          clear hK K
          try simp only [Act.put, List.setIfInBounds_toArray, List.set_cons_zero, List.set_cons_succ]
          refine wpAnyH_take (i := 5) (oi := { dst := some 29, op := Op.move (Operand.tmp 34), type := 44, pos := "law.go:235", after := #[{ on := 4, ground := Ground.data }], guard := none }) (v := ?_) rfl (by kernel_rfl) (by kernel_rfl) (by kernel_rfl) (fun _ _ _ h => h) (Or.inl ⟨by rfl, ?_⟩) (by assumption) ?_
          rotate_left
          · (intro w hSw; (try dsimp only at hSw); go_simp; try (with_reducible rfl))
          try simp only [Act.put, List.setIfInBounds_toArray, List.set_cons_zero, List.set_cons_succ]
          refine wpAnyH_take (i := 6) (oi := { dst := some 35, op := Op.extract (Operand.tmp 29) 0, type := 28, pos := "law.go:235", after := #[{ on := 5, ground := Ground.data }], guard := none }) (v := ?_) rfl (by kernel_rfl) (by kernel_rfl) (by kernel_rfl) (fun _ _ _ h => h) (Or.inl ⟨by rfl, ?_⟩) (by assumption) ?_
          rotate_left
          · (intro w hSw; (try dsimp only at hSw); go_simp; try (with_reducible rfl))
          try simp only [Act.put, List.setIfInBounds_toArray, List.set_cons_zero, List.set_cons_succ]
          refine wpAnyH_take (i := 7) (oi := { dst := some 36, op := Op.extract (Operand.tmp 29) 1, type := 43, pos := "law.go:235", after := #[{ on := 5, ground := Ground.data }, { on := 9, ground := Ground.gcOnly Departure.lateStores }], guard := none }) (v := ?_) rfl (by kernel_rfl) (by kernel_rfl) (by kernel_rfl) (fun _ _ _ h => h) (Or.inl ⟨by rfl, ?_⟩) (by assumption) ?_
          rotate_left
          · (intro w hSw; (try dsimp only at hSw); go_simp; try (with_reducible rfl))
          try simp only [Act.put, List.setIfInBounds_toArray, List.set_cons_zero, List.set_cons_succ]
          refine wpAnyH_ready (rs := [9]) (by kernel_rfl) (by simp) ?_
          refine AllReadyH.cons (o := { dst := none, op := Op.store 28 (Operand.tmp 8) (Operand.tmp 35), type := 0, pos := "law.go:235", after := #[{ on := 8, ground := Ground.data }, { on := 6, ground := Ground.data }, { on := 4, ground := Ground.chain }, { on := 0, ground := Ground.phase }, { on := 1, ground := Ground.phase }, { on := 2, ground := Ground.phase }, { on := 3, ground := Ground.phase }, { on := 4, ground := Ground.phase }, { on := 5, ground := Ground.phase }, { on := 6, ground := Ground.phase }, { on := 7, ground := Ground.textOnly Departure.lateStores }, { on := 8, ground := Ground.phase }], guard := none }) rfl (fun K hK => ?_) AllReadyH.nil
          obtain ⟨f0, f1⟩ := one_cell hb
          go_simp
          refine hK.out _ _ ?_ (fun hHeld => ?_)
          · first | exact hS _ mW | exact hS _ (mW.setCell (.inr (by show wr.heap.size ≤ pb; omega)) _)
          clear hK K
          try simp only [Act.put, List.setIfInBounds_toArray, List.set_cons_zero, List.set_cons_succ]
          refine wpAnyH_take (i := 10) (oi := { dst := some 9, op := Op.assign (Operand.tmp 36), type := 43, pos := "law.go:235", after := #[{ on := 7, ground := Ground.data }, { on := 9, ground := Ground.chain }, { on := 0, ground := Ground.phase }, { on := 1, ground := Ground.phase }, { on := 2, ground := Ground.phase }, { on := 3, ground := Ground.phase }, { on := 4, ground := Ground.phase }, { on := 5, ground := Ground.phase }, { on := 6, ground := Ground.phase }, { on := 7, ground := Ground.phase }, { on := 8, ground := Ground.phase }, { on := 9, ground := Ground.phase }], guard := none }) (v := ?_) rfl (by kernel_rfl) (by kernel_rfl) (by kernel_rfl) (fun _ _ _ h => h) (Or.inl ⟨by rfl, ?_⟩) (by assumption) ?_
          rotate_left
          · (intro w hSw; (try dsimp only at hSw); go_simp; try (with_reducible rfl))
          try simp only [Act.put, List.setIfInBounds_toArray, List.set_cons_zero, List.set_cons_succ]
          refine wpAnyH_done (by kernel_rfl) ?_ _
          refine NoPanic.normal ?_
          exact ⟨rfl, by kernel_rfl, A.pv, pb, ad1, cap1, by kernel_rfl, by kernel_rfl, HY.out, set_one hb _, HC.out.setRow hb _, hle, mW.setCell (.inr (by show wr.heap.size ≤ pb; omega)) _⟩
      · rintro u wx ⟨p, pb, adx, capx, hu9, hu8, hp, qb, hRx, hle, mx⟩
        simp only [List.foldl_cons, List.foldl_nil, List.setIfInBounds_toArray, List.set_cons_zero, List.set_cons_succ, hu9, hu8]
        clear hu9 hu8
        generalize u 29 = u29
        generalize u 30 = u30
        generalize u 31 = u31
        generalize u 32 = u32
        generalize u 33 = u33
        generalize u 34 = u34
        generalize u 35 = u35
        generalize u 36 = u36
        obtain ⟨_, _, hdl, hkk⟩ := columns_plain HPr.out HX.out p hp
        have HKK : Hid (∀ (k2 : Nat) y, k2 ≠ k → R[k2]? = some y → (pPut R x.name 50 p)[k2]? = some (pcanonC y)) := hkk
        have HDL : Hid ((pDropCol R x.name).length = R.length - 1) := hdl
        obtain ⟨_, erx, hcx⟩ := hRx
        simp only [Value.agg.injEq, Array.mk.injEq, List.cons.injEq, and_true] at erx
        subst erx
        obtain ⟨P, hP⟩ : ∃ P, Hid (pPut R x.name 50 p = P) := ⟨_, rfl⟩
        rw [hP.out] at hcx HKK
        have hPl : P.length = nr := hcx.len.symm
        obtain ⟨_, capx', ecx, hcapx⟩ := hcx.slice
        simp only [Value.slice.injEq] at ecx
        obtain ⟨rfl, hz, rfl⟩ := ecx
        clear hz
        rw [hPl] at hcapx
        obtain ⟨y0, hy0⟩ : ∃ y0, P[k]? = some y0 := ⟨_, List.getElem?_eq_getElem (by omega)⟩
        have hcc := hcx
        obtain ⟨gx, offx, a6, n6, c6, eg, _⟩ := hcc.at hy0
        subst eg
        have HCx : Hid (ColsAt wx (.slice (some ⟨gx, offx, none⟩) nr capx) P) := hcx
        have tr := mx.cell rr
        obtain ⟨tb0, _⟩ := one_cell qb
        have MX : Hid (Moves [] w3 wx) := mr.then mx
        have HPl : Hid (P.length = nr) := hPl
        clear hkk hdl hcx hcc hy0 hPl hS mW rv0 rv1 rv2 rv3 rr qb d0
        go_wp2_with fail
        go_loopw [10] (fun i wq => ∃ k2 : Nat, k2 ≤ nr ∧ i = .int .i64 k2 ∧ Moves [] wx wq) (fun i _ => nr - (intOf i).toNat)
        case atStart => exact ⟨0, Nat.zero_le _, rfl, Moves.refl _ _⟩
        case round =>
          obtain ⟨k2, hk2, rfl, mq⟩ := hrel
          have rr := mq.cell tr
          have rb := mq.cell tb0
          by_cases hlt2 : k2 < nr
          · have hk4 : (k2 : Int) < nr := by omega
            by_cases hkk : k2 = k
            · subst hkk
              go_wp2_with fail
              refine wp_region_noPanic ?_
              refine wp_region_held_drew (S := (fun _ => True)) (by kernel_rfl) ?_ (fun hHeld => ?_)
              · first | (go_keep; done) | trivial
              refine wpAnyH_take (i := 0) (oi := { dst := some 55, op := Op.move (Operand.tmp 10), type := 3, pos := "law.go:240", after := #[], guard := none }) (v := ?_) rfl (by kernel_rfl) (by kernel_rfl) (by kernel_rfl) (fun _ _ _ h => h) (Or.inl ⟨by rfl, ?_⟩) (by assumption) ?_
              rotate_left
              · (intro w hSw; (try dsimp only at hSw); go_simp; try (with_reducible rfl))
              try simp only [Act.put, List.setIfInBounds_toArray, List.set_cons_zero, List.set_cons_succ]
              refine wpAnyH_take (i := 1) (oi := { dst := some 56, op := Op.move (Operand.tmp 6), type := 3, pos := "law.go:240", after := #[], guard := none }) (v := ?_) rfl (by kernel_rfl) (by kernel_rfl) (by kernel_rfl) (fun _ _ _ h => h) (Or.inl ⟨by rfl, ?_⟩) (by assumption) ?_
              rotate_left
              · (intro w hSw; (try dsimp only at hSw); go_simp; try (with_reducible rfl))
              try simp only [Act.put, List.setIfInBounds_toArray, List.set_cons_zero, List.set_cons_succ]
              refine wpAnyH_take (i := 2) (oi := { dst := some 57, op := Op.binOp BinOp.neq 3 (Operand.tmp 55) (Operand.tmp 56) 3, type := 4, pos := "law.go:240", after := #[{ on := 0, ground := Ground.data }, { on := 1, ground := Ground.data }], guard := none }) (v := ?_) rfl (by kernel_rfl) (by kernel_rfl) (by kernel_rfl) (fun _ _ _ h => h) (Or.inl ⟨by rfl, ?_⟩) (by assumption) ?_
              rotate_left
              · (intro w hSw; (try dsimp only at hSw); go_simp; try (with_reducible rfl))
              try simp only [Act.put, List.setIfInBounds_toArray, List.set_cons_zero, List.set_cons_succ]
              refine wpAnyH_take (i := 3) (oi := { dst := some 58, op := Op.move (Operand.tmp 57), type := 4, pos := "law.go:240", after := #[{ on := 2, ground := Ground.data }], guard := none }) (v := ?_) rfl (by kernel_rfl) (by kernel_rfl) (by kernel_rfl) (fun _ _ _ h => h) (Or.inl ⟨by rfl, ?_⟩) (by assumption) ?_
              rotate_left
              · (intro w hSw; (try dsimp only at hSw); go_simp; try (with_reducible rfl))
              try simp only [Act.put, List.setIfInBounds_toArray, List.set_cons_zero, List.set_cons_succ]
              refine wpAnyH_take (i := 4) (oi := { dst := some 59, op := Op.fieldAddr 28 (Operand.tmp 5) 0, type := 0, pos := "law.go:240", after := #[{ on := 3, ground := Ground.guard }], guard := some (3, true) }) rfl (by kernel_rfl) (by kernel_rfl) (by kernel_rfl) (fun _ _ _ h => h) (Or.inr ⟨by rfl, rfl⟩) (by assumption) ?_
              try simp only [Act.put, List.setIfInBounds_toArray, List.set_cons_zero, List.set_cons_succ]
              refine wpAnyH_take (i := 5) (oi := { dst := some 60, op := Op.load 26 (Operand.tmp 59), type := 26, pos := "law.go:240", after := #[{ on := 4, ground := Ground.data }, { on := 3, ground := Ground.guard }], guard := some (3, true) }) rfl (by kernel_rfl) (by kernel_rfl) (by kernel_rfl) (fun _ _ _ h => h) (Or.inr ⟨by rfl, rfl⟩) (by assumption) ?_
              try simp only [Act.put, List.setIfInBounds_toArray, List.set_cons_zero, List.set_cons_succ]
              refine wpAnyH_take (i := 6) (oi := { dst := some 61, op := Op.move (Operand.tmp 10), type := 3, pos := "law.go:240", after := #[{ on := 3, ground := Ground.guard }], guard := some (3, true) }) rfl (by kernel_rfl) (by kernel_rfl) (by kernel_rfl) (fun _ _ _ h => h) (Or.inr ⟨by rfl, rfl⟩) (by assumption) ?_
              try simp only [Act.put, List.setIfInBounds_toArray, List.set_cons_zero, List.set_cons_succ]
              refine wpAnyH_take (i := 7) (oi := { dst := some 62, op := Op.move (Operand.tmp 10), type := 3, pos := "law.go:240", after := #[{ on := 3, ground := Ground.guard }], guard := some (3, true) }) rfl (by kernel_rfl) (by kernel_rfl) (by kernel_rfl) (fun _ _ _ h => h) (Or.inr ⟨by rfl, rfl⟩) (by assumption) ?_
              try simp only [Act.put, List.setIfInBounds_toArray, List.set_cons_zero, List.set_cons_succ]
              refine wpAnyH_take (i := 8) (oi := { dst := some 63, op := Op.binOp BinOp.add 3 (Operand.tmp 62) (Operand.const (Value.int IntKind.i64 1)) 3, type := 3, pos := "law.go:240", after := #[{ on := 7, ground := Ground.data }, { on := 3, ground := Ground.guard }], guard := some (3, true) }) rfl (by kernel_rfl) (by kernel_rfl) (by kernel_rfl) (fun _ _ _ h => h) (Or.inr ⟨by rfl, rfl⟩) (by assumption) ?_
              try simp only [Act.put, List.setIfInBounds_toArray, List.set_cons_zero, List.set_cons_succ]
              refine wpAnyH_take (i := 9) (oi := { dst := some 64, op := Op.slice 26 (Operand.tmp 60) (some (Operand.tmp 61)) (some (Operand.tmp 63)) none, type := 26, pos := "law.go:240", after := #[{ on := 5, ground := Ground.data }, { on := 6, ground := Ground.data }, { on := 8, ground := Ground.data }, { on := 3, ground := Ground.guard }], guard := some (3, true) }) rfl (by kernel_rfl) (by kernel_rfl) (by kernel_rfl) (fun _ _ _ h => h) (Or.inr ⟨by rfl, rfl⟩) (by assumption) ?_
              try simp only [Act.put, List.setIfInBounds_toArray, List.set_cons_zero, List.set_cons_succ]
              refine wpAnyH_take (i := 10) (oi := { dst := some 65, op := Op.build 28 #[(0, Operand.tmp 64)], type := 28, pos := "law.go:240", after := #[{ on := 9, ground := Ground.data }, { on := 3, ground := Ground.guard }], guard := some (3, true) }) rfl (by kernel_rfl) (by kernel_rfl) (by kernel_rfl) (fun _ _ _ h => h) (Or.inr ⟨by rfl, rfl⟩) (by assumption) ?_
              try simp only [Act.put, List.setIfInBounds_toArray, List.set_cons_zero, List.set_cons_succ]
              refine wpAnyH_take (i := 11) (oi := { dst := some 66, op := Op.fieldAddr 28 (Operand.tmp 8) 0, type := 0, pos := "law.go:240", after := #[{ on := 3, ground := Ground.guard }], guard := some (3, true) }) rfl (by kernel_rfl) (by kernel_rfl) (by kernel_rfl) (fun _ _ _ h => h) (Or.inr ⟨by rfl, rfl⟩) (by assumption) ?_
              try simp only [Act.put, List.setIfInBounds_toArray, List.set_cons_zero, List.set_cons_succ]
              refine wpAnyH_take (i := 12) (oi := { dst := some 67, op := Op.load 26 (Operand.tmp 66), type := 26, pos := "law.go:240", after := #[{ on := 11, ground := Ground.data }, { on := 3, ground := Ground.guard }], guard := some (3, true) }) rfl (by kernel_rfl) (by kernel_rfl) (by kernel_rfl) (fun _ _ _ h => h) (Or.inr ⟨by rfl, rfl⟩) (by assumption) ?_
              try simp only [Act.put, List.setIfInBounds_toArray, List.set_cons_zero, List.set_cons_succ]
              refine wpAnyH_take (i := 13) (oi := { dst := some 68, op := Op.move (Operand.tmp 10), type := 3, pos := "law.go:240", after := #[{ on := 3, ground := Ground.guard }], guard := some (3, true) }) rfl (by kernel_rfl) (by kernel_rfl) (by kernel_rfl) (fun _ _ _ h => h) (Or.inr ⟨by rfl, rfl⟩) (by assumption) ?_
              try simp only [Act.put, List.setIfInBounds_toArray, List.set_cons_zero, List.set_cons_succ]
              refine wpAnyH_take (i := 14) (oi := { dst := some 69, op := Op.move (Operand.tmp 10), type := 3, pos := "law.go:240", after := #[{ on := 3, ground := Ground.guard }], guard := some (3, true) }) rfl (by kernel_rfl) (by kernel_rfl) (by kernel_rfl) (fun _ _ _ h => h) (Or.inr ⟨by rfl, rfl⟩) (by assumption) ?_
              try simp only [Act.put, List.setIfInBounds_toArray, List.set_cons_zero, List.set_cons_succ]
              refine wpAnyH_take (i := 15) (oi := { dst := some 70, op := Op.binOp BinOp.add 3 (Operand.tmp 69) (Operand.const (Value.int IntKind.i64 1)) 3, type := 3, pos := "law.go:240", after := #[{ on := 14, ground := Ground.data }, { on := 3, ground := Ground.guard }], guard := some (3, true) }) rfl (by kernel_rfl) (by kernel_rfl) (by kernel_rfl) (fun _ _ _ h => h) (Or.inr ⟨by rfl, rfl⟩) (by assumption) ?_
              try simp only [Act.put, List.setIfInBounds_toArray, List.set_cons_zero, List.set_cons_succ]
              refine wpAnyH_take (i := 16) (oi := { dst := some 71, op := Op.slice 26 (Operand.tmp 67) (some (Operand.tmp 68)) (some (Operand.tmp 70)) none, type := 26, pos := "law.go:240", after := #[{ on := 12, ground := Ground.data }, { on := 13, ground := Ground.data }, { on := 15, ground := Ground.data }, { on := 3, ground := Ground.guard }], guard := some (3, true) }) rfl (by kernel_rfl) (by kernel_rfl) (by kernel_rfl) (fun _ _ _ h => h) (Or.inr ⟨by rfl, rfl⟩) (by assumption) ?_
              try simp only [Act.put, List.setIfInBounds_toArray, List.set_cons_zero, List.set_cons_succ]
              refine wpAnyH_take (i := 17) (oi := { dst := some 72, op := Op.build 28 #[(0, Operand.tmp 71)], type := 28, pos := "law.go:240", after := #[{ on := 16, ground := Ground.data }, { on := 3, ground := Ground.guard }], guard := some (3, true) }) rfl (by kernel_rfl) (by kernel_rfl) (by kernel_rfl) (fun _ _ _ h => h) (Or.inr ⟨by rfl, rfl⟩) (by assumption) ?_
              try simp only [Act.put, List.setIfInBounds_toArray, List.set_cons_zero, List.set_cons_succ]
              refine wpAnyH_take (i := 18) (oi := { dst := some 73, op := Op.call { callee := Callee.value (Operand.func 23), args := #[Operand.tmp 65, Operand.tmp 72], argTypes := #[28, 28] }, type := 4, pos := "law.go:240", after := #[{ on := 10, ground := Ground.data }, { on := 17, ground := Ground.data }, { on := 3, ground := Ground.chain }, { on := 3, ground := Ground.guard }], guard := some (3, true) }) rfl (by kernel_rfl) (by kernel_rfl) (by kernel_rfl) (fun _ _ _ h => h) (Or.inr ⟨by rfl, rfl⟩) (by assumption) ?_
              try simp only [Act.put, List.setIfInBounds_toArray, List.set_cons_zero, List.set_cons_succ]
              refine wpAnyH_take (i := 19) (oi := { dst := some 74, op := Op.unOp UnOp.not 4 (Operand.tmp 73), type := 4, pos := "law.go:240", after := #[{ on := 18, ground := Ground.data }, { on := 3, ground := Ground.guard }], guard := some (3, true) }) rfl (by kernel_rfl) (by kernel_rfl) (by kernel_rfl) (fun _ _ _ h => h) (Or.inr ⟨by rfl, rfl⟩) (by assumption) ?_
              try simp only [Act.put, List.setIfInBounds_toArray, List.set_cons_zero, List.set_cons_succ]
              refine wpAnyH_take (i := 20) (oi := { dst := some 75, op := Op.pick (Operand.tmp 58) (Operand.tmp 74) (Operand.const (Value.bool false)), type := 4, pos := "law.go:240", after := #[{ on := 3, ground := Ground.data }, { on := 19, ground := Ground.data }], guard := none }) (v := ?_) rfl (by kernel_rfl) (by kernel_rfl) (by kernel_rfl) (fun _ _ _ h => h) (Or.inl ⟨by rfl, ?_⟩) (by assumption) ?_
              rotate_left
              · (intro w hSw; (try dsimp only at hSw); go_simp; try (with_reducible rfl))
              try simp only [Act.put, List.setIfInBounds_toArray, List.set_cons_zero, List.set_cons_succ]
              refine wpAnyH_done (by kernel_rfl) ?_ _
              refine NoPanic.normal ?_
              go_wp2_with fail
              go_roundw
              case rel => exact ⟨k2 + 1, by omega, by go_num, mq.drew⟩
              case measure => simp [intOf]; omega
            · have hkk3 : ¬ (k2 : Int) = k := by omega
              obtain ⟨y, hy⟩ : ∃ y, R[k2]? = some y := ⟨_, List.getElem?_eq_getElem (by rw [← hnr.out]; exact hlt2)⟩
              have hyx := HKK.out k2 y hkk hy
              have Mq := MX.out.then mq
              have H1 : Hid (RowAt wr.drew (.agg #[.slice (some ⟨g, off + k2 * 2, none⟩) 1 (capr - k2)]) [y]) := ⟨_, rfl, (HCols.out.moves Mq.drew).one hy hcapr⟩
              have H2 : Hid (RowAt wr.drew (.agg #[.slice (some ⟨gx, offx + k2 * 2, none⟩) 1 (capx - k2)]) [pcanonC y]) := ⟨_, rfl, (HCx.out.moves mq.drew).one hyx hcapx⟩
              have HYl : Hid (y.l.length ≤ 1048576) := by
                have := (prightV_two (pright_at HPr.out (List.mem_of_getElem? hy)).2).2
                unfold Hid
                omega
              have e1 : ¬ capr = k2 := by omega
              have e2 : ¬ capx = k2 := by omega
              have e3 : (k2 : Int) + 1 ≤ capr := by omega
              have e4 : (k2 : Int) + 1 ≤ capx := by omega
              have e5 : IntKind.i64.wrap ((k2 : Int) + 1) = (k2 : Int) + 1 := by rw [IntWalk.i64_in _ (by omega)]
              have e6 : (k2 : Int) ≤ (k2 : Int) + 1 := by omega
              clear hy hyx Mq
              go_wp2_with fail
              have hkb : ((k2 : Int) != (k : Int)) = true := bne_iff_ne.2 (by omega)
              have hkc : ¬ (k2 : Int) = (k : Int) := by omega
              refine wp_region_noPanic ?_
              refine wp_region_held_drew (S := (fun w' => w'.cell? ⟨pr, 0, none⟩ = some (.slice (some ⟨g, off, none⟩) nr capr) ∧ w'.cell? ⟨pb, 0, none⟩ = some (.slice (some ⟨gx, offx, none⟩) nr capx))) (by kernel_rfl) ?_ (fun hHeld => ?_)
              · first | (go_keep; done) | first | exact ⟨m5.cell rr, m5.cell rb⟩ | exact ⟨rr, rb⟩
              refine wpAnyH_take (i := 0) (oi := { dst := some 55, op := Op.move (Operand.tmp 10), type := 3, pos := "law.go:240", after := #[], guard := none }) (v := ?_) rfl (by kernel_rfl) (by kernel_rfl) (by kernel_rfl) (fun _ _ _ h => h) (Or.inl ⟨by rfl, ?_⟩) (by assumption) ?_
              rotate_left
              · (intro w hSw; (try dsimp only at hSw); go_simp; try (with_reducible rfl))
              try simp only [Act.put, List.setIfInBounds_toArray, List.set_cons_zero, List.set_cons_succ]
              refine wpAnyH_take (i := 1) (oi := { dst := some 56, op := Op.move (Operand.tmp 6), type := 3, pos := "law.go:240", after := #[], guard := none }) (v := ?_) rfl (by kernel_rfl) (by kernel_rfl) (by kernel_rfl) (fun _ _ _ h => h) (Or.inl ⟨by rfl, ?_⟩) (by assumption) ?_
              rotate_left
              · (intro w hSw; (try dsimp only at hSw); go_simp; try (with_reducible rfl))
              try simp only [Act.put, List.setIfInBounds_toArray, List.set_cons_zero, List.set_cons_succ]
              refine wpAnyH_take (i := 2) (oi := { dst := some 57, op := Op.binOp BinOp.neq 3 (Operand.tmp 55) (Operand.tmp 56) 3, type := 4, pos := "law.go:240", after := #[{ on := 0, ground := Ground.data }, { on := 1, ground := Ground.data }], guard := none }) (v := ?_) rfl (by kernel_rfl) (by kernel_rfl) (by kernel_rfl) (fun _ _ _ h => h) (Or.inl ⟨by rfl, ?_⟩) (by assumption) ?_
              rotate_left
              · (intro w hSw; (try dsimp only at hSw); go_simp; try (with_reducible rfl))
              try simp only [Act.put, List.setIfInBounds_toArray, List.set_cons_zero, List.set_cons_succ]
              refine wpAnyH_take (i := 3) (oi := { dst := some 58, op := Op.move (Operand.tmp 57), type := 4, pos := "law.go:240", after := #[{ on := 2, ground := Ground.data }], guard := none }) (v := ?_) rfl (by kernel_rfl) (by kernel_rfl) (by kernel_rfl) (fun _ _ _ h => h) (Or.inl ⟨by rfl, ?_⟩) (by assumption) ?_
              rotate_left
              · (intro w hSw; (try dsimp only at hSw); go_simp; try (with_reducible rfl))
              try simp only [Act.put, List.setIfInBounds_toArray, List.set_cons_zero, List.set_cons_succ]
              refine wpAnyH_take (i := 4) (oi := { dst := some 59, op := Op.fieldAddr 28 (Operand.tmp 5) 0, type := 0, pos := "law.go:240", after := #[{ on := 3, ground := Ground.guard }], guard := some (3, true) }) (v := ?_) rfl (by kernel_rfl) (by kernel_rfl) (by kernel_rfl) (fun _ _ _ h => h) (Or.inl ⟨by rfl, ?_⟩) (by assumption) ?_
              rotate_left
              · (intro w hSw; (try dsimp only at hSw); go_simp; try (with_reducible rfl))
              try simp only [Act.put, List.setIfInBounds_toArray, List.set_cons_zero, List.set_cons_succ]
              refine wpAnyH_take (i := 5) (oi := { dst := some 60, op := Op.load 26 (Operand.tmp 59), type := 26, pos := "law.go:240", after := #[{ on := 4, ground := Ground.data }, { on := 3, ground := Ground.guard }], guard := some (3, true) }) (v := ?_) rfl (by kernel_rfl) (by kernel_rfl) (by kernel_rfl) (fun _ _ _ h => h) (Or.inl ⟨by rfl, ?_⟩) (by assumption) ?_
              rotate_left
              · (intro w hSw; (try dsimp only at hSw); go_simp; try (with_reducible rfl))
              try simp only [Act.put, List.setIfInBounds_toArray, List.set_cons_zero, List.set_cons_succ]
              refine wpAnyH_take (i := 6) (oi := { dst := some 61, op := Op.move (Operand.tmp 10), type := 3, pos := "law.go:240", after := #[{ on := 3, ground := Ground.guard }], guard := some (3, true) }) (v := ?_) rfl (by kernel_rfl) (by kernel_rfl) (by kernel_rfl) (fun _ _ _ h => h) (Or.inl ⟨by rfl, ?_⟩) (by assumption) ?_
              rotate_left
              · (intro w hSw; (try dsimp only at hSw); go_simp; try (with_reducible rfl))
              try simp only [Act.put, List.setIfInBounds_toArray, List.set_cons_zero, List.set_cons_succ]
              refine wpAnyH_take (i := 7) (oi := { dst := some 62, op := Op.move (Operand.tmp 10), type := 3, pos := "law.go:240", after := #[{ on := 3, ground := Ground.guard }], guard := some (3, true) }) (v := ?_) rfl (by kernel_rfl) (by kernel_rfl) (by kernel_rfl) (fun _ _ _ h => h) (Or.inl ⟨by rfl, ?_⟩) (by assumption) ?_
              rotate_left
              · (intro w hSw; (try dsimp only at hSw); go_simp; try (with_reducible rfl))
              try simp only [Act.put, List.setIfInBounds_toArray, List.set_cons_zero, List.set_cons_succ]
              refine wpAnyH_take (i := 8) (oi := { dst := some 63, op := Op.binOp BinOp.add 3 (Operand.tmp 62) (Operand.const (Value.int IntKind.i64 1)) 3, type := 3, pos := "law.go:240", after := #[{ on := 7, ground := Ground.data }, { on := 3, ground := Ground.guard }], guard := some (3, true) }) (v := ?_) rfl (by kernel_rfl) (by kernel_rfl) (by kernel_rfl) (fun _ _ _ h => h) (Or.inl ⟨by rfl, ?_⟩) (by assumption) ?_
              rotate_left
              · (intro w hSw; (try dsimp only at hSw); go_simp; try (with_reducible rfl))
              try simp only [Act.put, List.setIfInBounds_toArray, List.set_cons_zero, List.set_cons_succ]
              refine wpAnyH_take (i := 9) (oi := { dst := some 64, op := Op.slice 26 (Operand.tmp 60) (some (Operand.tmp 61)) (some (Operand.tmp 63)) none, type := 26, pos := "law.go:240", after := #[{ on := 5, ground := Ground.data }, { on := 6, ground := Ground.data }, { on := 8, ground := Ground.data }, { on := 3, ground := Ground.guard }], guard := some (3, true) }) (v := ?_) rfl (by kernel_rfl) (by kernel_rfl) (by kernel_rfl) (fun _ _ _ h => h) (Or.inl ⟨by rfl, ?_⟩) (by assumption) ?_
              rotate_left
              · (intro w hSw; (try dsimp only at hSw); go_simp; try (with_reducible rfl))
              try simp only [Act.put, List.setIfInBounds_toArray, List.set_cons_zero, List.set_cons_succ]
              refine wpAnyH_take (i := 10) (oi := { dst := some 65, op := Op.build 28 #[(0, Operand.tmp 64)], type := 28, pos := "law.go:240", after := #[{ on := 9, ground := Ground.data }, { on := 3, ground := Ground.guard }], guard := some (3, true) }) (v := ?_) rfl (by kernel_rfl) (by kernel_rfl) (by kernel_rfl) (fun _ _ _ h => h) (Or.inl ⟨by rfl, ?_⟩) (by assumption) ?_
              rotate_left
              · (intro w hSw; (try dsimp only at hSw); go_simp; try (with_reducible rfl))
              try simp only [Act.put, List.setIfInBounds_toArray, List.set_cons_zero, List.set_cons_succ]
              refine wpAnyH_take (i := 11) (oi := { dst := some 66, op := Op.fieldAddr 28 (Operand.tmp 8) 0, type := 0, pos := "law.go:240", after := #[{ on := 3, ground := Ground.guard }], guard := some (3, true) }) (v := ?_) rfl (by kernel_rfl) (by kernel_rfl) (by kernel_rfl) (fun _ _ _ h => h) (Or.inl ⟨by rfl, ?_⟩) (by assumption) ?_
              rotate_left
              · (intro w hSw; (try dsimp only at hSw); go_simp; try (with_reducible rfl))
              try simp only [Act.put, List.setIfInBounds_toArray, List.set_cons_zero, List.set_cons_succ]
              refine wpAnyH_take (i := 12) (oi := { dst := some 67, op := Op.load 26 (Operand.tmp 66), type := 26, pos := "law.go:240", after := #[{ on := 11, ground := Ground.data }, { on := 3, ground := Ground.guard }], guard := some (3, true) }) (v := ?_) rfl (by kernel_rfl) (by kernel_rfl) (by kernel_rfl) (fun _ _ _ h => h) (Or.inl ⟨by rfl, ?_⟩) (by assumption) ?_
              rotate_left
              · (intro w hSw; (try dsimp only at hSw); go_simp; try (with_reducible rfl))
              try simp only [Act.put, List.setIfInBounds_toArray, List.set_cons_zero, List.set_cons_succ]
              refine wpAnyH_take (i := 13) (oi := { dst := some 68, op := Op.move (Operand.tmp 10), type := 3, pos := "law.go:240", after := #[{ on := 3, ground := Ground.guard }], guard := some (3, true) }) (v := ?_) rfl (by kernel_rfl) (by kernel_rfl) (by kernel_rfl) (fun _ _ _ h => h) (Or.inl ⟨by rfl, ?_⟩) (by assumption) ?_
              rotate_left
              · (intro w hSw; (try dsimp only at hSw); go_simp; try (with_reducible rfl))
              try simp only [Act.put, List.setIfInBounds_toArray, List.set_cons_zero, List.set_cons_succ]
              refine wpAnyH_take (i := 14) (oi := { dst := some 69, op := Op.move (Operand.tmp 10), type := 3, pos := "law.go:240", after := #[{ on := 3, ground := Ground.guard }], guard := some (3, true) }) (v := ?_) rfl (by kernel_rfl) (by kernel_rfl) (by kernel_rfl) (fun _ _ _ h => h) (Or.inl ⟨by rfl, ?_⟩) (by assumption) ?_
              rotate_left
              · (intro w hSw; (try dsimp only at hSw); go_simp; try (with_reducible rfl))
              try simp only [Act.put, List.setIfInBounds_toArray, List.set_cons_zero, List.set_cons_succ]
              refine wpAnyH_take (i := 15) (oi := { dst := some 70, op := Op.binOp BinOp.add 3 (Operand.tmp 69) (Operand.const (Value.int IntKind.i64 1)) 3, type := 3, pos := "law.go:240", after := #[{ on := 14, ground := Ground.data }, { on := 3, ground := Ground.guard }], guard := some (3, true) }) (v := ?_) rfl (by kernel_rfl) (by kernel_rfl) (by kernel_rfl) (fun _ _ _ h => h) (Or.inl ⟨by rfl, ?_⟩) (by assumption) ?_
              rotate_left
              · (intro w hSw; (try dsimp only at hSw); go_simp; try (with_reducible rfl))
              try simp only [Act.put, List.setIfInBounds_toArray, List.set_cons_zero, List.set_cons_succ]
              refine wpAnyH_take (i := 16) (oi := { dst := some 71, op := Op.slice 26 (Operand.tmp 67) (some (Operand.tmp 68)) (some (Operand.tmp 70)) none, type := 26, pos := "law.go:240", after := #[{ on := 12, ground := Ground.data }, { on := 13, ground := Ground.data }, { on := 15, ground := Ground.data }, { on := 3, ground := Ground.guard }], guard := some (3, true) }) (v := ?_) rfl (by kernel_rfl) (by kernel_rfl) (by kernel_rfl) (fun _ _ _ h => h) (Or.inl ⟨by rfl, ?_⟩) (by assumption) ?_
              rotate_left
              · (intro w hSw; (try dsimp only at hSw); go_simp; try (with_reducible rfl))
              try simp only [Act.put, List.setIfInBounds_toArray, List.set_cons_zero, List.set_cons_succ]
              refine wpAnyH_take (i := 17) (oi := { dst := some 72, op := Op.build 28 #[(0, Operand.tmp 71)], type := 28, pos := "law.go:240", after := #[{ on := 16, ground := Ground.data }, { on := 3, ground := Ground.guard }], guard := some (3, true) }) (v := ?_) rfl (by kernel_rfl) (by kernel_rfl) (by kernel_rfl) (fun _ _ _ h => h) (Or.inl ⟨by rfl, ?_⟩) (by assumption) ?_
              rotate_left
              · (intro w hSw; (try dsimp only at hSw); go_simp; try (with_reducible rfl))
              try simp only [Act.put, List.setIfInBounds_toArray, List.set_cons_zero, List.set_cons_succ]
              refine wpAnyH_ready (rs := [18]) (by kernel_rfl) (by simp) ?_
              refine AllReadyH.cons (o := { dst := some 73, op := Op.call { callee := Callee.value (Operand.func 23), args := #[Operand.tmp 65, Operand.tmp 72], argTypes := #[28, 28] }, type := 4, pos := "law.go:240", after := #[{ on := 10, ground := Ground.data }, { on := 17, ground := Ground.data }, { on := 3, ground := Ground.chain }, { on := 3, ground := Ground.guard }], guard := some (3, true) }) rfl (fun K hK => ?_) AllReadyH.nil
              go_simp
              (go_at_call 23; refine (rfSame_yes wr.drew _ _ _ [y] [pcanonC y] H1.out H2.out (Moves.refl _ _) (SameR.canon' [y]) (by simp) (by simpa using HYl.out)).mono ?_; rintro _ w5 ⟨rfl, m5⟩)
              refine hK.out _ _ ?_ (fun hHeld => ?_)
              · first | exact ⟨m5.cell rr, m5.cell rb⟩ | exact ⟨rr, rb⟩
              clear hK K
              try simp only [Act.put, List.setIfInBounds_toArray, List.set_cons_zero, List.set_cons_succ]
              refine wpAnyH_take (i := 19) (oi := { dst := some 74, op := Op.unOp UnOp.not 4 (Operand.tmp 73), type := 4, pos := "law.go:240", after := #[{ on := 18, ground := Ground.data }, { on := 3, ground := Ground.guard }], guard := some (3, true) }) (v := ?_) rfl (by kernel_rfl) (by kernel_rfl) (by kernel_rfl) (fun _ _ _ h => h) (Or.inl ⟨by rfl, ?_⟩) (by assumption) ?_
              rotate_left
              · (intro w hSw; (try dsimp only at hSw); go_simp; try (with_reducible rfl))
              try simp only [Act.put, List.setIfInBounds_toArray, List.set_cons_zero, List.set_cons_succ]
              refine wpAnyH_take (i := 20) (oi := { dst := some 75, op := Op.pick (Operand.tmp 58) (Operand.tmp 74) (Operand.const (Value.bool false)), type := 4, pos := "law.go:240", after := #[{ on := 3, ground := Ground.data }, { on := 19, ground := Ground.data }], guard := none }) (v := ?_) rfl (by kernel_rfl) (by kernel_rfl) (by kernel_rfl) (fun _ _ _ h => h) (Or.inl ⟨by rfl, ?_⟩) (by assumption) ?_
              rotate_left
              · (intro w hSw; (try dsimp only at hSw); go_simp; try (with_reducible rfl))
              try simp only [Act.put, List.setIfInBounds_toArray, List.set_cons_zero, List.set_cons_succ]
              refine wpAnyH_done (by kernel_rfl) ?_ _
              refine NoPanic.normal ?_
              go_wp2_with fail
              go_roundw
              case rel => exact ⟨k2 + 1, by omega, by go_num, mq.drew.then m5⟩
              case measure => simp [intOf]; omega
          · have hk4 : ¬ (k2 : Int) < nr := by omega
            have hD := fun w1 (m1 : Moves [] w3 w1) => dropCol_w w3 w1 (.agg #[.slice (some ⟨g, off, none⟩) nr capr]) R x.name HR3.out m1
            have Mq := MX.out.then mq
            have hsub : IntKind.i64.wrap ((nr : Int) - 1) = ((nr - 1 : Nat) : Int) := by rw [IntWalk.i64_in _ (by omega)]; omega
            go_wp2_with (go_at_call 20; refine (hD _ Mq).mono ?_; rintro _ w8 ⟨ad8, n8, cap8, rfl, hr8, m8⟩; obtain rfl : n8 = nr - 1 := (by rw [hr8.len, HDL.out, hnr.out]); have ma : Moves [] w8 (w8.alloc (.cells #[.slice ad8 (nr - 1) cap8] 28)) := (Moves.refl _ _).alloc _; obtain ⟨bz0, _⟩ := one_cell (heap_alloc_new w8 (.cells #[.slice ad8 (nr - 1) cap8] 28)); have rr8 := (m8.then ma).cell rr)
            go_roundw
            case rel => exact ⟨k + 1, by omega, by go_num, Mq.then (m8.then ma)⟩
            case measure => simp [intOf]; omega
    · have hk3 : ¬ (k : Int) < nr := by omega
      have HRr : Hid (RowAt wr (.agg #[.slice _ nr capr]) R) := HR3.out.moves mr
      have MWr : Hid (Moves [] w wr) := M3.out.then mr
      have hS : ∀ w', Moves [] wr w' → ((fun w' => w'.cell? ⟨pr, 0, none⟩ = some (.slice adr nr capr) ∧ w'.cell? ⟨w.heap.size, 0, none⟩ = some (.bool tb) ∧ w'.cell? ⟨w.heap.size, 1, none⟩ = some (.int .i64 tn) ∧ w'.cell? ⟨w.heap.size, 2, none⟩ = some (.float .f64 tx) ∧ w'.cell? ⟨w.heap.size, 3, none⟩ = some (.slice a2 l2 c2)) w') := fun w' m' => ⟨m'.cell rr, m'.cell rv0, m'.cell rv1, m'.cell rv2, m'.cell rv3⟩
      have mW : Moves [] wr wr.drew := (Moves.refl _ _).drew
      have hnew := quite_new HPr.out HNm.out
      rw [← hnr.out] at hnew
      obtain ⟨E, hE⟩ : ∃ E : Int, (if nr = 4 then (13 : Int) else 0) = E := ⟨_, rfl⟩
      rw [hE] at hnew
      go_wp2_with fail
      refine wp_some [87, 88, 89, 90, 91, 92, 93, 12, 13] (fun u w' => u 13 = .int .i64 E ∧ Moves [] wr w') ?_ ?_
      · refine wp_region_noPanic ?_
        refine wp_region_held_drew (S := (fun w' => w'.cell? ⟨pr, 0, none⟩ = some (.slice adr nr capr) ∧ w'.cell? ⟨w.heap.size, 0, none⟩ = some (.bool tb) ∧ w'.cell? ⟨w.heap.size, 1, none⟩ = some (.int .i64 tn) ∧ w'.cell? ⟨w.heap.size, 2, none⟩ = some (.float .f64 tx) ∧ w'.cell? ⟨w.heap.size, 3, none⟩ = some (.slice a2 l2 c2))) (by kernel_rfl) ?_ (fun hHeld => ?_)
        · first | (go_keep; done) | first | exact hS _ mW | exact hS _ (mW.setCell (.inr (by show wr.heap.size ≤ pb; omega)) _)
        refine wpAnyH_take (i := 0) (oi := { dst := some 88, op := Op.load 28 (Operand.tmp 5), type := 28, pos := "law.go:249", after := #[], guard := none }) (v := ?_) rfl (by kernel_rfl) (by kernel_rfl) (by kernel_rfl) (fun _ _ _ h => h) (Or.inl ⟨by rfl, ?_⟩) (by assumption) ?_
        rotate_left
        · (intro w hSw; (try dsimp only at hSw); go_simp; try (with_reducible rfl))
        try simp only [Act.put, List.setIfInBounds_toArray, List.set_cons_zero, List.set_cons_succ]
        refine wpAnyH_take (i := 1) (oi := { dst := some 89, op := Op.load 42 (Operand.tmp 3), type := 42, pos := "law.go:249", after := #[], guard := none }) (v := ?_) rfl (by kernel_rfl) (by kernel_rfl) (by kernel_rfl) (fun _ _ _ h => h) (Or.inl ⟨by rfl, ?_⟩) (by assumption) ?_
        rotate_left
        · (intro w hSw; (try dsimp only at hSw); go_simp; try (with_reducible rfl))
        try simp only [Act.put, List.setIfInBounds_toArray, List.set_cons_zero, List.set_cons_succ]
        refine wpAnyH_ready (rs := [2, 7]) (by kernel_rfl) (by simp) ?_
        refine AllReadyH.cons (o := { dst := some 90, op := Op.call { callee := Callee.value (Operand.func 15), args := #[Operand.tmp 89], argTypes := #[42] }, type := 39, pos := "law.go:249", after := #[{ on := 1, ground := Ground.data }], guard := none }) rfl (fun K hK => ?_) (AllReadyH.cons (o := { dst := some 12, op := Op.alloc 28, type := 0, pos := "law.go:249", after := #[], guard := none }) rfl (fun K hK => ?_) AllReadyH.nil)
        · go_simp
          go_at_call 15
          refine (keep_b' w _ _ HK.out).mono ?_
          rintro _ w2 ⟨A, adA, lenA, capA, rfl, hA, yA, m2⟩
          have HA : Hid (VA w [.int .i64 A.kind, .slice adA lenA capA, .float .f64 A.n] A.pv) := hA.va (by have := yA.len16; omega)
          have HY : Hid (pvr A.pv = true) := yA.right
          clear hA yA
          replace mW := mW.then m2
          refine hK.out _ _ ?_ (fun hHeld => ?_)
          · first | exact hS _ mW | exact hS _ (mW.setCell (.inr (by show wr.heap.size ≤ pb; omega)) _)
          clear hK K
          try simp only [Act.put, List.setIfInBounds_toArray, List.set_cons_zero, List.set_cons_succ]
          refine wpAnyH_ready (rs := [3, 7]) (by kernel_rfl) (by simp) ?_
          refine AllReadyH.cons (o := { dst := some 91, op := Op.call { callee := Callee.value (Operand.func 16), args := #[Operand.tmp 88, Operand.const (Value.string { data := #[113, 117, 105, 116, 101, 46, 110, 101, 119] }), Operand.const (Value.int IntKind.i64 1), Operand.tmp 90], argTypes := #[28, 9, 2, 39] }, type := 44, pos := "law.go:249", after := #[{ on := 0, ground := Ground.data }, { on := 2, ground := Ground.data }, { on := 2, ground := Ground.chain }], guard := none }) rfl (fun K hK => ?_) (AllReadyH.cons (o := { dst := some 12, op := Op.alloc 28, type := 0, pos := "law.go:249", after := #[], guard := none }) rfl (fun K hK => ?_) AllReadyH.nil)
          · go_simp
            go_at_call 16
            refine (rput_w wr _ _ R sQ 1 A.kind adA lenA capA A.n A.pv HRr.out (HA.out.moves MWr.out) mW).mono ?_
            rintro _ w3 ⟨ad1, n1, cap1, rfl, hc1, m3⟩
            rw [hnew A.pv HY.out]
            have HC : Hid (RowAt w3 (.agg #[.slice ad1 n1 cap1]) (pPut R sQ 1 A.pv)) := ⟨_, rfl, hc1⟩
            clear hc1
            replace mW := mW.then m3
            refine hK.out _ _ ?_ (fun hHeld => ?_)
            · first | exact hS _ mW | exact hS _ (mW.setCell (.inr (by show wr.heap.size ≤ pb; omega)) _)
            clear hK K
            try simp only [Act.put, List.setIfInBounds_toArray, List.set_cons_zero, List.set_cons_succ]
            refine wpAnyH_take (i := 4) (oi := { dst := some 87, op := Op.move (Operand.tmp 91), type := 44, pos := "law.go:249", after := #[{ on := 3, ground := Ground.data }], guard := none }) (v := ?_) rfl (by kernel_rfl) (by kernel_rfl) (by kernel_rfl) (fun _ _ _ h => h) (Or.inl ⟨by rfl, ?_⟩) (by assumption) ?_
            rotate_left
            · (intro w hSw; (try dsimp only at hSw); go_simp; try (with_reducible rfl))
            try simp only [Act.put, List.setIfInBounds_toArray, List.set_cons_zero, List.set_cons_succ]
            refine wpAnyH_take (i := 5) (oi := { dst := some 92, op := Op.extract (Operand.tmp 87) 0, type := 28, pos := "law.go:249", after := #[{ on := 4, ground := Ground.data }], guard := none }) (v := ?_) rfl (by kernel_rfl) (by kernel_rfl) (by kernel_rfl) (fun _ _ _ h => h) (Or.inl ⟨by rfl, ?_⟩) (by assumption) ?_
            rotate_left
            · (intro w hSw; (try dsimp only at hSw); go_simp; try (with_reducible rfl))
            try simp only [Act.put, List.setIfInBounds_toArray, List.set_cons_zero, List.set_cons_succ]
            refine wpAnyH_take (i := 6) (oi := { dst := some 93, op := Op.extract (Operand.tmp 87) 1, type := 43, pos := "law.go:249", after := #[{ on := 4, ground := Ground.data }, { on := 8, ground := Ground.gcOnly Departure.lateStores }], guard := none }) (v := ?_) rfl (by kernel_rfl) (by kernel_rfl) (by kernel_rfl) (fun _ _ _ h => h) (Or.inl ⟨by rfl, ?_⟩) (by assumption) ?_
            rotate_left
            · (intro w hSw; (try dsimp only at hSw); go_simp; try (with_reducible rfl))
            try simp only [Act.put, List.setIfInBounds_toArray, List.set_cons_zero, List.set_cons_succ]
            refine wpAnyH_ready (rs := [7]) (by kernel_rfl) (by simp) ?_
            refine AllReadyH.cons (o := { dst := some 12, op := Op.alloc 28, type := 0, pos := "law.go:249", after := #[], guard := none }) rfl (fun K hK => ?_) AllReadyH.nil
            go_simp
            have hle := mW.size
            obtain ⟨w7, hwa⟩ : ∃ w7, w3.alloc (.cells #[.slice none 0 0] 28) = w7 := ⟨_, rfl⟩
            have hb : w7.heap[w3.heap.size]? = some (.cells #[.slice none 0 0] 28 (0, 0)) := by rw [← hwa]; exact heap_alloc_new w3 _
            have m7 : Moves [] w3 w7 := by rw [← hwa]; exact (Moves.refl _ _).alloc _
            rw [hwa]
            obtain ⟨pb, hpb⟩ : ∃ pb, w3.heap.size = pb := ⟨_, rfl⟩
            rw [hpb] at hb ⊢
            have hle : wr.heap.size ≤ pb := by rw [← hpb]; first | exact hle | exact Nat.le_refl _
            replace mW := mW.then m7
            replace HC : Hid (RowAt w7 (.agg #[.slice ad1 n1 cap1]) (pPut R sQ 1 A.pv)) := HC.out.moves m7
            clear hwa hpb
            refine hK.out _ _ ?_ (fun hHeld => ?_)
            · first | exact hS _ mW | exact hS _ (mW.setCell (.inr (by show wr.heap.size ≤ pb; omega)) _)
            clear hK K
            try simp only [Act.put, List.setIfInBounds_toArray, List.set_cons_zero, List.set_cons_succ]
            refine wpAnyH_ready (rs := [8]) (by kernel_rfl) (by simp) ?_
            refine AllReadyH.cons (o := { dst := none, op := Op.store 28 (Operand.tmp 12) (Operand.tmp 92), type := 0, pos := "law.go:249", after := #[{ on := 7, ground := Ground.data }, { on := 5, ground := Ground.data }, { on := 3, ground := Ground.chain }, { on := 0, ground := Ground.phase }, { on := 1, ground := Ground.phase }, { on := 2, ground := Ground.phase }, { on := 3, ground := Ground.phase }, { on := 4, ground := Ground.phase }, { on := 5, ground := Ground.phase }, { on := 6, ground := Ground.textOnly Departure.lateStores }, { on := 7, ground := Ground.phase }], guard := none }) rfl (fun K hK => ?_) AllReadyH.nil
            obtain ⟨f0, f1⟩ := one_cell hb
            go_simp
            refine hK.out _ _ ?_ (fun hHeld => ?_)
            · first | exact hS _ mW | exact hS _ (mW.setCell (.inr (by show wr.heap.size ≤ pb; omega)) _)
            clear hK K
            try simp only [Act.put, List.setIfInBounds_toArray, List.set_cons_zero, List.set_cons_succ]
            refine wpAnyH_take (i := 9) (oi := { dst := some 13, op := Op.assign (Operand.tmp 93), type := 43, pos := "law.go:249", after := #[{ on := 6, ground := Ground.data }, { on := 8, ground := Ground.chain }, { on := 0, ground := Ground.phase }, { on := 1, ground := Ground.phase }, { on := 2, ground := Ground.phase }, { on := 3, ground := Ground.phase }, { on := 4, ground := Ground.phase }, { on := 5, ground := Ground.phase }, { on := 6, ground := Ground.phase }, { on := 7, ground := Ground.phase }, { on := 8, ground := Ground.phase }], guard := none }) (v := ?_) rfl (by kernel_rfl) (by kernel_rfl) (by kernel_rfl) (fun _ _ _ h => h) (Or.inl ⟨by rfl, ?_⟩) (by assumption) ?_
            rotate_left
            · (intro w hSw; (try dsimp only at hSw); go_simp; try (with_reducible rfl))
            try simp only [Act.put, List.setIfInBounds_toArray, List.set_cons_zero, List.set_cons_succ]
            refine wpAnyH_done (by kernel_rfl) ?_ _
            refine NoPanic.normal ?_
            exact ⟨rfl, by kernel_rfl, by kernel_rfl, mW.setCell (.inr (by show wr.heap.size ≤ pb; omega)) _⟩
          · go_simp
            have hle := mW.size
            obtain ⟨w7, hwa⟩ : ∃ w7, w2.alloc (.cells #[.slice none 0 0] 28) = w7 := ⟨_, rfl⟩
            have hb : w7.heap[w2.heap.size]? = some (.cells #[.slice none 0 0] 28 (0, 0)) := by rw [← hwa]; exact heap_alloc_new w2 _
            have m7 : Moves [] w2 w7 := by rw [← hwa]; exact (Moves.refl _ _).alloc _
            rw [hwa]
            obtain ⟨pb, hpb⟩ : ∃ pb, w2.heap.size = pb := ⟨_, rfl⟩
            rw [hpb] at hb ⊢
            have hle : wr.heap.size ≤ pb := by rw [← hpb]; first | exact hle | exact Nat.le_refl _
            replace mW := mW.then m7
            clear hwa hpb
            refine hK.out _ _ ?_ (fun hHeld => ?_)
            · first | exact hS _ mW | exact hS _ (mW.setCell (.inr (by show wr.heap.size ≤ pb; omega)) _)
            clear hK K
            try simp only [Act.put, List.setIfInBounds_toArray, List.set_cons_zero, List.set_cons_succ]
            refine wpAnyH_ready (rs := [3]) (by kernel_rfl) (by simp) ?_
            refine AllReadyH.cons (o := { dst := some 91, op := Op.call { callee := Callee.value (Operand.func 16), args := #[Operand.tmp 88, Operand.const (Value.string { data := #[113, 117, 105, 116, 101, 46, 110, 101, 119] }), Operand.const (Value.int IntKind.i64 1), Operand.tmp 90], argTypes := #[28, 9, 2, 39] }, type := 44, pos := "law.go:249", after := #[{ on := 0, ground := Ground.data }, { on := 2, ground := Ground.data }, { on := 2, ground := Ground.chain }], guard := none }) rfl (fun K hK => ?_) AllReadyH.nil
            go_simp
            go_at_call 16
            refine (rput_w wr _ _ R sQ 1 A.kind adA lenA capA A.n A.pv HRr.out (HA.out.moves MWr.out) mW).mono ?_
            rintro _ w3 ⟨ad1, n1, cap1, rfl, hc1, m3⟩
            rw [hnew A.pv HY.out]
            have HC : Hid (RowAt w3 (.agg #[.slice ad1 n1 cap1]) (pPut R sQ 1 A.pv)) := ⟨_, rfl, hc1⟩
            clear hc1
            replace mW := mW.then m3
            have hb := m3.at hb (by simp)
            refine hK.out _ _ ?_ (fun hHeld => ?_)
            · first | exact hS _ mW | exact hS _ (mW.setCell (.inr (by show wr.heap.size ≤ pb; omega)) _)
            clear hK K
            try simp only [Act.put, List.setIfInBounds_toArray, List.set_cons_zero, List.set_cons_succ]
            refine wpAnyH_take (i := 4) (oi := { dst := some 87, op := Op.move (Operand.tmp 91), type := 44, pos := "law.go:249", after := #[{ on := 3, ground := Ground.data }], guard := none }) (v := ?_) rfl (by kernel_rfl) (by kernel_rfl) (by kernel_rfl) (fun _ _ _ h => h) (Or.inl ⟨by rfl, ?_⟩) (by assumption) ?_
            rotate_left
            · (intro w hSw; (try dsimp only at hSw); go_simp; try (with_reducible rfl))
            try simp only [Act.put, List.setIfInBounds_toArray, List.set_cons_zero, List.set_cons_succ]
            refine wpAnyH_take (i := 5) (oi := { dst := some 92, op := Op.extract (Operand.tmp 87) 0, type := 28, pos := "law.go:249", after := #[{ on := 4, ground := Ground.data }], guard := none }) (v := ?_) rfl (by kernel_rfl) (by kernel_rfl) (by kernel_rfl) (fun _ _ _ h => h) (Or.inl ⟨by rfl, ?_⟩) (by assumption) ?_
            rotate_left
            · (intro w hSw; (try dsimp only at hSw); go_simp; try (with_reducible rfl))
            try simp only [Act.put, List.setIfInBounds_toArray, List.set_cons_zero, List.set_cons_succ]
            refine wpAnyH_take (i := 6) (oi := { dst := some 93, op := Op.extract (Operand.tmp 87) 1, type := 43, pos := "law.go:249", after := #[{ on := 4, ground := Ground.data }, { on := 8, ground := Ground.gcOnly Departure.lateStores }], guard := none }) (v := ?_) rfl (by kernel_rfl) (by kernel_rfl) (by kernel_rfl) (fun _ _ _ h => h) (Or.inl ⟨by rfl, ?_⟩) (by assumption) ?_
            rotate_left
            · (intro w hSw; (try dsimp only at hSw); go_simp; try (with_reducible rfl))
            try simp only [Act.put, List.setIfInBounds_toArray, List.set_cons_zero, List.set_cons_succ]
            refine wpAnyH_ready (rs := [8]) (by kernel_rfl) (by simp) ?_
            refine AllReadyH.cons (o := { dst := none, op := Op.store 28 (Operand.tmp 12) (Operand.tmp 92), type := 0, pos := "law.go:249", after := #[{ on := 7, ground := Ground.data }, { on := 5, ground := Ground.data }, { on := 3, ground := Ground.chain }, { on := 0, ground := Ground.phase }, { on := 1, ground := Ground.phase }, { on := 2, ground := Ground.phase }, { on := 3, ground := Ground.phase }, { on := 4, ground := Ground.phase }, { on := 5, ground := Ground.phase }, { on := 6, ground := Ground.textOnly Departure.lateStores }, { on := 7, ground := Ground.phase }], guard := none }) rfl (fun K hK => ?_) AllReadyH.nil
            obtain ⟨f0, f1⟩ := one_cell hb
            go_simp
            refine hK.out _ _ ?_ (fun hHeld => ?_)
            · first | exact hS _ mW | exact hS _ (mW.setCell (.inr (by show wr.heap.size ≤ pb; omega)) _)
            clear hK K
            try simp only [Act.put, List.setIfInBounds_toArray, List.set_cons_zero, List.set_cons_succ]
            refine wpAnyH_take (i := 9) (oi := { dst := some 13, op := Op.assign (Operand.tmp 93), type := 43, pos := "law.go:249", after := #[{ on := 6, ground := Ground.data }, { on := 8, ground := Ground.chain }, { on := 0, ground := Ground.phase }, { on := 1, ground := Ground.phase }, { on := 2, ground := Ground.phase }, { on := 3, ground := Ground.phase }, { on := 4, ground := Ground.phase }, { on := 5, ground := Ground.phase }, { on := 6, ground := Ground.phase }, { on := 7, ground := Ground.phase }, { on := 8, ground := Ground.phase }], guard := none }) (v := ?_) rfl (by kernel_rfl) (by kernel_rfl) (by kernel_rfl) (fun _ _ _ h => h) (Or.inl ⟨by rfl, ?_⟩) (by assumption) ?_
            rotate_left
            · (intro w hSw; (try dsimp only at hSw); go_simp; try (with_reducible rfl))
            try simp only [Act.put, List.setIfInBounds_toArray, List.set_cons_zero, List.set_cons_succ]
            refine wpAnyH_done (by kernel_rfl) ?_ _
            refine NoPanic.normal ?_
            exact ⟨rfl, by kernel_rfl, by kernel_rfl, mW.setCell (.inr (by show wr.heap.size ≤ pb; omega)) _⟩
        · go_simp
          have hle := mW.size
          obtain ⟨w7, hwa⟩ : ∃ w7, (wr.alloc (.cells #[.slice none 0 0] 28)).drew = w7 := ⟨_, rfl⟩
          have hb : w7.heap[wr.heap.size]? = some (.cells #[.slice none 0 0] 28 (0, 0)) := by rw [← hwa]; exact heap_alloc_new wr _
          have m7 : Moves [] wr w7 := by rw [← hwa]; exact ((Moves.refl _ _).alloc _).drew
          rw [hwa]
          obtain ⟨pb, hpb⟩ : ∃ pb, wr.heap.size = pb := ⟨_, rfl⟩
          rw [hpb] at hb ⊢
          have hle : wr.heap.size ≤ pb := by rw [← hpb]; first | exact hle | exact Nat.le_refl _
          replace mW := m7
          clear hwa hpb
          refine hK.out _ _ ?_ (fun hHeld => ?_)
          · first | exact hS _ mW | exact hS _ (mW.setCell (.inr (by show wr.heap.size ≤ pb; omega)) _)
          clear hK K
          try simp only [Act.put, List.setIfInBounds_toArray, List.set_cons_zero, List.set_cons_succ]
          refine wpAnyH_ready (rs := [2]) (by kernel_rfl) (by simp) ?_
          refine AllReadyH.cons (o := { dst := some 90, op := Op.call { callee := Callee.value (Operand.func 15), args := #[Operand.tmp 89], argTypes := #[42] }, type := 39, pos := "law.go:249", after := #[{ on := 1, ground := Ground.data }], guard := none }) rfl (fun K hK => ?_) AllReadyH.nil
          go_simp
          go_at_call 15
          refine (keep_b' w _ _ HK.out).mono ?_
          rintro _ w2 ⟨A, adA, lenA, capA, rfl, hA, yA, m2⟩
          have HA : Hid (VA w [.int .i64 A.kind, .slice adA lenA capA, .float .f64 A.n] A.pv) := hA.va (by have := yA.len16; omega)
          have HY : Hid (pvr A.pv = true) := yA.right
          clear hA yA
          replace mW := mW.then m2
          have hb := m2.at hb (by simp)
          refine hK.out _ _ ?_ (fun hHeld => ?_)
          · first | exact hS _ mW | exact hS _ (mW.setCell (.inr (by show wr.heap.size ≤ pb; omega)) _)
          clear hK K
          try simp only [Act.put, List.setIfInBounds_toArray, List.set_cons_zero, List.set_cons_succ]
          refine wpAnyH_ready (rs := [3]) (by kernel_rfl) (by simp) ?_
          refine AllReadyH.cons (o := { dst := some 91, op := Op.call { callee := Callee.value (Operand.func 16), args := #[Operand.tmp 88, Operand.const (Value.string { data := #[113, 117, 105, 116, 101, 46, 110, 101, 119] }), Operand.const (Value.int IntKind.i64 1), Operand.tmp 90], argTypes := #[28, 9, 2, 39] }, type := 44, pos := "law.go:249", after := #[{ on := 0, ground := Ground.data }, { on := 2, ground := Ground.data }, { on := 2, ground := Ground.chain }], guard := none }) rfl (fun K hK => ?_) AllReadyH.nil
          go_simp
          go_at_call 16
          refine (rput_w wr _ _ R sQ 1 A.kind adA lenA capA A.n A.pv HRr.out (HA.out.moves MWr.out) mW).mono ?_
          rintro _ w3 ⟨ad1, n1, cap1, rfl, hc1, m3⟩
          rw [hnew A.pv HY.out]
          have HC : Hid (RowAt w3 (.agg #[.slice ad1 n1 cap1]) (pPut R sQ 1 A.pv)) := ⟨_, rfl, hc1⟩
          clear hc1
          replace mW := mW.then m3
          have hb := m3.at hb (by simp)
          refine hK.out _ _ ?_ (fun hHeld => ?_)
          · first | exact hS _ mW | exact hS _ (mW.setCell (.inr (by show wr.heap.size ≤ pb; omega)) _)
          clear hK K
          try simp only [Act.put, List.setIfInBounds_toArray, List.set_cons_zero, List.set_cons_succ]
          refine wpAnyH_take (i := 4) (oi := { dst := some 87, op := Op.move (Operand.tmp 91), type := 44, pos := "law.go:249", after := #[{ on := 3, ground := Ground.data }], guard := none }) (v := ?_) rfl (by kernel_rfl) (by kernel_rfl) (by kernel_rfl) (fun _ _ _ h => h) (Or.inl ⟨by rfl, ?_⟩) (by assumption) ?_
          rotate_left
          · (intro w hSw; (try dsimp only at hSw); go_simp; try (with_reducible rfl))
          try simp only [Act.put, List.setIfInBounds_toArray, List.set_cons_zero, List.set_cons_succ]
          refine wpAnyH_take (i := 5) (oi := { dst := some 92, op := Op.extract (Operand.tmp 87) 0, type := 28, pos := "law.go:249", after := #[{ on := 4, ground := Ground.data }], guard := none }) (v := ?_) rfl (by kernel_rfl) (by kernel_rfl) (by kernel_rfl) (fun _ _ _ h => h) (Or.inl ⟨by rfl, ?_⟩) (by assumption) ?_
          rotate_left
          · (intro w hSw; (try dsimp only at hSw); go_simp; try (with_reducible rfl))
          try simp only [Act.put, List.setIfInBounds_toArray, List.set_cons_zero, List.set_cons_succ]
          refine wpAnyH_take (i := 6) (oi := { dst := some 93, op := Op.extract (Operand.tmp 87) 1, type := 43, pos := "law.go:249", after := #[{ on := 4, ground := Ground.data }, { on := 8, ground := Ground.gcOnly Departure.lateStores }], guard := none }) (v := ?_) rfl (by kernel_rfl) (by kernel_rfl) (by kernel_rfl) (fun _ _ _ h => h) (Or.inl ⟨by rfl, ?_⟩) (by assumption) ?_
          rotate_left
          · (intro w hSw; (try dsimp only at hSw); go_simp; try (with_reducible rfl))
          try simp only [Act.put, List.setIfInBounds_toArray, List.set_cons_zero, List.set_cons_succ]
          refine wpAnyH_ready (rs := [8]) (by kernel_rfl) (by simp) ?_
          refine AllReadyH.cons (o := { dst := none, op := Op.store 28 (Operand.tmp 12) (Operand.tmp 92), type := 0, pos := "law.go:249", after := #[{ on := 7, ground := Ground.data }, { on := 5, ground := Ground.data }, { on := 3, ground := Ground.chain }, { on := 0, ground := Ground.phase }, { on := 1, ground := Ground.phase }, { on := 2, ground := Ground.phase }, { on := 3, ground := Ground.phase }, { on := 4, ground := Ground.phase }, { on := 5, ground := Ground.phase }, { on := 6, ground := Ground.textOnly Departure.lateStores }, { on := 7, ground := Ground.phase }], guard := none }) rfl (fun K hK => ?_) AllReadyH.nil
          obtain ⟨f0, f1⟩ := one_cell hb
          go_simp
          refine hK.out _ _ ?_ (fun hHeld => ?_)
          · first | exact hS _ mW | exact hS _ (mW.setCell (.inr (by show wr.heap.size ≤ pb; omega)) _)
          clear hK K
          try simp only [Act.put, List.setIfInBounds_toArray, List.set_cons_zero, List.set_cons_succ]
          refine wpAnyH_take (i := 9) (oi := { dst := some 13, op := Op.assign (Operand.tmp 93), type := 43, pos := "law.go:249", after := #[{ on := 6, ground := Ground.data }, { on := 8, ground := Ground.chain }, { on := 0, ground := Ground.phase }, { on := 1, ground := Ground.phase }, { on := 2, ground := Ground.phase }, { on := 3, ground := Ground.phase }, { on := 4, ground := Ground.phase }, { on := 5, ground := Ground.phase }, { on := 6, ground := Ground.phase }, { on := 7, ground := Ground.phase }, { on := 8, ground := Ground.phase }], guard := none }) (v := ?_) rfl (by kernel_rfl) (by kernel_rfl) (by kernel_rfl) (fun _ _ _ h => h) (Or.inl ⟨by rfl, ?_⟩) (by assumption) ?_
          rotate_left
          · (intro w hSw; (try dsimp only at hSw); go_simp; try (with_reducible rfl))
          try simp only [Act.put, List.setIfInBounds_toArray, List.set_cons_zero, List.set_cons_succ]
          refine wpAnyH_done (by kernel_rfl) ?_ _
          refine NoPanic.normal ?_
          exact ⟨rfl, by kernel_rfl, by kernel_rfl, mW.setCell (.inr (by show wr.heap.size ≤ pb; omega)) _⟩
      · rintro u wx ⟨hu13, mx⟩
        simp only [List.foldl_cons, List.foldl_nil, List.setIfInBounds_toArray, List.set_cons_zero, List.set_cons_succ, hu13]
        clear hu13
        generalize u 87 = u87
        generalize u 88 = u88
        generalize u 89 = u89
        generalize u 90 = u90
        generalize u 91 = u91
        generalize u 92 = u92
        generalize u 93 = u93
        generalize u 12 = u12
        have tr := mx.cell rr
        have MX : Hid (Moves [] w wx) := MWr.out.then mx
        clear hS mW hnew rv0 rv1 rv2 rv3 rr
        by_cases h4 : nr = 4
        · rw [if_pos h4] at hE
          subst hE h4
          go_wp2_with (go_at_call 9; refine (known_w _).mono ?_; rintro _ w8 ⟨rfl, m8⟩)
          go_ret
          exact ⟨rfl, MX.out.then m8⟩
        · rw [if_neg h4] at hE
          subst hE
          have h4' : ¬ (nr : Int) = 4 := by omega
          have h4'' : (nr : Int) < 4 := by omega
          have h4b : ((nr : Int) == 4) = false := by simpa using h4'
          go_wp2_with (go_at_call 9; refine (known_w _).mono ?_; rintro _ w8 ⟨rfl, m8⟩)
          go_ret
          exact ⟨rfl, MX.out.then m8⟩
end Go.Proofs.Ytfegflimnngfaaa
