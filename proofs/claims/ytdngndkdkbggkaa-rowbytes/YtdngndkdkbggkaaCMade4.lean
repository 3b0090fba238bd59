/-
  The law's own made: a row by the document's own puts: one that may be, with few names.
-/
import Derived.Test.YtdngndkdkbggkaaCRow12
import Derived.Test.YtdngndkdkbggkaaCKeep4
import Derived.Test.YtdngndkdkbggkaaCNewest4
namespace Go.Proofs.Ytdngndkdkbggkaa
open Go.RowKit

theorem refPut_p (W w : World) (v : Value) (R : List Pcol) (s : ByteArray) (t : Int) (kv : Int) (adv : Option Addr) (nv cv xv : Nat) (p : Pv) (h : RowAt W v R) (hv : VA W [.int .i64 kv, .slice adv nv cv, .float .f64 xv] p) (m : Moves [] W w) (hr : pright R = true) :
    Calls Try.prog 19 #[v, .string s, .int .i64 t, .agg #[.int .i64 kv, .slice adv nv cv, .float .f64 xv]] w fun e w' => ∃ ad n cap, e = .returned (.tuple #[.agg #[.slice ad n cap], .int .i64 (pPutE R s t p)]) ∧ ColsAt w' (.slice ad n cap) (pPut R s t p) ∧ Moves [] w w' := by
  obtain ⟨e1, e2⟩ := rPut_eq hr s t p
  have h1 := refPut_yes W w v R s t kv adv nv cv xv p h hv m hr
  rw [e1, e2] at h1
  exact h1

theorem pright_nil : pright [] = true := by decide

set_option maxRecDepth 100000 in
set_option maxHeartbeats 16000000 in
theorem made_w (W w : World) (u0 : Value) (h0 : CArgs W u0) (m : Moves [] W w) :
    Calls Try.prog 6 #[u0] w fun e w' => ∃ ad n cap R, e = .returned (.agg #[.slice ad n cap]) ∧ RowAt w' (.agg #[.slice ad n cap]) R ∧ pright R = true ∧ (∀ x ∈ R, x.name ∈ colNames) ∧ Moves [] w w' := by
  obtain ⟨adv, nv, cv, rfl, hcv, hV⟩ := h0
  have HVs := hV
  have HW : Hid (Moves [] W w) := m
  clear hV m
  go_enter Try.func6, Try.ntmps6
  go_wp2_with fail
  obtain ⟨w1, hw1⟩ : ∃ w1, (w.alloc (.cells #[.slice none 0 0] 26)).alloc (.cells #[.slice none 0 0] 26) = w1 := ⟨_, rfl⟩
  obtain ⟨p0, p1, m1⟩ : w1.heap[w.heap.size]? = some (.cells #[.slice none 0 0] 26 (0, 0)) ∧ w1.heap[w.heap.size + 1]? = some (.cells #[.slice none 0 0] 26 (0, 0)) ∧ Moves [] w w1 := by rw [← hw1]; exact boxes (Moves.refl _ _)
  rw [hw1]
  obtain ⟨pm, hpm⟩ : ∃ pm, w.heap.size + 1 = pm := ⟨_, rfl⟩
  rw [hpm] at p1 ⊢
  have hpm' : w.heap.size < pm := by omega
  clear hw1 hpm
  go_loopw [4] (fun i wr => ∃ (k : Nat) (lv : Value) (R : List Pcol), (k ≤ 12 ∧ k ≤ nv) ∧ i = .int .i64 k ∧ Moves [] w wr ∧ wr.heap[w.heap.size]? = some (.cells #[.slice none 0 0] 26 (0, 0)) ∧ wr.heap[pm]? = some (.cells #[lv] 26 (0, 0)) ∧ RowAt wr (.agg #[lv]) R ∧ pright R = true ∧ (∀ x ∈ R, x.name ∈ colNames)) (fun i _ => 12 - (intOf i).toNat)
  case atStart => exact ⟨0, _, [], ⟨by omega, by omega⟩, rfl, m1, p0, p1, RowAt.nil _, pright_nil, by simp⟩
  case round =>
    obtain ⟨k, lv, R, ⟨hk1, hk2⟩, rfl, mr, q0, q1, hR, hPr, hnm⟩ := hrel
    have hRl := hR
    obtain ⟨lv', elv, hCols⟩ := hRl
    simp at elv
    subst elv
    obtain ⟨adm, capm, elv, _⟩ := hCols.slice
    obtain ⟨nm, hnr⟩ : ∃ nm, Hid (nm = R.length) := ⟨_, rfl⟩
    rw [← hnr.out] at elv
    subst elv
    have HR : Hid (RowAt wr (.agg #[.slice adm nm capm]) R) := hR
    have HPr : Hid (pright R = true) := hPr
    have HN : Hid (∀ x ∈ R, x.name ∈ colNames) := hnm
    obtain ⟨r0, r1⟩ := one_cell q1
    clear hR hPr hnm hCols p0 p1
    by_cases hc : k < nv ∧ k < 12
    · obtain ⟨hc1, hc2⟩ := hc
      have hc1' : (k : Int) < nv := by omega
      have hc2' : (k : Int) < 12 := by omega
      obtain ⟨b, off, tk, tc, tnm, tm, tb, tn, tx, a2, l2, c2, rfl, v0, v1, v2, v3, v4, v5, v6, v7, hK⟩ := HVs k hc1
      have MWr : Hid (Moves [] W wr) := HW.out.then mr
      have vr1 := MWr.out.cell v1
      have vr3 := MWr.out.cell v3
      have vr4 := MWr.out.cell v4
      have vr5 := MWr.out.cell v5
      have vr6 := MWr.out.cell v6
      have vr7 := MWr.out.cell v7
      have HK : Hid (KArg W (.agg #[.bool tb, .int .i64 tn, .float .f64 tx, .slice a2 l2 c2])) := hK
      obtain ⟨t, ht⟩ : ∃ t, (IntKind.i64.wrap (tm.tmod 9 + 9)).tmod 9 = t := ⟨_, rfl⟩
      have hS : ∀ w', Moves [] wr w' → ((fun w' => w'.cell? ⟨pm, 0, none⟩ = some (.slice adm nm capm) ∧ w'.cell? ⟨b, off + k * 8 + 1, none⟩ = some (.int .i64 tc) ∧ w'.cell? ⟨b, off + k * 8 + 3, none⟩ = some (.int .i64 tm) ∧ w'.cell? ⟨b, off + k * 8 + 4, none⟩ = some (.bool tb) ∧ w'.cell? ⟨b, off + k * 8 + 5, none⟩ = some (.int .i64 tn) ∧ w'.cell? ⟨b, off + k * 8 + 6, none⟩ = some (.float .f64 tx) ∧ w'.cell? ⟨b, off + k * 8 + 7, none⟩ = some (.slice a2 l2 c2) ∧ w'.cell? ⟨b, off + k * 8 + 4 + 1, none⟩ = some (.int .i64 tn) ∧ w'.cell? ⟨b, off + k * 8 + 4 + 2, none⟩ = some (.float .f64 tx) ∧ w'.cell? ⟨b, off + k * 8 + 4 + 3, none⟩ = some (.slice a2 l2 c2)) w') := fun w' m' => ⟨m'.cell r0, m'.cell vr1, m'.cell vr3, m'.cell vr4, m'.cell vr5, m'.cell vr6, m'.cell vr7, m'.cell vr5, m'.cell vr6, m'.cell vr7⟩
      have mW : Moves [] wr wr.drew := (Moves.refl _ _).drew
      clear v0 v1 v2 v3 v4 v5 v6 v7 hK
      go_wp2_with fail
      refine wp_some [17, 18, 19, 20, 21, 22, 23, 24, 25, 26, 27, 28, 29, 30, 31, 32, 33, 34, 35, 36, 37, 38, 39, 40, 41, 5, 6] (fun u w' => ∃ (s : ByteArray) (p : Pv) (pb : Nat) (ad : Option Addr) (n cap : Nat), u 6 = .int .i64 (pPutE R s t p) ∧ u 5 = .pointer (some ⟨pb, 0, none⟩) ∧ s ∈ colNames ∧ pvr p = true ∧ w'.heap[pb]? = some (.cells #[.slice ad n cap] 26 (0, 0)) ∧ RowAt w' (.agg #[.slice ad n cap]) (pPut R s t p) ∧ wr.heap.size ≤ pb ∧ Moves [] wr w') ?_ ?_
      · refine wp_region_noPanic ?_
        refine wp_region_held_drew (S := (fun w' => w'.cell? ⟨pm, 0, none⟩ = some (.slice adm nm capm) ∧ w'.cell? ⟨b, off + k * 8 + 1, none⟩ = some (.int .i64 tc) ∧ w'.cell? ⟨b, off + k * 8 + 3, none⟩ = some (.int .i64 tm) ∧ w'.cell? ⟨b, off + k * 8 + 4, none⟩ = some (.bool tb) ∧ w'.cell? ⟨b, off + k * 8 + 5, none⟩ = some (.int .i64 tn) ∧ w'.cell? ⟨b, off + k * 8 + 6, none⟩ = some (.float .f64 tx) ∧ w'.cell? ⟨b, off + k * 8 + 7, none⟩ = some (.slice a2 l2 c2) ∧ w'.cell? ⟨b, off + k * 8 + 4 + 1, none⟩ = some (.int .i64 tn) ∧ w'.cell? ⟨b, off + k * 8 + 4 + 2, none⟩ = some (.float .f64 tx) ∧ w'.cell? ⟨b, off + k * 8 + 4 + 3, none⟩ = some (.slice a2 l2 c2))) (by kernel_rfl) ?_ (fun hHeld => ?_)
        · first | (go_keep; done) | first | exact hS _ mW | exact hS _ (mW.setCell (.inr (by show wr.heap.size ≤ pb; omega)) _)
        refine wpAnyH_take (i := 0) (oi := { dst := some 18, op := Op.load 26 (Operand.tmp 3), type := 26, pos := "law.go:154", after := #[], guard := none }) (v := ?_) rfl (by kernel_rfl) (by kernel_rfl) (by kernel_rfl) (fun _ _ _ h => h) (Or.inl ⟨by rfl, ?_⟩) (by assumption) ?_
        rotate_left
        · (intro w hSw; (try dsimp only at hSw); go_simp; try (with_reducible rfl))
        try simp only [Act.put, List.setIfInBounds_toArray, List.set_cons_zero, List.set_cons_succ]
        refine wpAnyH_take (i := 1) (oi := { dst := some 19, op := Op.move (Operand.tmp 0), type := 22, pos := "law.go:154", after := #[], guard := none }) (v := ?_) rfl (by kernel_rfl) (by kernel_rfl) (by kernel_rfl) (fun _ _ _ h => h) (Or.inl ⟨by rfl, ?_⟩) (by assumption) ?_
        rotate_left
        · (intro w hSw; (try dsimp only at hSw); go_simp; try (with_reducible rfl))
        try simp only [Act.put, List.setIfInBounds_toArray, List.set_cons_zero, List.set_cons_succ]
        refine wpAnyH_take (i := 2) (oi := { dst := some 20, op := Op.move (Operand.tmp 4), type := 3, pos := "law.go:154", after := #[], guard := none }) (v := ?_) rfl (by kernel_rfl) (by kernel_rfl) (by kernel_rfl) (fun _ _ _ h => h) (Or.inl ⟨by rfl, ?_⟩) (by assumption) ?_
        rotate_left
        · (intro w hSw; (try dsimp only at hSw); go_simp; try (with_reducible rfl))
        try simp only [Act.put, List.setIfInBounds_toArray, List.set_cons_zero, List.set_cons_succ]
        refine wpAnyH_take (i := 3) (oi := { dst := some 21, op := Op.indexAddr 22 (Operand.tmp 19) (Operand.tmp 20), type := 0, pos := "law.go:154", after := #[{ on := 1, ground := Ground.data }, { on := 2, ground := Ground.data }], guard := none }) (v := ?_) rfl (by kernel_rfl) (by kernel_rfl) (by kernel_rfl) (fun _ _ _ h => h) (Or.inl ⟨by rfl, ?_⟩) (by assumption) ?_
        rotate_left
        · (intro w hSw; (try dsimp only at hSw); go_simp; try (with_reducible rfl))
        try simp only [Act.put, List.setIfInBounds_toArray, List.set_cons_zero, List.set_cons_succ]
        refine wpAnyH_take (i := 4) (oi := { dst := some 22, op := Op.fieldAddr 59 (Operand.tmp 21) 1, type := 0, pos := "law.go:154", after := #[{ on := 3, ground := Ground.data }], guard := none }) (v := ?_) rfl (by kernel_rfl) (by kernel_rfl) (by kernel_rfl) (fun _ _ _ h => h) (Or.inl ⟨by rfl, ?_⟩) (by assumption) ?_
        rotate_left
        · (intro w hSw; (try dsimp only at hSw); go_simp; try (with_reducible rfl))
        try simp only [Act.put, List.setIfInBounds_toArray, List.set_cons_zero, List.set_cons_succ]
        refine wpAnyH_take (i := 5) (oi := { dst := some 23, op := Op.load 3 (Operand.tmp 22), type := 3, pos := "law.go:154", after := #[{ on := 4, ground := Ground.data }], guard := none }) (v := ?_) rfl (by kernel_rfl) (by kernel_rfl) (by kernel_rfl) (fun _ _ _ h => h) (Or.inl ⟨by rfl, ?_⟩) (by assumption) ?_
        rotate_left
        · (intro w hSw; (try dsimp only at hSw); go_simp; try (with_reducible rfl))
        try simp only [Act.put, List.setIfInBounds_toArray, List.set_cons_zero, List.set_cons_succ]
        refine wpAnyH_take (i := 7) (oi := { dst := some 25, op := Op.move (Operand.tmp 0), type := 22, pos := "law.go:154", after := #[], guard := none }) (v := ?_) rfl (by kernel_rfl) (by kernel_rfl) (by kernel_rfl) (fun _ _ _ h => h) (Or.inl ⟨by rfl, ?_⟩) (by assumption) ?_
        rotate_left
        · (intro w hSw; (try dsimp only at hSw); go_simp; try (with_reducible rfl))
        try simp only [Act.put, List.setIfInBounds_toArray, List.set_cons_zero, List.set_cons_succ]
        refine wpAnyH_take (i := 8) (oi := { dst := some 26, op := Op.move (Operand.tmp 4), type := 3, pos := "law.go:154", after := #[], guard := none }) (v := ?_) rfl (by kernel_rfl) (by kernel_rfl) (by kernel_rfl) (fun _ _ _ h => h) (Or.inl ⟨by rfl, ?_⟩) (by assumption) ?_
        rotate_left
        · (intro w hSw; (try dsimp only at hSw); go_simp; try (with_reducible rfl))
        try simp only [Act.put, List.setIfInBounds_toArray, List.set_cons_zero, List.set_cons_succ]
        refine wpAnyH_take (i := 9) (oi := { dst := some 27, op := Op.indexAddr 22 (Operand.tmp 25) (Operand.tmp 26), type := 0, pos := "law.go:154", after := #[{ on := 7, ground := Ground.data }, { on := 8, ground := Ground.data }], guard := none }) (v := ?_) rfl (by kernel_rfl) (by kernel_rfl) (by kernel_rfl) (fun _ _ _ h => h) (Or.inl ⟨by rfl, ?_⟩) (by assumption) ?_
        rotate_left
        · (intro w hSw; (try dsimp only at hSw); go_simp; try (with_reducible rfl))
        try simp only [Act.put, List.setIfInBounds_toArray, List.set_cons_zero, List.set_cons_succ]
        refine wpAnyH_take (i := 10) (oi := { dst := some 28, op := Op.fieldAddr 59 (Operand.tmp 27) 3, type := 0, pos := "law.go:154", after := #[{ on := 9, ground := Ground.data }], guard := none }) (v := ?_) rfl (by kernel_rfl) (by kernel_rfl) (by kernel_rfl) (fun _ _ _ h => h) (Or.inl ⟨by rfl, ?_⟩) (by assumption) ?_
        rotate_left
        · (intro w hSw; (try dsimp only at hSw); go_simp; try (with_reducible rfl))
        try simp only [Act.put, List.setIfInBounds_toArray, List.set_cons_zero, List.set_cons_succ]
        refine wpAnyH_take (i := 11) (oi := { dst := some 29, op := Op.load 2 (Operand.tmp 28), type := 2, pos := "law.go:154", after := #[{ on := 10, ground := Ground.data }], guard := none }) (v := ?_) rfl (by kernel_rfl) (by kernel_rfl) (by kernel_rfl) (fun _ _ _ h => h) (Or.inl ⟨by rfl, ?_⟩) (by assumption) ?_
        rotate_left
        · (intro w hSw; (try dsimp only at hSw); go_simp; try (with_reducible rfl))
        try simp only [Act.put, List.setIfInBounds_toArray, List.set_cons_zero, List.set_cons_succ]
        refine wpAnyH_take (i := 12) (oi := { dst := some 30, op := Op.binOp BinOp.rem 2 (Operand.tmp 29) (Operand.const (Value.int IntKind.i64 9)) 2, type := 2, pos := "law.go:154", after := #[{ on := 11, ground := Ground.data }], guard := none }) (v := ?_) rfl (by kernel_rfl) (by kernel_rfl) (by kernel_rfl) (fun _ _ _ h => h) (Or.inl ⟨by rfl, ?_⟩) (by assumption) ?_
        rotate_left
        · (intro w hSw; (try dsimp only at hSw); go_simp; try (with_reducible rfl))
        try simp only [Act.put, List.setIfInBounds_toArray, List.set_cons_zero, List.set_cons_succ]
        refine wpAnyH_take (i := 13) (oi := { dst := some 31, op := Op.binOp BinOp.add 2 (Operand.tmp 30) (Operand.const (Value.int IntKind.i64 9)) 2, type := 2, pos := "law.go:154", after := #[{ on := 12, ground := Ground.data }], guard := none }) (v := ?_) rfl (by kernel_rfl) (by kernel_rfl) (by kernel_rfl) (fun _ _ _ h => h) (Or.inl ⟨by rfl, ?_⟩) (by assumption) ?_
        rotate_left
        · (intro w hSw; (try dsimp only at hSw); go_simp; try (with_reducible rfl))
        try simp only [Act.put, List.setIfInBounds_toArray, List.set_cons_zero, List.set_cons_succ]
        refine wpAnyH_take (i := 14) (oi := { dst := some 32, op := Op.binOp BinOp.rem 2 (Operand.tmp 31) (Operand.const (Value.int IntKind.i64 9)) 2, type := 2, pos := "law.go:154", after := #[{ on := 13, ground := Ground.data }], guard := none }) (v := ?_) rfl (by kernel_rfl) (by kernel_rfl) (by kernel_rfl) (fun _ _ _ h => h) (Or.inl ⟨by rfl, ?_⟩) (by assumption) ?_
        rotate_left
        · (intro w hSw; (try dsimp only at hSw); go_simp; try (with_reducible rfl))
        try simp only [Act.put, List.setIfInBounds_toArray, List.set_cons_zero, List.set_cons_succ]
        refine wpAnyH_take (i := 15) (oi := { dst := some 33, op := Op.move (Operand.tmp 0), type := 22, pos := "law.go:154", after := #[], guard := none }) (v := ?_) rfl (by kernel_rfl) (by kernel_rfl) (by kernel_rfl) (fun _ _ _ h => h) (Or.inl ⟨by rfl, ?_⟩) (by assumption) ?_
        rotate_left
        · (intro w hSw; (try dsimp only at hSw); go_simp; try (with_reducible rfl))
        try simp only [Act.put, List.setIfInBounds_toArray, List.set_cons_zero, List.set_cons_succ]
        refine wpAnyH_take (i := 16) (oi := { dst := some 34, op := Op.move (Operand.tmp 4), type := 3, pos := "law.go:154", after := #[], guard := none }) (v := ?_) rfl (by kernel_rfl) (by kernel_rfl) (by kernel_rfl) (fun _ _ _ h => h) (Or.inl ⟨by rfl, ?_⟩) (by assumption) ?_
        rotate_left
        · (intro w hSw; (try dsimp only at hSw); go_simp; try (with_reducible rfl))
        try simp only [Act.put, List.setIfInBounds_toArray, List.set_cons_zero, List.set_cons_succ]
        refine wpAnyH_take (i := 17) (oi := { dst := some 35, op := Op.indexAddr 22 (Operand.tmp 33) (Operand.tmp 34), type := 0, pos := "law.go:154", after := #[{ on := 15, ground := Ground.data }, { on := 16, ground := Ground.data }], guard := none }) (v := ?_) rfl (by kernel_rfl) (by kernel_rfl) (by kernel_rfl) (fun _ _ _ h => h) (Or.inl ⟨by rfl, ?_⟩) (by assumption) ?_
        rotate_left
        · (intro w hSw; (try dsimp only at hSw); go_simp; try (with_reducible rfl))
        try simp only [Act.put, List.setIfInBounds_toArray, List.set_cons_zero, List.set_cons_succ]
        refine wpAnyH_take (i := 18) (oi := { dst := some 36, op := Op.fieldAddr 59 (Operand.tmp 35) 4, type := 0, pos := "law.go:154", after := #[{ on := 17, ground := Ground.data }], guard := none }) (v := ?_) rfl (by kernel_rfl) (by kernel_rfl) (by kernel_rfl) (fun _ _ _ h => h) (Or.inl ⟨by rfl, ?_⟩) (by assumption) ?_
        rotate_left
        · (intro w hSw; (try dsimp only at hSw); go_simp; try (with_reducible rfl))
        try simp only [Act.put, List.setIfInBounds_toArray, List.set_cons_zero, List.set_cons_succ]
        refine wpAnyH_take (i := 19) (oi := { dst := some 37, op := Op.load 57 (Operand.tmp 36), type := 57, pos := "law.go:154", after := #[{ on := 18, ground := Ground.data }], guard := none }) (v := ?_) rfl (by kernel_rfl) (by kernel_rfl) (by kernel_rfl) (fun _ _ _ h => h) (Or.inl ⟨by rfl, ?_⟩) (by assumption) ?_
        rotate_left
        · (intro w hSw; (try dsimp only at hSw); go_simp; try (with_reducible rfl))
        try simp only [Act.put, List.setIfInBounds_toArray, List.set_cons_zero, List.set_cons_succ]
        refine wpAnyH_ready (rs := [6, 25]) (by kernel_rfl) (by simp) ?_
        refine AllReadyH.cons (o := { dst := some 24, op := Op.call { callee := Callee.value (Operand.func 20), args := #[Operand.tmp 23], argTypes := #[3] }, type := 9, pos := "law.go:154", after := #[{ on := 5, ground := Ground.data }], guard := none }) rfl (fun K hK => ?_) (AllReadyH.cons (o := { dst := some 5, op := Op.alloc 26, type := 0, pos := "law.go:154", after := #[], guard := none }) rfl (fun K hK => ?_) AllReadyH.nil)
        · go_simp
          go_at_call 20
          refine (keepCol_w _ _).mono ?_
          rintro _ w6 ⟨s, rfl, hs, m6⟩
          replace mW := mW.then m6
          refine hK.out _ _ ?_ (fun hHeld => ?_)
          · first | exact hS _ mW | exact hS _ (mW.setCell (.inr (by show wr.heap.size ≤ pb; omega)) _)
          clear hK K
          try simp only [Act.put, List.setIfInBounds_toArray, List.set_cons_zero, List.set_cons_succ]
          refine wpAnyH_ready (rs := [20, 25]) (by kernel_rfl) (by simp) ?_
          refine AllReadyH.cons (o := { dst := some 38, op := Op.call { callee := Callee.value (Operand.func 21), args := #[Operand.tmp 37], argTypes := #[57] }, type := 61, pos := "law.go:154", after := #[{ on := 19, ground := Ground.data }, { on := 6, ground := Ground.chain }], guard := none }) rfl (fun K hK => ?_) (AllReadyH.cons (o := { dst := some 5, op := Op.alloc 26, type := 0, pos := "law.go:154", after := #[], guard := none }) rfl (fun K hK => ?_) AllReadyH.nil)
          · go_simp
            go_at_call 21
            refine (keep_b' W _ _ HK.out).mono ?_
            rintro _ w20 ⟨A, adA, lenA, capA, rfl, hA, yA, m20⟩
            have HA : Hid (VA W [.int .i64 A.kind, .slice adA lenA capA, .float .f64 A.n] A.pv) := hA.va (by have := yA.len16; omega)
            have HY : Hid (pvr A.pv = true) := yA.right
            clear hA yA
            replace mW := mW.then m20
            refine hK.out _ _ ?_ (fun hHeld => ?_)
            · first | exact hS _ mW | exact hS _ (mW.setCell (.inr (by show wr.heap.size ≤ pb; omega)) _)
            clear hK K
            try simp only [Act.put, List.setIfInBounds_toArray, List.set_cons_zero, List.set_cons_succ]
            refine wpAnyH_ready (rs := [21, 25]) (by kernel_rfl) (by simp) ?_
            refine AllReadyH.cons (o := { dst := some 39, op := Op.call { callee := Callee.value (Operand.func 19), args := #[Operand.tmp 18, Operand.tmp 24, Operand.tmp 32, Operand.tmp 38], argTypes := #[26, 9, 2, 61] }, type := 52, pos := "law.go:154", after := #[{ on := 0, ground := Ground.data }, { on := 6, ground := Ground.data }, { on := 14, ground := Ground.data }, { on := 20, ground := Ground.data }, { on := 20, ground := Ground.chain }], guard := none }) rfl (fun K hK => ?_) (AllReadyH.cons (o := { dst := some 5, op := Op.alloc 26, type := 0, pos := "law.go:154", after := #[], guard := none }) rfl (fun K hK => ?_) AllReadyH.nil)
            · go_simp
              try rw [ht]
              go_at_call 19
              refine (refPut_p wr _ _ R s t A.kind adA lenA capA A.n A.pv HR.out (HA.out.moves MWr.out) mW HPr.out).mono ?_
              rintro _ w21 ⟨ad1, n1, cap1, rfl, hc1, m21⟩
              have HC : Hid (RowAt w21 (.agg #[.slice ad1 n1 cap1]) (pPut R s t A.pv)) := ⟨_, rfl, hc1⟩
              clear hc1
              replace mW := mW.then m21
              refine hK.out _ _ ?_ (fun hHeld => ?_)
              · first | exact hS _ mW | exact hS _ (mW.setCell (.inr (by show wr.heap.size ≤ pb; omega)) _)
              clear hK K
              try simp only [Act.put, List.setIfInBounds_toArray, List.set_cons_zero, List.set_cons_succ]
              refine wpAnyH_take (i := 22) (oi := { dst := some 17, op := Op.move (Operand.tmp 39), type := 52, pos := "law.go:154", after := #[{ on := 21, ground := Ground.data }], guard := none }) (v := ?_) rfl (by kernel_rfl) (by kernel_rfl) (by kernel_rfl) (fun _ _ _ h => h) (Or.inl ⟨by rfl, ?_⟩) (by assumption) ?_
              rotate_left
              · (intro w hSw; (try dsimp only at hSw); go_simp; try (with_reducible rfl))
              try simp only [Act.put, List.setIfInBounds_toArray, List.set_cons_zero, List.set_cons_succ]
              refine wpAnyH_take (i := 23) (oi := { dst := some 40, op := Op.extract (Operand.tmp 17) 0, type := 26, pos := "law.go:154", after := #[{ on := 22, ground := Ground.data }], guard := none }) (v := ?_) rfl (by kernel_rfl) (by kernel_rfl) (by kernel_rfl) (fun _ _ _ h => h) (Or.inl ⟨by rfl, ?_⟩) (by assumption) ?_
              rotate_left
              · (intro w hSw; (try dsimp only at hSw); go_simp; try (with_reducible rfl))
              try simp only [Act.put, List.setIfInBounds_toArray, List.set_cons_zero, List.set_cons_succ]
              refine wpAnyH_take (i := 24) (oi := { dst := some 41, op := Op.extract (Operand.tmp 17) 1, type := 47, pos := "law.go:154", after := #[{ on := 22, ground := Ground.data }, { on := 26, ground := Ground.gcOnly Departure.lateStores }], guard := none }) (v := ?_) rfl (by kernel_rfl) (by kernel_rfl) (by kernel_rfl) (fun _ _ _ h => h) (Or.inl ⟨by rfl, ?_⟩) (by assumption) ?_
              rotate_left
              · (intro w hSw; (try dsimp only at hSw); go_simp; try (with_reducible rfl))
              try simp only [Act.put, List.setIfInBounds_toArray, List.set_cons_zero, List.set_cons_succ]
              refine wpAnyH_ready (rs := [25]) (by kernel_rfl) (by simp) ?_
              refine AllReadyH.cons (o := { dst := some 5, op := Op.alloc 26, type := 0, pos := "law.go:154", after := #[], guard := none }) rfl (fun K hK => ?_) AllReadyH.nil
              go_simp
              have hle := mW.size
              obtain ⟨w25, hw25⟩ : ∃ w25, w21.alloc (.cells #[.slice none 0 0] 26) = w25 := ⟨_, rfl⟩
              have hb : w25.heap[w21.heap.size]? = some (.cells #[.slice none 0 0] 26 (0, 0)) := by rw [← hw25]; exact heap_alloc_new w21 _
              have m25 : Moves [] w21 w25 := by rw [← hw25]; exact (Moves.refl _ _).alloc _
              rw [hw25]
              obtain ⟨pb, hpb⟩ : ∃ pb, w21.heap.size = pb := ⟨_, rfl⟩
              rw [hpb] at hb ⊢
              have hle : wr.heap.size ≤ pb := by rw [← hpb]; first | exact hle | exact Nat.le_refl _
              replace mW := mW.then m25
              replace HC : Hid (RowAt w25 (.agg #[.slice ad1 n1 cap1]) (pPut R s t A.pv)) := HC.out.moves m25
              clear hw25 hpb
              refine hK.out _ _ ?_ (fun hHeld => ?_)
              · first | exact hS _ mW | exact hS _ (mW.setCell (.inr (by show wr.heap.size ≤ pb; omega)) _)
              clear hK K
              try simp only [Act.put, List.setIfInBounds_toArray, List.set_cons_zero, List.set_cons_succ]
              refine wpAnyH_ready (rs := [26]) (by kernel_rfl) (by simp) ?_
              refine AllReadyH.cons (o := { dst := none, op := Op.store 26 (Operand.tmp 5) (Operand.tmp 40), type := 0, pos := "law.go:154", after := #[{ on := 25, ground := Ground.data }, { on := 23, ground := Ground.data }, { on := 21, ground := Ground.chain }, { on := 0, ground := Ground.phase }, { on := 1, ground := Ground.phase }, { on := 2, ground := Ground.phase }, { on := 3, ground := Ground.phase }, { on := 4, ground := Ground.phase }, { on := 5, ground := Ground.phase }, { on := 6, ground := Ground.phase }, { on := 7, ground := Ground.phase }, { on := 8, ground := Ground.phase }, { on := 9, ground := Ground.phase }, { on := 10, ground := Ground.phase }, { on := 11, ground := Ground.phase }, { on := 12, ground := Ground.phase }, { on := 13, ground := Ground.phase }, { on := 14, ground := Ground.phase }, { on := 15, ground := Ground.phase }, { on := 16, ground := Ground.phase }, { on := 17, ground := Ground.phase }, { on := 18, ground := Ground.phase }, { on := 19, ground := Ground.phase }, { on := 20, ground := Ground.phase }, { on := 21, ground := Ground.phase }, { on := 22, ground := Ground.phase }, { on := 23, ground := Ground.phase }, { on := 24, ground := Ground.textOnly Departure.lateStores }, { on := 25, ground := Ground.phase }], guard := none }) rfl (fun K hK => ?_) AllReadyH.nil
              obtain ⟨f0, f1⟩ := one_cell hb
              go_simp
              refine hK.out _ _ ?_ (fun hHeld => ?_)
              · first | exact hS _ mW | exact hS _ (mW.setCell (.inr (by show wr.heap.size ≤ pb; omega)) _)
              clear hK K
              try simp only [Act.put, List.setIfInBounds_toArray, List.set_cons_zero, List.set_cons_succ]
              refine wpAnyH_take (i := 27) (oi := { dst := some 6, op := Op.assign (Operand.tmp 41), type := 47, pos := "law.go:154", after := #[{ on := 24, ground := Ground.data }, { on := 26, ground := Ground.chain }, { on := 0, ground := Ground.phase }, { on := 1, ground := Ground.phase }, { on := 2, ground := Ground.phase }, { on := 3, ground := Ground.phase }, { on := 4, ground := Ground.phase }, { on := 5, ground := Ground.phase }, { on := 6, ground := Ground.phase }, { on := 7, ground := Ground.phase }, { on := 8, ground := Ground.phase }, { on := 9, ground := Ground.phase }, { on := 10, ground := Ground.phase }, { on := 11, ground := Ground.phase }, { on := 12, ground := Ground.phase }, { on := 13, ground := Ground.phase }, { on := 14, ground := Ground.phase }, { on := 15, ground := Ground.phase }, { on := 16, ground := Ground.phase }, { on := 17, ground := Ground.phase }, { on := 18, ground := Ground.phase }, { on := 19, ground := Ground.phase }, { on := 20, ground := Ground.phase }, { on := 21, ground := Ground.phase }, { on := 22, ground := Ground.phase }, { on := 23, ground := Ground.phase }, { on := 24, ground := Ground.phase }, { on := 25, ground := Ground.phase }, { on := 26, ground := Ground.phase }], guard := none }) (v := ?_) rfl (by kernel_rfl) (by kernel_rfl) (by kernel_rfl) (fun _ _ _ h => h) (Or.inl ⟨by rfl, ?_⟩) (by assumption) ?_
              rotate_left
              · (intro w hSw; (try dsimp only at hSw); go_simp; try (with_reducible rfl))
              try simp only [Act.put, List.setIfInBounds_toArray, List.set_cons_zero, List.set_cons_succ]
              refine wpAnyH_done (by kernel_rfl) ?_ _
              refine NoPanic.normal ?_
              exact ⟨rfl, by kernel_rfl, s, A.pv, pb, ad1, n1, cap1, by kernel_rfl, by kernel_rfl, hs, HY.out, set_one hb _, HC.out.setRow hb _, hle, mW.setCell (.inr (by show wr.heap.size ≤ pb; omega)) _⟩
            · go_simp
              have hle := mW.size
              obtain ⟨w25, hw25⟩ : ∃ w25, w20.alloc (.cells #[.slice none 0 0] 26) = w25 := ⟨_, rfl⟩
              have hb : w25.heap[w20.heap.size]? = some (.cells #[.slice none 0 0] 26 (0, 0)) := by rw [← hw25]; exact heap_alloc_new w20 _
              have m25 : Moves [] w20 w25 := by rw [← hw25]; exact (Moves.refl _ _).alloc _
              rw [hw25]
              obtain ⟨pb, hpb⟩ : ∃ pb, w20.heap.size = pb := ⟨_, rfl⟩
              rw [hpb] at hb ⊢
              have hle : wr.heap.size ≤ pb := by rw [← hpb]; first | exact hle | exact Nat.le_refl _
              replace mW := mW.then m25
              clear hw25 hpb
              refine hK.out _ _ ?_ (fun hHeld => ?_)
              · first | exact hS _ mW | exact hS _ (mW.setCell (.inr (by show wr.heap.size ≤ pb; omega)) _)
              clear hK K
              try simp only [Act.put, List.setIfInBounds_toArray, List.set_cons_zero, List.set_cons_succ]
              refine wpAnyH_ready (rs := [21]) (by kernel_rfl) (by simp) ?_
              refine AllReadyH.cons (o := { dst := some 39, op := Op.call { callee := Callee.value (Operand.func 19), args := #[Operand.tmp 18, Operand.tmp 24, Operand.tmp 32, Operand.tmp 38], argTypes := #[26, 9, 2, 61] }, type := 52, pos := "law.go:154", after := #[{ on := 0, ground := Ground.data }, { on := 6, ground := Ground.data }, { on := 14, ground := Ground.data }, { on := 20, ground := Ground.data }, { on := 20, ground := Ground.chain }], guard := none }) rfl (fun K hK => ?_) AllReadyH.nil
              go_simp
              try rw [ht]
              go_at_call 19
              refine (refPut_p wr _ _ R s t A.kind adA lenA capA A.n A.pv HR.out (HA.out.moves MWr.out) mW HPr.out).mono ?_
              rintro _ w21 ⟨ad1, n1, cap1, rfl, hc1, m21⟩
              have HC : Hid (RowAt w21 (.agg #[.slice ad1 n1 cap1]) (pPut R s t A.pv)) := ⟨_, rfl, hc1⟩
              clear hc1
              replace mW := mW.then m21
              have hb := m21.at hb (by simp)
              refine hK.out _ _ ?_ (fun hHeld => ?_)
              · first | exact hS _ mW | exact hS _ (mW.setCell (.inr (by show wr.heap.size ≤ pb; omega)) _)
              clear hK K
              try simp only [Act.put, List.setIfInBounds_toArray, List.set_cons_zero, List.set_cons_succ]
              refine wpAnyH_take (i := 22) (oi := { dst := some 17, op := Op.move (Operand.tmp 39), type := 52, pos := "law.go:154", after := #[{ on := 21, ground := Ground.data }], guard := none }) (v := ?_) rfl (by kernel_rfl) (by kernel_rfl) (by kernel_rfl) (fun _ _ _ h => h) (Or.inl ⟨by rfl, ?_⟩) (by assumption) ?_
              rotate_left
              · (intro w hSw; (try dsimp only at hSw); go_simp; try (with_reducible rfl))
              try simp only [Act.put, List.setIfInBounds_toArray, List.set_cons_zero, List.set_cons_succ]
              refine wpAnyH_take (i := 23) (oi := { dst := some 40, op := Op.extract (Operand.tmp 17) 0, type := 26, pos := "law.go:154", after := #[{ on := 22, ground := Ground.data }], guard := none }) (v := ?_) rfl (by kernel_rfl) (by kernel_rfl) (by kernel_rfl) (fun _ _ _ h => h) (Or.inl ⟨by rfl, ?_⟩) (by assumption) ?_
              rotate_left
              · (intro w hSw; (try dsimp only at hSw); go_simp; try (with_reducible rfl))
              try simp only [Act.put, List.setIfInBounds_toArray, List.set_cons_zero, List.set_cons_succ]
              refine wpAnyH_take (i := 24) (oi := { dst := some 41, op := Op.extract (Operand.tmp 17) 1, type := 47, pos := "law.go:154", after := #[{ on := 22, ground := Ground.data }, { on := 26, ground := Ground.gcOnly Departure.lateStores }], guard := none }) (v := ?_) rfl (by kernel_rfl) (by kernel_rfl) (by kernel_rfl) (fun _ _ _ h => h) (Or.inl ⟨by rfl, ?_⟩) (by assumption) ?_
              rotate_left
              · (intro w hSw; (try dsimp only at hSw); go_simp; try (with_reducible rfl))
              try simp only [Act.put, List.setIfInBounds_toArray, List.set_cons_zero, List.set_cons_succ]
              refine wpAnyH_ready (rs := [26]) (by kernel_rfl) (by simp) ?_
              refine AllReadyH.cons (o := { dst := none, op := Op.store 26 (Operand.tmp 5) (Operand.tmp 40), type := 0, pos := "law.go:154", after := #[{ on := 25, ground := Ground.data }, { on := 23, ground := Ground.data }, { on := 21, ground := Ground.chain }, { on := 0, ground := Ground.phase }, { on := 1, ground := Ground.phase }, { on := 2, ground := Ground.phase }, { on := 3, ground := Ground.phase }, { on := 4, ground := Ground.phase }, { on := 5, ground := Ground.phase }, { on := 6, ground := Ground.phase }, { on := 7, ground := Ground.phase }, { on := 8, ground := Ground.phase }, { on := 9, ground := Ground.phase }, { on := 10, ground := Ground.phase }, { on := 11, ground := Ground.phase }, { on := 12, ground := Ground.phase }, { on := 13, ground := Ground.phase }, { on := 14, ground := Ground.phase }, { on := 15, ground := Ground.phase }, { on := 16, ground := Ground.phase }, { on := 17, ground := Ground.phase }, { on := 18, ground := Ground.phase }, { on := 19, ground := Ground.phase }, { on := 20, ground := Ground.phase }, { on := 21, ground := Ground.phase }, { on := 22, ground := Ground.phase }, { on := 23, ground := Ground.phase }, { on := 24, ground := Ground.textOnly Departure.lateStores }, { on := 25, ground := Ground.phase }], guard := none }) rfl (fun K hK => ?_) AllReadyH.nil
              obtain ⟨f0, f1⟩ := one_cell hb
              go_simp
              refine hK.out _ _ ?_ (fun hHeld => ?_)
              · first | exact hS _ mW | exact hS _ (mW.setCell (.inr (by show wr.heap.size ≤ pb; omega)) _)
              clear hK K
              try simp only [Act.put, List.setIfInBounds_toArray, List.set_cons_zero, List.set_cons_succ]
              refine wpAnyH_take (i := 27) (oi := { dst := some 6, op := Op.assign (Operand.tmp 41), type := 47, pos := "law.go:154", after := #[{ on := 24, ground := Ground.data }, { on := 26, ground := Ground.chain }, { on := 0, ground := Ground.phase }, { on := 1, ground := Ground.phase }, { on := 2, ground := Ground.phase }, { on := 3, ground := Ground.phase }, { on := 4, ground := Ground.phase }, { on := 5, ground := Ground.phase }, { on := 6, ground := Ground.phase }, { on := 7, ground := Ground.phase }, { on := 8, ground := Ground.phase }, { on := 9, ground := Ground.phase }, { on := 10, ground := Ground.phase }, { on := 11, ground := Ground.phase }, { on := 12, ground := Ground.phase }, { on := 13, ground := Ground.phase }, { on := 14, ground := Ground.phase }, { on := 15, ground := Ground.phase }, { on := 16, ground := Ground.phase }, { on := 17, ground := Ground.phase }, { on := 18, ground := Ground.phase }, { on := 19, ground := Ground.phase }, { on := 20, ground := Ground.phase }, { on := 21, ground := Ground.phase }, { on := 22, ground := Ground.phase }, { on := 23, ground := Ground.phase }, { on := 24, ground := Ground.phase }, { on := 25, ground := Ground.phase }, { on := 26, ground := Ground.phase }], guard := none }) (v := ?_) rfl (by kernel_rfl) (by kernel_rfl) (by kernel_rfl) (fun _ _ _ h => h) (Or.inl ⟨by rfl, ?_⟩) (by assumption) ?_
              rotate_left
              · (intro w hSw; (try dsimp only at hSw); go_simp; try (with_reducible rfl))
              try simp only [Act.put, List.setIfInBounds_toArray, List.set_cons_zero, List.set_cons_succ]
              refine wpAnyH_done (by kernel_rfl) ?_ _
              refine NoPanic.normal ?_
              exact ⟨rfl, by kernel_rfl, s, A.pv, pb, ad1, n1, cap1, by kernel_rfl, by kernel_rfl, hs, HY.out, set_one hb _, HC.out.setRow hb _, hle, mW.setCell (.inr (by show wr.heap.size ≤ pb; omega)) _⟩
          · go_simp
            have hle := mW.size
            obtain ⟨w25, hw25⟩ : ∃ w25, w6.alloc (.cells #[.slice none 0 0] 26) = w25 := ⟨_, rfl⟩
            have hb : w25.heap[w6.heap.size]? = some (.cells #[.slice none 0 0] 26 (0, 0)) := by rw [← hw25]; exact heap_alloc_new w6 _
            have m25 : Moves [] w6 w25 := by rw [← hw25]; exact (Moves.refl _ _).alloc _
            rw [hw25]
            obtain ⟨pb, hpb⟩ : ∃ pb, w6.heap.size = pb := ⟨_, rfl⟩
            rw [hpb] at hb ⊢
            have hle : wr.heap.size ≤ pb := by rw [← hpb]; first | exact hle | exact Nat.le_refl _
            replace mW := mW.then m25
            clear hw25 hpb
            refine hK.out _ _ ?_ (fun hHeld => ?_)
            · first | exact hS _ mW | exact hS _ (mW.setCell (.inr (by show wr.heap.size ≤ pb; omega)) _)
            clear hK K
            try simp only [Act.put, List.setIfInBounds_toArray, List.set_cons_zero, List.set_cons_succ]
            refine wpAnyH_ready (rs := [20]) (by kernel_rfl) (by simp) ?_
            refine AllReadyH.cons (o := { dst := some 38, op := Op.call { callee := Callee.value (Operand.func 21), args := #[Operand.tmp 37], argTypes := #[57] }, type := 61, pos := "law.go:154", after := #[{ on := 19, ground := Ground.data }, { on := 6, ground := Ground.chain }], guard := none }) rfl (fun K hK => ?_) AllReadyH.nil
            go_simp
            go_at_call 21
            refine (keep_b' W _ _ HK.out).mono ?_
            rintro _ w20 ⟨A, adA, lenA, capA, rfl, hA, yA, m20⟩
            have HA : Hid (VA W [.int .i64 A.kind, .slice adA lenA capA, .float .f64 A.n] A.pv) := hA.va (by have := yA.len16; omega)
            have HY : Hid (pvr A.pv = true) := yA.right
            clear hA yA
            replace mW := mW.then m20
            have hb := m20.at hb (by simp)
            refine hK.out _ _ ?_ (fun hHeld => ?_)
            · first | exact hS _ mW | exact hS _ (mW.setCell (.inr (by show wr.heap.size ≤ pb; omega)) _)
            clear hK K
            try simp only [Act.put, List.setIfInBounds_toArray, List.set_cons_zero, List.set_cons_succ]
            refine wpAnyH_ready (rs := [21]) (by kernel_rfl) (by simp) ?_
            refine AllReadyH.cons (o := { dst := some 39, op := Op.call { callee := Callee.value (Operand.func 19), args := #[Operand.tmp 18, Operand.tmp 24, Operand.tmp 32, Operand.tmp 38], argTypes := #[26, 9, 2, 61] }, type := 52, pos := "law.go:154", after := #[{ on := 0, ground := Ground.data }, { on := 6, ground := Ground.data }, { on := 14, ground := Ground.data }, { on := 20, ground := Ground.data }, { on := 20, ground := Ground.chain }], guard := none }) rfl (fun K hK => ?_) AllReadyH.nil
            go_simp
            try rw [ht]
            go_at_call 19
            refine (refPut_p wr _ _ R s t A.kind adA lenA capA A.n A.pv HR.out (HA.out.moves MWr.out) mW HPr.out).mono ?_
            rintro _ w21 ⟨ad1, n1, cap1, rfl, hc1, m21⟩
            have HC : Hid (RowAt w21 (.agg #[.slice ad1 n1 cap1]) (pPut R s t A.pv)) := ⟨_, rfl, hc1⟩
            clear hc1
            replace mW := mW.then m21
            have hb := m21.at hb (by simp)
            refine hK.out _ _ ?_ (fun hHeld => ?_)
            · first | exact hS _ mW | exact hS _ (mW.setCell (.inr (by show wr.heap.size ≤ pb; omega)) _)
            clear hK K
            try simp only [Act.put, List.setIfInBounds_toArray, List.set_cons_zero, List.set_cons_succ]
            refine wpAnyH_take (i := 22) (oi := { dst := some 17, op := Op.move (Operand.tmp 39), type := 52, pos := "law.go:154", after := #[{ on := 21, ground := Ground.data }], guard := none }) (v := ?_) rfl (by kernel_rfl) (by kernel_rfl) (by kernel_rfl) (fun _ _ _ h => h) (Or.inl ⟨by rfl, ?_⟩) (by assumption) ?_
            rotate_left
            · (intro w hSw; (try dsimp only at hSw); go_simp; try (with_reducible rfl))
            try simp only [Act.put, List.setIfInBounds_toArray, List.set_cons_zero, List.set_cons_succ]
            refine wpAnyH_take (i := 23) (oi := { dst := some 40, op := Op.extract (Operand.tmp 17) 0, type := 26, pos := "law.go:154", after := #[{ on := 22, ground := Ground.data }], guard := none }) (v := ?_) rfl (by kernel_rfl) (by kernel_rfl) (by kernel_rfl) (fun _ _ _ h => h) (Or.inl ⟨by rfl, ?_⟩) (by assumption) ?_
            rotate_left
            · (intro w hSw; (try dsimp only at hSw); go_simp; try (with_reducible rfl))
            try simp only [Act.put, List.setIfInBounds_toArray, List.set_cons_zero, List.set_cons_succ]
            refine wpAnyH_take (i := 24) (oi := { dst := some 41, op := Op.extract (Operand.tmp 17) 1, type := 47, pos := "law.go:154", after := #[{ on := 22, ground := Ground.data }, { on := 26, ground := Ground.gcOnly Departure.lateStores }], guard := none }) (v := ?_) rfl (by kernel_rfl) (by kernel_rfl) (by kernel_rfl) (fun _ _ _ h => h) (Or.inl ⟨by rfl, ?_⟩) (by assumption) ?_
            rotate_left
            · (intro w hSw; (try dsimp only at hSw); go_simp; try (with_reducible rfl))
            try simp only [Act.put, List.setIfInBounds_toArray, List.set_cons_zero, List.set_cons_succ]
            refine wpAnyH_ready (rs := [26]) (by kernel_rfl) (by simp) ?_
            refine AllReadyH.cons (o := { dst := none, op := Op.store 26 (Operand.tmp 5) (Operand.tmp 40), type := 0, pos := "law.go:154", after := #[{ on := 25, ground := Ground.data }, { on := 23, ground := Ground.data }, { on := 21, ground := Ground.chain }, { on := 0, ground := Ground.phase }, { on := 1, ground := Ground.phase }, { on := 2, ground := Ground.phase }, { on := 3, ground := Ground.phase }, { on := 4, ground := Ground.phase }, { on := 5, ground := Ground.phase }, { on := 6, ground := Ground.phase }, { on := 7, ground := Ground.phase }, { on := 8, ground := Ground.phase }, { on := 9, ground := Ground.phase }, { on := 10, ground := Ground.phase }, { on := 11, ground := Ground.phase }, { on := 12, ground := Ground.phase }, { on := 13, ground := Ground.phase }, { on := 14, ground := Ground.phase }, { on := 15, ground := Ground.phase }, { on := 16, ground := Ground.phase }, { on := 17, ground := Ground.phase }, { on := 18, ground := Ground.phase }, { on := 19, ground := Ground.phase }, { on := 20, ground := Ground.phase }, { on := 21, ground := Ground.phase }, { on := 22, ground := Ground.phase }, { on := 23, ground := Ground.phase }, { on := 24, ground := Ground.textOnly Departure.lateStores }, { on := 25, ground := Ground.phase }], guard := none }) rfl (fun K hK => ?_) AllReadyH.nil
            obtain ⟨f0, f1⟩ := one_cell hb
            go_simp
            refine hK.out _ _ ?_ (fun hHeld => ?_)
            · first | exact hS _ mW | exact hS _ (mW.setCell (.inr (by show wr.heap.size ≤ pb; omega)) _)
            clear hK K
            try simp only [Act.put, List.setIfInBounds_toArray, List.set_cons_zero, List.set_cons_succ]
            refine wpAnyH_take (i := 27) (oi := { dst := some 6, op := Op.assign (Operand.tmp 41), type := 47, pos := "law.go:154", after := #[{ on := 24, ground := Ground.data }, { on := 26, ground := Ground.chain }, { on := 0, ground := Ground.phase }, { on := 1, ground := Ground.phase }, { on := 2, ground := Ground.phase }, { on := 3, ground := Ground.phase }, { on := 4, ground := Ground.phase }, { on := 5, ground := Ground.phase }, { on := 6, ground := Ground.phase }, { on := 7, ground := Ground.phase }, { on := 8, ground := Ground.phase }, { on := 9, ground := Ground.phase }, { on := 10, ground := Ground.phase }, { on := 11, ground := Ground.phase }, { on := 12, ground := Ground.phase }, { on := 13, ground := Ground.phase }, { on := 14, ground := Ground.phase }, { on := 15, ground := Ground.phase }, { on := 16, ground := Ground.phase }, { on := 17, ground := Ground.phase }, { on := 18, ground := Ground.phase }, { on := 19, ground := Ground.phase }, { on := 20, ground := Ground.phase }, { on := 21, ground := Ground.phase }, { on := 22, ground := Ground.phase }, { on := 23, ground := Ground.phase }, { on := 24, ground := Ground.phase }, { on := 25, ground := Ground.phase }, { on := 26, ground := Ground.phase }], guard := none }) (v := ?_) rfl (by kernel_rfl) (by kernel_rfl) (by kernel_rfl) (fun _ _ _ h => h) (Or.inl ⟨by rfl, ?_⟩) (by assumption) ?_
            rotate_left
            · (intro w hSw; (try dsimp only at hSw); go_simp; try (with_reducible rfl))
            try simp only [Act.put, List.setIfInBounds_toArray, List.set_cons_zero, List.set_cons_succ]
            refine wpAnyH_done (by kernel_rfl) ?_ _
            refine NoPanic.normal ?_
            exact ⟨rfl, by kernel_rfl, s, A.pv, pb, ad1, n1, cap1, by kernel_rfl, by kernel_rfl, hs, HY.out, set_one hb _, HC.out.setRow hb _, hle, mW.setCell (.inr (by show wr.heap.size ≤ pb; omega)) _⟩
        · go_simp
          have hle := mW.size
          obtain ⟨w25, hw25⟩ : ∃ w25, (wr.alloc (.cells #[.slice none 0 0] 26)).drew = w25 := ⟨_, rfl⟩
          have hb : w25.heap[wr.heap.size]? = some (.cells #[.slice none 0 0] 26 (0, 0)) := by rw [← hw25]; exact heap_alloc_new wr _
          have m25 : Moves [] wr w25 := by rw [← hw25]; exact ((Moves.refl _ _).alloc _).drew
          rw [hw25]
          obtain ⟨pb, hpb⟩ : ∃ pb, wr.heap.size = pb := ⟨_, rfl⟩
          rw [hpb] at hb ⊢
          have hle : wr.heap.size ≤ pb := by rw [← hpb]; first | exact hle | exact Nat.le_refl _
          replace mW := m25
          clear hw25 hpb
          refine hK.out _ _ ?_ (fun hHeld => ?_)
          · first | exact hS _ mW | exact hS _ (mW.setCell (.inr (by show wr.heap.size ≤ pb; omega)) _)
          clear hK K
          try simp only [Act.put, List.setIfInBounds_toArray, List.set_cons_zero, List.set_cons_succ]
          refine wpAnyH_ready (rs := [6]) (by kernel_rfl) (by simp) ?_
          refine AllReadyH.cons (o := { dst := some 24, op := Op.call { callee := Callee.value (Operand.func 20), args := #[Operand.tmp 23], argTypes := #[3] }, type := 9, pos := "law.go:154", after := #[{ on := 5, ground := Ground.data }], guard := none }) rfl (fun K hK => ?_) AllReadyH.nil
          go_simp
          go_at_call 20
          refine (keepCol_w _ _).mono ?_
          rintro _ w6 ⟨s, rfl, hs, m6⟩
          replace mW := mW.then m6
          have hb := m6.at hb (by simp)
          refine hK.out _ _ ?_ (fun hHeld => ?_)
          · first | exact hS _ mW | exact hS _ (mW.setCell (.inr (by show wr.heap.size ≤ pb; omega)) _)
          clear hK K
          try simp only [Act.put, List.setIfInBounds_toArray, List.set_cons_zero, List.set_cons_succ]
          refine wpAnyH_ready (rs := [20]) (by kernel_rfl) (by simp) ?_
          refine AllReadyH.cons (o := { dst := some 38, op := Op.call { callee := Callee.value (Operand.func 21), args := #[Operand.tmp 37], argTypes := #[57] }, type := 61, pos := "law.go:154", after := #[{ on := 19, ground := Ground.data }, { on := 6, ground := Ground.chain }], guard := none }) rfl (fun K hK => ?_) AllReadyH.nil
          go_simp
          go_at_call 21
          refine (keep_b' W _ _ HK.out).mono ?_
          rintro _ w20 ⟨A, adA, lenA, capA, rfl, hA, yA, m20⟩
          have HA : Hid (VA W [.int .i64 A.kind, .slice adA lenA capA, .float .f64 A.n] A.pv) := hA.va (by have := yA.len16; omega)
          have HY : Hid (pvr A.pv = true) := yA.right
          clear hA yA
          replace mW := mW.then m20
          have hb := m20.at hb (by simp)
          refine hK.out _ _ ?_ (fun hHeld => ?_)
          · first | exact hS _ mW | exact hS _ (mW.setCell (.inr (by show wr.heap.size ≤ pb; omega)) _)
          clear hK K
          try simp only [Act.put, List.setIfInBounds_toArray, List.set_cons_zero, List.set_cons_succ]
          refine wpAnyH_ready (rs := [21]) (by kernel_rfl) (by simp) ?_
          refine AllReadyH.cons (o := { dst := some 39, op := Op.call { callee := Callee.value (Operand.func 19), args := #[Operand.tmp 18, Operand.tmp 24, Operand.tmp 32, Operand.tmp 38], argTypes := #[26, 9, 2, 61] }, type := 52, pos := "law.go:154", after := #[{ on := 0, ground := Ground.data }, { on := 6, ground := Ground.data }, { on := 14, ground := Ground.data }, { on := 20, ground := Ground.data }, { on := 20, ground := Ground.chain }], guard := none }) rfl (fun K hK => ?_) AllReadyH.nil
          go_simp
          try rw [ht]
          go_at_call 19
          refine (refPut_p wr _ _ R s t A.kind adA lenA capA A.n A.pv HR.out (HA.out.moves MWr.out) mW HPr.out).mono ?_
          rintro _ w21 ⟨ad1, n1, cap1, rfl, hc1, m21⟩
          have HC : Hid (RowAt w21 (.agg #[.slice ad1 n1 cap1]) (pPut R s t A.pv)) := ⟨_, rfl, hc1⟩
          clear hc1
          replace mW := mW.then m21
          have hb := m21.at hb (by simp)
          refine hK.out _ _ ?_ (fun hHeld => ?_)
          · first | exact hS _ mW | exact hS _ (mW.setCell (.inr (by show wr.heap.size ≤ pb; omega)) _)
          clear hK K
          try simp only [Act.put, List.setIfInBounds_toArray, List.set_cons_zero, List.set_cons_succ]
          refine wpAnyH_take (i := 22) (oi := { dst := some 17, op := Op.move (Operand.tmp 39), type := 52, pos := "law.go:154", after := #[{ on := 21, ground := Ground.data }], guard := none }) (v := ?_) rfl (by kernel_rfl) (by kernel_rfl) (by kernel_rfl) (fun _ _ _ h => h) (Or.inl ⟨by rfl, ?_⟩) (by assumption) ?_
          rotate_left
          · (intro w hSw; (try dsimp only at hSw); go_simp; try (with_reducible rfl))
          try simp only [Act.put, List.setIfInBounds_toArray, List.set_cons_zero, List.set_cons_succ]
          refine wpAnyH_take (i := 23) (oi := { dst := some 40, op := Op.extract (Operand.tmp 17) 0, type := 26, pos := "law.go:154", after := #[{ on := 22, ground := Ground.data }], guard := none }) (v := ?_) rfl (by kernel_rfl) (by kernel_rfl) (by kernel_rfl) (fun _ _ _ h => h) (Or.inl ⟨by rfl, ?_⟩) (by assumption) ?_
          rotate_left
          · (intro w hSw; (try dsimp only at hSw); go_simp; try (with_reducible rfl))
          try simp only [Act.put, List.setIfInBounds_toArray, List.set_cons_zero, List.set_cons_succ]
          refine wpAnyH_take (i := 24) (oi := { dst := some 41, op := Op.extract (Operand.tmp 17) 1, type := 47, pos := "law.go:154", after := #[{ on := 22, ground := Ground.data }, { on := 26, ground := Ground.gcOnly Departure.lateStores }], guard := none }) (v := ?_) rfl (by kernel_rfl) (by kernel_rfl) (by kernel_rfl) (fun _ _ _ h => h) (Or.inl ⟨by rfl, ?_⟩) (by assumption) ?_
          rotate_left
          · (intro w hSw; (try dsimp only at hSw); go_simp; try (with_reducible rfl))
          try simp only [Act.put, List.setIfInBounds_toArray, List.set_cons_zero, List.set_cons_succ]
          refine wpAnyH_ready (rs := [26]) (by kernel_rfl) (by simp) ?_
          refine AllReadyH.cons (o := { dst := none, op := Op.store 26 (Operand.tmp 5) (Operand.tmp 40), type := 0, pos := "law.go:154", after := #[{ on := 25, ground := Ground.data }, { on := 23, ground := Ground.data }, { on := 21, ground := Ground.chain }, { on := 0, ground := Ground.phase }, { on := 1, ground := Ground.phase }, { on := 2, ground := Ground.phase }, { on := 3, ground := Ground.phase }, { on := 4, ground := Ground.phase }, { on := 5, ground := Ground.phase }, { on := 6, ground := Ground.phase }, { on := 7, ground := Ground.phase }, { on := 8, ground := Ground.phase }, { on := 9, ground := Ground.phase }, { on := 10, ground := Ground.phase }, { on := 11, ground := Ground.phase }, { on := 12, ground := Ground.phase }, { on := 13, ground := Ground.phase }, { on := 14, ground := Ground.phase }, { on := 15, ground := Ground.phase }, { on := 16, ground := Ground.phase }, { on := 17, ground := Ground.phase }, { on := 18, ground := Ground.phase }, { on := 19, ground := Ground.phase }, { on := 20, ground := Ground.phase }, { on := 21, ground := Ground.phase }, { on := 22, ground := Ground.phase }, { on := 23, ground := Ground.phase }, { on := 24, ground := Ground.textOnly Departure.lateStores }, { on := 25, ground := Ground.phase }], guard := none }) rfl (fun K hK => ?_) AllReadyH.nil
          obtain ⟨f0, f1⟩ := one_cell hb
          go_simp
          refine hK.out _ _ ?_ (fun hHeld => ?_)
          · first | exact hS _ mW | exact hS _ (mW.setCell (.inr (by show wr.heap.size ≤ pb; omega)) _)
          clear hK K
          try simp only [Act.put, List.setIfInBounds_toArray, List.set_cons_zero, List.set_cons_succ]
          refine wpAnyH_take (i := 27) (oi := { dst := some 6, op := Op.assign (Operand.tmp 41), type := 47, pos := "law.go:154", after := #[{ on := 24, ground := Ground.data }, { on := 26, ground := Ground.chain }, { on := 0, ground := Ground.phase }, { on := 1, ground := Ground.phase }, { on := 2, ground := Ground.phase }, { on := 3, ground := Ground.phase }, { on := 4, ground := Ground.phase }, { on := 5, ground := Ground.phase }, { on := 6, ground := Ground.phase }, { on := 7, ground := Ground.phase }, { on := 8, ground := Ground.phase }, { on := 9, ground := Ground.phase }, { on := 10, ground := Ground.phase }, { on := 11, ground := Ground.phase }, { on := 12, ground := Ground.phase }, { on := 13, ground := Ground.phase }, { on := 14, ground := Ground.phase }, { on := 15, ground := Ground.phase }, { on := 16, ground := Ground.phase }, { on := 17, ground := Ground.phase }, { on := 18, ground := Ground.phase }, { on := 19, ground := Ground.phase }, { on := 20, ground := Ground.phase }, { on := 21, ground := Ground.phase }, { on := 22, ground := Ground.phase }, { on := 23, ground := Ground.phase }, { on := 24, ground := Ground.phase }, { on := 25, ground := Ground.phase }, { on := 26, ground := Ground.phase }], guard := none }) (v := ?_) rfl (by kernel_rfl) (by kernel_rfl) (by kernel_rfl) (fun _ _ _ h => h) (Or.inl ⟨by rfl, ?_⟩) (by assumption) ?_
          rotate_left
          · (intro w hSw; (try dsimp only at hSw); go_simp; try (with_reducible rfl))
          try simp only [Act.put, List.setIfInBounds_toArray, List.set_cons_zero, List.set_cons_succ]
          refine wpAnyH_done (by kernel_rfl) ?_ _
          refine NoPanic.normal ?_
          exact ⟨rfl, by kernel_rfl, s, A.pv, pb, ad1, n1, cap1, by kernel_rfl, by kernel_rfl, hs, HY.out, set_one hb _, HC.out.setRow hb _, hle, mW.setCell (.inr (by show wr.heap.size ≤ pb; omega)) _⟩
      · rintro u wx ⟨s, p, pb, ad, n, cap, hu6, hu5, hs, hp, qb, hRx, hle, mx⟩
        simp only [List.foldl_cons, List.foldl_nil, List.setIfInBounds_toArray, List.set_cons_zero, List.set_cons_succ, hu5, hu6]
        clear hu5 hu6
        generalize u 17 = u17
        generalize u 18 = u18
        generalize u 19 = u19
        generalize u 20 = u20
        generalize u 21 = u21
        generalize u 22 = u22
        generalize u 23 = u23
        generalize u 24 = u24
        generalize u 25 = u25
        generalize u 26 = u26
        generalize u 27 = u27
        generalize u 28 = u28
        generalize u 29 = u29
        generalize u 30 = u30
        generalize u 31 = u31
        generalize u 32 = u32
        generalize u 33 = u33
        generalize u 34 = u34
        generalize u 35 = u35
        generalize u 36 = u36
        generalize u 37 = u37
        generalize u 38 = u38
        generalize u 39 = u39
        generalize u 40 = u40
        generalize u 41 = u41
        have hnx : Hid (∀ x ∈ pPut R s t p, x.name ∈ colNames) := fun x hx => by
          rcases pPut_names hx with e | ⟨y, hy, e⟩
          · rw [e]; exact hs
          · rw [← e]; exact HN.out y hy
        have hPx : Hid (pright (pPut R s t p) = true) := pPut_right R s t p
        obtain ⟨E, hE⟩ : ∃ E, pPutE R s t p = E := ⟨_, rfl⟩
        obtain ⟨P, hP⟩ : ∃ P, pPut R s t p = P := ⟨_, rfl⟩
        rw [hP] at hRx hnx hPx
        rw [hE]
        have HRx : Hid (RowAt wx (.agg #[.slice ad n cap]) P) := hRx
        have qm := mx.at q1 (by simp)
        have q0x := mx.at q0 (by simp)
        obtain ⟨x0, _⟩ := one_cell qb
        obtain ⟨y0, y1⟩ := one_cell qm
        have hlp : pm < wr.heap.size := lt_of_block q1
        have hne : ¬ pb = pm := by omega
        have hne' : ¬ pm = pb := by omega
        clear hE hP hRx hS mW vr1 vr3 vr4 vr5 vr6 vr7 ht r0 r1
        by_cases hE0 : E = 0
        · subst hE0
          go_wp2_with fail
          go_roundw
          case rel => exact ⟨k + 1, _, P, ⟨by omega, by omega⟩, by go_num, (mr.then mx).setCell (.inr (by show w.heap.size ≤ pm; omega)) _, (moves_set _ _ _ _).at q0x (by simp; omega), set_one qm _, HRx.out.setRow qm _, hPx.out, hnx.out⟩
          case measure => simp [intOf]; omega
        · go_wp2_with fail
          go_roundw
          case rel => exact ⟨k + 1, _, R, ⟨by omega, by omega⟩, by go_num, mr.then mx, q0x, qm, HR.out.moves mx, HPr.out, HN.out⟩
          case measure => simp [intOf]; omega
    · have hways : (¬ (k : Int) < nv) ∨ ((k : Int) < nv ∧ ¬ (k : Int) < 12) := by omega
      obtain ⟨f0, f1⟩ := one_cell q0
      clear HVs
      rcases hways with g1 | ⟨g1, g2⟩
      all_goals go_wp2_with fail
      all_goals try simp only [Exit.inBlock, Exit.then]
      all_goals exact bodyPost_ret (ret_row rfl _ _ _ _ rfl (set_one q0 _)) rfl ⟨_, _, _, rfl, R, HR.out.setRow q0 _, HPr.out, HN.out, mr.setCell (.inr (Nat.le_refl _)) _⟩
end Go.Proofs.Ytdngndkdkbggkaa
