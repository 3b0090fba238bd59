/-
  The document's own Copy of rows: of a row that may be the call returns a row of its own, what the chapter says, and writes nothing that was there.
-/
import Derived.Test.YtbeobeedgeohlaaCRef1
namespace Go.Proofs.Ytbeobeedgeohlaa
open Go.RowKit

/-- ref3's Canon, of a value that lies in a row. -/
theorem rcanonC_w (W w : World) (k : Int) (ad : Option Addr) (len cap n : Nat) (p : Pv) (h : VA W [.int .i64 k, .slice ad len cap, .float .f64 n] p) (m : Moves [] W w) :
    Calls Try.prog 37 #[.agg #[.int .i64 k, .slice ad len cap, .float .f64 n]] w fun e w' => ∃ ad' len' cap', e = .returned (.agg #[.int .i64 (pcanon p).kind, .slice ad' len' cap', .float .f64 (pcanon p).n]) ∧ VC w' [.int .i64 (pcanon p).kind, .slice ad' len' cap', .float .f64 (pcanon p).n] (pcanon p) ∧ Moves [] w w' ∧ Moves [] W w' := by
  obtain ⟨g, hV, hl⟩ := h.vis
  obtain ⟨e0, hI⟩ := hV.moves m
  have h1 := rCanon_w _ w hI (by show p.bs.length ≤ _; omega)
  rw [← e0] at h1
  refine h1.mono ?_
  rintro e w' ⟨c, rfl, hC⟩
  have hV2 : VIs w' c.val c := ⟨rfl, hC.isIn⟩
  obtain ⟨ad', len', cap', e1, e2⟩ := hV2.open
  have hk : c.kind = (pcanon p).kind := hC.kind
  have hb : c.bs = (pcanon p).bs := hC.bs
  have hn : c.n = (pcanon p).n := hC.n
  refine ⟨ad', len', cap', by rw [← hk, ← hn, e2], ⟨ad', len', cap', c.g, rfl, ?_, ?_, ?_, ?_, ?_⟩, hC.moves, m.then hC.moves⟩
  · rw [← e1, ← hb]; exact hC.isIn.isB
  · rw [← hn]; exact hC.isIn.fits
  · rw [← hb]; exact hC.isIn.oct
  · rw [← hb, hC.bs]
    split
    · exact hl
    · simp
  · rw [← hb]
    have := hC.own
    by_cases hz : c.bs = []
    · exact .inl hz
    · have hI := hC.isIn.isB
      rcases this.2 with ⟨_, h1⟩ | ⟨g', cap3, cur, h1, _, h3, _⟩
      · exact absurd (List.eq_nil_of_length_eq_zero h1) hz
      · obtain ⟨ad4, n4, cap4, f1, _, _, _, f5⟩ := hI
        rw [h1] at f1
        simp at f1
        rcases f5 with f5 | ⟨off, f5, _⟩
        · exact absurd f5 hz
        · rw [← f1.1] at f5
          simp at f5
          rw [← f5.1]
          exact .inr ⟨_, _, h3⟩

theorem pair_frozen {w : World} {p : Nat} {a b : Value} {t : TypeId} (h : w.heap[p]? = some (.cells #[a, b] t (0, 0))) : w.cell? ⟨p, 0, none⟩ = some a ∧ w.cell? ⟨p, 1, none⟩ = some b ∧ w.frozen? ⟨p, 0, none⟩ = false ∧ w.frozen? ⟨p, 1, none⟩ = false := by
  simp [World.cell?, World.frozen?, h]
/-- A store into a column's box. -/
theorem GrowV.setCol {W w : World} {v : Value} {xs : List Pver} (h : GrowV W w v xs) {p i : Nat} {c : Array Value} {fz : Nat × Nat} (hp : w.heap[p]? = some (.cells c 33 fz)) (u : Value) : GrowV W (w.setCell ⟨p, i, none⟩ u) v xs := by
  refine h.moves (moves_set _ _ _ _) (fun b hb hbs => ?_) (Stay.set hp (by decide) _)
  simp at hbs
  subst hbs
  exact h.neT hp (by decide) (by rw [hb]; simp)

set_option maxRecDepth 100000 in
set_option maxHeartbeats 8000000 in
theorem refCopy_yes (W w : World) (v : Value) (R : List Pcol) (h : RowAt W v R) (m : Moves [] W w) (hr : pright R = true) :
    Calls Try.prog 35 #[v] w fun e w' => ∃ ad n cap, e = .returned (.agg #[.slice ad n cap]) ∧ GrowC w w' (.slice ad n cap) (R.map pcanonC) ∧ Moves [] w w' ∧ Hid (R = [] → ad = none ∧ cap = 0) := by
  have hRt := fun w1 (m1 : Moves [] W w1) => refRight_yes W w1 v R h m1 hr
  obtain ⟨lv, rfl, hl⟩ := h
  obtain ⟨ad, cap, hlv, hc⟩ := hl.slice
  obtain ⟨n, HN⟩ : ∃ n, Hid (n = R.length) := ⟨_, rfl⟩
  rw [← HN.out] at hlv hc
  subst hlv
  have hn4 : n ≤ 4 := by rw [HN.out]; exact pright_len4 hr
  have HL : Hid (∀ x ∈ R, x.l.length ≤ 2) := fun x hx => (prightV_two (pright_at hr hx).2).2
  have hm3 : Moves [] W (((w.alloc (.cells #[.slice ad n cap] 36)).alloc (.cells #[.slice none 0 0] 36)).alloc (.cells #[.slice none 0 0] 36)) := ((m.alloc _).alloc _).alloc _
  have HA : Hid (ColsAt W (.slice ad n cap) R) := hl
  have MW : Hid (Moves [] W w) := m
  clear hl m hr
  go_enter Try.func35, Try.ntmps35
  go_wp2_with (go_at_call 43; refine (hRt _ hm3).mono ?_; rintro _ w2 ⟨rfl, m2⟩; obtain ⟨p1, p2, p3, m0⟩ := boxes3 m2)
  have M0 : Hid (Moves [] w w2) := m0
  clear hRt hm3 m2 m0
  go_loopw [4] (fun i wr => ∃ (k : Nat) (lv : Value), k ≤ n ∧ i = .int .i64 k ∧ Moves [] w wr ∧ wr.heap[w.heap.size]? = some (.cells #[.slice ad n cap] 36 (0, 0)) ∧ wr.heap[w.heap.size + 1]? = some (.cells #[.slice none 0 0] 36 (0, 0)) ∧ wr.heap[w.heap.size + 1 + 1]? = some (.cells #[lv] 36 (0, 0)) ∧ GrowC w wr lv ((R.take k).map pcanonC) ∧ (k = 0 → lv = .slice none 0 0)) (fun i _ => n - (intOf i).toNat)
  case atStart => exact ⟨0, _, Nat.zero_le _, rfl, M0.out, p1, p2, p3, by simpa using GrowC.nil _ _, fun _ => rfl⟩
  case round =>
    obtain ⟨k, lv, hk, rfl, mr, q1, q2, q3, hG, hz⟩ := hrel
    obtain ⟨wo, hwo⟩ : ∃ wo, wo = wr := ⟨_, rfl⟩
    subst hwo
    have HG : Hid (GrowC w wo lv ((R.take k).map pcanonC)) := hG
    obtain ⟨ad3, n3, cap3, rfl, hn3'⟩ := hG.open
    obtain ⟨r0, _⟩ := one_cell q1
    have HZ : Hid (k = 0 → Value.slice ad3 n3 cap3 = .slice none 0 0) := hz
    clear hG p1 p2 p3 hz
    by_cases hlt : k < n
    · have hk3 : (k : Int) < n := by omega
      obtain ⟨x, hx⟩ : ∃ x, R[k]? = some x := ⟨_, List.getElem?_eq_getElem (by rw [← HN.out]; exact hlt)⟩
      obtain ⟨g, off, a2, n2, c2, rfl, e0, e1, en, hle, hV⟩ := HA.out.at hx
      have MR := MW.out.then mr
      have d0 := MR.cell e0
      have d1 := MR.cell e1
      have HV : Hid (VersAt W (.slice a2 n2 c2) x.l) := hV
      have Hn : Hid (n2 = x.l.length) := en
      have hn2b : n2 ≤ 2 := by rw [en]; exact HL.out x (List.mem_of_getElem? hx)
      have HX : Hid (R[k]? = some x) := hx
      clear hV en e0 hx
      go_wp2_with fail
      obtain ⟨wb, hwb⟩ : ∃ wb, wo.alloc (.cells #[.string x.name, .slice none 0 0] 33) = wb := ⟨_, rfl⟩
      have mb : Moves [] wo wb := by rw [← hwb]; exact (Moves.refl _ _).alloc _
      have qb : wb.heap[wo.heap.size]? = some (.cells #[.string x.name, .slice none 0 0] 33 (0, 0)) := by rw [← hwb]; exact heap_alloc_new _ _
      rw [hwb]
      clear hwb
      go_loopw [6] (fun i wq => ∃ (j : Nat) (l : Value), j ≤ n2 ∧ i = .int .i64 j ∧ Moves [] wo wq ∧ wq.heap[wo.heap.size]? = some (.cells #[.string x.name, l] 33 (0, 0)) ∧ GrowV wo wq l ((x.l.take j).map pcanonV)) (fun i _ => n2 - (intOf i).toNat)
      case atStart => exact ⟨0, _, Nat.zero_le _, rfl, mb, qb, by simpa using GrowV.nil _ _⟩
      case round =>
        obtain ⟨j, l, hj, rfl, mq, qc, hGV⟩ := hrel
        obtain ⟨ad4, n4, cap4, rfl, hn4⟩ := hGV.open
        have HGV : Hid (GrowV wo wr (.slice ad4 n4 cap4) ((x.l.take j).map pcanonV)) := hGV
        clear hGV
        obtain ⟨f0, f1⟩ := pair_cells qc
        have rr0 := mq.cell r0
        have dd1 := mq.cell d1
        have hsz1 := lt_of_block q3
        by_cases hjt : j < n2
        · have hj3 : (j : Int) < n2 := by omega
          obtain ⟨y, hy⟩ : ∃ y, x.l[j]? = some y := ⟨_, List.getElem?_eq_getElem (by have := Hn.out; omega)⟩
          obtain ⟨g5, off5, a5, n5, c5, rfl, y0, y1, y2, y3, hVC⟩ := HV.out.at hy
          have zo0 := MR.cell y0
          have zo1 := MR.cell y1
          have zo2 := MR.cell y2
          have zo3 := MR.cell y3
          have z0 := mq.cell zo0
          have z1 := mq.cell zo1
          have z2 := mq.cell zo2
          have z3 := mq.cell zo3
          have HVC : Hid (VA wr [.int .i64 y.v.kind, .slice a5 n5 c5, .float .f64 y.v.n] y.v) := hVC.va.moves (MR.then mq)
          have hbd : ((x.l.take j).map pcanonV).length + [pcanonV y].length ≤ 1048576 := by
            have := Hn.out
            simp
            omega
          have md : Moves [] wr wr.drew := (Moves.refl _ _).drew
          have mo : Moves [] wo wr.drew := mq.drew
          have hneb := HGV.out.neT qc (by decide)
          clear hVC y0 y1 y2 y3 f0
          go_wp2_with fail
          have hS : ∀ w', Moves [] wo w' → w'.cell? ⟨w.heap.size, 0, none⟩ = some (.slice (some ⟨g, off, none⟩) n cap) ∧ w'.cell? ⟨g, off + k * 2 + 1, none⟩ = some (.slice (some ⟨g5, off5, none⟩) n2 c2) ∧ w'.cell? ⟨g5, off5 + j * 4, none⟩ = some (.int .i64 y.t) ∧ w'.cell? ⟨g5, off5 + j * 4 + 1, none⟩ = some (.int .i64 y.v.kind) ∧ w'.cell? ⟨g5, off5 + j * 4 + 1 + 1, none⟩ = some (.slice a5 n5 c5) ∧ w'.cell? ⟨g5, off5 + j * 4 + 1 + 2, none⟩ = some (.float .f64 y.v.n) ∧ w'.cell? ⟨g5, off5 + j * 4 + 2, none⟩ = some (.slice a5 n5 c5) ∧ w'.cell? ⟨g5, off5 + j * 4 + 3, none⟩ = some (.float .f64 y.v.n) := fun w' m' => ⟨m'.cell r0, m'.cell d1, m'.cell zo0, m'.cell zo1, m'.cell zo2, m'.cell zo3, m'.cell zo2, m'.cell zo3⟩
          refine wp_region_noPanic ?_
          refine wp_region_held_drew (S := (fun w' => w'.cell? ⟨w.heap.size, 0, none⟩ = some (.slice (some ⟨g, off, none⟩) n cap) ∧ w'.cell? ⟨g, off + k * 2 + 1, none⟩ = some (.slice (some ⟨g5, off5, none⟩) n2 c2) ∧ w'.cell? ⟨g5, off5 + j * 4, none⟩ = some (.int .i64 y.t) ∧ w'.cell? ⟨g5, off5 + j * 4 + 1, none⟩ = some (.int .i64 y.v.kind) ∧ w'.cell? ⟨g5, off5 + j * 4 + 1 + 1, none⟩ = some (.slice a5 n5 c5) ∧ w'.cell? ⟨g5, off5 + j * 4 + 1 + 2, none⟩ = some (.float .f64 y.v.n) ∧ w'.cell? ⟨g5, off5 + j * 4 + 2, none⟩ = some (.slice a5 n5 c5) ∧ w'.cell? ⟨g5, off5 + j * 4 + 3, none⟩ = some (.float .f64 y.v.n))) (by kernel_rfl) ?_ (fun hHeld => ?_)
          · first | (go_keep; done) | (refine hS _ ?_; first | with_reducible assumption | exact Moves.alloc (by with_reducible assumption) _ | exact Moves.setCell (by with_reducible assumption) (.inr (Nat.le_refl _)) _)
          refine wpAnyH_take (i := 0) (oi := { dst := some 37, op := Op.fieldAddr 33 (Operand.tmp 5) 1, type := 0, pos := "ref.go:38", after := #[], guard := none }) (v := ?_) rfl (by kernel_rfl) (by kernel_rfl) (by kernel_rfl) (fun _ _ _ h => h) (Or.inl ⟨by rfl, ?_⟩) (by assumption) ?_
          rotate_left
          · (intro w hSw; (try dsimp only at hSw); go_simp; try (with_reducible rfl))
          try simp only [Act.put, List.setIfInBounds_toArray, List.set_cons_zero, List.set_cons_succ]
          refine wpAnyH_take (i := 2) (oi := { dst := some 39, op := Op.fieldAddr 36 (Operand.tmp 1) 0, type := 0, pos := "ref.go:38", after := #[], guard := none }) (v := ?_) rfl (by kernel_rfl) (by kernel_rfl) (by kernel_rfl) (fun _ _ _ h => h) (Or.inl ⟨by rfl, ?_⟩) (by assumption) ?_
          rotate_left
          · (intro w hSw; (try dsimp only at hSw); go_simp; try (with_reducible rfl))
          try simp only [Act.put, List.setIfInBounds_toArray, List.set_cons_zero, List.set_cons_succ]
          refine wpAnyH_take (i := 3) (oi := { dst := some 40, op := Op.load 34 (Operand.tmp 39), type := 34, pos := "ref.go:38", after := #[{ on := 2, ground := Ground.data }], guard := none }) (v := ?_) rfl (by kernel_rfl) (by kernel_rfl) (by kernel_rfl) (fun _ _ _ h => h) (Or.inl ⟨by rfl, ?_⟩) (by assumption) ?_
          rotate_left
          · (intro w hSw; (try dsimp only at hSw); go_simp; try (with_reducible rfl))
          try simp only [Act.put, List.setIfInBounds_toArray, List.set_cons_zero, List.set_cons_succ]
          refine wpAnyH_take (i := 4) (oi := { dst := some 41, op := Op.move (Operand.tmp 4), type := 3, pos := "ref.go:38", after := #[], guard := none }) (v := ?_) rfl (by kernel_rfl) (by kernel_rfl) (by kernel_rfl) (fun _ _ _ h => h) (Or.inl ⟨by rfl, ?_⟩) (by assumption) ?_
          rotate_left
          · (intro w hSw; (try dsimp only at hSw); go_simp; try (with_reducible rfl))
          try simp only [Act.put, List.setIfInBounds_toArray, List.set_cons_zero, List.set_cons_succ]
          refine wpAnyH_take (i := 5) (oi := { dst := some 42, op := Op.indexAddr 34 (Operand.tmp 40) (Operand.tmp 41), type := 0, pos := "ref.go:38", after := #[{ on := 3, ground := Ground.data }, { on := 4, ground := Ground.data }], guard := none }) (v := ?_) rfl (by kernel_rfl) (by kernel_rfl) (by kernel_rfl) (fun _ _ _ h => h) (Or.inl ⟨by rfl, ?_⟩) (by assumption) ?_
          rotate_left
          · (intro w hSw; (try dsimp only at hSw); go_simp; try (with_reducible rfl))
          try simp only [Act.put, List.setIfInBounds_toArray, List.set_cons_zero, List.set_cons_succ]
          refine wpAnyH_take (i := 6) (oi := { dst := some 43, op := Op.fieldAddr 33 (Operand.tmp 42) 1, type := 0, pos := "ref.go:38", after := #[{ on := 5, ground := Ground.data }], guard := none }) (v := ?_) rfl (by kernel_rfl) (by kernel_rfl) (by kernel_rfl) (fun _ _ _ h => h) (Or.inl ⟨by rfl, ?_⟩) (by assumption) ?_
          rotate_left
          · (intro w hSw; (try dsimp only at hSw); go_simp; try (with_reducible rfl))
          try simp only [Act.put, List.setIfInBounds_toArray, List.set_cons_zero, List.set_cons_succ]
          refine wpAnyH_take (i := 7) (oi := { dst := some 44, op := Op.load 31 (Operand.tmp 43), type := 31, pos := "ref.go:38", after := #[{ on := 6, ground := Ground.data }], guard := none }) (v := ?_) rfl (by kernel_rfl) (by kernel_rfl) (by kernel_rfl) (fun _ _ _ h => h) (Or.inl ⟨by rfl, ?_⟩) (by assumption) ?_
          rotate_left
          · (intro w hSw; (try dsimp only at hSw); go_simp; try (with_reducible rfl))
          try simp only [Act.put, List.setIfInBounds_toArray, List.set_cons_zero, List.set_cons_succ]
          refine wpAnyH_take (i := 8) (oi := { dst := some 45, op := Op.move (Operand.tmp 6), type := 3, pos := "ref.go:38", after := #[], guard := none }) (v := ?_) rfl (by kernel_rfl) (by kernel_rfl) (by kernel_rfl) (fun _ _ _ h => h) (Or.inl ⟨by rfl, ?_⟩) (by assumption) ?_
          rotate_left
          · (intro w hSw; (try dsimp only at hSw); go_simp; try (with_reducible rfl))
          try simp only [Act.put, List.setIfInBounds_toArray, List.set_cons_zero, List.set_cons_succ]
          refine wpAnyH_take (i := 9) (oi := { dst := some 46, op := Op.indexAddr 31 (Operand.tmp 44) (Operand.tmp 45), type := 0, pos := "ref.go:38", after := #[{ on := 7, ground := Ground.data }, { on := 8, ground := Ground.data }], guard := none }) (v := ?_) rfl (by kernel_rfl) (by kernel_rfl) (by kernel_rfl) (fun _ _ _ h => h) (Or.inl ⟨by rfl, ?_⟩) (by assumption) ?_
          rotate_left
          · (intro w hSw; (try dsimp only at hSw); go_simp; try (with_reducible rfl))
          try simp only [Act.put, List.setIfInBounds_toArray, List.set_cons_zero, List.set_cons_succ]
          refine wpAnyH_take (i := 10) (oi := { dst := some 47, op := Op.fieldAddr 79 (Operand.tmp 46) 0, type := 0, pos := "ref.go:38", after := #[{ on := 9, ground := Ground.data }], guard := none }) (v := ?_) rfl (by kernel_rfl) (by kernel_rfl) (by kernel_rfl) (fun _ _ _ h => h) (Or.inl ⟨by rfl, ?_⟩) (by assumption) ?_
          rotate_left
          · (intro w hSw; (try dsimp only at hSw); go_simp; try (with_reducible rfl))
          try simp only [Act.put, List.setIfInBounds_toArray, List.set_cons_zero, List.set_cons_succ]
          refine wpAnyH_take (i := 11) (oi := { dst := some 48, op := Op.load 2 (Operand.tmp 47), type := 2, pos := "ref.go:38", after := #[{ on := 10, ground := Ground.data }], guard := none }) (v := ?_) rfl (by kernel_rfl) (by kernel_rfl) (by kernel_rfl) (fun _ _ _ h => h) (Or.inl ⟨by rfl, ?_⟩) (by assumption) ?_
          rotate_left
          · (intro w hSw; (try dsimp only at hSw); go_simp; try (with_reducible rfl))
          try simp only [Act.put, List.setIfInBounds_toArray, List.set_cons_zero, List.set_cons_succ]
          refine wpAnyH_take (i := 12) (oi := { dst := some 49, op := Op.fieldAddr 36 (Operand.tmp 1) 0, type := 0, pos := "ref.go:38", after := #[], guard := none }) (v := ?_) rfl (by kernel_rfl) (by kernel_rfl) (by kernel_rfl) (fun _ _ _ h => h) (Or.inl ⟨by rfl, ?_⟩) (by assumption) ?_
          rotate_left
          · (intro w hSw; (try dsimp only at hSw); go_simp; try (with_reducible rfl))
          try simp only [Act.put, List.setIfInBounds_toArray, List.set_cons_zero, List.set_cons_succ]
          refine wpAnyH_take (i := 13) (oi := { dst := some 50, op := Op.load 34 (Operand.tmp 49), type := 34, pos := "ref.go:38", after := #[{ on := 12, ground := Ground.data }], guard := none }) (v := ?_) rfl (by kernel_rfl) (by kernel_rfl) (by kernel_rfl) (fun _ _ _ h => h) (Or.inl ⟨by rfl, ?_⟩) (by assumption) ?_
          rotate_left
          · (intro w hSw; (try dsimp only at hSw); go_simp; try (with_reducible rfl))
          try simp only [Act.put, List.setIfInBounds_toArray, List.set_cons_zero, List.set_cons_succ]
          refine wpAnyH_take (i := 14) (oi := { dst := some 51, op := Op.move (Operand.tmp 4), type := 3, pos := "ref.go:38", after := #[], guard := none }) (v := ?_) rfl (by kernel_rfl) (by kernel_rfl) (by kernel_rfl) (fun _ _ _ h => h) (Or.inl ⟨by rfl, ?_⟩) (by assumption) ?_
          rotate_left
          · (intro w hSw; (try dsimp only at hSw); go_simp; try (with_reducible rfl))
          try simp only [Act.put, List.setIfInBounds_toArray, List.set_cons_zero, List.set_cons_succ]
          refine wpAnyH_take (i := 15) (oi := { dst := some 52, op := Op.indexAddr 34 (Operand.tmp 50) (Operand.tmp 51), type := 0, pos := "ref.go:38", after := #[{ on := 13, ground := Ground.data }, { on := 14, ground := Ground.data }], guard := none }) (v := ?_) rfl (by kernel_rfl) (by kernel_rfl) (by kernel_rfl) (fun _ _ _ h => h) (Or.inl ⟨by rfl, ?_⟩) (by assumption) ?_
          rotate_left
          · (intro w hSw; (try dsimp only at hSw); go_simp; try (with_reducible rfl))
          try simp only [Act.put, List.setIfInBounds_toArray, List.set_cons_zero, List.set_cons_succ]
          refine wpAnyH_take (i := 16) (oi := { dst := some 53, op := Op.fieldAddr 33 (Operand.tmp 52) 1, type := 0, pos := "ref.go:38", after := #[{ on := 15, ground := Ground.data }], guard := none }) (v := ?_) rfl (by kernel_rfl) (by kernel_rfl) (by kernel_rfl) (fun _ _ _ h => h) (Or.inl ⟨by rfl, ?_⟩) (by assumption) ?_
          rotate_left
          · (intro w hSw; (try dsimp only at hSw); go_simp; try (with_reducible rfl))
          try simp only [Act.put, List.setIfInBounds_toArray, List.set_cons_zero, List.set_cons_succ]
          refine wpAnyH_take (i := 17) (oi := { dst := some 54, op := Op.load 31 (Operand.tmp 53), type := 31, pos := "ref.go:38", after := #[{ on := 16, ground := Ground.data }], guard := none }) (v := ?_) rfl (by kernel_rfl) (by kernel_rfl) (by kernel_rfl) (fun _ _ _ h => h) (Or.inl ⟨by rfl, ?_⟩) (by assumption) ?_
          rotate_left
          · (intro w hSw; (try dsimp only at hSw); go_simp; try (with_reducible rfl))
          try simp only [Act.put, List.setIfInBounds_toArray, List.set_cons_zero, List.set_cons_succ]
          refine wpAnyH_take (i := 18) (oi := { dst := some 55, op := Op.move (Operand.tmp 6), type := 3, pos := "ref.go:38", after := #[], guard := none }) (v := ?_) rfl (by kernel_rfl) (by kernel_rfl) (by kernel_rfl) (fun _ _ _ h => h) (Or.inl ⟨by rfl, ?_⟩) (by assumption) ?_
          rotate_left
          · (intro w hSw; (try dsimp only at hSw); go_simp; try (with_reducible rfl))
          try simp only [Act.put, List.setIfInBounds_toArray, List.set_cons_zero, List.set_cons_succ]
          refine wpAnyH_take (i := 19) (oi := { dst := some 56, op := Op.indexAddr 31 (Operand.tmp 54) (Operand.tmp 55), type := 0, pos := "ref.go:38", after := #[{ on := 17, ground := Ground.data }, { on := 18, ground := Ground.data }], guard := none }) (v := ?_) rfl (by kernel_rfl) (by kernel_rfl) (by kernel_rfl) (fun _ _ _ h => h) (Or.inl ⟨by rfl, ?_⟩) (by assumption) ?_
          rotate_left
          · (intro w hSw; (try dsimp only at hSw); go_simp; try (with_reducible rfl))
          try simp only [Act.put, List.setIfInBounds_toArray, List.set_cons_zero, List.set_cons_succ]
          refine wpAnyH_take (i := 20) (oi := { dst := some 57, op := Op.fieldAddr 79 (Operand.tmp 56) 1, type := 0, pos := "ref.go:38", after := #[{ on := 19, ground := Ground.data }], guard := none }) (v := ?_) rfl (by kernel_rfl) (by kernel_rfl) (by kernel_rfl) (fun _ _ _ h => h) (Or.inl ⟨by rfl, ?_⟩) (by assumption) ?_
          rotate_left
          · (intro w hSw; (try dsimp only at hSw); go_simp; try (with_reducible rfl))
          try simp only [Act.put, List.setIfInBounds_toArray, List.set_cons_zero, List.set_cons_succ]
          refine wpAnyH_take (i := 21) (oi := { dst := some 58, op := Op.load 49 (Operand.tmp 57), type := 49, pos := "ref.go:38", after := #[{ on := 20, ground := Ground.data }], guard := none }) (v := ?_) rfl (by kernel_rfl) (by kernel_rfl) (by kernel_rfl) (fun _ _ _ h => h) (Or.inl ⟨by rfl, ?_⟩) (by assumption) ?_
          rotate_left
          · (intro w hSw; (try dsimp only at hSw); go_simp; try (with_reducible rfl))
          try simp only [Act.put, List.setIfInBounds_toArray, List.set_cons_zero, List.set_cons_succ]
          refine wpAnyH_ready (rs := [1, 22]) (by kernel_rfl) (by simp) ?_
          refine AllReadyH.cons (o := { dst := some 38, op := Op.load 31 (Operand.tmp 37), type := 31, pos := "ref.go:38", after := #[{ on := 0, ground := Ground.data }], guard := none }) rfl (fun K hK => ?_) (AllReadyH.cons (o := { dst := some 59, op := Op.call { callee := Callee.value (Operand.func 37), args := #[Operand.tmp 58], argTypes := #[49] }, type := 49, pos := "ref.go:38", after := #[{ on := 21, ground := Ground.data }], guard := none }) rfl (fun K hK => ?_) AllReadyH.nil)
          · go_simp
            refine hK.out _ _ ?_ (fun hHeld => ?_)
            · (refine hS _ ?_; first | with_reducible assumption | exact Moves.alloc (by with_reducible assumption) _ | exact Moves.setCell (by with_reducible assumption) (.inr (Nat.le_refl _)) _)
            clear hK K
            try simp only [Act.put, List.setIfInBounds_toArray, List.set_cons_zero, List.set_cons_succ]
            refine wpAnyH_ready (rs := [22]) (by kernel_rfl) (by simp) ?_
            refine AllReadyH.cons (o := { dst := some 59, op := Op.call { callee := Callee.value (Operand.func 37), args := #[Operand.tmp 58], argTypes := #[49] }, type := 49, pos := "ref.go:38", after := #[{ on := 21, ground := Ground.data }], guard := none }) rfl (fun K hK => ?_) AllReadyH.nil
            go_simp
            refine (rcanonC_w wr _ _ _ _ _ _ _ HVC.out md).mono ?_
            rintro _ w5 ⟨ad6, n6, c6, rfl, hC5, m5, m6⟩
            have mo5 : Moves [] wo w5 := mo.then m5
            have f5 := m6.cell f1
            have f6 := (m6.alloc (.cells #[.int .i64 y.t, .int .i64 (pcanon y.v).kind, .slice ad6 n6 c6, .float .f64 (pcanon y.v).n] 79)).cell f1
            have hvn := vers_new w5 (.int .i64 y.t) _ _ _ (pcanonV y) ⟨_, rfl, hC5⟩
            have hG7 := HGV.out.moves0 (m6.alloc (.cells #[.int .i64 y.t, .int .i64 (pcanon y.v).kind, .slice ad6 n6 c6, .float .f64 (pcanon y.v).n] 79))
            have hM7 := mo5.alloc (.cells #[.int .i64 y.t, .int .i64 (pcanon y.v).kind, .slice ad6 n6 c6, .float .f64 (pcanon y.v).n] 79)
            have qc7 := (m6.alloc (.cells #[.int .i64 y.t, .int .i64 (pcanon y.v).kind, .slice ad6 n6 c6, .float .f64 (pcanon y.v).n] 79)).at qc (by simp)
            refine hK.out _ _ ?_ (fun hHeld => ?_)
            · (refine hS _ ?_; first | with_reducible assumption | exact Moves.alloc (by with_reducible assumption) _ | exact Moves.setCell (by with_reducible assumption) (.inr (Nat.le_refl _)) _)
            clear hK K
            try simp only [Act.put, List.setIfInBounds_toArray, List.set_cons_zero, List.set_cons_succ]
            refine wpAnyH_take (i := 23) (oi := { dst := some 60, op := Op.build 79 #[(0, Operand.tmp 48), (1, Operand.tmp 59)], type := 79, pos := "ref.go:38", after := #[{ on := 11, ground := Ground.data }, { on := 22, ground := Ground.data }], guard := none }) (v := ?_) rfl (by kernel_rfl) (by kernel_rfl) (by kernel_rfl) (fun _ _ _ h => h) (Or.inl ⟨by rfl, ?_⟩) (by assumption) ?_
            rotate_left
            · (intro w hSw; (try dsimp only at hSw); go_simp; try (with_reducible rfl))
            try simp only [Act.put, List.setIfInBounds_toArray, List.set_cons_zero, List.set_cons_succ]
            refine wpAnyH_ready (rs := [24]) (by kernel_rfl) (by simp) ?_
            refine AllReadyH.cons (o := { dst := some 61, op := Op.buildSlice 31 1 #[(0, Operand.tmp 60)], type := 31, pos := "ref.go:38", after := #[{ on := 23, ground := Ground.data }], guard := none }) rfl (fun K hK => ?_) AllReadyH.nil
            go_simp
            refine hK.out _ _ ?_ (fun hHeld => ?_)
            · (refine hS _ ?_; first | with_reducible assumption | exact Moves.alloc (by with_reducible assumption) _ | exact Moves.setCell (by with_reducible assumption) (.inr (Nat.le_refl _)) _)
            clear hK K
            try simp only [Act.put, List.setIfInBounds_toArray, List.set_cons_zero, List.set_cons_succ]
            refine wpAnyH_ready (rs := [25]) (by kernel_rfl) (by simp) ?_
            refine AllReadyH.cons (o := { dst := some 62, op := Op.call { callee := Callee.builtin Builtin.append, args := #[Operand.tmp 38, Operand.tmp 61], argTypes := #[31, 31] }, type := 31, pos := "ref.go:38", after := #[{ on := 1, ground := Ground.data }, { on := 24, ground := Ground.data }, { on := 22, ground := Ground.chain }], guard := none }) rfl (fun K hK => ?_) AllReadyH.nil
            refine growV_step (.tmp 38) (.tmp 61) rfl _ _ ((x.l.take j).map pcanonV) [pcanonV y] rfl rfl (by rfl) hG7 hvn hM7 hbd ?_
            intro v8 w8 hG8 M8 m8 s8 l8
            have hsl := hG8.open
            obtain ⟨ad8, n8, cap8, rfl, hn8⟩ := hsl
            have qc8 := m8.at qc7 hneb
            obtain ⟨e80, e81, fz0, fz1⟩ := pair_frozen qc8
            refine hK.out _ _ ?_ (fun hHeld => ?_)
            · (refine hS _ ?_; first | with_reducible assumption | exact Moves.alloc (by with_reducible assumption) _ | exact Moves.setCell (by with_reducible assumption) (.inr (Nat.le_refl _)) _)
            clear hK K
            try simp only [Act.put, List.setIfInBounds_toArray, List.set_cons_zero, List.set_cons_succ]
            refine wpAnyH_take (i := 26) (oi := { dst := some 63, op := Op.fieldAddr 33 (Operand.tmp 5) 1, type := 0, pos := "ref.go:38", after := #[{ on := 0, ground := Ground.phase }, { on := 1, ground := Ground.phase }, { on := 2, ground := Ground.phase }, { on := 3, ground := Ground.phase }, { on := 4, ground := Ground.phase }, { on := 5, ground := Ground.phase }, { on := 6, ground := Ground.phase }, { on := 7, ground := Ground.phase }, { on := 8, ground := Ground.phase }, { on := 9, ground := Ground.phase }, { on := 10, ground := Ground.phase }, { on := 11, ground := Ground.phase }, { on := 12, ground := Ground.phase }, { on := 13, ground := Ground.phase }, { on := 14, ground := Ground.phase }, { on := 15, ground := Ground.phase }, { on := 16, ground := Ground.phase }, { on := 17, ground := Ground.phase }, { on := 18, ground := Ground.phase }, { on := 19, ground := Ground.phase }, { on := 20, ground := Ground.phase }, { on := 21, ground := Ground.phase }, { on := 22, ground := Ground.phase }, { on := 23, ground := Ground.phase }, { on := 24, ground := Ground.phase }, { on := 25, ground := Ground.phase }], guard := none }) (v := ?_) rfl (by kernel_rfl) (by kernel_rfl) (by kernel_rfl) (fun _ _ _ h => h) (Or.inl ⟨by rfl, ?_⟩) (by assumption) ?_
            rotate_left
            · (intro w hSw; (try dsimp only at hSw); go_simp; try (with_reducible rfl))
            try simp only [Act.put, List.setIfInBounds_toArray, List.set_cons_zero, List.set_cons_succ]
            refine wpAnyH_ready (rs := [27]) (by kernel_rfl) (by simp) ?_
            refine AllReadyH.cons (o := { dst := none, op := Op.store 31 (Operand.tmp 63) (Operand.tmp 62), type := 0, pos := "ref.go:38", after := #[{ on := 26, ground := Ground.data }, { on := 25, ground := Ground.data }, { on := 25, ground := Ground.chain }, { on := 0, ground := Ground.phase }, { on := 1, ground := Ground.phase }, { on := 2, ground := Ground.phase }, { on := 3, ground := Ground.phase }, { on := 4, ground := Ground.phase }, { on := 5, ground := Ground.phase }, { on := 6, ground := Ground.phase }, { on := 7, ground := Ground.phase }, { on := 8, ground := Ground.phase }, { on := 9, ground := Ground.phase }, { on := 10, ground := Ground.phase }, { on := 11, ground := Ground.phase }, { on := 12, ground := Ground.phase }, { on := 13, ground := Ground.phase }, { on := 14, ground := Ground.phase }, { on := 15, ground := Ground.phase }, { on := 16, ground := Ground.phase }, { on := 17, ground := Ground.phase }, { on := 18, ground := Ground.phase }, { on := 19, ground := Ground.phase }, { on := 20, ground := Ground.phase }, { on := 21, ground := Ground.phase }, { on := 22, ground := Ground.phase }, { on := 23, ground := Ground.phase }, { on := 24, ground := Ground.phase }, { on := 25, ground := Ground.phase }], guard := none }) rfl (fun K hK => ?_) AllReadyH.nil
            go_simp
            refine hK.out _ _ ?_ (fun hHeld => ?_)
            · (refine hS _ ?_; first | with_reducible assumption | exact Moves.alloc (by with_reducible assumption) _ | exact Moves.setCell (by with_reducible assumption) (.inr (Nat.le_refl _)) _)
            clear hK K
            try simp only [Act.put, List.setIfInBounds_toArray, List.set_cons_zero, List.set_cons_succ]
            refine wpAnyH_done (by kernel_rfl) ?_ _
            refine NoPanic.normal ?_
            rw [take_map _ hy] at hG8
            go_wp2_with fail
            go_roundw
            case rel => exact ⟨j + 1, _, by omega, by go_num, M8.setCell (.inr (Nat.le_refl _)) _, heap_set (i := 1) qc8 _, hG8.setCol qc8 _⟩
            case measure => simp [intOf]; omega
          · go_simp
            refine (rcanonC_w wr _ _ _ _ _ _ _ HVC.out md).mono ?_
            rintro _ w5 ⟨ad6, n6, c6, rfl, hC5, m5, m6⟩
            have mo5 : Moves [] wo w5 := mo.then m5
            have f5 := m6.cell f1
            have f6 := (m6.alloc (.cells #[.int .i64 y.t, .int .i64 (pcanon y.v).kind, .slice ad6 n6 c6, .float .f64 (pcanon y.v).n] 79)).cell f1
            have hvn := vers_new w5 (.int .i64 y.t) _ _ _ (pcanonV y) ⟨_, rfl, hC5⟩
            have hG7 := HGV.out.moves0 (m6.alloc (.cells #[.int .i64 y.t, .int .i64 (pcanon y.v).kind, .slice ad6 n6 c6, .float .f64 (pcanon y.v).n] 79))
            have hM7 := mo5.alloc (.cells #[.int .i64 y.t, .int .i64 (pcanon y.v).kind, .slice ad6 n6 c6, .float .f64 (pcanon y.v).n] 79)
            have qc7 := (m6.alloc (.cells #[.int .i64 y.t, .int .i64 (pcanon y.v).kind, .slice ad6 n6 c6, .float .f64 (pcanon y.v).n] 79)).at qc (by simp)
            refine hK.out _ _ ?_ (fun hHeld => ?_)
            · (refine hS _ ?_; first | with_reducible assumption | exact Moves.alloc (by with_reducible assumption) _ | exact Moves.setCell (by with_reducible assumption) (.inr (Nat.le_refl _)) _)
            clear hK K
            try simp only [Act.put, List.setIfInBounds_toArray, List.set_cons_zero, List.set_cons_succ]
            refine wpAnyH_take (i := 23) (oi := { dst := some 60, op := Op.build 79 #[(0, Operand.tmp 48), (1, Operand.tmp 59)], type := 79, pos := "ref.go:38", after := #[{ on := 11, ground := Ground.data }, { on := 22, ground := Ground.data }], guard := none }) (v := ?_) rfl (by kernel_rfl) (by kernel_rfl) (by kernel_rfl) (fun _ _ _ h => h) (Or.inl ⟨by rfl, ?_⟩) (by assumption) ?_
            rotate_left
            · (intro w hSw; (try dsimp only at hSw); go_simp; try (with_reducible rfl))
            try simp only [Act.put, List.setIfInBounds_toArray, List.set_cons_zero, List.set_cons_succ]
            refine wpAnyH_ready (rs := [1, 24]) (by kernel_rfl) (by simp) ?_
            refine AllReadyH.cons (o := { dst := some 38, op := Op.load 31 (Operand.tmp 37), type := 31, pos := "ref.go:38", after := #[{ on := 0, ground := Ground.data }], guard := none }) rfl (fun K hK => ?_) (AllReadyH.cons (o := { dst := some 61, op := Op.buildSlice 31 1 #[(0, Operand.tmp 60)], type := 31, pos := "ref.go:38", after := #[{ on := 23, ground := Ground.data }], guard := none }) rfl (fun K hK => ?_) AllReadyH.nil)
            · go_simp
              refine hK.out _ _ ?_ (fun hHeld => ?_)
              · (refine hS _ ?_; first | with_reducible assumption | exact Moves.alloc (by with_reducible assumption) _ | exact Moves.setCell (by with_reducible assumption) (.inr (Nat.le_refl _)) _)
              clear hK K
              try simp only [Act.put, List.setIfInBounds_toArray, List.set_cons_zero, List.set_cons_succ]
              refine wpAnyH_ready (rs := [24]) (by kernel_rfl) (by simp) ?_
              refine AllReadyH.cons (o := { dst := some 61, op := Op.buildSlice 31 1 #[(0, Operand.tmp 60)], type := 31, pos := "ref.go:38", after := #[{ on := 23, ground := Ground.data }], guard := none }) rfl (fun K hK => ?_) AllReadyH.nil
              go_simp
              refine hK.out _ _ ?_ (fun hHeld => ?_)
              · (refine hS _ ?_; first | with_reducible assumption | exact Moves.alloc (by with_reducible assumption) _ | exact Moves.setCell (by with_reducible assumption) (.inr (Nat.le_refl _)) _)
              clear hK K
              try simp only [Act.put, List.setIfInBounds_toArray, List.set_cons_zero, List.set_cons_succ]
              refine wpAnyH_ready (rs := [25]) (by kernel_rfl) (by simp) ?_
              refine AllReadyH.cons (o := { dst := some 62, op := Op.call { callee := Callee.builtin Builtin.append, args := #[Operand.tmp 38, Operand.tmp 61], argTypes := #[31, 31] }, type := 31, pos := "ref.go:38", after := #[{ on := 1, ground := Ground.data }, { on := 24, ground := Ground.data }, { on := 22, ground := Ground.chain }], guard := none }) rfl (fun K hK => ?_) AllReadyH.nil
              refine growV_step (.tmp 38) (.tmp 61) rfl _ _ ((x.l.take j).map pcanonV) [pcanonV y] rfl rfl (by rfl) hG7 hvn hM7 hbd ?_
              intro v8 w8 hG8 M8 m8 s8 l8
              have hsl := hG8.open
              obtain ⟨ad8, n8, cap8, rfl, hn8⟩ := hsl
              have qc8 := m8.at qc7 hneb
              obtain ⟨e80, e81, fz0, fz1⟩ := pair_frozen qc8
              refine hK.out _ _ ?_ (fun hHeld => ?_)
              · (refine hS _ ?_; first | with_reducible assumption | exact Moves.alloc (by with_reducible assumption) _ | exact Moves.setCell (by with_reducible assumption) (.inr (Nat.le_refl _)) _)
              clear hK K
              try simp only [Act.put, List.setIfInBounds_toArray, List.set_cons_zero, List.set_cons_succ]
              refine wpAnyH_take (i := 26) (oi := { dst := some 63, op := Op.fieldAddr 33 (Operand.tmp 5) 1, type := 0, pos := "ref.go:38", after := #[{ on := 0, ground := Ground.phase }, { on := 1, ground := Ground.phase }, { on := 2, ground := Ground.phase }, { on := 3, ground := Ground.phase }, { on := 4, ground := Ground.phase }, { on := 5, ground := Ground.phase }, { on := 6, ground := Ground.phase }, { on := 7, ground := Ground.phase }, { on := 8, ground := Ground.phase }, { on := 9, ground := Ground.phase }, { on := 10, ground := Ground.phase }, { on := 11, ground := Ground.phase }, { on := 12, ground := Ground.phase }, { on := 13, ground := Ground.phase }, { on := 14, ground := Ground.phase }, { on := 15, ground := Ground.phase }, { on := 16, ground := Ground.phase }, { on := 17, ground := Ground.phase }, { on := 18, ground := Ground.phase }, { on := 19, ground := Ground.phase }, { on := 20, ground := Ground.phase }, { on := 21, ground := Ground.phase }, { on := 22, ground := Ground.phase }, { on := 23, ground := Ground.phase }, { on := 24, ground := Ground.phase }, { on := 25, ground := Ground.phase }], guard := none }) (v := ?_) rfl (by kernel_rfl) (by kernel_rfl) (by kernel_rfl) (fun _ _ _ h => h) (Or.inl ⟨by rfl, ?_⟩) (by assumption) ?_
              rotate_left
              · (intro w hSw; (try dsimp only at hSw); go_simp; try (with_reducible rfl))
              try simp only [Act.put, List.setIfInBounds_toArray, List.set_cons_zero, List.set_cons_succ]
              refine wpAnyH_ready (rs := [27]) (by kernel_rfl) (by simp) ?_
              refine AllReadyH.cons (o := { dst := none, op := Op.store 31 (Operand.tmp 63) (Operand.tmp 62), type := 0, pos := "ref.go:38", after := #[{ on := 26, ground := Ground.data }, { on := 25, ground := Ground.data }, { on := 25, ground := Ground.chain }, { on := 0, ground := Ground.phase }, { on := 1, ground := Ground.phase }, { on := 2, ground := Ground.phase }, { on := 3, ground := Ground.phase }, { on := 4, ground := Ground.phase }, { on := 5, ground := Ground.phase }, { on := 6, ground := Ground.phase }, { on := 7, ground := Ground.phase }, { on := 8, ground := Ground.phase }, { on := 9, ground := Ground.phase }, { on := 10, ground := Ground.phase }, { on := 11, ground := Ground.phase }, { on := 12, ground := Ground.phase }, { on := 13, ground := Ground.phase }, { on := 14, ground := Ground.phase }, { on := 15, ground := Ground.phase }, { on := 16, ground := Ground.phase }, { on := 17, ground := Ground.phase }, { on := 18, ground := Ground.phase }, { on := 19, ground := Ground.phase }, { on := 20, ground := Ground.phase }, { on := 21, ground := Ground.phase }, { on := 22, ground := Ground.phase }, { on := 23, ground := Ground.phase }, { on := 24, ground := Ground.phase }, { on := 25, ground := Ground.phase }], guard := none }) rfl (fun K hK => ?_) AllReadyH.nil
              go_simp
              refine hK.out _ _ ?_ (fun hHeld => ?_)
              · (refine hS _ ?_; first | with_reducible assumption | exact Moves.alloc (by with_reducible assumption) _ | exact Moves.setCell (by with_reducible assumption) (.inr (Nat.le_refl _)) _)
              clear hK K
              try simp only [Act.put, List.setIfInBounds_toArray, List.set_cons_zero, List.set_cons_succ]
              refine wpAnyH_done (by kernel_rfl) ?_ _
              refine NoPanic.normal ?_
              rw [take_map _ hy] at hG8
              go_wp2_with fail
              go_roundw
              case rel => exact ⟨j + 1, _, by omega, by go_num, M8.setCell (.inr (Nat.le_refl _)) _, heap_set (i := 1) qc8 _, hG8.setCol qc8 _⟩
              case measure => simp [intOf]; omega
            · go_simp
              refine hK.out _ _ ?_ (fun hHeld => ?_)
              · (refine hS _ ?_; first | with_reducible assumption | exact Moves.alloc (by with_reducible assumption) _ | exact Moves.setCell (by with_reducible assumption) (.inr (Nat.le_refl _)) _)
              clear hK K
              try simp only [Act.put, List.setIfInBounds_toArray, List.set_cons_zero, List.set_cons_succ]
              refine wpAnyH_ready (rs := [1]) (by kernel_rfl) (by simp) ?_
              refine AllReadyH.cons (o := { dst := some 38, op := Op.load 31 (Operand.tmp 37), type := 31, pos := "ref.go:38", after := #[{ on := 0, ground := Ground.data }], guard := none }) rfl (fun K hK => ?_) AllReadyH.nil
              go_simp
              refine hK.out _ _ ?_ (fun hHeld => ?_)
              · (refine hS _ ?_; first | with_reducible assumption | exact Moves.alloc (by with_reducible assumption) _ | exact Moves.setCell (by with_reducible assumption) (.inr (Nat.le_refl _)) _)
              clear hK K
              try simp only [Act.put, List.setIfInBounds_toArray, List.set_cons_zero, List.set_cons_succ]
              refine wpAnyH_ready (rs := [25]) (by kernel_rfl) (by simp) ?_
              refine AllReadyH.cons (o := { dst := some 62, op := Op.call { callee := Callee.builtin Builtin.append, args := #[Operand.tmp 38, Operand.tmp 61], argTypes := #[31, 31] }, type := 31, pos := "ref.go:38", after := #[{ on := 1, ground := Ground.data }, { on := 24, ground := Ground.data }, { on := 22, ground := Ground.chain }], guard := none }) rfl (fun K hK => ?_) AllReadyH.nil
              refine growV_step (.tmp 38) (.tmp 61) rfl _ _ ((x.l.take j).map pcanonV) [pcanonV y] rfl rfl (by rfl) hG7 hvn hM7 hbd ?_
              intro v8 w8 hG8 M8 m8 s8 l8
              have hsl := hG8.open
              obtain ⟨ad8, n8, cap8, rfl, hn8⟩ := hsl
              have qc8 := m8.at qc7 hneb
              obtain ⟨e80, e81, fz0, fz1⟩ := pair_frozen qc8
              refine hK.out _ _ ?_ (fun hHeld => ?_)
              · (refine hS _ ?_; first | with_reducible assumption | exact Moves.alloc (by with_reducible assumption) _ | exact Moves.setCell (by with_reducible assumption) (.inr (Nat.le_refl _)) _)
              clear hK K
              try simp only [Act.put, List.setIfInBounds_toArray, List.set_cons_zero, List.set_cons_succ]
              refine wpAnyH_take (i := 26) (oi := { dst := some 63, op := Op.fieldAddr 33 (Operand.tmp 5) 1, type := 0, pos := "ref.go:38", after := #[{ on := 0, ground := Ground.phase }, { on := 1, ground := Ground.phase }, { on := 2, ground := Ground.phase }, { on := 3, ground := Ground.phase }, { on := 4, ground := Ground.phase }, { on := 5, ground := Ground.phase }, { on := 6, ground := Ground.phase }, { on := 7, ground := Ground.phase }, { on := 8, ground := Ground.phase }, { on := 9, ground := Ground.phase }, { on := 10, ground := Ground.phase }, { on := 11, ground := Ground.phase }, { on := 12, ground := Ground.phase }, { on := 13, ground := Ground.phase }, { on := 14, ground := Ground.phase }, { on := 15, ground := Ground.phase }, { on := 16, ground := Ground.phase }, { on := 17, ground := Ground.phase }, { on := 18, ground := Ground.phase }, { on := 19, ground := Ground.phase }, { on := 20, ground := Ground.phase }, { on := 21, ground := Ground.phase }, { on := 22, ground := Ground.phase }, { on := 23, ground := Ground.phase }, { on := 24, ground := Ground.phase }, { on := 25, ground := Ground.phase }], guard := none }) (v := ?_) rfl (by kernel_rfl) (by kernel_rfl) (by kernel_rfl) (fun _ _ _ h => h) (Or.inl ⟨by rfl, ?_⟩) (by assumption) ?_
              rotate_left
              · (intro w hSw; (try dsimp only at hSw); go_simp; try (with_reducible rfl))
              try simp only [Act.put, List.setIfInBounds_toArray, List.set_cons_zero, List.set_cons_succ]
              refine wpAnyH_ready (rs := [27]) (by kernel_rfl) (by simp) ?_
              refine AllReadyH.cons (o := { dst := none, op := Op.store 31 (Operand.tmp 63) (Operand.tmp 62), type := 0, pos := "ref.go:38", after := #[{ on := 26, ground := Ground.data }, { on := 25, ground := Ground.data }, { on := 25, ground := Ground.chain }, { on := 0, ground := Ground.phase }, { on := 1, ground := Ground.phase }, { on := 2, ground := Ground.phase }, { on := 3, ground := Ground.phase }, { on := 4, ground := Ground.phase }, { on := 5, ground := Ground.phase }, { on := 6, ground := Ground.phase }, { on := 7, ground := Ground.phase }, { on := 8, ground := Ground.phase }, { on := 9, ground := Ground.phase }, { on := 10, ground := Ground.phase }, { on := 11, ground := Ground.phase }, { on := 12, ground := Ground.phase }, { on := 13, ground := Ground.phase }, { on := 14, ground := Ground.phase }, { on := 15, ground := Ground.phase }, { on := 16, ground := Ground.phase }, { on := 17, ground := Ground.phase }, { on := 18, ground := Ground.phase }, { on := 19, ground := Ground.phase }, { on := 20, ground := Ground.phase }, { on := 21, ground := Ground.phase }, { on := 22, ground := Ground.phase }, { on := 23, ground := Ground.phase }, { on := 24, ground := Ground.phase }, { on := 25, ground := Ground.phase }], guard := none }) rfl (fun K hK => ?_) AllReadyH.nil
              go_simp
              refine hK.out _ _ ?_ (fun hHeld => ?_)
              · (refine hS _ ?_; first | with_reducible assumption | exact Moves.alloc (by with_reducible assumption) _ | exact Moves.setCell (by with_reducible assumption) (.inr (Nat.le_refl _)) _)
              clear hK K
              try simp only [Act.put, List.setIfInBounds_toArray, List.set_cons_zero, List.set_cons_succ]
              refine wpAnyH_done (by kernel_rfl) ?_ _
              refine NoPanic.normal ?_
              rw [take_map _ hy] at hG8
              go_wp2_with fail
              go_roundw
              case rel => exact ⟨j + 1, _, by omega, by go_num, M8.setCell (.inr (Nat.le_refl _)) _, heap_set (i := 1) qc8 _, hG8.setCol qc8 _⟩
              case measure => simp [intOf]; omega
        · have hj3 : ¬ (j : Int) < n2 := by omega
          obtain rfl : j = n2 := by omega
          have hfull : (x.l.take j).map pcanonV = (pcanonC x).l := by rw [Hn.out, List.take_length]; rfl
          have hGF := HGV.out
          rw [hfull] at hGF
          obtain ⟨s0, s1⟩ := one_cell (mq.at q3 (by simp))
          obtain ⟨g0, g1⟩ := pair_cells qc
          have hcn := cols_new wr (.string x.name) _ (pcanonC x) ⟨_, rfl, hGF.at⟩
          have ma : Moves [] wr (wr.alloc (.cells #[.string x.name, .slice ad4 n4 cap4] 33)) := (Moves.refl _ _).alloc _
          have hGC := HG.out.moves0 (mq.then ma)
          have hbd : ((R.take k).map pcanonC).length + [pcanonC x].length ≤ 1048576 := by simp; omega
          have hb3 := ma.at (mq.at q3 (by simp)) (by simp)
          have hb2 := ma.at (mq.at q2 (by simp)) (by simp)
          have hb1 := ma.at (mq.at q1 (by simp)) (by simp)
          have hn3 := hGC.neT hb3 (by decide)
          have hn2 := hGC.neT hb2 (by decide)
          have hn1 := hGC.neT hb1 (by decide)
          have MR2 := mr.then (mq.then ma)
          clear HV hfull
          go_wp2_with (at_builtin; refine growC_append (.tmp 65) (.tmp 67) rfl _ _ ((R.take k).map pcanonC) [pcanonC x] rfl rfl (by rfl) hGC hcn MR2 hbd ?_; intro v8 w8 hG8 M8 m8 s8 l8; have k8 := m8.at hb3 hn3; have k7 := m8.at hb2 hn2; have k6 := m8.at hb1 hn1; obtain ⟨f0, f1⟩ := one_cell k8; have hsl := hG8.open; obtain ⟨ad9, n9, cap9, rfl, hn9⟩ := hsl)
          rw [take_map _ HX.out] at hG8
          go_roundw
          case rel => exact ⟨k + 1, _, by omega, by go_num, M8.setCell (.inr (by show _ ≤ _ + 1 + 1; omega)) _, (moves_set _ _ _ _).at k6 (by simp; omega), (moves_set _ _ _ _).at k7 (by simp), set_one k8 _, hG8.setRow k8 _, fun h => absurd h (by omega)⟩
          case measure => simp [intOf]; omega
    · have hk3 : ¬ (k : Int) < n := by omega
      obtain rfl : k = n := by omega
      have hG := HG.out
      rw [HN.out, List.take_length] at hG
      obtain ⟨s0, s1⟩ := one_cell q3
      obtain ⟨t0, t1⟩ := one_cell q2
      have HG2 : Hid (GrowC w wo (.slice ad3 n3 cap3) (R.map pcanonC)) := hG
      clear hG HG
      go_wp2_with fail
      try simp only [Exit.inBlock, Exit.then]
      exact bodyPost_ret (ret_row rfl _ _ _ _ rfl (set_one q2 _)) rfl ⟨_, _, _, rfl, HG2.out.setRow q2 _, mr.setCell (.inr (by show _ ≤ _ + 1; omega)) _, fun hR => by have h0 := HZ.out (by rw [HN.out, hR]; rfl); simp at h0; exact ⟨h0.1, h0.2.2⟩⟩
end Go.Proofs.Ytbeobeedgeohlaa
