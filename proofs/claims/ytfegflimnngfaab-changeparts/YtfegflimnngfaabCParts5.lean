/-
  ChangeParts: rows with nothing in them that has no meaning; the law's walk.
-/
import Derived.Test.YtfegflimnngfaabCChgs5
import Derived.Test.YtfegflimnngfaabCKnown5
import Derived.Test.YtfegflimnngfaabCRef6
namespace Go.Proofs.Ytfegflimnngfaab
open Go.RowKit

/-- Rows with nothing in them that has no meaning. -/
def Canon (R : List Pcol) : Prop := ∀ c ∈ R, c.l.map pcanonV = c.l
theorem canon_copy (R : List Pcol) : Canon (pcopy R) := by
  intro c hc
  unfold pcopy at hc
  obtain ⟨y, _, rfl⟩ := List.mem_map.1 hc
  show (y.l.map pcanonV).map pcanonV = y.l.map pcanonV
  rw [List.map_map]
  exact List.map_congr_left fun x _ => pcanonV_twice x
theorem canon_vers {R : List Pcol} (h : Canon R) (s : ByteArray) : (pvers R s).map pcanonV = pvers R s := by
  unfold pvers
  cases hq : R.find? (fun c => neq c.name s) with
  | none => rfl
  | some c => exact h c (List.mem_of_find?_eq_some hq)
theorem map_self {l : List Pver} : l.map pcanonV = l ↔ ∀ x ∈ l, pcanonV x = x := by
  constructor
  · intro h x hx
    obtain ⟨i, hi, rfl⟩ := List.mem_iff_getElem.1 hx
    have := congrArg (fun k => k[i]?) h
    simp [hi] at this
    exact this
  · intro h
    exact (List.map_congr_left h).trans (List.map_id l)
theorem canon_with {C : List Pcol} (h : Canon C) (s : ByteArray) {l : List Pver} (hl : l.map pcanonV = l) : Canon (pwith C s l) := by
  intro c hc
  unfold pwith at hc
  simp only [List.mem_append] at hc
  rcases hc with (hc | hc) | hc
  · exact h c (List.mem_filter.1 hc).1
  · split at hc
    · simp at hc
    · simp at hc; subst hc; exact hl
  · exact h c (List.mem_filter.1 hc).1
theorem canon_pput {l : List Pver} (h : l.map pcanonV = l) {v : Pver} (hv : pcanonV v = v) : (pput l v).map pcanonV = pput l v := by
  rw [map_self] at h ⊢
  intro x hx
  unfold pput at hx
  have hx := List.mem_of_mem_take hx
  simp only [List.mem_append, List.mem_filter, List.mem_singleton] at hx
  rcases hx with (hx | hx) | hx
  · exact h x hx.1
  · subst hx; exact hv
  · exact h x hx.1
theorem canon_pdrop {l : List Pver} (h : l.map pcanonV = l) (t : Int) : (pdrop l t).map pcanonV = pdrop l t := by
  rw [map_self] at h ⊢
  intro x hx
  unfold pdrop at hx
  exact h x (List.mem_filter.1 hx).1
theorem canon_put (R : List Pcol) (s : ByteArray) (t : Int) (p : Pv) : Canon (pPut R s t p) := by
  unfold pPut
  split
  · exact canon_with (canon_copy R) s (canon_pput (canon_vers (canon_copy R) s) (by unfold pcanonV; simp only [pcanon_pcanon]))
  · intro c hc; simp at hc
theorem canon_drop (R : List Pcol) (s : ByteArray) (t : Int) : Canon (pDrop R s t) := canon_with (canon_copy R) s (canon_pdrop (canon_vers (canon_copy R) s) t)
theorem canon_dropCol (R : List Pcol) (s : ByteArray) : Canon (pDropCol R s) := canon_with (canon_copy R) s rfl
theorem pcopy_self {R : List Pcol} (hr : pright R = true) (h : Canon R) : pcopy R = R := by
  rw [pcopy_of hr]
  refine (List.map_congr_left fun c hc => ?_).trans (List.map_id R)
  show (⟨c.name, c.l.map pcanonV⟩ : Pcol) = c
  rw [h c hc]

theorem canon_ap (R : List Pcol) (c : Pchg) : Canon (cAp R c) := by
  have h0 : Canon [] := fun c hc => by simp at hc
  unfold cAp
  split
  · exact canon_put _ _ _ _
  · split
    · exact canon_drop _ _ _
    · split
      · exact canon_dropCol _ _
      · split
        · unfold cAdd
          split
          · exact canon_put _ _ _ _
          · exact h0
        · exact h0
theorem cListE_zero {cs : List Pchg} (h8 : cs.length ≤ 8) (h : ∀ c ∈ cs, cRight c = 0) : cListE cs = 0 := by
  unfold cListE
  rw [if_neg (by omega)]
  have : (cs.map cRight).find? (fun e => e != 0) = none := List.find?_eq_none.2 fun e he => by
    obtain ⟨c, hc, rfl⟩ := List.mem_map.1 he
    simp [h c hc]
  rw [this]
  rfl
theorem apply_cases (R : List Pcol) {c : Pchg} (h : cRight c = 0) : (cApE (pcopy R) c = 0 ∧ cApplyE R [c] = 0 ∧ cApply R [c] = cAp (pcopy R) c) ∨ (cApE (pcopy R) c ≠ 0 ∧ cApplyE R [c] = cApE (pcopy R) c) := by
  have hl : cListE [c] = 0 := cListE_zero (by simp) (by simpa using h)
  by_cases h0 : cApE (pcopy R) c = 0
  · exact .inl ⟨h0, apply_one h h0⟩
  · refine .inr ⟨h0, ?_⟩
    unfold cApplyE
    rw [if_pos hl, cFold_cons, if_neg h0]

set_option maxRecDepth 100000 in
set_option maxHeartbeats 16000000 in
theorem partsLaw_w (u0 u1 : Value) (w : World) (h0 : ChArgs w u0) (h1 : ChArgs w u1) :
    Calls Try.prog 3 #[u0, u1] w fun e w' => e = .returned (.bool true) ∧ Moves [] w w' := by
  have hmade := fun w1 (m1 : Moves [] w w1) => made5_w w w1 u0 h0 m1
  have hchg := fun w1 (m1 : Moves [] w w1) => keepChanges_w w w1 u1 h1 m1
  obtain ⟨adv, nv, cv, rfl, _⟩ := h0
  obtain ⟨adu, nu, cu, rfl, _⟩ := h1
  go_enter Try.func3, Try.ntmps3
  go_wp2_with (first | (go_at_call 6; refine (hmade _ (Moves.refl _ _)).mono ?_; rintro _ wm ⟨adr, nr, capr, R, rfl, hR, hRr, mm⟩; have HR : Hid (RowAt wm (.agg #[.slice adr nr capr]) R) := hR; have HRr : Hid (pright R = true) := hRr; clear hR hRr; have m3 : Moves [] wm (wm.alloc (.cells #[.slice adr nr capr] 25)) := (Moves.refl _ _).alloc _; have q3 := heap_alloc_new wm (.cells #[.slice adr nr capr] 25)) | (go_at_call 7; refine (hchg _ (mm.then m3)).mono ?_; rintro _ wc ⟨adc, nc, capc, cs, rfl, hC, hnc, h8, hcr, mc⟩; have HC : Hid (ChgsAt wc adc cs) := hC; have Hnc : Hid (nc = cs.length) := hnc; have H8 : Hid (cs.length ≤ 8) := h8; have HCR : Hid (∀ c ∈ cs, cRight c = 0) := hcr; clear hC hnc h8 hcr; have q3c := mc.at q3 (by simp); obtain ⟨r0, _⟩ := one_cell q3c))
  have hnc8 : nc ≤ 8 := by rw [Hnc.out]; exact H8.out
  have hL0 := cListE_zero H8.out HCR.out
  have hAp := cApply_w wc wc (.agg #[.slice adr nr capr]) R adc nc capc cs (HR.out.moves (m3.then mc)) HC.out Hnc.out (by omega) (Moves.refl _ _)
  obtain ⟨E, hE⟩ : ∃ E, cApplyE R cs = E := ⟨_, rfl⟩
  obtain ⟨X, hX⟩ : ∃ X, cApply R cs = X := ⟨_, rfl⟩
  have HEX : Hid (cFold cs (pcopy R) = (E, X)) := by
    unfold Hid
    rw [← hE, ← hX]
    unfold cApplyE cApply
    rw [if_pos hL0, if_pos hL0]
  rw [hE, hX] at hAp
  clear hE hX hL0
  go_wp2_with (go_at_call 8; refine hAp.mono ?_; rintro _ wa ⟨adx, nx, capx, rfl, hx, ma⟩; have HX : Hid (RowAt wa (.agg #[.slice adx nx capx]) X) := ⟨_, rfl, hx⟩; have Hnx : Hid (nx = X.length) := hx.len; clear hx; have mx : Moves [] wa (wa.alloc (.cells #[.slice adx nx capx] 25)) := (Moves.refl _ _).alloc _; have qx := heap_alloc_new wa (.cells #[.slice adx nx capx] 25); obtain ⟨rx, _⟩ := one_cell ((ma.then mx).at q3c (by simp)))
  obtain ⟨w5, hw5⟩ : ∃ w5, wa.alloc (.cells #[.slice adx nx capx] 25) = w5 := ⟨_, rfl⟩
  rw [hw5] at mx qx rx
  try rw [hw5]
  obtain ⟨px, hpx⟩ : ∃ px, wa.heap.size = px := ⟨_, rfl⟩
  rw [hpx] at qx ⊢
  obtain ⟨w6, hw6⟩ : ∃ w6, w5.alloc (.cells #[.slice adr nr capr] 25) = w6 := ⟨_, rfl⟩
  have m6 : Moves [] w5 w6 := by rw [← hw6]; exact (Moves.refl _ _).alloc _
  have q6 : w6.heap[w5.heap.size]? = some (.cells #[.slice adr nr capr] 25 (0, 0)) := by rw [← hw6]; exact heap_alloc_new _ _
  try rw [hw6]
  have hs5 : w5.heap.size = px + 1 := by rw [← hw5, ← hpx]; simp
  obtain ⟨py, hpy⟩ : ∃ py, px + 1 = py := ⟨_, rfl⟩
  rw [hs5, hpy] at q6
  rw [hpy]
  have hpy5 : w5.heap.size ≤ py := by omega
  have M5 : Hid (Moves [] w w5) := ((mm.then m3).then mc).then (ma.then mx)
  have HX5 : Hid (RowAt w5 (.agg #[.slice adx nx capx]) X) := HX.out.moves mx
  have HR6 : Hid (RowAt w6 (.agg #[.slice adr nr capr]) R) := HR.out.moves (((m3.then mc).then (ma.then mx)).then m6)
  have HC5 : Hid (ChgsAt w5 adc cs) := HC.out.moves (ma.then mx)
  have hlx : px < w5.heap.size := lt_of_block qx
  clear hw5 hw6 hpx hs5 HX HR HC hAp hmade hchg mm m3 mc ma mx q3 q3c r0 rx
  go_loopw [10, 11] (fun f i wr => ∃ (k : Nat) (lv : Value) (Y : List Pcol) (F : Int), k ≤ nc ∧ i = .int .i64 k ∧ f = .int .i64 F ∧ Moves [] w5 wr ∧ wr.heap[py]? = some (.cells #[lv] 25 (0, 0)) ∧ RowAt wr (.agg #[lv]) Y ∧ pright Y = true ∧ ((F = 0 ∧ cFold (cs.drop k) (pcopy Y) = cFold cs (pcopy R)) ∨ (F ≠ 0 ∧ cFold cs (pcopy R) = (F, [])))) (fun _ i _ => nc - (intOf i).toNat)
  case atStart => exact ⟨0, _, R, 0, Nat.zero_le _, rfl, rfl, m6, q6, HR6.out, HRr.out, .inl ⟨rfl, by simp⟩⟩
  case round =>
    obtain ⟨k, lv, Y, F, hk, rfl, rfl, mr, qy', hY, hYr, hF⟩ := hrel
    obtain ⟨_, elv, hCy⟩ := id hY
    simp at elv
    subst elv
    obtain ⟨ady, capy, elv, _⟩ := hCy.slice
    obtain ⟨ny, hny⟩ : ∃ ny, Hid (ny = Y.length) := ⟨_, rfl⟩
    rw [← hny.out] at elv
    subst elv
    have HY : Hid (RowAt wr (.agg #[.slice ady ny capy]) Y) := hY
    have HYr : Hid (pright Y = true) := hYr
    have HF : Hid ((F = 0 ∧ cFold (cs.drop k) (pcopy Y) = cFold cs (pcopy R)) ∨ (F ≠ 0 ∧ cFold cs (pcopy R) = (F, []))) := hF
    obtain ⟨y0, y1⟩ := one_cell qy'
    obtain ⟨x0, _⟩ := one_cell (mr.at qx (by simp))
    clear hY hYr hF hCy q6 HR6
    by_cases hgo : k < nc ∧ F = 0
    · obtain ⟨hlt, rfl⟩ := hgo
      have hlt' : (k : Int) < nc := by omega
      have hFc : cFold (cs.drop k) (pcopy Y) = cFold cs (pcopy R) := by
        rcases HF.out with ⟨_, h⟩ | ⟨h, _⟩
        · exact h
        · exact absurd rfl h
      obtain ⟨cc, hcc⟩ : ∃ cc, cs[k]? = some cc := ⟨_, List.getElem?_eq_getElem (by rw [← Hnc.out]; exact hlt)⟩
      have hdr : cs.drop k = cc :: cs.drop (k + 1) := by
        have hkl := (List.getElem?_eq_some_iff.1 hcc).1
        rw [List.drop_eq_getElem_cons hkl, (List.getElem?_eq_some_iff.1 hcc).2]
      rw [hdr, cFold_cons] at hFc
      have hcs := apply_cases Y (HCR.out cc (List.mem_of_getElem? hcc))
      obtain ⟨g, off, a, n2, c2, eg, e0, e1, e2, e3, e4, e5, hv⟩ := HC5.out k cc hcc
      subst eg
      obtain ⟨wz, hwz⟩ : ∃ wz, wr.alloc (.cells #[.slice none 0 0] 25) = wz := ⟨_, rfl⟩
      have mz : Moves [] wr wz := by rw [← hwz]; exact (Moves.refl _ _).alloc _
      have qz0 : wz.heap[wr.heap.size]? = some (.cells #[.slice none 0 0] 25 (0, 0)) := by rw [← hwz]; exact heap_alloc_new _ _
      have hlz : py < wr.heap.size := lt_of_block qy'
      have hl5 : w5.heap.size ≤ wr.heap.size := mr.size
      obtain ⟨pz, hpz⟩ : ∃ pz, wr.heap.size = pz := ⟨_, rfl⟩
      have qz := qz0
      rw [hpz] at qz hlz hl5
      have MZ : Hid (Moves [] w5 wz) := mr.then mz
      have HVz : Hid (VA wz [.int .i64 cc.v.kind, .slice a n2 c2, .float .f64 cc.v.n] cc.v) := hv.moves MZ.out
      have HYz : Hid (RowAt wz (.agg #[.slice ady ny capy]) Y) := HY.out.moves mz
      have qy := mz.at qy' (by simp)
      obtain ⟨yz0, _⟩ := one_cell qy
      have z0 := MZ.out.cell e0
      have z1 := MZ.out.cell e1
      have z2 := MZ.out.cell e2
      have z3 := MZ.out.cell e3
      have z4 := MZ.out.cell e4
      have z5 := MZ.out.cell e5
      have hS : ∀ w', Moves [] wz w' → ((fun w' => w'.cell? ⟨py, 0, none⟩ = some (.slice ady ny capy) ∧ w'.cell? ⟨g, off + k * 6, none⟩ = some (.int .i64 cc.kind) ∧ w'.cell? ⟨g, off + k * 6 + 1, none⟩ = some (.string cc.col) ∧ w'.cell? ⟨g, off + k * 6 + 2, none⟩ = some (.int .i64 cc.t) ∧ w'.cell? ⟨g, off + k * 6 + 3, none⟩ = some (.int .i64 cc.v.kind) ∧ w'.cell? ⟨g, off + k * 6 + 4, none⟩ = some (.slice a n2 c2) ∧ w'.cell? ⟨g, off + k * 6 + 5, none⟩ = some (.float .f64 cc.v.n)) w') := fun w' m' => ⟨m'.cell yz0, m'.cell z0, m'.cell z1, m'.cell z2, m'.cell z3, m'.cell z4, m'.cell z5⟩
      have hS2 : ∀ w' u, Moves [] wz w' → ((fun w' => w'.cell? ⟨py, 0, none⟩ = some (.slice ady ny capy) ∧ w'.cell? ⟨g, off + k * 6, none⟩ = some (.int .i64 cc.kind) ∧ w'.cell? ⟨g, off + k * 6 + 1, none⟩ = some (.string cc.col) ∧ w'.cell? ⟨g, off + k * 6 + 2, none⟩ = some (.int .i64 cc.t) ∧ w'.cell? ⟨g, off + k * 6 + 3, none⟩ = some (.int .i64 cc.v.kind) ∧ w'.cell? ⟨g, off + k * 6 + 4, none⟩ = some (.slice a n2 c2) ∧ w'.cell? ⟨g, off + k * 6 + 5, none⟩ = some (.float .f64 cc.v.n)) (w'.setCell ⟨pz, 0, none⟩ u)) := fun w' u m' => by
        have hm : Moves [] w5 (w'.setCell ⟨pz, 0, none⟩ u) := (MZ.out.then m').setCell (.inr (by show w5.heap.size ≤ pz; omega)) u
        obtain ⟨t0, _⟩ := one_cell ((moves_set w' pz 0 u).at (m'.at qy (by simp)) (by simp; omega))
        exact ⟨t0, hm.cell e0, hm.cell e1, hm.cell e2, hm.cell e3, hm.cell e4, hm.cell e5⟩
      obtain ⟨E1, hE1⟩ : ∃ E1, cApplyE Y [cc] = E1 := ⟨_, rfl⟩
      obtain ⟨P1, hP1⟩ : ∃ P1, cApply Y [cc] = P1 := ⟨_, rfl⟩
      have HE1 : Hid (cApplyE Y [cc] = E1) := hE1
      have HP1 : Hid (cApply Y [cc] = P1) := hP1
      have HP1r : Hid (pright P1 = true) := by unfold Hid; rw [← hP1]; exact cApply_right _ _
      have mW : Moves [] wz wz.drew := (Moves.refl _ _).drew
      clear e0 e1 e2 e3 e4 e5 hv hdr hcc
      go_wp2_with fail
      try rw [hwz]
      try rw [hpz]
      refine wp_some [34, 35, 36, 37, 38, 39, 40, 41, 42, 43, 10] (fun u w' => ∃ (ad7 : Option Addr) (n7 cap7 : Nat), u 10 = .int .i64 E1 ∧ w'.heap[pz]? = some (.cells #[.slice ad7 n7 cap7] 25 (0, 0)) ∧ RowAt w' (.agg #[.slice ad7 n7 cap7]) P1 ∧ Moves [] w5 w' ∧ w'.heap[py]? = some (.cells #[.slice ady ny capy] 25 (0, 0)) ∧ RowAt w' (.agg #[.slice ady ny capy]) Y) ?_ ?_
      · refine wp_region_noPanic ?_
        refine wp_region_held_drew (S := (fun w' => w'.cell? ⟨py, 0, none⟩ = some (.slice ady ny capy) ∧ w'.cell? ⟨g, off + k * 6, none⟩ = some (.int .i64 cc.kind) ∧ w'.cell? ⟨g, off + k * 6 + 1, none⟩ = some (.string cc.col) ∧ w'.cell? ⟨g, off + k * 6 + 2, none⟩ = some (.int .i64 cc.t) ∧ w'.cell? ⟨g, off + k * 6 + 3, none⟩ = some (.int .i64 cc.v.kind) ∧ w'.cell? ⟨g, off + k * 6 + 4, none⟩ = some (.slice a n2 c2) ∧ w'.cell? ⟨g, off + k * 6 + 5, none⟩ = some (.float .f64 cc.v.n))) (by kernel_rfl) ?_ (fun hHeld => ?_)
        · first | (go_keep; done) | first | exact hS _ mW | exact hS2 _ _ mW
        refine wpAnyH_take (i := 0) (oi := { dst := some 35, op := Op.load 25 (Operand.tmp 9), type := 25, pos := "law.go:153", after := #[], guard := none }) (v := ?_) rfl (by kernel_rfl) (by kernel_rfl) (by kernel_rfl) (fun _ _ _ h => h) (Or.inl ⟨by rfl, ?_⟩) (by assumption) ?_
        rotate_left
        · (intro w hSw; (try dsimp only at hSw); go_simp; try (with_reducible rfl))
        try simp only [Act.put, List.setIfInBounds_toArray, List.set_cons_zero, List.set_cons_succ]
        refine wpAnyH_take (i := 1) (oi := { dst := some 36, op := Op.move (Operand.tmp 6), type := 27, pos := "law.go:153", after := #[], guard := none }) (v := ?_) rfl (by kernel_rfl) (by kernel_rfl) (by kernel_rfl) (fun _ _ _ h => h) (Or.inl ⟨by rfl, ?_⟩) (by assumption) ?_
        rotate_left
        · (intro w hSw; (try dsimp only at hSw); go_simp; try (with_reducible rfl))
        try simp only [Act.put, List.setIfInBounds_toArray, List.set_cons_zero, List.set_cons_succ]
        refine wpAnyH_take (i := 2) (oi := { dst := some 37, op := Op.move (Operand.tmp 11), type := 3, pos := "law.go:153", after := #[], guard := none }) (v := ?_) rfl (by kernel_rfl) (by kernel_rfl) (by kernel_rfl) (fun _ _ _ h => h) (Or.inl ⟨by rfl, ?_⟩) (by assumption) ?_
        rotate_left
        · (intro w hSw; (try dsimp only at hSw); go_simp; try (with_reducible rfl))
        try simp only [Act.put, List.setIfInBounds_toArray, List.set_cons_zero, List.set_cons_succ]
        refine wpAnyH_take (i := 3) (oi := { dst := some 38, op := Op.indexAddr 27 (Operand.tmp 36) (Operand.tmp 37), type := 0, pos := "law.go:153", after := #[{ on := 1, ground := Ground.data }, { on := 2, ground := Ground.data }], guard := none }) (v := ?_) rfl (by kernel_rfl) (by kernel_rfl) (by kernel_rfl) (fun _ _ _ h => h) (Or.inl ⟨by rfl, ?_⟩) (by assumption) ?_
        rotate_left
        · (intro w hSw; (try dsimp only at hSw); go_simp; try (with_reducible rfl))
        try simp only [Act.put, List.setIfInBounds_toArray, List.set_cons_zero, List.set_cons_succ]
        refine wpAnyH_take (i := 4) (oi := { dst := some 39, op := Op.load 37 (Operand.tmp 38), type := 37, pos := "law.go:153", after := #[{ on := 3, ground := Ground.data }], guard := none }) (v := ?_) rfl (by kernel_rfl) (by kernel_rfl) (by kernel_rfl) (fun _ _ _ h => h) (Or.inl ⟨by rfl, ?_⟩) (by assumption) ?_
        rotate_left
        · (intro w hSw; (try dsimp only at hSw); go_simp; try (with_reducible rfl))
        try simp only [Act.put, List.setIfInBounds_toArray, List.set_cons_zero, List.set_cons_succ]
        refine wpAnyH_ready (rs := [5]) (by kernel_rfl) (by simp) ?_
        refine AllReadyH.cons (o := { dst := some 40, op := Op.buildSlice 27 1 #[(0, Operand.tmp 39)], type := 27, pos := "law.go:153", after := #[{ on := 4, ground := Ground.data }], guard := none }) rfl (fun K hK => ?_) AllReadyH.nil
        go_simp
        obtain ⟨w6, hw6⟩ : ∃ w6, (wz.alloc (.cells #[.int .i64 cc.kind, .string cc.col, .int .i64 cc.t, .int .i64 cc.v.kind, .slice a n2 c2, .float .f64 cc.v.n] 37)).drew = w6 := ⟨_, rfl⟩
        have m6 : Moves [] wz w6 := by rw [← hw6]; exact ((Moves.refl _ _).alloc _).drew
        have HCA : Hid (ChgsAt w6 (some ⟨wz.heap.size, 0, none⟩) [cc]) := by rw [← hw6]; exact (chgs_one wz cc a n2 c2 HVz.out).moves ((Moves.refl _ _).drew)
        rw [hw6]
        clear hw6
        replace mW := m6
        refine hK.out _ _ ?_ (fun hHeld => ?_)
        · first | exact hS _ mW | exact hS2 _ _ mW
        clear hK K
        try simp only [Act.put, List.setIfInBounds_toArray, List.set_cons_zero, List.set_cons_succ]
        refine wpAnyH_ready (rs := [6]) (by kernel_rfl) (by simp) ?_
        refine AllReadyH.cons (o := { dst := some 41, op := Op.call { callee := Callee.value (Operand.func 8), args := #[Operand.tmp 35, Operand.tmp 40], argTypes := #[25, 27] }, type := 30, pos := "law.go:153", after := #[{ on := 0, ground := Ground.data }, { on := 5, ground := Ground.data }], guard := none }) rfl (fun K hK => ?_) AllReadyH.nil
        go_simp
        go_at_call 8
        refine (cApply_w w6 _ _ Y _ _ _ [cc] (HYz.out.moves m6) HCA.out rfl (by simp) (Moves.refl _ _)).mono ?_
        rintro _ w7 ⟨ad7, n7, cap7, rfl, hc7, m7⟩
        rw [HE1.out]
        have HC7 : Hid (RowAt w7 (.agg #[.slice ad7 n7 cap7]) P1) := ⟨_, rfl, by rw [← HP1.out]; exact hc7⟩
        clear hc7
        replace mW := mW.then m7
        have qz7 := mW.at qz (by simp)
        obtain ⟨f0, f1⟩ := one_cell qz7
        refine hK.out _ _ ?_ (fun hHeld => ?_)
        · first | exact hS _ mW | exact hS2 _ _ mW
        clear hK K
        try simp only [Act.put, List.setIfInBounds_toArray, List.set_cons_zero, List.set_cons_succ]
        refine wpAnyH_take (i := 7) (oi := { dst := some 34, op := Op.move (Operand.tmp 41), type := 30, pos := "law.go:153", after := #[{ on := 6, ground := Ground.data }], guard := none }) (v := ?_) rfl (by kernel_rfl) (by kernel_rfl) (by kernel_rfl) (fun _ _ _ h => h) (Or.inl ⟨by rfl, ?_⟩) (by assumption) ?_
        rotate_left
        · (intro w hSw; (try dsimp only at hSw); go_simp; try (with_reducible rfl))
        try simp only [Act.put, List.setIfInBounds_toArray, List.set_cons_zero, List.set_cons_succ]
        refine wpAnyH_take (i := 8) (oi := { dst := some 42, op := Op.extract (Operand.tmp 34) 0, type := 25, pos := "law.go:153", after := #[{ on := 7, ground := Ground.data }], guard := none }) (v := ?_) rfl (by kernel_rfl) (by kernel_rfl) (by kernel_rfl) (fun _ _ _ h => h) (Or.inl ⟨by rfl, ?_⟩) (by assumption) ?_
        rotate_left
        · (intro w hSw; (try dsimp only at hSw); go_simp; try (with_reducible rfl))
        try simp only [Act.put, List.setIfInBounds_toArray, List.set_cons_zero, List.set_cons_succ]
        refine wpAnyH_take (i := 9) (oi := { dst := some 43, op := Op.extract (Operand.tmp 34) 1, type := 29, pos := "law.go:153", after := #[{ on := 7, ground := Ground.data }, { on := 10, ground := Ground.gcOnly Departure.lateStores }], guard := none }) (v := ?_) rfl (by kernel_rfl) (by kernel_rfl) (by kernel_rfl) (fun _ _ _ h => h) (Or.inl ⟨by rfl, ?_⟩) (by assumption) ?_
        rotate_left
        · (intro w hSw; (try dsimp only at hSw); go_simp; try (with_reducible rfl))
        try simp only [Act.put, List.setIfInBounds_toArray, List.set_cons_zero, List.set_cons_succ]
        refine wpAnyH_ready (rs := [10]) (by kernel_rfl) (by simp) ?_
        refine AllReadyH.cons (o := { dst := none, op := Op.store 25 (Operand.tmp 12) (Operand.tmp 42), type := 0, pos := "law.go:153", after := #[{ on := 8, ground := Ground.data }, { on := 6, ground := Ground.chain }, { on := 0, ground := Ground.phase }, { on := 1, ground := Ground.phase }, { on := 2, ground := Ground.phase }, { on := 3, ground := Ground.phase }, { on := 4, ground := Ground.phase }, { on := 5, ground := Ground.phase }, { on := 6, ground := Ground.phase }, { on := 7, ground := Ground.phase }, { on := 8, ground := Ground.phase }, { on := 9, ground := Ground.textOnly Departure.lateStores }], guard := none }) rfl (fun K hK => ?_) AllReadyH.nil
        go_simp
        refine hK.out _ _ ?_ (fun hHeld => ?_)
        · first | exact hS _ mW | exact hS2 _ _ mW
        clear hK K
        refine wpAnyH_take (i := 11) (oi := { dst := some 10, op := Op.assign (Operand.tmp 43), type := 29, pos := "law.go:153", after := #[{ on := 9, ground := Ground.data }, { on := 10, ground := Ground.chain }, { on := 0, ground := Ground.phase }, { on := 1, ground := Ground.phase }, { on := 2, ground := Ground.phase }, { on := 3, ground := Ground.phase }, { on := 4, ground := Ground.phase }, { on := 5, ground := Ground.phase }, { on := 6, ground := Ground.phase }, { on := 7, ground := Ground.phase }, { on := 8, ground := Ground.phase }, { on := 9, ground := Ground.phase }, { on := 10, ground := Ground.phase }], guard := none }) (v := ?_) rfl (by kernel_rfl) (by kernel_rfl) (by kernel_rfl) (fun _ _ _ h => h) (Or.inl ⟨by rfl, ?_⟩) (by assumption) ?_
        rotate_left
        · (intro w hSw; (try dsimp only at hSw); go_simp; try (with_reducible rfl))
        try simp only [Act.put, List.setIfInBounds_toArray, List.set_cons_zero, List.set_cons_succ]
        refine wpAnyH_done (by kernel_rfl) ?_ _
        refine NoPanic.normal ?_
        exact ⟨rfl, by kernel_rfl, ad7, n7, cap7, by kernel_rfl, set_one qz7 _, HC7.out.setRow qz7 _, (MZ.out.then mW).setCell (.inr (by show w5.heap.size ≤ pz; omega)) _, (moves_set _ _ _ _).at (mW.at qy (by simp)) (by simp; omega), (HYz.out.moves mW).setRow qz7 _⟩
      · rintro u wx ⟨ad7, n7, cap7, hu10, qzx, hP7, Mx, qyx, hYx⟩
        simp only [List.foldl_cons, List.foldl_nil, List.setIfInBounds_toArray, List.set_cons_zero, List.set_cons_succ, hu10]
        clear hu10
        generalize u 34 = u34
        generalize u 35 = u35
        generalize u 36 = u36
        generalize u 37 = u37
        generalize u 38 = u38
        generalize u 39 = u39
        generalize u 40 = u40
        generalize u 41 = u41
        generalize u 42 = u42
        generalize u 43 = u43
        have HP7 : Hid (RowAt wx (.agg #[.slice ad7 n7 cap7]) P1) := hP7
        have HYx : Hid (RowAt wx (.agg #[.slice ady ny capy]) Y) := hYx
        obtain ⟨i0, _⟩ := one_cell qzx
        obtain ⟨j0, j1⟩ := one_cell qyx
        have ne1 : ¬ pz = py := by omega
        have ne2 : ¬ py = pz := by omega
        rw [hE1, hP1] at hcs
        clear hE1 hP1 hP7 hYx hS hS2 mW z0 z1 z2 z3 z4 z5 yz0
        by_cases h0 : E1 = 0
        · have hP : P1 = cAp (pcopy Y) cc ∧ cApE (pcopy Y) cc = 0 := by
            rcases hcs with ⟨q1, _, q3⟩ | ⟨q1, q2⟩
            · exact ⟨q3, q1⟩
            · exact absurd (q2.symm.trans h0) q1
          rw [if_pos hP.2, ← hP.1] at hFc
          have hcp : pcopy P1 = P1 := pcopy_self HP1r.out (by rw [hP.1]; exact canon_ap _ _)
          have HFc : Hid (cFold (cs.drop (k + 1)) (pcopy P1) = cFold cs (pcopy R)) := by unfold Hid; rw [hcp]; exact hFc
          subst h0
          clear hcs hFc hP hcp
          go_wp2_with fail
          go_roundw
          case rel => exact ⟨k + 1, _, P1, 0, by omega, by go_num, rfl, Mx.setCell (.inr (by show w5.heap.size ≤ py; omega)) _, set_one qyx _, HP7.out.setRow qyx _, HP1r.out, .inl ⟨rfl, HFc.out⟩⟩
          case measure => simp [intOf]; omega
        · have hP : E1 = cApE (pcopy Y) cc ∧ cApE (pcopy Y) cc ≠ 0 := by
            rcases hcs with ⟨q1, q2, _⟩ | ⟨q1, q2⟩
            · exact absurd q2 h0
            · exact ⟨q2, q1⟩
          rw [if_neg hP.2, ← hP.1] at hFc
          have HFc : Hid (cFold cs (pcopy R) = (E1, [])) := hFc.symm
          clear hcs hFc hP
          go_wp2_with fail
          go_roundw
          case rel => exact ⟨k + 1, _, Y, E1, by omega, by go_num, rfl, Mx, qyx, HYx.out, HYr.out, .inr ⟨h0, HFc.out⟩⟩
          case measure => simp [intOf]; omega
    · have HX5' : Hid (RowAt wr (.agg #[.slice adx nx capx]) X) := HX5.out.moves mr
      have hways : (¬ (k : Int) < nc ∧ F = 0) ∨ (F ≠ 0) := by omega
      have MF : Hid (Moves [] w wr) := M5.out.then mr
      rcases hways with ⟨g1, rfl⟩ | hF0
      · have hFc : cFold (cs.drop k) (pcopy Y) = cFold cs (pcopy R) := by
          rcases HF.out with ⟨_, h⟩ | ⟨h, _⟩
          · exact h
          · exact absurd rfl h
        have hkn : cs.drop k = [] := List.drop_eq_nil_of_le (by rw [← Hnc.out]; omega)
        rw [hkn, cFold_nil, HEX.out] at hFc
        simp only [Prod.mk.injEq] at hFc
        obtain ⟨hE0, hXe⟩ := hFc
        rw [pcopy_of HYr.out] at hXe
        have HB1 : Hid (X.length ≤ 1048576) := by unfold Hid; rw [← hXe, List.length_map]; have := pright_len4 HYr.out; omega
        have HB2 : Hid (∀ x ∈ X, x.l.length ≤ 1048576) := fun x hx => by
          rw [← hXe] at hx
          obtain ⟨z, hz, rfl⟩ := List.mem_map.1 hx
          show (z.l.map pcanonV).length ≤ _
          rw [List.length_map]
          have := (prightV_two (pright_at HYr.out hz).2).2
          omega
        have HS : Hid (SameR X Y) := by unfold Hid; rw [← hXe]; exact SameR.canon Y
        subst hE0
        clear hXe hkn
        go_wp2_with (first | (go_at_call 10; refine (known5_w _).mono ?_; rintro _ w10 ⟨rfl, m10⟩) | (go_at_call 9; refine (rfSame_yes wr _ _ _ X Y HX5'.out HY.out (Moves.refl _ _) HS.out HB1.out HB2.out).mono ?_; rintro _ w8 ⟨rfl, m8⟩))
        go_ret
        exact ⟨rfl, (MF.out.then m8).then m10⟩
      · have hFc : cFold cs (pcopy R) = (F, []) := by
          rcases HF.out with ⟨h, _⟩ | ⟨_, h⟩
          · exact absurd h hF0
          · exact h
        rw [HEX.out] at hFc
        simp only [Prod.mk.injEq] at hFc
        obtain ⟨rfl, rfl⟩ := hFc
        obtain rfl : nx = 0 := Hnx.out
        have hw2 : (¬ (k : Int) < nc) ∨ ((k : Int) < nc) := by omega
        rcases hw2 with g2 | g2
        all_goals go_wp2_with (go_at_call 10; refine (known5_w _).mono ?_; rintro _ w10 ⟨rfl, m10⟩)
        all_goals go_ret
        all_goals exact ⟨rfl, MF.out.then m10⟩
end Go.Proofs.Ytfegflimnngfaab
