/-
  ref8's SameOp where it says yes.
-/
import Derived.Test.YtcamhlnkcoicpaaGreatCB39
namespace Go.Proofs.YtcamhlnkcoicpaaGreat
open Go.RowKit

/-- Changes that are the same by what is asked. -/
def RelCh (x z : Pchg) : Prop := z.kind = x.kind ∧ (x.kind ≠ 4 → z.col = x.col) ∧ (x.kind ≠ 4 → x.kind ≠ 3 → z.t = x.t) ∧ (x.kind ≠ 4 → x.kind ≠ 3 → x.kind ≠ 2 → psame x.v z.v = true)
def RelCd (x z : Pcd) : Prop := z.has = x.has ∧ (x.has = true → z.want = x.want ∧ z.col = x.col) ∧ (x.has = true → x.want = true → psame x.v z.v = true)
def RelO (o y : Pop) : Prop := y.kind = o.kind ∧ y.row = o.row ∧ (o.kind = 2 → RelCd o.cd y.cd ∧ y.l.length = o.l.length ∧ ∀ (k : Nat) x z, o.l[k]? = some x → y.l[k]? = some z → RelCh x z) ∧ (o.kind = 3 → y.hi = o.hi ∧ y.most = o.most)
set_option maxRecDepth 100000 in
set_option maxHeartbeats 8000000 in
theorem rsameOp_w (W w : World) (cs ds : List Value) (o y : Pop) (h : OpC W cs o) (h' : OpC W ds y) (m : Moves [] W w) (hl : o.l.length ≤ 1000) (hr : RelO o y) :
    Calls Tryz.prog 59 #[.agg cs.toArray, .agg ds.toArray] w fun e w' => e = .returned (.bool true) ∧ Moves [] w w' := by
  obtain ⟨ca, cn, cc, la, ln, lc, rfl, hV, hL, hln⟩ := h
  obtain ⟨ca', cn', cc', la', ln', lc', rfl, hV', hL', hln'⟩ := h'
  obtain ⟨yk, yr, yh, ycd, yl, ym⟩ := y
  obtain ⟨rfl, rfl, hr2, hr3⟩ := hr
  have hA := heap_alloc_new w (.cells #[.int .i64 o.kind, .string o.row, .string o.hi, .bool o.cd.has, .bool o.cd.want, .string o.cd.col, .int .i64 o.cd.v.kind, .slice ca cn cc, .float .f64 o.cd.v.n, .slice la ln lc, .int .i64 o.most] 32)
  have mA : Moves [] w (w.alloc (.cells #[.int .i64 o.kind, .string o.row, .string o.hi, .bool o.cd.has, .bool o.cd.want, .string o.cd.col, .int .i64 o.cd.v.kind, .slice ca cn cc, .float .f64 o.cd.v.n, .slice la ln lc, .int .i64 o.most] 32)) := (Moves.refl _ _).alloc _
  obtain ⟨v1, hv1⟩ : ∃ v1, w.alloc (.cells #[.int .i64 o.kind, .string o.row, .string o.hi, .bool o.cd.has, .bool o.cd.want, .string o.cd.col, .int .i64 o.cd.v.kind, .slice ca cn cc, .float .f64 o.cd.v.n, .slice la ln lc, .int .i64 o.most] 32) = v1 := ⟨_, rfl⟩
  have s1 : v1.heap.size = w.heap.size + 1 := by rw [← hv1]; simp
  rw [hv1] at hA mA
  have hB := heap_alloc_new v1 (.cells #[.int .i64 o.kind, .string o.row, .string yh, .bool ycd.has, .bool ycd.want, .string ycd.col, .int .i64 ycd.v.kind, .slice ca' cn' cc', .float .f64 ycd.v.n, .slice la' ln' lc', .int .i64 ym] 32)
  have mB : Moves [] v1 (v1.alloc (.cells #[.int .i64 o.kind, .string o.row, .string yh, .bool ycd.has, .bool ycd.want, .string ycd.col, .int .i64 ycd.v.kind, .slice ca' cn' cc', .float .f64 ycd.v.n, .slice la' ln' lc', .int .i64 ym] 32)) := (Moves.refl _ _).alloc _
  obtain ⟨v2, hv2⟩ : ∃ v2, v1.alloc (.cells #[.int .i64 o.kind, .string o.row, .string yh, .bool ycd.has, .bool ycd.want, .string ycd.col, .int .i64 ycd.v.kind, .slice ca' cn' cc', .float .f64 ycd.v.n, .slice la' ln' lc', .int .i64 ym] 32) = v2 := ⟨_, rfl⟩
  rw [hv2] at hB mB
  rw [s1] at hB
  replace hA := mB.at hA (by simp)
  obtain ⟨D, hD⟩ : ∃ D, w.heap.size = D := ⟨_, rfl⟩
  rw [hD] at hA hB
  obtain ⟨E, hE⟩ : ∃ E, D + 1 = E := ⟨_, rfl⟩
  rw [hE] at hB
  obtain ⟨b0, b1, b2, b3, b4, b5, b6, b7, b8, b9, b10⟩ := eleven_cells hA
  obtain ⟨e0, e1, e2, e3, e4, e5, e6, e7, e8, e9, e10⟩ := eleven_cells hB
  have HMB : Hid (Moves [] w v2) := mA.then mB
  have HM1 : Hid (Moves [] W v2) := m.then (mA.then mB)
  have HV : Hid _ := hV
  have HV' : Hid _ := hV'
  have HL : Hid _ := hL
  have HL' : Hid _ := hL'
  have HLN : Hid _ := hln
  have HLN' : Hid _ := hln'
  have HR2 : Hid _ := hr2
  have HR3 : Hid _ := hr3
  clear hA hB mA mB m hV hL hln hV' hL' hln' hr2 hr3
  by_cases k2 : o.kind = 2
  · obtain ⟨hcd, hll, hch⟩ := HR2.out k2
    obtain ⟨yhas, ywant, ycol, yv⟩ := ycd
    obtain ⟨rfl, hcd1, hcd2⟩ := hcd
    have hq := fun w1 (m1 : Moves [] W w1) => rsameCd_w W w1 o.cd.has o.cd.want ywant o.cd.col ycol o.cd.v yv ca ca' cn cn' cc cc' HV.out HV'.out m1 hcd1 hcd2
    have hlnn : ln' = ln := by have := HLN.out; have := HLN'.out; omega
    subst hlnn
    have HCH : Hid _ := hch
    rw [k2] at b0 e0
    clear hcd1 hcd2 hll hch k2
    have hl1 : ln' ≤ 1000 := by have := HLN.out; omega
    go_enter Tryz.func59, Tryz.ntmps59
    go_wp2_with fail
    refine (hq _ HM1.out).mono ?_
    rintro _ w5 ⟨rfl, m5⟩
    have e9' := m5.cell e9
    have b9' := m5.cell b9
    have HM5 : Hid (Moves [] w w5) := HMB.out.then m5
    have HW5 : Hid (Moves [] W w5) := HM1.out.then m5
    clear hq m5 b0 b1 b2 b3 b4 b5 b6 b7 b8 b9 b10 e0 e1 e2 e3 e4 e5 e6 e7 e8 e9 e10
    go_wp2_with fail
    go_loopw [5] (fun vi wr => ∃ k : Nat, k ≤ ln' ∧ vi = .int .i64 (k : Nat) ∧ Moves [] w5 wr) (fun vi _ => ln' - (intOf vi).toNat)
    case atStart => exact ⟨0, Nat.zero_le _, rfl, Moves.refl _ _⟩
    case round =>
      obtain ⟨k, hk, rfl, mr⟩ := hrel
      obtain ⟨wo, hwo⟩ : ∃ wo, wo = wr := ⟨_, rfl⟩
      subst hwo
      have g9 := mr.cell e9'
      have h9 := mr.cell b9'
      by_cases hlt : k < ln'
      · have hlt3 : (k : Int) < ln' := by omega
        obtain ⟨x, hx⟩ : ∃ x, o.l[k]? = some x := ⟨_, List.getElem?_eq_getElem (by have := HLN.out; omega)⟩
        obtain ⟨z, hz⟩ : ∃ z, yl[k]? = some z := ⟨_, List.getElem?_eq_getElem (by have h := HLN'.out; (try dsimp only at h); omega)⟩
        obtain ⟨g1, f1, a1, n1, c1, rfl, x0, x1, x2, x3, x4, x5, hVx⟩ := HL.out k x hx
        obtain ⟨g2, f2, a2, n2, c2, rfl, z0, z1, z2, z3, z4, z5, hVz⟩ := HL'.out k z hz
        obtain ⟨q1, q2, q3, q4⟩ := HCH.out k x z hx hz
        have hsc : ∀ w1, Moves [] W w1 → Calls Tryz.prog 113 #[.agg #[.int .i64 x.kind, .string x.col, .int .i64 x.t, .int .i64 x.v.kind, .slice a1 n1 c1, .float .f64 x.v.n], .agg #[.int .i64 z.kind, .string z.col, .int .i64 z.t, .int .i64 z.v.kind, .slice a2 n2 c2, .float .f64 z.v.n]] w1 fun e w' => e = .returned (.bool true) ∧ Moves [] w1 w' := by
          intro w1 m1
          rw [q1]
          exact rsameCh_w W w1 x.kind x.t z.t x.col z.col x.v z.v a1 a2 n1 n2 c1 c2 hVx hVz m1 q2 q3 q4
        have HMr : Hid (Moves [] W wo) := HW5.out.then mr
        have hS : ∀ w' : World, Moves [] wo w' → (w'.cell? ⟨D, 9, none⟩ = some (.slice (some ⟨g1, f1, none⟩) ln' lc) ∧ w'.cell? ⟨E, 9, none⟩ = some (.slice (some ⟨g2, f2, none⟩) ln' lc') ∧ w'.cell? ⟨g1, f1 + k * 6, none⟩ = some (.int .i64 x.kind) ∧ w'.cell? ⟨g1, f1 + k * 6 + 1, none⟩ = some (.string x.col) ∧ w'.cell? ⟨g1, f1 + k * 6 + 2, none⟩ = some (.int .i64 x.t) ∧ w'.cell? ⟨g1, f1 + k * 6 + 3, none⟩ = some (.int .i64 x.v.kind) ∧ w'.cell? ⟨g1, f1 + k * 6 + 4, none⟩ = some (.slice a1 n1 c1) ∧ w'.cell? ⟨g1, f1 + k * 6 + 5, none⟩ = some (.float .f64 x.v.n) ∧ w'.cell? ⟨g2, f2 + k * 6, none⟩ = some (.int .i64 z.kind) ∧ w'.cell? ⟨g2, f2 + k * 6 + 1, none⟩ = some (.string z.col) ∧ w'.cell? ⟨g2, f2 + k * 6 + 2, none⟩ = some (.int .i64 z.t) ∧ w'.cell? ⟨g2, f2 + k * 6 + 3, none⟩ = some (.int .i64 z.v.kind) ∧ w'.cell? ⟨g2, f2 + k * 6 + 4, none⟩ = some (.slice a2 n2 c2) ∧ w'.cell? ⟨g2, f2 + k * 6 + 5, none⟩ = some (.float .f64 z.v.n)) := by
          intro w' m'
          have M := HMr.out.then m'
          exact ⟨m'.cell h9, m'.cell g9, M.cell x0, M.cell x1, M.cell x2, M.cell x3, M.cell x4, M.cell x5, M.cell z0, M.cell z1, M.cell z2, M.cell z3, M.cell z4, M.cell z5⟩
        have mW : Moves [] wo wo.drew := (Moves.refl _ _).drew
        clear hx hz x0 x1 x2 x3 x4 x5 z0 z1 z2 z3 z4 z5 hVx hVz q1 q2 q3 q4
        go_wp2_with fail
        refine wp_region_noPanic ?_
        refine wp_region_held_drew (S := (fun w' => w'.cell? ⟨D, 9, none⟩ = some (.slice (some ⟨g1, f1, none⟩) ln' lc) ∧ w'.cell? ⟨E, 9, none⟩ = some (.slice (some ⟨g2, f2, none⟩) ln' lc') ∧ w'.cell? ⟨g1, f1 + k * 6, none⟩ = some (.int .i64 x.kind) ∧ w'.cell? ⟨g1, f1 + k * 6 + 1, none⟩ = some (.string x.col) ∧ w'.cell? ⟨g1, f1 + k * 6 + 2, none⟩ = some (.int .i64 x.t) ∧ w'.cell? ⟨g1, f1 + k * 6 + 3, none⟩ = some (.int .i64 x.v.kind) ∧ w'.cell? ⟨g1, f1 + k * 6 + 4, none⟩ = some (.slice a1 n1 c1) ∧ w'.cell? ⟨g1, f1 + k * 6 + 5, none⟩ = some (.float .f64 x.v.n) ∧ w'.cell? ⟨g2, f2 + k * 6, none⟩ = some (.int .i64 z.kind) ∧ w'.cell? ⟨g2, f2 + k * 6 + 1, none⟩ = some (.string z.col) ∧ w'.cell? ⟨g2, f2 + k * 6 + 2, none⟩ = some (.int .i64 z.t) ∧ w'.cell? ⟨g2, f2 + k * 6 + 3, none⟩ = some (.int .i64 z.v.kind) ∧ w'.cell? ⟨g2, f2 + k * 6 + 4, none⟩ = some (.slice a2 n2 c2) ∧ w'.cell? ⟨g2, f2 + k * 6 + 5, none⟩ = some (.float .f64 z.v.n))) (by kernel_rfl) ?_ (fun hHeld => ?_)
        · first | (go_keep; done) | exact hS _ mW
        refine wpAnyH_take (i := 0) (oi := { dst := some 44, op := Op.fieldAddr 32 (Operand.tmp 2) 4, type := 0, pos := "ref.go:167", after := #[], guard := none }) (v := ?_) rfl (by kernel_rfl) (by kernel_rfl) (by kernel_rfl) (fun _ _ _ h => h) (Or.inl ⟨by rfl, ?_⟩) (by assumption) ?_
        rotate_left
        · (intro w hSw; (try dsimp only at hSw); go_simp; try (with_reducible rfl))
        try simp only [Act.put, List.setIfInBounds_toArray, List.set_cons_zero, List.set_cons_succ]
        refine wpAnyH_take (i := 1) (oi := { dst := some 45, op := Op.load 28 (Operand.tmp 44), type := 28, pos := "ref.go:167", after := #[{ on := 0, ground := Ground.data }], guard := none }) (v := ?_) rfl (by kernel_rfl) (by kernel_rfl) (by kernel_rfl) (fun _ _ _ h => h) (Or.inl ⟨by rfl, ?_⟩) (by assumption) ?_
        rotate_left
        · (intro w hSw; (try dsimp only at hSw); go_simp; try (with_reducible rfl))
        try simp only [Act.put, List.setIfInBounds_toArray, List.set_cons_zero, List.set_cons_succ]
        refine wpAnyH_take (i := 2) (oi := { dst := some 46, op := Op.move (Operand.tmp 5), type := 3, pos := "ref.go:167", after := #[], guard := none }) (v := ?_) rfl (by kernel_rfl) (by kernel_rfl) (by kernel_rfl) (fun _ _ _ h => h) (Or.inl ⟨by rfl, ?_⟩) (by assumption) ?_
        rotate_left
        · (intro w hSw; (try dsimp only at hSw); go_simp; try (with_reducible rfl))
        try simp only [Act.put, List.setIfInBounds_toArray, List.set_cons_zero, List.set_cons_succ]
        refine wpAnyH_take (i := 3) (oi := { dst := some 47, op := Op.indexAddr 28 (Operand.tmp 45) (Operand.tmp 46), type := 0, pos := "ref.go:167", after := #[{ on := 1, ground := Ground.data }, { on := 2, ground := Ground.data }], guard := none }) (v := ?_) rfl (by kernel_rfl) (by kernel_rfl) (by kernel_rfl) (fun _ _ _ h => h) (Or.inl ⟨by rfl, ?_⟩) (by assumption) ?_
        rotate_left
        · (intro w hSw; (try dsimp only at hSw); go_simp; try (with_reducible rfl))
        try simp only [Act.put, List.setIfInBounds_toArray, List.set_cons_zero, List.set_cons_succ]
        refine wpAnyH_take (i := 4) (oi := { dst := some 48, op := Op.load 27 (Operand.tmp 47), type := 27, pos := "ref.go:167", after := #[{ on := 3, ground := Ground.data }], guard := none }) (v := ?_) rfl (by kernel_rfl) (by kernel_rfl) (by kernel_rfl) (fun _ _ _ h => h) (Or.inl ⟨by rfl, ?_⟩) (by assumption) ?_
        rotate_left
        · (intro w hSw; (try dsimp only at hSw); go_simp; try (with_reducible rfl))
        try simp only [Act.put, List.setIfInBounds_toArray, List.set_cons_zero, List.set_cons_succ]
        refine wpAnyH_take (i := 5) (oi := { dst := some 49, op := Op.fieldAddr 32 (Operand.tmp 3) 4, type := 0, pos := "ref.go:167", after := #[], guard := none }) (v := ?_) rfl (by kernel_rfl) (by kernel_rfl) (by kernel_rfl) (fun _ _ _ h => h) (Or.inl ⟨by rfl, ?_⟩) (by assumption) ?_
        rotate_left
        · (intro w hSw; (try dsimp only at hSw); go_simp; try (with_reducible rfl))
        try simp only [Act.put, List.setIfInBounds_toArray, List.set_cons_zero, List.set_cons_succ]
        refine wpAnyH_take (i := 6) (oi := { dst := some 50, op := Op.load 28 (Operand.tmp 49), type := 28, pos := "ref.go:167", after := #[{ on := 5, ground := Ground.data }], guard := none }) (v := ?_) rfl (by kernel_rfl) (by kernel_rfl) (by kernel_rfl) (fun _ _ _ h => h) (Or.inl ⟨by rfl, ?_⟩) (by assumption) ?_
        rotate_left
        · (intro w hSw; (try dsimp only at hSw); go_simp; try (with_reducible rfl))
        try simp only [Act.put, List.setIfInBounds_toArray, List.set_cons_zero, List.set_cons_succ]
        refine wpAnyH_take (i := 7) (oi := { dst := some 51, op := Op.move (Operand.tmp 5), type := 3, pos := "ref.go:167", after := #[], guard := none }) (v := ?_) rfl (by kernel_rfl) (by kernel_rfl) (by kernel_rfl) (fun _ _ _ h => h) (Or.inl ⟨by rfl, ?_⟩) (by assumption) ?_
        rotate_left
        · (intro w hSw; (try dsimp only at hSw); go_simp; try (with_reducible rfl))
        try simp only [Act.put, List.setIfInBounds_toArray, List.set_cons_zero, List.set_cons_succ]
        refine wpAnyH_take (i := 8) (oi := { dst := some 52, op := Op.indexAddr 28 (Operand.tmp 50) (Operand.tmp 51), type := 0, pos := "ref.go:167", after := #[{ on := 6, ground := Ground.data }, { on := 7, ground := Ground.data }], guard := none }) (v := ?_) rfl (by kernel_rfl) (by kernel_rfl) (by kernel_rfl) (fun _ _ _ h => h) (Or.inl ⟨by rfl, ?_⟩) (by assumption) ?_
        rotate_left
        · (intro w hSw; (try dsimp only at hSw); go_simp; try (with_reducible rfl))
        try simp only [Act.put, List.setIfInBounds_toArray, List.set_cons_zero, List.set_cons_succ]
        refine wpAnyH_take (i := 9) (oi := { dst := some 53, op := Op.load 27 (Operand.tmp 52), type := 27, pos := "ref.go:167", after := #[{ on := 8, ground := Ground.data }], guard := none }) (v := ?_) rfl (by kernel_rfl) (by kernel_rfl) (by kernel_rfl) (fun _ _ _ h => h) (Or.inl ⟨by rfl, ?_⟩) (by assumption) ?_
        rotate_left
        · (intro w hSw; (try dsimp only at hSw); go_simp; try (with_reducible rfl))
        try simp only [Act.put, List.setIfInBounds_toArray, List.set_cons_zero, List.set_cons_succ]
        refine wpAnyH_ready (rs := [10]) (by kernel_rfl) (by simp) ?_
        refine AllReadyH.cons (o := { dst := some 54, op := Op.call { callee := Callee.value (Operand.func 113), args := #[Operand.tmp 48, Operand.tmp 53], argTypes := #[27, 27] }, type := 4, pos := "ref.go:167", after := #[{ on := 4, ground := Ground.data }, { on := 9, ground := Ground.data }], guard := none }) rfl (fun K hK => ?_) AllReadyH.nil
        go_simp
        refine (hsc _ (HMr.out.then mW)).mono ?_
        rintro _ w9 ⟨rfl, m9⟩
        replace mW := mW.then m9
        refine hK.out _ _ ?_ (fun hHeld => ?_)
        · exact hS _ mW
        clear hK K
        try simp only [Act.put, List.setIfInBounds_toArray, List.set_cons_zero, List.set_cons_succ]
        refine wpAnyH_take (i := 11) (oi := { dst := some 55, op := Op.unOp UnOp.not 4 (Operand.tmp 54), type := 4, pos := "ref.go:167", after := #[{ on := 10, ground := Ground.data }], guard := none }) (v := ?_) rfl (by kernel_rfl) (by kernel_rfl) (by kernel_rfl) (fun _ _ _ h => h) (Or.inl ⟨by rfl, ?_⟩) (by assumption) ?_
        rotate_left
        · (intro w hSw; (try dsimp only at hSw); go_simp; try (with_reducible rfl))
        try simp only [Act.put, List.setIfInBounds_toArray, List.set_cons_zero, List.set_cons_succ]
        refine wpAnyH_done (by kernel_rfl) ?_ _
        refine NoPanic.normal ?_
        go_wp2_with fail
        go_roundw
        case rel => exact ⟨k + 1, by omega, by go_num, mr.then mW⟩
        case measure => simp [intOf]; omega
      · obtain rfl : k = ln' := by omega
        have hlt3 : ¬ (k : Int) < k := by omega
        go_wp2_with fail
        go_ret
        exact ⟨rfl, HM5.out.then mr⟩
  · have kk : (o.kind == 2) = false := beq_eq_false_iff_ne.2 k2
    by_cases k3 : o.kind = 3
    · obtain ⟨rfl, rfl⟩ := HR3.out k3
      rw [k3] at b0 e0
      clear k3 k2 kk HR2 HR3 HV HV' HL HL' HLN HLN'
      go_enter Tryz.func59, Tryz.ntmps59
      go_wp2_with fail
      try rw [hv1]
      try rw [s1]
      try rw [hv2]
      try rw [hD]
      try rw [hE]
      go_wp2_with fail
      go_ret
      exact ⟨by simp, HMB.out⟩
    · have kk3 : (o.kind == 3) = false := beq_eq_false_iff_ne.2 k3
      clear HR2 HR3 HV HV' HL HL' HLN HLN'
      go_enter Tryz.func59, Tryz.ntmps59
      go_wp2_with fail
      try rw [hv1]
      try rw [s1]
      try rw [hv2]
      try rw [hD]
      try rw [hE]
      go_wp2_with fail
      go_ret
      exact ⟨rfl, HMB.out⟩
end Go.Proofs.YtcamhlnkcoicpaaGreat
