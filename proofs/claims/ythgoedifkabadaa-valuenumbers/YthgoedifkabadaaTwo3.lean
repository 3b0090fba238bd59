/-
  What the law's own 'two' does: of any two values it returns true, and writes nothing that was there.
-/
import Derived.Test.YthgoedifkabadaaLaw3
import Derived.Test.YthgoedifkabadaaAny3
namespace Go.Proofs.Ythgoedifkabadaa
open Go.RowKit

theorem rorder_b (W w : World) (va vb : Value) (A B : Vm) (ha : VIs W va A) (hb : VIs W vb B) (m : Moves [] W w) :
    Calls Try.prog 30 #[va, vb] w fun e w' => e = .returned (.int .i64 (vord A B)) ∧ Moves [] W w' := by
  obtain ⟨rfl, ha⟩ := ha
  obtain ⟨rfl, hb⟩ := hb
  exact (rOrder_w A B w (ha.moves m (by simp)) (hb.moves m (by simp))).mono fun e w' h => ⟨h.1, m.then h.2⟩
theorem rright_b (W w : World) (va : Value) (A : Vm) (ha : VIs W va A) (m : Moves [] W w) :
    Calls Try.prog 29 #[va] w fun e w' => e = .returned (.bool (vright A)) ∧ Moves [] W w' := by
  obtain ⟨rfl, ha⟩ := ha
  exact (rRight_w A w (ha.moves m (by simp))).mono fun e w' h => ⟨h.1, m.then h.2⟩

theorem plusV_val (A B : Vm) : (plusV A B).val = .agg #[.int .i64 (plusV A B).kind, .slice none 0 0, .float .f64 (plusV A B).n] := by
  unfold plusV
  split <;> rfl
theorem plus_x (W w : World) (va vb : Value) (A B : Vm) (kx cx : Int) (nx : Nat) (ha : VIs W va A) (hb : VIs W vb B) (m : Moves [] W w) (h1 : (plusV A B).kind = kx) (h2 : (plusV A B).n = nx) (h3 : plusE A B = cx) :
    Calls Try.prog 24 #[va, vb] w fun e w' => e = .returned (.tuple #[.agg #[.int .i64 kx, .slice none 0 0, .float .f64 nx], .int .i64 cx]) ∧ Moves [] W w' := by
  obtain ⟨rfl, ha⟩ := ha
  obtain ⟨rfl, hb⟩ := hb
  have h := vPlus_w A B w (ha.moves m (by simp)) (hb.moves m (by simp))
  rw [plusV_val, h1, h2, h3] at h
  exact h.mono fun e w' h => ⟨h.1, m.then h.2⟩
theorem rplus_x (W w : World) (va vb : Value) (A B : Vm) (kx cx : Int) (nx : Nat) (ha : VIs W va A) (hb : VIs W vb B) (m : Moves [] W w) (h1 : (plusV A B).kind = kx) (h2 : (plusV A B).n = nx) (h3 : plusE A B = cx) :
    Calls Try.prog 25 #[va, vb] w fun e w' => e = .returned (.tuple #[.agg #[.int .i64 kx, .slice none 0 0, .float .f64 nx], .int .i64 cx]) ∧ Moves [] W w' := by
  obtain ⟨rfl, ha⟩ := ha
  obtain ⟨rfl, hb⟩ := hb
  have h := rPlus_w A B w (ha.moves m (by simp)) (hb.moves m (by simp))
  rw [plusV_val, h1, h2, h3] at h
  exact h.mono fun e w' h => ⟨h.1, m.then h.2⟩

/-- What Canon hands back, as cells. -/
def CanCells (k : Int) (tx : List Nat) (n : Nat) (w : World) (cs : Array Value) : Prop := ∃ ad len cap, cs = #[.int .i64 k, .slice ad len cap, .float .f64 n] ∧ Own w (.slice ad len cap) tx
theorem canCells_of {w w' : World} {A c : Vm} {k : Int} {tx : List Nat} {n : Nat} (h : Canoned w w' A c) (hk : kd A.kind = k) (ht : (if kd A.kind = 1 then A.bs else []) = tx) (hn : (if kd A.kind = 2 then Pl.canon A.n else 0) = n) :
    ∃ cs, c.val = .agg cs ∧ CanCells k tx n w' cs ∧ cs.size = 3 ∧ cs.all (·.oneCell') = true ∧ Moves [] w w' := by
  obtain ⟨k', bv, g, bs, n'⟩ := c
  obtain ⟨h1, h2, h3, h4, h5, h6, h7⟩ := h
  simp only at h3 h5 h6 h7
  have hB := h3.isB
  obtain ⟨ad, len, cap, rfl, _⟩ := hB
  rw [hk] at h5
  rw [ht] at h6
  rw [hn] at h7
  subst h5 h6 h7
  exact ⟨_, rfl, ⟨ad, len, cap, rfl, h3⟩, rfl, by simp [Value.oneCell'], h2⟩

set_option maxRecDepth 100000 in
set_option maxHeartbeats 16000000 in
theorem two_w (va vb : Value) (A B : Vm) (w : World) (hA : VIs w va A) (hB : VIs w vb B) (hl : A.bs.length ≤ 1099511627776) :
    Calls Try.prog 8 #[va, vb] w fun e w' => e = .returned (.bool true) ∧ Moves [] w w' := by
  have hA0 := hA
  have hB0 := hB
  obtain ⟨adA, lenA, capA, _, rfl⟩ := hA.open
  obtain ⟨adB, lenB, capB, _, rfl⟩ := hB.open
  obtain ⟨kx, hkx⟩ : ∃ k, (plusV A B).kind = k := ⟨_, rfl⟩
  obtain ⟨nx, hnx⟩ : ∃ n, (plusV A B).n = n := ⟨_, rfl⟩
  obtain ⟨cx, hcx⟩ : ∃ c, plusE A B = c := ⟨_, rfl⟩
  have HKX : Hid ((plusV A B).kind = kx) := hkx
  have HNX : Hid ((plusV A B).n = nx) := hnx
  have HCX : Hid (plusE A B = cx) := hcx
  have vX : ∀ W : World, VIs W (.agg #[.int .i64 kx, .slice none 0 0, .float .f64 nx]) (plusV A B) := fun W => ⟨by rw [plusV_val, hkx, hnx], plusV_in A B W⟩
  clear hkx hnx hcx hA hB
  obtain ⟨pa, pb, mb⟩ := boxes (Moves.refl [] ((w.alloc (.cells #[.int .i64 A.kind, .slice adA lenA capA, .float .f64 A.n] 28)).alloc (.cells #[.int .i64 B.kind, .slice adB lenB capB, .float .f64 B.n] 28)))
  go_enter Try.func8, Try.ntmps8
  go_wp2_with fail
  generalize ((w.alloc (.cells #[.int .i64 A.kind, .slice adA lenA capA, .float .f64 A.n] 28)).alloc (.cells #[.int .i64 B.kind, .slice adB lenB capB, .float .f64 B.n] 28)) = W1 at *
  refine (plus_x W1 _ _ _ A B kx cx nx (hA0.moves mb) (hB0.moves mb) (Moves.refl _ _) HKX.out HNX.out HCX.out).mono ?_
  rintro _ w2 ⟨rfl, m2⟩
  have mx : Moves [] W1 (w2.alloc (.cells #[.int .i64 kx, .slice none 0 0, .float .f64 nx] 28)) := m2.alloc _
  have px : (w2.alloc (.cells #[.int .i64 kx, .slice none 0 0, .float .f64 nx] 28)).heap[w2.heap.size]? = some (.cells #[.int .i64 kx, .slice none 0 0, .float .f64 nx] 28 (0, 0)) := heap_alloc_new _ _
  replace pa := mx.at pa (by simp)
  replace pb := mx.at pb (by simp)
  obtain ⟨a0, a1, a2, _, _, _⟩ := three_cells pa
  obtain ⟨b0, b1, b2, _, _, _⟩ := three_cells pb
  go_wp2_with fail
  generalize (w2.alloc (.cells #[.int .i64 kx, .slice none 0 0, .float .f64 nx] 28)) = W2 at *
  obtain ⟨qx, hqx⟩ : ∃ q, w2.heap.size = q := ⟨_, rfl⟩
  rw [hqx] at px ⊢
  refine (rplus_x W2 _ _ _ A B kx cx nx (hA0.moves (mb.then mx)) (hB0.moves (mb.then mx)) (Moves.refl _ _) HKX.out HNX.out HCX.out).mono ?_
  rintro _ w3 ⟨rfl, m3⟩
  have my : Moves [] W2 (w3.alloc (.cells #[.int .i64 kx, .slice none 0 0, .float .f64 nx] 28)) := m3.alloc _
  have py : (w3.alloc (.cells #[.int .i64 kx, .slice none 0 0, .float .f64 nx] 28)).heap[w3.heap.size]? = some (.cells #[.int .i64 kx, .slice none 0 0, .float .f64 nx] 28 (0, 0)) := heap_alloc_new _ _
  replace pa := my.at pa (by simp)
  replace pb := my.at pb (by simp)
  replace px := my.at px (by simp)
  clear a0 a1 a2 b0 b1 b2
  go_wp2_with fail
  generalize (w3.alloc (.cells #[.int .i64 kx, .slice none 0 0, .float .f64 nx] 28)) = W3 at *
  obtain ⟨qy, hqy⟩ : ∃ q, w3.heap.size = q := ⟨_, rfl⟩
  rw [hqy] at py ⊢
  have M3 := (mb.then mx).then my
  have hA3 := hA0.moves M3
  have hB3 := hB0.moves M3
  clear hqx hqy m2 m3 mx my mb hA0 hB0
  obtain ⟨kc, hkc⟩ : ∃ k, kd A.kind = k := ⟨_, rfl⟩
  obtain ⟨tx, htx⟩ : ∃ t, (if kd A.kind = 1 then A.bs else []) = t := ⟨_, rfl⟩
  obtain ⟨nc, hnc⟩ : ∃ n, (if kd A.kind = 2 then Pl.canon A.n else 0) = n := ⟨_, rfl⟩
  refine par2W_wp (by kernel_rfl) (F := fun j => match j with | 0 => 23 | _ => 26) (S := fun _ => 2) (L := fun j => 23 + 2 * j) (C := fun j => 24 + 2 * j) (D := fun j => 9 + j) (tv := 28) (T := 28) (Z := #[.int .i64 0, .slice none 0 0, .float .f64 0]) (B := fun _ => w.heap.size)
    (scs := fun _ => #[.int .i64 A.kind, .slice adA lenA capA, .float .f64 A.n]) (R := fun w _ => CanCells kc tx nc w) (W := W3) ?_ (Moves.refl _ _) ?_
  · refine ⟨rfl, by kernel_rfl, by kernel_rfl, ?_, ?_, ?_, ?_, ?_, ?_, ?_, ?_, ?_, ⟨_, Try.underlying28⟩, ?_, fun _ => rfl, by kernel_rfl, ?_, ?_, ?_⟩
    · intro j hj; simp; omega
    · intro j k hj hk; omega
    · intro j k hj hk hne; omega
    · intro j k hj hk; omega
    · intro j hj; match j, hj with | 0, _ => exact ⟨_, rfl, rfl, rfl, rfl⟩ | 1, _ => exact ⟨_, rfl, rfl, rfl, rfl⟩
    · intro j hj; match j, hj with | 0, _ => exact ⟨_, _, rfl, rfl, rfl, rfl⟩ | 1, _ => exact ⟨_, _, rfl, rfl, rfl, rfl⟩
    · intro j hj; match j, hj with | 0, _ => exact ⟨_, rfl, rfl, rfl, rfl⟩ | 1, _ => exact ⟨_, rfl, rfl, rfl, rfl⟩
    · intro j hj; match j, hj with | 0, _ => exact ⟨_, rfl, rfl, rfl, rfl⟩ | 1, _ => exact ⟨_, rfl, rfl, rfl, rfl⟩
    · intro j hj; match j, hj with | 0, _ => exact ⟨rfl, pa, by kernel_rfl⟩ | 1, _ => exact ⟨rfl, pa, by kernel_rfl⟩
    · intro j hj; match j, hj with | 0, _ => exact fun _ _ => rfl | 1, _ => exact fun _ _ => rfl
    · intro j hj w' m
      have hval := hA3.val
      match j, hj with
      | 0, _ =>
        show Calls Try.prog 23 #[.agg #[.int .i64 A.kind, .slice adA lenA capA, .float .f64 A.n]] w' _
        rw [hval]
        refine (vCanon_w A w' (hA3.isIn.moves m (by simp)) hl).mono ?_
        rintro e w2 ⟨c, rfl, hc⟩
        obtain ⟨cs, h1, h2, h3, h4, h5⟩ := canCells_of hc hkc htx hnc
        exact ⟨cs, by rw [h1], h2, h3, h4, h5⟩
      | 1, _ =>
        show Calls Try.prog 26 #[.agg #[.int .i64 A.kind, .slice adA lenA capA, .float .f64 A.n]] w' _
        rw [hval]
        refine (rCanon_w A w' (hA3.isIn.moves m (by simp)) hl).mono ?_
        rintro e w2 ⟨c, rfl, hc⟩
        obtain ⟨cs, h1, h2, h3, h4, h5⟩ := canCells_of hc hkc htx hnc
        exact ⟨cs, by rw [h1], h2, h3, h4, h5⟩
    · rintro j cs w1 w2 ⟨ad, len, cap, h1, h2⟩ m
      exact ⟨ad, len, cap, h1, h2.moves m (by simp)⟩
    · rintro j cs w1 w2 p Z' ⟨ad, len, cap, h1, h2⟩ hz m
      have hne := h2.ne hz (by decide)
      exact ⟨ad, len, cap, h1, h2.moves m (fun k hk hx => by simp at hx; subst hx; exact hne hk)⟩
  rintro l0 c0 l1 c1 qc qd cs0 cs1 W4 m4 ⟨adc, lenc, capc, rfl, oc⟩ zc pc ⟨add, lend, capd, rfl, od⟩ zd pd
  simp only [List.setIfInBounds_toArray, List.set_cons_zero, List.set_cons_succ]
  replace pa := m4.at pa (by simp)
  replace pb := m4.at pb (by simp)
  replace px := m4.at px (by simp)
  replace py := m4.at py (by simp)
  obtain ⟨a0, a1, a2, _, _, _⟩ := three_cells pa
  obtain ⟨b0, b1, b2, _, _, _⟩ := three_cells pb
  obtain ⟨x0, x1, x2, _, _, _⟩ := three_cells px
  obtain ⟨y0, y1, y2, _, _, _⟩ := three_cells py
  obtain ⟨c0, c1, c2, _, _, _⟩ := three_cells pc
  obtain ⟨d0, d1, d2, _, _, _⟩ := three_cells pd
  have vA := hA3.moves m4
  have vB := hB3.moves m4
  have vx := vX W4
  have M4 := M3.then m4
  have m8 := Moves.refl [] W4
  have eXX : vord (plusV A B) (plusV A B) = 0 := vord_self _
  have hlc : tx.length = lenc := by obtain ⟨_, _, _, h1, h2, _⟩ := oc.isB; simp at h1; omega
  have hld : tx.length = lend := by obtain ⟨_, _, _, h1, h2, _⟩ := od.isB; simp at h1; omega
  have hot : ∀ z ∈ tx, z < 256 := by rw [← htx]; split; exact hA3.isIn.oct; simp
  have hfn : Pl.Fits nc := by rw [← hnc]; split; exact Pl.fits_canon hA3.isIn.fits; exact fits_zero
  obtain ⟨Cv, hCv⟩ : ∃ C : Vm, C = ⟨kc, .slice adc lenc capc, (Value.slice adc lenc capc).ownBlock.getD 0, tx, nc⟩ := ⟨_, rfl⟩
  obtain ⟨Dv, hDv⟩ : ∃ C : Vm, C = ⟨kc, .slice add lend capd, (Value.slice add lend capd).ownBlock.getD 0, tx, nc⟩ := ⟨_, rfl⟩
  have vc : VIs W4 (.agg #[.int .i64 kc, .slice adc lenc capc, .float .f64 nc]) Cv := by rw [hCv]; exact ⟨rfl, ⟨oc.isB, hfn, hot⟩⟩
  have vd : VIs W4 (.agg #[.int .i64 kc, .slice add lend capd, .float .f64 nc]) Dv := by rw [hDv]; exact ⟨rfl, ⟨od.isB, hfn, hot⟩⟩
  have eCD : vord Cv Dv = 0 := by rw [hCv, hDv]; exact vord_like rfl rfl rfl
  clear hA3 hB3 vX pa pb px py pc pd zc zd oc od hot hfn m4 M3 hCv hDv HKX HNX HCX
  go_wp2_with fail
  rcases kd_cases A.kind with ⟨z, e⟩ | ⟨z, e⟩ | ⟨z, z2, e⟩
  · have hk : kc = 1 := by omega
    have hn : nc = 0 := by rw [← hnc, e]; rfl
    subst hk hn
    clear hkc htx hnc z e hlc hld
    have Da0 := a0
    have Da1 := a1
    have Da2 := a2
    have Db0 := b0
    have Db1 := b1
    have Db2 := b2
    have Dx0 := x0
    have Dx1 := x1
    have Dx2 := x2
    have Dy0 := y0
    have Dy1 := y1
    have Dy2 := y2
    have Dc0 := c0
    have Dc1 := c1
    have Dc2 := c2
    have Dd0 := d0
    have Dd1 := d1
    have Dd2 := d2
    refine wp_region_noPanic ?_
    refine wp_region_held_drew (S := (fun w' => w'.cell? ⟨w.heap.size, 0, none⟩ = some (.int .i64 A.kind) ∧ w'.cell? ⟨w.heap.size, 1, none⟩ = some (.slice adA lenA capA) ∧ w'.cell? ⟨w.heap.size, 2, none⟩ = some (.float .f64 A.n) ∧ w'.cell? ⟨w.heap.size + 1, 0, none⟩ = some (.int .i64 B.kind) ∧ w'.cell? ⟨w.heap.size + 1, 1, none⟩ = some (.slice adB lenB capB) ∧ w'.cell? ⟨w.heap.size + 1, 2, none⟩ = some (.float .f64 B.n) ∧ w'.cell? ⟨qx, 0, none⟩ = some (.int .i64 kx) ∧ w'.cell? ⟨qx, 1, none⟩ = some (.slice none 0 0) ∧ w'.cell? ⟨qx, 2, none⟩ = some (.float .f64 nx) ∧ w'.cell? ⟨qy, 0, none⟩ = some (.int .i64 kx) ∧ w'.cell? ⟨qy, 1, none⟩ = some (.slice none 0 0) ∧ w'.cell? ⟨qy, 2, none⟩ = some (.float .f64 nx) ∧ w'.cell? ⟨qc, 0, none⟩ = some (.int .i64 1) ∧ w'.cell? ⟨qc, 1, none⟩ = some (.slice adc lenc capc) ∧ w'.cell? ⟨qc, 2, none⟩ = some (.float .f64 0) ∧ w'.cell? ⟨qd, 0, none⟩ = some (.int .i64 1) ∧ w'.cell? ⟨qd, 1, none⟩ = some (.slice add lend capd) ∧ w'.cell? ⟨qd, 2, none⟩ = some (.float .f64 0))) (by kernel_rfl) ?_ (fun hHeld => ?_)
    · first | (go_keep; done) | (exact ⟨a0, a1, a2, b0, b1, b2, x0, x1, x2, y0, y1, y2, c0, c1, c2, d0, d1, d2⟩)
    refine wpAnyH_take (i := 0) (oi := { dst := some 27, op := Op.move (Operand.tmp 6), type := 50, pos := "law.go:34", after := #[], guard := none }) (v := ?_) rfl (by kernel_rfl) (by kernel_rfl) (by kernel_rfl) (fun _ _ _ h => h) (Or.inl ⟨by rfl, ?_⟩) (by assumption) ?_
    rotate_left
    · (intro w hSw; (try dsimp only at hSw); go_simp; try (with_reducible rfl))
    try simp only [Act.put, List.setIfInBounds_toArray, List.set_cons_zero, List.set_cons_succ]
    refine wpAnyH_take (i := 1) (oi := { dst := some 28, op := Op.move (Operand.tmp 8), type := 50, pos := "law.go:34", after := #[], guard := none }) (v := ?_) rfl (by kernel_rfl) (by kernel_rfl) (by kernel_rfl) (fun _ _ _ h => h) (Or.inl ⟨by rfl, ?_⟩) (by assumption) ?_
    rotate_left
    · (intro w hSw; (try dsimp only at hSw); go_simp; try (with_reducible rfl))
    try simp only [Act.put, List.setIfInBounds_toArray, List.set_cons_zero, List.set_cons_succ]
    refine wpAnyH_take (i := 2) (oi := { dst := some 29, op := Op.binOp BinOp.eql 50 (Operand.tmp 27) (Operand.tmp 28) 50, type := 4, pos := "law.go:34", after := #[{ on := 0, ground := Ground.data }, { on := 1, ground := Ground.data }], guard := none }) (v := ?_) rfl (by kernel_rfl) (by kernel_rfl) (by kernel_rfl) (fun _ _ _ h => h) (Or.inl ⟨by rfl, ?_⟩) (by assumption) ?_
    rotate_left
    · (intro w hSw; (try dsimp only at hSw); go_simp; try (with_reducible rfl))
    try simp only [Act.put, List.setIfInBounds_toArray, List.set_cons_zero, List.set_cons_succ]
    refine wpAnyH_take (i := 3) (oi := { dst := some 30, op := Op.move (Operand.tmp 29), type := 4, pos := "law.go:34", after := #[{ on := 2, ground := Ground.data }], guard := none }) (v := ?_) rfl (by kernel_rfl) (by kernel_rfl) (by kernel_rfl) (fun _ _ _ h => h) (Or.inl ⟨by rfl, ?_⟩) (by assumption) ?_
    rotate_left
    · (intro w hSw; (try dsimp only at hSw); go_simp; try (with_reducible rfl))
    try simp only [Act.put, List.setIfInBounds_toArray, List.set_cons_zero, List.set_cons_succ]
    refine wpAnyH_take (i := 4) (oi := { dst := some 31, op := Op.fieldAddr 28 (Operand.tmp 5) 0, type := 0, pos := "law.go:34", after := #[{ on := 3, ground := Ground.guard }], guard := some (3, true) }) (v := ?_) rfl (by kernel_rfl) (by kernel_rfl) (by kernel_rfl) (fun _ _ _ h => h) (Or.inl ⟨by rfl, ?_⟩) (by assumption) ?_
    rotate_left
    · (intro w hSw; (try dsimp only at hSw); go_simp; try (with_reducible rfl))
    try simp only [Act.put, List.setIfInBounds_toArray, List.set_cons_zero, List.set_cons_succ]
    refine wpAnyH_take (i := 5) (oi := { dst := some 32, op := Op.load 3 (Operand.tmp 31), type := 3, pos := "law.go:34", after := #[{ on := 4, ground := Ground.data }, { on := 3, ground := Ground.guard }], guard := some (3, true) }) (v := ?_) rfl (by kernel_rfl) (by kernel_rfl) (by kernel_rfl) (fun _ _ _ h => h) (Or.inl ⟨by rfl, ?_⟩) (by assumption) ?_
    rotate_left
    · (intro w hSw; (try dsimp only at hSw); go_simp; try (with_reducible rfl))
    try simp only [Act.put, List.setIfInBounds_toArray, List.set_cons_zero, List.set_cons_succ]
    refine wpAnyH_take (i := 6) (oi := { dst := some 33, op := Op.fieldAddr 28 (Operand.tmp 7) 0, type := 0, pos := "law.go:34", after := #[{ on := 3, ground := Ground.guard }], guard := some (3, true) }) (v := ?_) rfl (by kernel_rfl) (by kernel_rfl) (by kernel_rfl) (fun _ _ _ h => h) (Or.inl ⟨by rfl, ?_⟩) (by assumption) ?_
    rotate_left
    · (intro w hSw; (try dsimp only at hSw); go_simp; try (with_reducible rfl))
    try simp only [Act.put, List.setIfInBounds_toArray, List.set_cons_zero, List.set_cons_succ]
    refine wpAnyH_take (i := 7) (oi := { dst := some 34, op := Op.load 3 (Operand.tmp 33), type := 3, pos := "law.go:34", after := #[{ on := 6, ground := Ground.data }, { on := 3, ground := Ground.guard }], guard := some (3, true) }) (v := ?_) rfl (by kernel_rfl) (by kernel_rfl) (by kernel_rfl) (fun _ _ _ h => h) (Or.inl ⟨by rfl, ?_⟩) (by assumption) ?_
    rotate_left
    · (intro w hSw; (try dsimp only at hSw); go_simp; try (with_reducible rfl))
    try simp only [Act.put, List.setIfInBounds_toArray, List.set_cons_zero, List.set_cons_succ]
    refine wpAnyH_take (i := 8) (oi := { dst := some 35, op := Op.binOp BinOp.eql 3 (Operand.tmp 32) (Operand.tmp 34) 3, type := 4, pos := "law.go:34", after := #[{ on := 5, ground := Ground.data }, { on := 7, ground := Ground.data }, { on := 3, ground := Ground.guard }], guard := some (3, true) }) (v := ?_) rfl (by kernel_rfl) (by kernel_rfl) (by kernel_rfl) (fun _ _ _ h => h) (Or.inl ⟨by rfl, ?_⟩) (by assumption) ?_
    rotate_left
    · (intro w hSw; (try dsimp only at hSw); go_simp; try (with_reducible rfl))
    try simp only [Act.put, List.setIfInBounds_toArray, List.set_cons_zero, List.set_cons_succ]
    refine wpAnyH_take (i := 9) (oi := { dst := some 36, op := Op.pick (Operand.tmp 30) (Operand.tmp 35) (Operand.const (Value.bool false)), type := 4, pos := "law.go:34", after := #[{ on := 3, ground := Ground.data }, { on := 8, ground := Ground.data }], guard := none }) (v := ?_) rfl (by kernel_rfl) (by kernel_rfl) (by kernel_rfl) (fun _ _ _ h => h) (Or.inl ⟨by rfl, ?_⟩) (by assumption) ?_
    rotate_left
    · (intro w hSw; (try dsimp only at hSw); go_simp; try (with_reducible rfl))
    try simp only [Act.put, List.setIfInBounds_toArray, List.set_cons_zero, List.set_cons_succ]
    refine wpAnyH_take (i := 10) (oi := { dst := some 37, op := Op.move (Operand.tmp 36), type := 4, pos := "law.go:34", after := #[{ on := 9, ground := Ground.data }, { on := 3, ground := Ground.chain }], guard := none }) (v := ?_) rfl (by kernel_rfl) (by kernel_rfl) (by kernel_rfl) (fun _ _ _ h => h) (Or.inl ⟨by rfl, ?_⟩) (by assumption) ?_
    rotate_left
    · (intro w hSw; (try dsimp only at hSw); go_simp; try (with_reducible rfl))
    try simp only [Act.put, List.setIfInBounds_toArray, List.set_cons_zero, List.set_cons_succ]
    refine wpAnyH_take (i := 11) (oi := { dst := some 38, op := Op.load 28 (Operand.tmp 5), type := 28, pos := "law.go:34", after := #[{ on := 10, ground := Ground.guard }], guard := some (10, true) }) (v := ?_) rfl (by kernel_rfl) (by kernel_rfl) (by kernel_rfl) (fun _ _ _ h => h) (Or.inl ⟨by rfl, ?_⟩) (by assumption) ?_
    rotate_left
    · (intro w hSw; (try dsimp only at hSw); go_simp; try (with_reducible rfl))
    try simp only [Act.put, List.setIfInBounds_toArray, List.set_cons_zero, List.set_cons_succ]
    refine wpAnyH_take (i := 12) (oi := { dst := some 39, op := Op.load 28 (Operand.tmp 7), type := 28, pos := "law.go:34", after := #[{ on := 10, ground := Ground.guard }], guard := some (10, true) }) (v := ?_) rfl (by kernel_rfl) (by kernel_rfl) (by kernel_rfl) (fun _ _ _ h => h) (Or.inl ⟨by rfl, ?_⟩) (by assumption) ?_
    rotate_left
    · (intro w hSw; (try dsimp only at hSw); go_simp; try (with_reducible rfl))
    try simp only [Act.put, List.setIfInBounds_toArray, List.set_cons_zero, List.set_cons_succ]
    refine wpAnyH_ready (rs := [13]) (by kernel_rfl) (by simp) ?_
    refine AllReadyH.cons (o := { dst := some 40, op := Op.call { callee := Callee.value (Operand.func 27), args := #[Operand.tmp 38, Operand.tmp 39], argTypes := #[28, 28] }, type := 4, pos := "law.go:34", after := #[{ on := 11, ground := Ground.data }, { on := 12, ground := Ground.data }, { on := 10, ground := Ground.chain }, { on := 10, ground := Ground.guard }], guard := some (10, true) }) rfl (fun K hK => ?_) AllReadyH.nil
    go_simp
    (go_at_call 27; refine (rsame_b W4 _ _ _ _ _ (by assumption) (by assumption) (by first | (with_reducible assumption) | (exact Moves.drew (by with_reducible assumption)))).mono ?_; rintro _ w8 ⟨rfl, m8⟩; (try (first | rw [eXX] | rw [eCD])); have ea0 := m8.cell Da0; have ea1 := m8.cell Da1; have ea2 := m8.cell Da2; have eb0 := m8.cell Db0; have eb1 := m8.cell Db1; have eb2 := m8.cell Db2; have ex0 := m8.cell Dx0; have ex1 := m8.cell Dx1; have ex2 := m8.cell Dx2; have ey0 := m8.cell Dy0; have ey1 := m8.cell Dy1; have ey2 := m8.cell Dy2; have ec0 := m8.cell Dc0; have ec1 := m8.cell Dc1; have ec2 := m8.cell Dc2; have ed0 := m8.cell Dd0; have ed1 := m8.cell Dd1; have ed2 := m8.cell Dd2; clear a0 a1 a2 b0 b1 b2 x0 x1 x2 y0 y1 y2 c0 c1 c2 d0 d1 d2; have a0 := ea0; have a1 := ea1; have a2 := ea2; have b0 := eb0; have b1 := eb1; have b2 := eb2; have x0 := ex0; have x1 := ex1; have x2 := ex2; have y0 := ey0; have y1 := ey1; have y2 := ey2; have c0 := ec0; have c1 := ec1; have c2 := ec2; have d0 := ed0; have d1 := ed1; have d2 := ed2; clear ea0 ea1 ea2 eb0 eb1 eb2 ex0 ex1 ex2 ey0 ey1 ey2 ec0 ec1 ec2 ed0 ed1 ed2)
    refine hK.out _ _ ?_ (fun hHeld => ?_)
    · (exact ⟨a0, a1, a2, b0, b1, b2, x0, x1, x2, y0, y1, y2, c0, c1, c2, d0, d1, d2⟩)
    clear hK K
    try simp only [Act.put, List.setIfInBounds_toArray, List.set_cons_zero, List.set_cons_succ]
    refine wpAnyH_take (i := 14) (oi := { dst := some 41, op := Op.pick (Operand.tmp 37) (Operand.tmp 40) (Operand.const (Value.bool false)), type := 4, pos := "law.go:34", after := #[{ on := 10, ground := Ground.data }, { on := 13, ground := Ground.data }], guard := none }) (v := ?_) rfl (by kernel_rfl) (by kernel_rfl) (by kernel_rfl) (fun _ _ _ h => h) (Or.inl ⟨by rfl, ?_⟩) (by assumption) ?_
    rotate_left
    · (intro w hSw; (try dsimp only at hSw); go_simp; try (with_reducible rfl))
    try simp only [Act.put, List.setIfInBounds_toArray, List.set_cons_zero, List.set_cons_succ]
    refine wpAnyH_take (i := 15) (oi := { dst := some 42, op := Op.move (Operand.tmp 41), type := 4, pos := "law.go:34", after := #[{ on := 14, ground := Ground.data }, { on := 13, ground := Ground.chain }], guard := none }) (v := ?_) rfl (by kernel_rfl) (by kernel_rfl) (by kernel_rfl) (fun _ _ _ h => h) (Or.inl ⟨by rfl, ?_⟩) (by assumption) ?_
    rotate_left
    · (intro w hSw; (try dsimp only at hSw); go_simp; try (with_reducible rfl))
    try simp only [Act.put, List.setIfInBounds_toArray, List.set_cons_zero, List.set_cons_succ]
    refine wpAnyH_take (i := 16) (oi := { dst := some 43, op := Op.load 28 (Operand.tmp 2), type := 28, pos := "law.go:34", after := #[{ on := 15, ground := Ground.guard }], guard := some (15, true) }) (v := ?_) rfl (by kernel_rfl) (by kernel_rfl) (by kernel_rfl) (fun _ _ _ h => h) (Or.inl ⟨by rfl, ?_⟩) (by assumption) ?_
    rotate_left
    · (intro w hSw; (try dsimp only at hSw); go_simp; try (with_reducible rfl))
    try simp only [Act.put, List.setIfInBounds_toArray, List.set_cons_zero, List.set_cons_succ]
    refine wpAnyH_take (i := 18) (oi := { dst := some 45, op := Op.load 28 (Operand.tmp 2), type := 28, pos := "law.go:34", after := #[{ on := 15, ground := Ground.guard }], guard := some (15, true) }) (v := ?_) rfl (by kernel_rfl) (by kernel_rfl) (by kernel_rfl) (fun _ _ _ h => h) (Or.inl ⟨by rfl, ?_⟩) (by assumption) ?_
    rotate_left
    · (intro w hSw; (try dsimp only at hSw); go_simp; try (with_reducible rfl))
    try simp only [Act.put, List.setIfInBounds_toArray, List.set_cons_zero, List.set_cons_succ]
    refine wpAnyH_ready (rs := [17]) (by kernel_rfl) (by simp) ?_
    refine AllReadyH.cons (o := { dst := some 44, op := Op.call { callee := Callee.value (Operand.func 28), args := #[Operand.tmp 43], argTypes := #[28] }, type := 4, pos := "law.go:34", after := #[{ on := 16, ground := Ground.data }, { on := 15, ground := Ground.chain }, { on := 15, ground := Ground.guard }], guard := some (15, true) }) rfl (fun K hK => ?_) AllReadyH.nil
    go_simp
    (go_at_call 28; refine (right_b W4 _ _ _ (by assumption) (by first | (with_reducible assumption) | (exact Moves.drew (by with_reducible assumption)))).mono ?_; rintro _ w8 ⟨rfl, m8⟩; (try (first | rw [eXX] | rw [eCD])); have ea0 := m8.cell Da0; have ea1 := m8.cell Da1; have ea2 := m8.cell Da2; have eb0 := m8.cell Db0; have eb1 := m8.cell Db1; have eb2 := m8.cell Db2; have ex0 := m8.cell Dx0; have ex1 := m8.cell Dx1; have ex2 := m8.cell Dx2; have ey0 := m8.cell Dy0; have ey1 := m8.cell Dy1; have ey2 := m8.cell Dy2; have ec0 := m8.cell Dc0; have ec1 := m8.cell Dc1; have ec2 := m8.cell Dc2; have ed0 := m8.cell Dd0; have ed1 := m8.cell Dd1; have ed2 := m8.cell Dd2; clear a0 a1 a2 b0 b1 b2 x0 x1 x2 y0 y1 y2 c0 c1 c2 d0 d1 d2; have a0 := ea0; have a1 := ea1; have a2 := ea2; have b0 := eb0; have b1 := eb1; have b2 := eb2; have x0 := ex0; have x1 := ex1; have x2 := ex2; have y0 := ey0; have y1 := ey1; have y2 := ey2; have c0 := ec0; have c1 := ec1; have c2 := ec2; have d0 := ed0; have d1 := ed1; have d2 := ed2; clear ea0 ea1 ea2 eb0 eb1 eb2 ex0 ex1 ex2 ey0 ey1 ey2 ec0 ec1 ec2 ed0 ed1 ed2)
    refine hK.out _ _ ?_ (fun hHeld => ?_)
    · (exact ⟨a0, a1, a2, b0, b1, b2, x0, x1, x2, y0, y1, y2, c0, c1, c2, d0, d1, d2⟩)
    clear hK K
    try simp only [Act.put, List.setIfInBounds_toArray, List.set_cons_zero, List.set_cons_succ]
    refine wpAnyH_ready (rs := [19]) (by kernel_rfl) (by simp) ?_
    refine AllReadyH.cons (o := { dst := some 46, op := Op.call { callee := Callee.value (Operand.func 29), args := #[Operand.tmp 45], argTypes := #[28] }, type := 4, pos := "law.go:34", after := #[{ on := 18, ground := Ground.data }, { on := 17, ground := Ground.chain }, { on := 15, ground := Ground.guard }], guard := some (15, true) }) rfl (fun K hK => ?_) AllReadyH.nil
    go_simp
    (go_at_call 29; refine (rright_b W4 _ _ _ (by assumption) (by first | (with_reducible assumption) | (exact Moves.drew (by with_reducible assumption)))).mono ?_; rintro _ w8 ⟨rfl, m8⟩; (try (first | rw [eXX] | rw [eCD])); have ea0 := m8.cell Da0; have ea1 := m8.cell Da1; have ea2 := m8.cell Da2; have eb0 := m8.cell Db0; have eb1 := m8.cell Db1; have eb2 := m8.cell Db2; have ex0 := m8.cell Dx0; have ex1 := m8.cell Dx1; have ex2 := m8.cell Dx2; have ey0 := m8.cell Dy0; have ey1 := m8.cell Dy1; have ey2 := m8.cell Dy2; have ec0 := m8.cell Dc0; have ec1 := m8.cell Dc1; have ec2 := m8.cell Dc2; have ed0 := m8.cell Dd0; have ed1 := m8.cell Dd1; have ed2 := m8.cell Dd2; clear a0 a1 a2 b0 b1 b2 x0 x1 x2 y0 y1 y2 c0 c1 c2 d0 d1 d2; have a0 := ea0; have a1 := ea1; have a2 := ea2; have b0 := eb0; have b1 := eb1; have b2 := eb2; have x0 := ex0; have x1 := ex1; have x2 := ex2; have y0 := ey0; have y1 := ey1; have y2 := ey2; have c0 := ec0; have c1 := ec1; have c2 := ec2; have d0 := ed0; have d1 := ed1; have d2 := ed2; clear ea0 ea1 ea2 eb0 eb1 eb2 ex0 ex1 ex2 ey0 ey1 ey2 ec0 ec1 ec2 ed0 ed1 ed2)
    refine hK.out _ _ ?_ (fun hHeld => ?_)
    · (exact ⟨a0, a1, a2, b0, b1, b2, x0, x1, x2, y0, y1, y2, c0, c1, c2, d0, d1, d2⟩)
    clear hK K
    try simp only [Act.put, List.setIfInBounds_toArray, List.set_cons_zero, List.set_cons_succ]
    refine wpAnyH_take (i := 20) (oi := { dst := some 47, op := Op.binOp BinOp.eql 4 (Operand.tmp 44) (Operand.tmp 46) 4, type := 4, pos := "law.go:34", after := #[{ on := 17, ground := Ground.data }, { on := 19, ground := Ground.data }, { on := 15, ground := Ground.guard }], guard := some (15, true) }) (v := ?_) rfl (by kernel_rfl) (by kernel_rfl) (by kernel_rfl) (fun _ _ _ h => h) (Or.inl ⟨by rfl, ?_⟩) (by assumption) ?_
    rotate_left
    · (intro w hSw; (try dsimp only at hSw); go_simp; try (with_reducible rfl))
    try simp only [Act.put, List.setIfInBounds_toArray, List.set_cons_zero, List.set_cons_succ]
    refine wpAnyH_take (i := 21) (oi := { dst := some 48, op := Op.pick (Operand.tmp 42) (Operand.tmp 47) (Operand.const (Value.bool false)), type := 4, pos := "law.go:34", after := #[{ on := 15, ground := Ground.data }, { on := 20, ground := Ground.data }], guard := none }) (v := ?_) rfl (by kernel_rfl) (by kernel_rfl) (by kernel_rfl) (fun _ _ _ h => h) (Or.inl ⟨by rfl, ?_⟩) (by assumption) ?_
    rotate_left
    · (intro w hSw; (try dsimp only at hSw); go_simp; try (with_reducible rfl))
    try simp only [Act.put, List.setIfInBounds_toArray, List.set_cons_zero, List.set_cons_succ]
    refine wpAnyH_take (i := 22) (oi := { dst := some 49, op := Op.move (Operand.tmp 48), type := 4, pos := "law.go:34", after := #[{ on := 21, ground := Ground.data }, { on := 19, ground := Ground.chain }], guard := none }) (v := ?_) rfl (by kernel_rfl) (by kernel_rfl) (by kernel_rfl) (fun _ _ _ h => h) (Or.inl ⟨by rfl, ?_⟩) (by assumption) ?_
    rotate_left
    · (intro w hSw; (try dsimp only at hSw); go_simp; try (with_reducible rfl))
    try simp only [Act.put, List.setIfInBounds_toArray, List.set_cons_zero, List.set_cons_succ]
    refine wpAnyH_take (i := 23) (oi := { dst := some 50, op := Op.load 28 (Operand.tmp 2), type := 28, pos := "law.go:34", after := #[{ on := 22, ground := Ground.guard }], guard := some (22, true) }) (v := ?_) rfl (by kernel_rfl) (by kernel_rfl) (by kernel_rfl) (fun _ _ _ h => h) (Or.inl ⟨by rfl, ?_⟩) (by assumption) ?_
    rotate_left
    · (intro w hSw; (try dsimp only at hSw); go_simp; try (with_reducible rfl))
    try simp only [Act.put, List.setIfInBounds_toArray, List.set_cons_zero, List.set_cons_succ]
    refine wpAnyH_take (i := 24) (oi := { dst := some 51, op := Op.load 28 (Operand.tmp 3), type := 28, pos := "law.go:34", after := #[{ on := 22, ground := Ground.guard }], guard := some (22, true) }) (v := ?_) rfl (by kernel_rfl) (by kernel_rfl) (by kernel_rfl) (fun _ _ _ h => h) (Or.inl ⟨by rfl, ?_⟩) (by assumption) ?_
    rotate_left
    · (intro w hSw; (try dsimp only at hSw); go_simp; try (with_reducible rfl))
    try simp only [Act.put, List.setIfInBounds_toArray, List.set_cons_zero, List.set_cons_succ]
    refine wpAnyH_take (i := 26) (oi := { dst := some 53, op := Op.load 28 (Operand.tmp 2), type := 28, pos := "law.go:34", after := #[{ on := 22, ground := Ground.guard }], guard := some (22, true) }) (v := ?_) rfl (by kernel_rfl) (by kernel_rfl) (by kernel_rfl) (fun _ _ _ h => h) (Or.inl ⟨by rfl, ?_⟩) (by assumption) ?_
    rotate_left
    · (intro w hSw; (try dsimp only at hSw); go_simp; try (with_reducible rfl))
    try simp only [Act.put, List.setIfInBounds_toArray, List.set_cons_zero, List.set_cons_succ]
    refine wpAnyH_take (i := 27) (oi := { dst := some 54, op := Op.load 28 (Operand.tmp 3), type := 28, pos := "law.go:34", after := #[{ on := 22, ground := Ground.guard }], guard := some (22, true) }) (v := ?_) rfl (by kernel_rfl) (by kernel_rfl) (by kernel_rfl) (fun _ _ _ h => h) (Or.inl ⟨by rfl, ?_⟩) (by assumption) ?_
    rotate_left
    · (intro w hSw; (try dsimp only at hSw); go_simp; try (with_reducible rfl))
    try simp only [Act.put, List.setIfInBounds_toArray, List.set_cons_zero, List.set_cons_succ]
    refine wpAnyH_ready (rs := [25]) (by kernel_rfl) (by simp) ?_
    refine AllReadyH.cons (o := { dst := some 52, op := Op.call { callee := Callee.value (Operand.func 21), args := #[Operand.tmp 50, Operand.tmp 51], argTypes := #[28, 28] }, type := 4, pos := "law.go:34", after := #[{ on := 23, ground := Ground.data }, { on := 24, ground := Ground.data }, { on := 22, ground := Ground.chain }, { on := 22, ground := Ground.guard }], guard := some (22, true) }) rfl (fun K hK => ?_) AllReadyH.nil
    go_simp
    (go_at_call 21; refine (same_b W4 _ _ _ _ _ (by assumption) (by assumption) (by first | (with_reducible assumption) | (exact Moves.drew (by with_reducible assumption)))).mono ?_; rintro _ w8 ⟨rfl, m8⟩; (try (first | rw [eXX] | rw [eCD])); have ea0 := m8.cell Da0; have ea1 := m8.cell Da1; have ea2 := m8.cell Da2; have eb0 := m8.cell Db0; have eb1 := m8.cell Db1; have eb2 := m8.cell Db2; have ex0 := m8.cell Dx0; have ex1 := m8.cell Dx1; have ex2 := m8.cell Dx2; have ey0 := m8.cell Dy0; have ey1 := m8.cell Dy1; have ey2 := m8.cell Dy2; have ec0 := m8.cell Dc0; have ec1 := m8.cell Dc1; have ec2 := m8.cell Dc2; have ed0 := m8.cell Dd0; have ed1 := m8.cell Dd1; have ed2 := m8.cell Dd2; clear a0 a1 a2 b0 b1 b2 x0 x1 x2 y0 y1 y2 c0 c1 c2 d0 d1 d2; have a0 := ea0; have a1 := ea1; have a2 := ea2; have b0 := eb0; have b1 := eb1; have b2 := eb2; have x0 := ex0; have x1 := ex1; have x2 := ex2; have y0 := ey0; have y1 := ey1; have y2 := ey2; have c0 := ec0; have c1 := ec1; have c2 := ec2; have d0 := ed0; have d1 := ed1; have d2 := ed2; clear ea0 ea1 ea2 eb0 eb1 eb2 ex0 ex1 ex2 ey0 ey1 ey2 ec0 ec1 ec2 ed0 ed1 ed2)
    refine hK.out _ _ ?_ (fun hHeld => ?_)
    · (exact ⟨a0, a1, a2, b0, b1, b2, x0, x1, x2, y0, y1, y2, c0, c1, c2, d0, d1, d2⟩)
    clear hK K
    try simp only [Act.put, List.setIfInBounds_toArray, List.set_cons_zero, List.set_cons_succ]
    refine wpAnyH_ready (rs := [28]) (by kernel_rfl) (by simp) ?_
    refine AllReadyH.cons (o := { dst := some 55, op := Op.call { callee := Callee.value (Operand.func 27), args := #[Operand.tmp 53, Operand.tmp 54], argTypes := #[28, 28] }, type := 4, pos := "law.go:34", after := #[{ on := 26, ground := Ground.data }, { on := 27, ground := Ground.data }, { on := 25, ground := Ground.chain }, { on := 22, ground := Ground.guard }], guard := some (22, true) }) rfl (fun K hK => ?_) AllReadyH.nil
    go_simp
    (go_at_call 27; refine (rsame_b W4 _ _ _ _ _ (by assumption) (by assumption) (by first | (with_reducible assumption) | (exact Moves.drew (by with_reducible assumption)))).mono ?_; rintro _ w8 ⟨rfl, m8⟩; (try (first | rw [eXX] | rw [eCD])); have ea0 := m8.cell Da0; have ea1 := m8.cell Da1; have ea2 := m8.cell Da2; have eb0 := m8.cell Db0; have eb1 := m8.cell Db1; have eb2 := m8.cell Db2; have ex0 := m8.cell Dx0; have ex1 := m8.cell Dx1; have ex2 := m8.cell Dx2; have ey0 := m8.cell Dy0; have ey1 := m8.cell Dy1; have ey2 := m8.cell Dy2; have ec0 := m8.cell Dc0; have ec1 := m8.cell Dc1; have ec2 := m8.cell Dc2; have ed0 := m8.cell Dd0; have ed1 := m8.cell Dd1; have ed2 := m8.cell Dd2; clear a0 a1 a2 b0 b1 b2 x0 x1 x2 y0 y1 y2 c0 c1 c2 d0 d1 d2; have a0 := ea0; have a1 := ea1; have a2 := ea2; have b0 := eb0; have b1 := eb1; have b2 := eb2; have x0 := ex0; have x1 := ex1; have x2 := ex2; have y0 := ey0; have y1 := ey1; have y2 := ey2; have c0 := ec0; have c1 := ec1; have c2 := ec2; have d0 := ed0; have d1 := ed1; have d2 := ed2; clear ea0 ea1 ea2 eb0 eb1 eb2 ex0 ex1 ex2 ey0 ey1 ey2 ec0 ec1 ec2 ed0 ed1 ed2)
    refine hK.out _ _ ?_ (fun hHeld => ?_)
    · (exact ⟨a0, a1, a2, b0, b1, b2, x0, x1, x2, y0, y1, y2, c0, c1, c2, d0, d1, d2⟩)
    clear hK K
    try simp only [Act.put, List.setIfInBounds_toArray, List.set_cons_zero, List.set_cons_succ]
    refine wpAnyH_take (i := 29) (oi := { dst := some 56, op := Op.binOp BinOp.eql 4 (Operand.tmp 52) (Operand.tmp 55) 4, type := 4, pos := "law.go:34", after := #[{ on := 25, ground := Ground.data }, { on := 28, ground := Ground.data }, { on := 22, ground := Ground.guard }], guard := some (22, true) }) (v := ?_) rfl (by kernel_rfl) (by kernel_rfl) (by kernel_rfl) (fun _ _ _ h => h) (Or.inl ⟨by rfl, ?_⟩) (by assumption) ?_
    rotate_left
    · (intro w hSw; (try dsimp only at hSw); go_simp; try (with_reducible rfl))
    try simp only [Act.put, List.setIfInBounds_toArray, List.set_cons_zero, List.set_cons_succ]
    refine wpAnyH_take (i := 30) (oi := { dst := some 57, op := Op.pick (Operand.tmp 49) (Operand.tmp 56) (Operand.const (Value.bool false)), type := 4, pos := "law.go:34", after := #[{ on := 22, ground := Ground.data }, { on := 29, ground := Ground.data }], guard := none }) (v := ?_) rfl (by kernel_rfl) (by kernel_rfl) (by kernel_rfl) (fun _ _ _ h => h) (Or.inl ⟨by rfl, ?_⟩) (by assumption) ?_
    rotate_left
    · (intro w hSw; (try dsimp only at hSw); go_simp; try (with_reducible rfl))
    try simp only [Act.put, List.setIfInBounds_toArray, List.set_cons_zero, List.set_cons_succ]
    refine wpAnyH_take (i := 31) (oi := { dst := some 58, op := Op.move (Operand.tmp 57), type := 4, pos := "law.go:34", after := #[{ on := 30, ground := Ground.data }, { on := 28, ground := Ground.chain }], guard := none }) (v := ?_) rfl (by kernel_rfl) (by kernel_rfl) (by kernel_rfl) (fun _ _ _ h => h) (Or.inl ⟨by rfl, ?_⟩) (by assumption) ?_
    rotate_left
    · (intro w hSw; (try dsimp only at hSw); go_simp; try (with_reducible rfl))
    try simp only [Act.put, List.setIfInBounds_toArray, List.set_cons_zero, List.set_cons_succ]
    refine wpAnyH_take (i := 32) (oi := { dst := some 59, op := Op.load 28 (Operand.tmp 2), type := 28, pos := "law.go:34", after := #[{ on := 31, ground := Ground.guard }], guard := some (31, true) }) (v := ?_) rfl (by kernel_rfl) (by kernel_rfl) (by kernel_rfl) (fun _ _ _ h => h) (Or.inl ⟨by rfl, ?_⟩) (by assumption) ?_
    rotate_left
    · (intro w hSw; (try dsimp only at hSw); go_simp; try (with_reducible rfl))
    try simp only [Act.put, List.setIfInBounds_toArray, List.set_cons_zero, List.set_cons_succ]
    refine wpAnyH_take (i := 33) (oi := { dst := some 60, op := Op.load 28 (Operand.tmp 3), type := 28, pos := "law.go:34", after := #[{ on := 31, ground := Ground.guard }], guard := some (31, true) }) (v := ?_) rfl (by kernel_rfl) (by kernel_rfl) (by kernel_rfl) (fun _ _ _ h => h) (Or.inl ⟨by rfl, ?_⟩) (by assumption) ?_
    rotate_left
    · (intro w hSw; (try dsimp only at hSw); go_simp; try (with_reducible rfl))
    try simp only [Act.put, List.setIfInBounds_toArray, List.set_cons_zero, List.set_cons_succ]
    refine wpAnyH_take (i := 35) (oi := { dst := some 62, op := Op.load 28 (Operand.tmp 2), type := 28, pos := "law.go:34", after := #[{ on := 31, ground := Ground.guard }], guard := some (31, true) }) (v := ?_) rfl (by kernel_rfl) (by kernel_rfl) (by kernel_rfl) (fun _ _ _ h => h) (Or.inl ⟨by rfl, ?_⟩) (by assumption) ?_
    rotate_left
    · (intro w hSw; (try dsimp only at hSw); go_simp; try (with_reducible rfl))
    try simp only [Act.put, List.setIfInBounds_toArray, List.set_cons_zero, List.set_cons_succ]
    refine wpAnyH_take (i := 36) (oi := { dst := some 63, op := Op.load 28 (Operand.tmp 3), type := 28, pos := "law.go:34", after := #[{ on := 31, ground := Ground.guard }], guard := some (31, true) }) (v := ?_) rfl (by kernel_rfl) (by kernel_rfl) (by kernel_rfl) (fun _ _ _ h => h) (Or.inl ⟨by rfl, ?_⟩) (by assumption) ?_
    rotate_left
    · (intro w hSw; (try dsimp only at hSw); go_simp; try (with_reducible rfl))
    try simp only [Act.put, List.setIfInBounds_toArray, List.set_cons_zero, List.set_cons_succ]
    refine wpAnyH_ready (rs := [34]) (by kernel_rfl) (by simp) ?_
    refine AllReadyH.cons (o := { dst := some 61, op := Op.call { callee := Callee.value (Operand.func 22), args := #[Operand.tmp 59, Operand.tmp 60], argTypes := #[28, 28] }, type := 3, pos := "law.go:34", after := #[{ on := 32, ground := Ground.data }, { on := 33, ground := Ground.data }, { on := 31, ground := Ground.chain }, { on := 31, ground := Ground.guard }], guard := some (31, true) }) rfl (fun K hK => ?_) AllReadyH.nil
    go_simp
    (go_at_call 22; refine (order_b W4 _ _ _ _ _ (by assumption) (by assumption) (by first | (with_reducible assumption) | (exact Moves.drew (by with_reducible assumption)))).mono ?_; rintro _ w8 ⟨rfl, m8⟩; (try (first | rw [eXX] | rw [eCD])); have ea0 := m8.cell Da0; have ea1 := m8.cell Da1; have ea2 := m8.cell Da2; have eb0 := m8.cell Db0; have eb1 := m8.cell Db1; have eb2 := m8.cell Db2; have ex0 := m8.cell Dx0; have ex1 := m8.cell Dx1; have ex2 := m8.cell Dx2; have ey0 := m8.cell Dy0; have ey1 := m8.cell Dy1; have ey2 := m8.cell Dy2; have ec0 := m8.cell Dc0; have ec1 := m8.cell Dc1; have ec2 := m8.cell Dc2; have ed0 := m8.cell Dd0; have ed1 := m8.cell Dd1; have ed2 := m8.cell Dd2; clear a0 a1 a2 b0 b1 b2 x0 x1 x2 y0 y1 y2 c0 c1 c2 d0 d1 d2; have a0 := ea0; have a1 := ea1; have a2 := ea2; have b0 := eb0; have b1 := eb1; have b2 := eb2; have x0 := ex0; have x1 := ex1; have x2 := ex2; have y0 := ey0; have y1 := ey1; have y2 := ey2; have c0 := ec0; have c1 := ec1; have c2 := ec2; have d0 := ed0; have d1 := ed1; have d2 := ed2; clear ea0 ea1 ea2 eb0 eb1 eb2 ex0 ex1 ex2 ey0 ey1 ey2 ec0 ec1 ec2 ed0 ed1 ed2)
    refine hK.out _ _ ?_ (fun hHeld => ?_)
    · (exact ⟨a0, a1, a2, b0, b1, b2, x0, x1, x2, y0, y1, y2, c0, c1, c2, d0, d1, d2⟩)
    clear hK K
    try simp only [Act.put, List.setIfInBounds_toArray, List.set_cons_zero, List.set_cons_succ]
    refine wpAnyH_ready (rs := [37]) (by kernel_rfl) (by simp) ?_
    refine AllReadyH.cons (o := { dst := some 64, op := Op.call { callee := Callee.value (Operand.func 30), args := #[Operand.tmp 62, Operand.tmp 63], argTypes := #[28, 28] }, type := 3, pos := "law.go:34", after := #[{ on := 35, ground := Ground.data }, { on := 36, ground := Ground.data }, { on := 34, ground := Ground.chain }, { on := 31, ground := Ground.guard }], guard := some (31, true) }) rfl (fun K hK => ?_) AllReadyH.nil
    go_simp
    (go_at_call 30; refine (rorder_b W4 _ _ _ _ _ (by assumption) (by assumption) (by first | (with_reducible assumption) | (exact Moves.drew (by with_reducible assumption)))).mono ?_; rintro _ w8 ⟨rfl, m8⟩; (try (first | rw [eXX] | rw [eCD])); have ea0 := m8.cell Da0; have ea1 := m8.cell Da1; have ea2 := m8.cell Da2; have eb0 := m8.cell Db0; have eb1 := m8.cell Db1; have eb2 := m8.cell Db2; have ex0 := m8.cell Dx0; have ex1 := m8.cell Dx1; have ex2 := m8.cell Dx2; have ey0 := m8.cell Dy0; have ey1 := m8.cell Dy1; have ey2 := m8.cell Dy2; have ec0 := m8.cell Dc0; have ec1 := m8.cell Dc1; have ec2 := m8.cell Dc2; have ed0 := m8.cell Dd0; have ed1 := m8.cell Dd1; have ed2 := m8.cell Dd2; clear a0 a1 a2 b0 b1 b2 x0 x1 x2 y0 y1 y2 c0 c1 c2 d0 d1 d2; have a0 := ea0; have a1 := ea1; have a2 := ea2; have b0 := eb0; have b1 := eb1; have b2 := eb2; have x0 := ex0; have x1 := ex1; have x2 := ex2; have y0 := ey0; have y1 := ey1; have y2 := ey2; have c0 := ec0; have c1 := ec1; have c2 := ec2; have d0 := ed0; have d1 := ed1; have d2 := ed2; clear ea0 ea1 ea2 eb0 eb1 eb2 ex0 ex1 ex2 ey0 ey1 ey2 ec0 ec1 ec2 ed0 ed1 ed2)
    refine hK.out _ _ ?_ (fun hHeld => ?_)
    · (exact ⟨a0, a1, a2, b0, b1, b2, x0, x1, x2, y0, y1, y2, c0, c1, c2, d0, d1, d2⟩)
    clear hK K
    try simp only [Act.put, List.setIfInBounds_toArray, List.set_cons_zero, List.set_cons_succ]
    refine wpAnyH_take (i := 38) (oi := { dst := some 65, op := Op.binOp BinOp.eql 3 (Operand.tmp 61) (Operand.tmp 64) 3, type := 4, pos := "law.go:34", after := #[{ on := 34, ground := Ground.data }, { on := 37, ground := Ground.data }, { on := 31, ground := Ground.guard }], guard := some (31, true) }) (v := ?_) rfl (by kernel_rfl) (by kernel_rfl) (by kernel_rfl) (fun _ _ _ h => h) (Or.inl ⟨by rfl, ?_⟩) (by assumption) ?_
    rotate_left
    · (intro w hSw; (try dsimp only at hSw); go_simp; try (with_reducible rfl))
    try simp only [Act.put, List.setIfInBounds_toArray, List.set_cons_zero, List.set_cons_succ]
    refine wpAnyH_take (i := 39) (oi := { dst := some 66, op := Op.pick (Operand.tmp 58) (Operand.tmp 65) (Operand.const (Value.bool false)), type := 4, pos := "law.go:34", after := #[{ on := 31, ground := Ground.data }, { on := 38, ground := Ground.data }], guard := none }) (v := ?_) rfl (by kernel_rfl) (by kernel_rfl) (by kernel_rfl) (fun _ _ _ h => h) (Or.inl ⟨by rfl, ?_⟩) (by assumption) ?_
    rotate_left
    · (intro w hSw; (try dsimp only at hSw); go_simp; try (with_reducible rfl))
    try simp only [Act.put, List.setIfInBounds_toArray, List.set_cons_zero, List.set_cons_succ]
    refine wpAnyH_take (i := 40) (oi := { dst := some 67, op := Op.move (Operand.tmp 66), type := 4, pos := "law.go:34", after := #[{ on := 39, ground := Ground.data }, { on := 37, ground := Ground.chain }], guard := none }) (v := ?_) rfl (by kernel_rfl) (by kernel_rfl) (by kernel_rfl) (fun _ _ _ h => h) (Or.inl ⟨by rfl, ?_⟩) (by assumption) ?_
    rotate_left
    · (intro w hSw; (try dsimp only at hSw); go_simp; try (with_reducible rfl))
    try simp only [Act.put, List.setIfInBounds_toArray, List.set_cons_zero, List.set_cons_succ]
    refine wpAnyH_take (i := 41) (oi := { dst := some 68, op := Op.fieldAddr 28 (Operand.tmp 9) 0, type := 0, pos := "law.go:34", after := #[{ on := 40, ground := Ground.guard }], guard := some (40, true) }) (v := ?_) rfl (by kernel_rfl) (by kernel_rfl) (by kernel_rfl) (fun _ _ _ h => h) (Or.inl ⟨by rfl, ?_⟩) (by assumption) ?_
    rotate_left
    · (intro w hSw; (try dsimp only at hSw); go_simp; try (with_reducible rfl))
    try simp only [Act.put, List.setIfInBounds_toArray, List.set_cons_zero, List.set_cons_succ]
    refine wpAnyH_take (i := 42) (oi := { dst := some 69, op := Op.load 3 (Operand.tmp 68), type := 3, pos := "law.go:34", after := #[{ on := 41, ground := Ground.data }, { on := 40, ground := Ground.guard }], guard := some (40, true) }) (v := ?_) rfl (by kernel_rfl) (by kernel_rfl) (by kernel_rfl) (fun _ _ _ h => h) (Or.inl ⟨by rfl, ?_⟩) (by assumption) ?_
    rotate_left
    · (intro w hSw; (try dsimp only at hSw); go_simp; try (with_reducible rfl))
    try simp only [Act.put, List.setIfInBounds_toArray, List.set_cons_zero, List.set_cons_succ]
    refine wpAnyH_take (i := 43) (oi := { dst := some 70, op := Op.fieldAddr 28 (Operand.tmp 10) 0, type := 0, pos := "law.go:34", after := #[{ on := 40, ground := Ground.guard }], guard := some (40, true) }) (v := ?_) rfl (by kernel_rfl) (by kernel_rfl) (by kernel_rfl) (fun _ _ _ h => h) (Or.inl ⟨by rfl, ?_⟩) (by assumption) ?_
    rotate_left
    · (intro w hSw; (try dsimp only at hSw); go_simp; try (with_reducible rfl))
    try simp only [Act.put, List.setIfInBounds_toArray, List.set_cons_zero, List.set_cons_succ]
    refine wpAnyH_take (i := 44) (oi := { dst := some 71, op := Op.load 3 (Operand.tmp 70), type := 3, pos := "law.go:34", after := #[{ on := 43, ground := Ground.data }, { on := 40, ground := Ground.guard }], guard := some (40, true) }) (v := ?_) rfl (by kernel_rfl) (by kernel_rfl) (by kernel_rfl) (fun _ _ _ h => h) (Or.inl ⟨by rfl, ?_⟩) (by assumption) ?_
    rotate_left
    · (intro w hSw; (try dsimp only at hSw); go_simp; try (with_reducible rfl))
    try simp only [Act.put, List.setIfInBounds_toArray, List.set_cons_zero, List.set_cons_succ]
    refine wpAnyH_take (i := 45) (oi := { dst := some 72, op := Op.binOp BinOp.eql 3 (Operand.tmp 69) (Operand.tmp 71) 3, type := 4, pos := "law.go:34", after := #[{ on := 42, ground := Ground.data }, { on := 44, ground := Ground.data }, { on := 40, ground := Ground.guard }], guard := some (40, true) }) (v := ?_) rfl (by kernel_rfl) (by kernel_rfl) (by kernel_rfl) (fun _ _ _ h => h) (Or.inl ⟨by rfl, ?_⟩) (by assumption) ?_
    rotate_left
    · (intro w hSw; (try dsimp only at hSw); go_simp; try (with_reducible rfl))
    try simp only [Act.put, List.setIfInBounds_toArray, List.set_cons_zero, List.set_cons_succ]
    refine wpAnyH_take (i := 46) (oi := { dst := some 73, op := Op.pick (Operand.tmp 67) (Operand.tmp 72) (Operand.const (Value.bool false)), type := 4, pos := "law.go:34", after := #[{ on := 40, ground := Ground.data }, { on := 45, ground := Ground.data }], guard := none }) (v := ?_) rfl (by kernel_rfl) (by kernel_rfl) (by kernel_rfl) (fun _ _ _ h => h) (Or.inl ⟨by rfl, ?_⟩) (by assumption) ?_
    rotate_left
    · (intro w hSw; (try dsimp only at hSw); go_simp; try (with_reducible rfl))
    try simp only [Act.put, List.setIfInBounds_toArray, List.set_cons_zero, List.set_cons_succ]
    refine wpAnyH_take (i := 47) (oi := { dst := some 74, op := Op.move (Operand.tmp 73), type := 4, pos := "law.go:34", after := #[{ on := 46, ground := Ground.data }, { on := 40, ground := Ground.chain }], guard := none }) (v := ?_) rfl (by kernel_rfl) (by kernel_rfl) (by kernel_rfl) (fun _ _ _ h => h) (Or.inl ⟨by rfl, ?_⟩) (by assumption) ?_
    rotate_left
    · (intro w hSw; (try dsimp only at hSw); go_simp; try (with_reducible rfl))
    try simp only [Act.put, List.setIfInBounds_toArray, List.set_cons_zero, List.set_cons_succ]
    refine wpAnyH_take (i := 48) (oi := { dst := some 75, op := Op.load 28 (Operand.tmp 9), type := 28, pos := "law.go:34", after := #[{ on := 47, ground := Ground.guard }], guard := some (47, true) }) (v := ?_) rfl (by kernel_rfl) (by kernel_rfl) (by kernel_rfl) (fun _ _ _ h => h) (Or.inl ⟨by rfl, ?_⟩) (by assumption) ?_
    rotate_left
    · (intro w hSw; (try dsimp only at hSw); go_simp; try (with_reducible rfl))
    try simp only [Act.put, List.setIfInBounds_toArray, List.set_cons_zero, List.set_cons_succ]
    refine wpAnyH_take (i := 49) (oi := { dst := some 76, op := Op.load 28 (Operand.tmp 10), type := 28, pos := "law.go:34", after := #[{ on := 47, ground := Ground.guard }], guard := some (47, true) }) (v := ?_) rfl (by kernel_rfl) (by kernel_rfl) (by kernel_rfl) (fun _ _ _ h => h) (Or.inl ⟨by rfl, ?_⟩) (by assumption) ?_
    rotate_left
    · (intro w hSw; (try dsimp only at hSw); go_simp; try (with_reducible rfl))
    try simp only [Act.put, List.setIfInBounds_toArray, List.set_cons_zero, List.set_cons_succ]
    refine wpAnyH_ready (rs := [50]) (by kernel_rfl) (by simp) ?_
    refine AllReadyH.cons (o := { dst := some 77, op := Op.call { callee := Callee.value (Operand.func 27), args := #[Operand.tmp 75, Operand.tmp 76], argTypes := #[28, 28] }, type := 4, pos := "law.go:34", after := #[{ on := 48, ground := Ground.data }, { on := 49, ground := Ground.data }, { on := 47, ground := Ground.chain }, { on := 47, ground := Ground.guard }], guard := some (47, true) }) rfl (fun K hK => ?_) AllReadyH.nil
    go_simp
    (go_at_call 27; refine (rsame_b W4 _ _ _ _ _ (by assumption) (by assumption) (by first | (with_reducible assumption) | (exact Moves.drew (by with_reducible assumption)))).mono ?_; rintro _ w8 ⟨rfl, m8⟩; (try (first | rw [eXX] | rw [eCD])); have ea0 := m8.cell Da0; have ea1 := m8.cell Da1; have ea2 := m8.cell Da2; have eb0 := m8.cell Db0; have eb1 := m8.cell Db1; have eb2 := m8.cell Db2; have ex0 := m8.cell Dx0; have ex1 := m8.cell Dx1; have ex2 := m8.cell Dx2; have ey0 := m8.cell Dy0; have ey1 := m8.cell Dy1; have ey2 := m8.cell Dy2; have ec0 := m8.cell Dc0; have ec1 := m8.cell Dc1; have ec2 := m8.cell Dc2; have ed0 := m8.cell Dd0; have ed1 := m8.cell Dd1; have ed2 := m8.cell Dd2; clear a0 a1 a2 b0 b1 b2 x0 x1 x2 y0 y1 y2 c0 c1 c2 d0 d1 d2; have a0 := ea0; have a1 := ea1; have a2 := ea2; have b0 := eb0; have b1 := eb1; have b2 := eb2; have x0 := ex0; have x1 := ex1; have x2 := ex2; have y0 := ey0; have y1 := ey1; have y2 := ey2; have c0 := ec0; have c1 := ec1; have c2 := ec2; have d0 := ed0; have d1 := ed1; have d2 := ed2; clear ea0 ea1 ea2 eb0 eb1 eb2 ex0 ex1 ex2 ey0 ey1 ey2 ec0 ec1 ec2 ed0 ed1 ed2)
    refine hK.out _ _ ?_ (fun hHeld => ?_)
    · (exact ⟨a0, a1, a2, b0, b1, b2, x0, x1, x2, y0, y1, y2, c0, c1, c2, d0, d1, d2⟩)
    clear hK K
    try simp only [Act.put, List.setIfInBounds_toArray, List.set_cons_zero, List.set_cons_succ]
    refine wpAnyH_take (i := 51) (oi := { dst := some 78, op := Op.pick (Operand.tmp 74) (Operand.tmp 77) (Operand.const (Value.bool false)), type := 4, pos := "law.go:34", after := #[{ on := 47, ground := Ground.data }, { on := 50, ground := Ground.data }], guard := none }) (v := ?_) rfl (by kernel_rfl) (by kernel_rfl) (by kernel_rfl) (fun _ _ _ h => h) (Or.inl ⟨by rfl, ?_⟩) (by assumption) ?_
    rotate_left
    · (intro w hSw; (try dsimp only at hSw); go_simp; try (with_reducible rfl))
    try simp only [Act.put, List.setIfInBounds_toArray, List.set_cons_zero, List.set_cons_succ]
    refine wpAnyH_take (i := 52) (oi := { dst := some 79, op := Op.move (Operand.tmp 78), type := 4, pos := "law.go:34", after := #[{ on := 51, ground := Ground.data }, { on := 50, ground := Ground.chain }], guard := none }) (v := ?_) rfl (by kernel_rfl) (by kernel_rfl) (by kernel_rfl) (fun _ _ _ h => h) (Or.inl ⟨by rfl, ?_⟩) (by assumption) ?_
    rotate_left
    · (intro w hSw; (try dsimp only at hSw); go_simp; try (with_reducible rfl))
    try simp only [Act.put, List.setIfInBounds_toArray, List.set_cons_zero, List.set_cons_succ]
    refine wpAnyH_take (i := 53) (oi := { dst := some 80, op := Op.fieldAddr 28 (Operand.tmp 9) 0, type := 0, pos := "law.go:34", after := #[{ on := 52, ground := Ground.guard }], guard := some (52, true) }) (v := ?_) rfl (by kernel_rfl) (by kernel_rfl) (by kernel_rfl) (fun _ _ _ h => h) (Or.inl ⟨by rfl, ?_⟩) (by assumption) ?_
    rotate_left
    · (intro w hSw; (try dsimp only at hSw); go_simp; try (with_reducible rfl))
    try simp only [Act.put, List.setIfInBounds_toArray, List.set_cons_zero, List.set_cons_succ]
    refine wpAnyH_take (i := 54) (oi := { dst := some 81, op := Op.load 3 (Operand.tmp 80), type := 3, pos := "law.go:34", after := #[{ on := 53, ground := Ground.data }, { on := 52, ground := Ground.guard }], guard := some (52, true) }) (v := ?_) rfl (by kernel_rfl) (by kernel_rfl) (by kernel_rfl) (fun _ _ _ h => h) (Or.inl ⟨by rfl, ?_⟩) (by assumption) ?_
    rotate_left
    · (intro w hSw; (try dsimp only at hSw); go_simp; try (with_reducible rfl))
    try simp only [Act.put, List.setIfInBounds_toArray, List.set_cons_zero, List.set_cons_succ]
    refine wpAnyH_take (i := 55) (oi := { dst := some 82, op := Op.binOp BinOp.eql 3 (Operand.tmp 81) (Operand.const (Value.int IntKind.i64 2)) 3, type := 4, pos := "law.go:34", after := #[{ on := 54, ground := Ground.data }, { on := 52, ground := Ground.guard }], guard := some (52, true) }) (v := ?_) rfl (by kernel_rfl) (by kernel_rfl) (by kernel_rfl) (fun _ _ _ h => h) (Or.inl ⟨by rfl, ?_⟩) (by assumption) ?_
    rotate_left
    · (intro w hSw; (try dsimp only at hSw); go_simp; try (with_reducible rfl))
    try simp only [Act.put, List.setIfInBounds_toArray, List.set_cons_zero, List.set_cons_succ]
    refine wpAnyH_take (i := 56) (oi := { dst := some 83, op := Op.move (Operand.tmp 82), type := 4, pos := "law.go:34", after := #[{ on := 55, ground := Ground.data }, { on := 52, ground := Ground.chain }, { on := 52, ground := Ground.guard }], guard := some (52, true) }) (v := ?_) rfl (by kernel_rfl) (by kernel_rfl) (by kernel_rfl) (fun _ _ _ h => h) (Or.inl ⟨by rfl, ?_⟩) (by assumption) ?_
    rotate_left
    · (intro w hSw; (try dsimp only at hSw); go_simp; try (with_reducible rfl))
    try simp only [Act.put, List.setIfInBounds_toArray, List.set_cons_zero, List.set_cons_succ]
    refine wpAnyH_take (i := 57) (oi := { dst := some 84, op := Op.fieldAddr 28 (Operand.tmp 9) 2, type := 0, pos := "law.go:34", after := #[{ on := 56, ground := Ground.guard }], guard := some (56, false) }) (v := ?_) rfl (by kernel_rfl) (by kernel_rfl) (by kernel_rfl) (fun _ _ _ h => h) (Or.inl ⟨by rfl, ?_⟩) (by assumption) ?_
    rotate_left
    · (intro w hSw; (try dsimp only at hSw); go_simp; try (with_reducible rfl))
    try simp only [Act.put, List.setIfInBounds_toArray, List.set_cons_zero, List.set_cons_succ]
    refine wpAnyH_take (i := 58) (oi := { dst := some 85, op := Op.load 26 (Operand.tmp 84), type := 26, pos := "law.go:34", after := #[{ on := 57, ground := Ground.data }, { on := 56, ground := Ground.guard }], guard := some (56, false) }) (v := ?_) rfl (by kernel_rfl) (by kernel_rfl) (by kernel_rfl) (fun _ _ _ h => h) (Or.inl ⟨by rfl, ?_⟩) (by assumption) ?_
    rotate_left
    · (intro w hSw; (try dsimp only at hSw); go_simp; try (with_reducible rfl))
    try simp only [Act.put, List.setIfInBounds_toArray, List.set_cons_zero, List.set_cons_succ]
    refine wpAnyH_take (i := 59) (oi := { dst := some 86, op := Op.binOp BinOp.eql 26 (Operand.tmp 85) (Operand.const (Value.float FloatKind.f64 0)) 26, type := 4, pos := "law.go:34", after := #[{ on := 58, ground := Ground.data }, { on := 56, ground := Ground.guard }], guard := some (56, false) }) (v := ?_) rfl (by kernel_rfl) (by kernel_rfl) (by kernel_rfl) (fun _ _ _ h => h) (Or.inl ⟨by rfl, ?_⟩) (by assumption) ?_
    rotate_left
    · (intro w hSw; (try dsimp only at hSw); go_simp; try (with_reducible rfl))
    try simp only [Act.put, List.setIfInBounds_toArray, List.set_cons_zero, List.set_cons_succ]
    refine wpAnyH_take (i := 60) (oi := { dst := some 87, op := Op.pick (Operand.tmp 83) (Operand.const (Value.bool true)) (Operand.tmp 86), type := 4, pos := "law.go:34", after := #[{ on := 56, ground := Ground.data }, { on := 59, ground := Ground.data }, { on := 52, ground := Ground.guard }], guard := some (52, true) }) (v := ?_) rfl (by kernel_rfl) (by kernel_rfl) (by kernel_rfl) (fun _ _ _ h => h) (Or.inl ⟨by rfl, ?_⟩) (by assumption) ?_
    rotate_left
    · (intro w hSw; (try dsimp only at hSw); go_simp; try (with_reducible rfl))
    try simp only [Act.put, List.setIfInBounds_toArray, List.set_cons_zero, List.set_cons_succ]
    refine wpAnyH_take (i := 61) (oi := { dst := some 88, op := Op.pick (Operand.tmp 79) (Operand.tmp 87) (Operand.const (Value.bool false)), type := 4, pos := "law.go:34", after := #[{ on := 52, ground := Ground.data }, { on := 60, ground := Ground.data }], guard := none }) (v := ?_) rfl (by kernel_rfl) (by kernel_rfl) (by kernel_rfl) (fun _ _ _ h => h) (Or.inl ⟨by rfl, ?_⟩) (by assumption) ?_
    rotate_left
    · (intro w hSw; (try dsimp only at hSw); go_simp; try (with_reducible rfl))
    try simp only [Act.put, List.setIfInBounds_toArray, List.set_cons_zero, List.set_cons_succ]
    refine wpAnyH_take (i := 62) (oi := { dst := some 89, op := Op.move (Operand.tmp 88), type := 4, pos := "law.go:34", after := #[{ on := 61, ground := Ground.data }, { on := 56, ground := Ground.chain }], guard := none }) (v := ?_) rfl (by kernel_rfl) (by kernel_rfl) (by kernel_rfl) (fun _ _ _ h => h) (Or.inl ⟨by rfl, ?_⟩) (by assumption) ?_
    rotate_left
    · (intro w hSw; (try dsimp only at hSw); go_simp; try (with_reducible rfl))
    try simp only [Act.put, List.setIfInBounds_toArray, List.set_cons_zero, List.set_cons_succ]
    refine wpAnyH_take (i := 63) (oi := { dst := some 90, op := Op.fieldAddr 28 (Operand.tmp 9) 0, type := 0, pos := "law.go:34", after := #[{ on := 62, ground := Ground.guard }], guard := some (62, true) }) (v := ?_) rfl (by kernel_rfl) (by kernel_rfl) (by kernel_rfl) (fun _ _ _ h => h) (Or.inl ⟨by rfl, ?_⟩) (by assumption) ?_
    rotate_left
    · (intro w hSw; (try dsimp only at hSw); go_simp; try (with_reducible rfl))
    try simp only [Act.put, List.setIfInBounds_toArray, List.set_cons_zero, List.set_cons_succ]
    refine wpAnyH_take (i := 64) (oi := { dst := some 91, op := Op.load 3 (Operand.tmp 90), type := 3, pos := "law.go:34", after := #[{ on := 63, ground := Ground.data }, { on := 62, ground := Ground.guard }], guard := some (62, true) }) (v := ?_) rfl (by kernel_rfl) (by kernel_rfl) (by kernel_rfl) (fun _ _ _ h => h) (Or.inl ⟨by rfl, ?_⟩) (by assumption) ?_
    rotate_left
    · (intro w hSw; (try dsimp only at hSw); go_simp; try (with_reducible rfl))
    try simp only [Act.put, List.setIfInBounds_toArray, List.set_cons_zero, List.set_cons_succ]
    refine wpAnyH_take (i := 65) (oi := { dst := some 92, op := Op.binOp BinOp.eql 3 (Operand.tmp 91) (Operand.const (Value.int IntKind.i64 1)) 3, type := 4, pos := "law.go:34", after := #[{ on := 64, ground := Ground.data }, { on := 62, ground := Ground.guard }], guard := some (62, true) }) (v := ?_) rfl (by kernel_rfl) (by kernel_rfl) (by kernel_rfl) (fun _ _ _ h => h) (Or.inl ⟨by rfl, ?_⟩) (by assumption) ?_
    rotate_left
    · (intro w hSw; (try dsimp only at hSw); go_simp; try (with_reducible rfl))
    try simp only [Act.put, List.setIfInBounds_toArray, List.set_cons_zero, List.set_cons_succ]
    refine wpAnyH_take (i := 66) (oi := { dst := some 93, op := Op.move (Operand.tmp 92), type := 4, pos := "law.go:34", after := #[{ on := 65, ground := Ground.data }, { on := 62, ground := Ground.chain }, { on := 62, ground := Ground.guard }], guard := some (62, true) }) (v := ?_) rfl (by kernel_rfl) (by kernel_rfl) (by kernel_rfl) (fun _ _ _ h => h) (Or.inl ⟨by rfl, ?_⟩) (by assumption) ?_
    rotate_left
    · (intro w hSw; (try dsimp only at hSw); go_simp; try (with_reducible rfl))
    try simp only [Act.put, List.setIfInBounds_toArray, List.set_cons_zero, List.set_cons_succ]
    refine wpAnyH_take (i := 67) (oi := { dst := some 94, op := Op.fieldAddr 28 (Operand.tmp 9) 1, type := 0, pos := "law.go:34", after := #[{ on := 66, ground := Ground.guard }], guard := some (66, false) }) rfl (by kernel_rfl) (by kernel_rfl) (by kernel_rfl) (fun _ _ _ h => h) (Or.inr ⟨by rfl, rfl⟩) (by assumption) ?_
    try simp only [Act.put, List.setIfInBounds_toArray, List.set_cons_zero, List.set_cons_succ]
    refine wpAnyH_take (i := 68) (oi := { dst := some 95, op := Op.load 25 (Operand.tmp 94), type := 25, pos := "law.go:34", after := #[{ on := 67, ground := Ground.data }, { on := 66, ground := Ground.guard }], guard := some (66, false) }) rfl (by kernel_rfl) (by kernel_rfl) (by kernel_rfl) (fun _ _ _ h => h) (Or.inr ⟨by rfl, rfl⟩) (by assumption) ?_
    try simp only [Act.put, List.setIfInBounds_toArray, List.set_cons_zero, List.set_cons_succ]
    refine wpAnyH_take (i := 69) (oi := { dst := some 96, op := Op.call { callee := Callee.builtin Builtin.len, args := #[Operand.tmp 95], argTypes := #[25] }, type := 3, pos := "law.go:34", after := #[{ on := 68, ground := Ground.data }, { on := 66, ground := Ground.guard }], guard := some (66, false) }) rfl (by kernel_rfl) (by kernel_rfl) (by kernel_rfl) (fun _ _ _ h => h) (Or.inr ⟨by rfl, rfl⟩) (by assumption) ?_
    try simp only [Act.put, List.setIfInBounds_toArray, List.set_cons_zero, List.set_cons_succ]
    refine wpAnyH_take (i := 70) (oi := { dst := some 97, op := Op.binOp BinOp.eql 3 (Operand.tmp 96) (Operand.const (Value.int IntKind.i64 0)) 3, type := 4, pos := "law.go:34", after := #[{ on := 69, ground := Ground.data }, { on := 66, ground := Ground.guard }], guard := some (66, false) }) rfl (by kernel_rfl) (by kernel_rfl) (by kernel_rfl) (fun _ _ _ h => h) (Or.inr ⟨by rfl, rfl⟩) (by assumption) ?_
    try simp only [Act.put, List.setIfInBounds_toArray, List.set_cons_zero, List.set_cons_succ]
    refine wpAnyH_take (i := 71) (oi := { dst := some 98, op := Op.pick (Operand.tmp 93) (Operand.const (Value.bool true)) (Operand.tmp 97), type := 4, pos := "law.go:34", after := #[{ on := 66, ground := Ground.data }, { on := 70, ground := Ground.data }, { on := 62, ground := Ground.guard }], guard := some (62, true) }) (v := ?_) rfl (by kernel_rfl) (by kernel_rfl) (by kernel_rfl) (fun _ _ _ h => h) (Or.inl ⟨by rfl, ?_⟩) (by assumption) ?_
    rotate_left
    · (intro w hSw; (try dsimp only at hSw); go_simp; try (with_reducible rfl))
    try simp only [Act.put, List.setIfInBounds_toArray, List.set_cons_zero, List.set_cons_succ]
    refine wpAnyH_take (i := 72) (oi := { dst := some 99, op := Op.pick (Operand.tmp 89) (Operand.tmp 98) (Operand.const (Value.bool false)), type := 4, pos := "law.go:34", after := #[{ on := 62, ground := Ground.data }, { on := 71, ground := Ground.data }], guard := none }) (v := ?_) rfl (by kernel_rfl) (by kernel_rfl) (by kernel_rfl) (fun _ _ _ h => h) (Or.inl ⟨by rfl, ?_⟩) (by assumption) ?_
    rotate_left
    · (intro w hSw; (try dsimp only at hSw); go_simp; try (with_reducible rfl))
    try simp only [Act.put, List.setIfInBounds_toArray, List.set_cons_zero, List.set_cons_succ]
    refine wpAnyH_take (i := 73) (oi := { dst := some 4, op := Op.assign (Operand.tmp 99), type := 4, pos := "law.go:34", after := #[{ on := 72, ground := Ground.data }, { on := 66, ground := Ground.chain }, { on := 0, ground := Ground.phase }, { on := 1, ground := Ground.phase }, { on := 2, ground := Ground.phase }, { on := 3, ground := Ground.phase }, { on := 4, ground := Ground.phase }, { on := 5, ground := Ground.phase }, { on := 6, ground := Ground.phase }, { on := 7, ground := Ground.phase }, { on := 8, ground := Ground.phase }, { on := 9, ground := Ground.phase }, { on := 10, ground := Ground.phase }, { on := 11, ground := Ground.phase }, { on := 12, ground := Ground.phase }, { on := 13, ground := Ground.phase }, { on := 14, ground := Ground.phase }, { on := 15, ground := Ground.phase }, { on := 16, ground := Ground.phase }, { on := 17, ground := Ground.phase }, { on := 18, ground := Ground.phase }, { on := 19, ground := Ground.phase }, { on := 20, ground := Ground.phase }, { on := 21, ground := Ground.phase }, { on := 22, ground := Ground.phase }, { on := 23, ground := Ground.phase }, { on := 24, ground := Ground.phase }, { on := 25, ground := Ground.phase }, { on := 26, ground := Ground.phase }, { on := 27, ground := Ground.phase }, { on := 28, ground := Ground.phase }, { on := 29, ground := Ground.phase }, { on := 30, ground := Ground.phase }, { on := 31, ground := Ground.phase }, { on := 32, ground := Ground.phase }, { on := 33, ground := Ground.phase }, { on := 34, ground := Ground.phase }, { on := 35, ground := Ground.phase }, { on := 36, ground := Ground.phase }, { on := 37, ground := Ground.phase }, { on := 38, ground := Ground.phase }, { on := 39, ground := Ground.phase }, { on := 40, ground := Ground.phase }, { on := 41, ground := Ground.phase }, { on := 42, ground := Ground.phase }, { on := 43, ground := Ground.phase }, { on := 44, ground := Ground.phase }, { on := 45, ground := Ground.phase }, { on := 46, ground := Ground.phase }, { on := 47, ground := Ground.phase }, { on := 48, ground := Ground.phase }, { on := 49, ground := Ground.phase }, { on := 50, ground := Ground.phase }, { on := 51, ground := Ground.phase }, { on := 52, ground := Ground.phase }, { on := 53, ground := Ground.phase }, { on := 54, ground := Ground.phase }, { on := 55, ground := Ground.phase }, { on := 56, ground := Ground.phase }, { on := 57, ground := Ground.phase }, { on := 58, ground := Ground.phase }, { on := 59, ground := Ground.phase }, { on := 60, ground := Ground.phase }, { on := 61, ground := Ground.phase }, { on := 62, ground := Ground.phase }, { on := 63, ground := Ground.phase }, { on := 64, ground := Ground.phase }, { on := 65, ground := Ground.phase }, { on := 66, ground := Ground.phase }, { on := 67, ground := Ground.phase }, { on := 68, ground := Ground.phase }, { on := 69, ground := Ground.phase }, { on := 70, ground := Ground.phase }, { on := 71, ground := Ground.phase }, { on := 72, ground := Ground.phase }], guard := none }) (v := ?_) rfl (by kernel_rfl) (by kernel_rfl) (by kernel_rfl) (fun _ _ _ h => h) (Or.inl ⟨by rfl, ?_⟩) (by assumption) ?_
    rotate_left
    · (intro w hSw; (try dsimp only at hSw); go_simp; try (with_reducible rfl))
    try simp only [Act.put, List.setIfInBounds_toArray, List.set_cons_zero, List.set_cons_succ]
    refine wpAnyH_done (by kernel_rfl) ?_ _
    refine NoPanic.normal ?_
    go_wp2
    go_ret
    exact ⟨rfl, M4.then m8⟩
  · have hk : kc = 2 := by omega
    have ht : lenc = 0 := by rw [← hlc, ← htx, e]; rfl
    have ht2 : lend = 0 := by rw [← hld, ← htx, e]; rfl
    subst hk ht ht2
    clear hkc htx hnc z e hlc hld
    have Da0 := a0
    have Da1 := a1
    have Da2 := a2
    have Db0 := b0
    have Db1 := b1
    have Db2 := b2
    have Dx0 := x0
    have Dx1 := x1
    have Dx2 := x2
    have Dy0 := y0
    have Dy1 := y1
    have Dy2 := y2
    have Dc0 := c0
    have Dc1 := c1
    have Dc2 := c2
    have Dd0 := d0
    have Dd1 := d1
    have Dd2 := d2
    refine wp_region_noPanic ?_
    refine wp_region_held_drew (S := (fun w' => w'.cell? ⟨w.heap.size, 0, none⟩ = some (.int .i64 A.kind) ∧ w'.cell? ⟨w.heap.size, 1, none⟩ = some (.slice adA lenA capA) ∧ w'.cell? ⟨w.heap.size, 2, none⟩ = some (.float .f64 A.n) ∧ w'.cell? ⟨w.heap.size + 1, 0, none⟩ = some (.int .i64 B.kind) ∧ w'.cell? ⟨w.heap.size + 1, 1, none⟩ = some (.slice adB lenB capB) ∧ w'.cell? ⟨w.heap.size + 1, 2, none⟩ = some (.float .f64 B.n) ∧ w'.cell? ⟨qx, 0, none⟩ = some (.int .i64 kx) ∧ w'.cell? ⟨qx, 1, none⟩ = some (.slice none 0 0) ∧ w'.cell? ⟨qx, 2, none⟩ = some (.float .f64 nx) ∧ w'.cell? ⟨qy, 0, none⟩ = some (.int .i64 kx) ∧ w'.cell? ⟨qy, 1, none⟩ = some (.slice none 0 0) ∧ w'.cell? ⟨qy, 2, none⟩ = some (.float .f64 nx) ∧ w'.cell? ⟨qc, 0, none⟩ = some (.int .i64 2) ∧ w'.cell? ⟨qc, 1, none⟩ = some (.slice adc 0 capc) ∧ w'.cell? ⟨qc, 2, none⟩ = some (.float .f64 nc) ∧ w'.cell? ⟨qd, 0, none⟩ = some (.int .i64 2) ∧ w'.cell? ⟨qd, 1, none⟩ = some (.slice add 0 capd) ∧ w'.cell? ⟨qd, 2, none⟩ = some (.float .f64 nc))) (by kernel_rfl) ?_ (fun hHeld => ?_)
    · first | (go_keep; done) | (exact ⟨a0, a1, a2, b0, b1, b2, x0, x1, x2, y0, y1, y2, c0, c1, c2, d0, d1, d2⟩)
    refine wpAnyH_take (i := 0) (oi := { dst := some 27, op := Op.move (Operand.tmp 6), type := 50, pos := "law.go:34", after := #[], guard := none }) (v := ?_) rfl (by kernel_rfl) (by kernel_rfl) (by kernel_rfl) (fun _ _ _ h => h) (Or.inl ⟨by rfl, ?_⟩) (by assumption) ?_
    rotate_left
    · (intro w hSw; (try dsimp only at hSw); go_simp; try (with_reducible rfl))
    try simp only [Act.put, List.setIfInBounds_toArray, List.set_cons_zero, List.set_cons_succ]
    refine wpAnyH_take (i := 1) (oi := { dst := some 28, op := Op.move (Operand.tmp 8), type := 50, pos := "law.go:34", after := #[], guard := none }) (v := ?_) rfl (by kernel_rfl) (by kernel_rfl) (by kernel_rfl) (fun _ _ _ h => h) (Or.inl ⟨by rfl, ?_⟩) (by assumption) ?_
    rotate_left
    · (intro w hSw; (try dsimp only at hSw); go_simp; try (with_reducible rfl))
    try simp only [Act.put, List.setIfInBounds_toArray, List.set_cons_zero, List.set_cons_succ]
    refine wpAnyH_take (i := 2) (oi := { dst := some 29, op := Op.binOp BinOp.eql 50 (Operand.tmp 27) (Operand.tmp 28) 50, type := 4, pos := "law.go:34", after := #[{ on := 0, ground := Ground.data }, { on := 1, ground := Ground.data }], guard := none }) (v := ?_) rfl (by kernel_rfl) (by kernel_rfl) (by kernel_rfl) (fun _ _ _ h => h) (Or.inl ⟨by rfl, ?_⟩) (by assumption) ?_
    rotate_left
    · (intro w hSw; (try dsimp only at hSw); go_simp; try (with_reducible rfl))
    try simp only [Act.put, List.setIfInBounds_toArray, List.set_cons_zero, List.set_cons_succ]
    refine wpAnyH_take (i := 3) (oi := { dst := some 30, op := Op.move (Operand.tmp 29), type := 4, pos := "law.go:34", after := #[{ on := 2, ground := Ground.data }], guard := none }) (v := ?_) rfl (by kernel_rfl) (by kernel_rfl) (by kernel_rfl) (fun _ _ _ h => h) (Or.inl ⟨by rfl, ?_⟩) (by assumption) ?_
    rotate_left
    · (intro w hSw; (try dsimp only at hSw); go_simp; try (with_reducible rfl))
    try simp only [Act.put, List.setIfInBounds_toArray, List.set_cons_zero, List.set_cons_succ]
    refine wpAnyH_take (i := 4) (oi := { dst := some 31, op := Op.fieldAddr 28 (Operand.tmp 5) 0, type := 0, pos := "law.go:34", after := #[{ on := 3, ground := Ground.guard }], guard := some (3, true) }) (v := ?_) rfl (by kernel_rfl) (by kernel_rfl) (by kernel_rfl) (fun _ _ _ h => h) (Or.inl ⟨by rfl, ?_⟩) (by assumption) ?_
    rotate_left
    · (intro w hSw; (try dsimp only at hSw); go_simp; try (with_reducible rfl))
    try simp only [Act.put, List.setIfInBounds_toArray, List.set_cons_zero, List.set_cons_succ]
    refine wpAnyH_take (i := 5) (oi := { dst := some 32, op := Op.load 3 (Operand.tmp 31), type := 3, pos := "law.go:34", after := #[{ on := 4, ground := Ground.data }, { on := 3, ground := Ground.guard }], guard := some (3, true) }) (v := ?_) rfl (by kernel_rfl) (by kernel_rfl) (by kernel_rfl) (fun _ _ _ h => h) (Or.inl ⟨by rfl, ?_⟩) (by assumption) ?_
    rotate_left
    · (intro w hSw; (try dsimp only at hSw); go_simp; try (with_reducible rfl))
    try simp only [Act.put, List.setIfInBounds_toArray, List.set_cons_zero, List.set_cons_succ]
    refine wpAnyH_take (i := 6) (oi := { dst := some 33, op := Op.fieldAddr 28 (Operand.tmp 7) 0, type := 0, pos := "law.go:34", after := #[{ on := 3, ground := Ground.guard }], guard := some (3, true) }) (v := ?_) rfl (by kernel_rfl) (by kernel_rfl) (by kernel_rfl) (fun _ _ _ h => h) (Or.inl ⟨by rfl, ?_⟩) (by assumption) ?_
    rotate_left
    · (intro w hSw; (try dsimp only at hSw); go_simp; try (with_reducible rfl))
    try simp only [Act.put, List.setIfInBounds_toArray, List.set_cons_zero, List.set_cons_succ]
    refine wpAnyH_take (i := 7) (oi := { dst := some 34, op := Op.load 3 (Operand.tmp 33), type := 3, pos := "law.go:34", after := #[{ on := 6, ground := Ground.data }, { on := 3, ground := Ground.guard }], guard := some (3, true) }) (v := ?_) rfl (by kernel_rfl) (by kernel_rfl) (by kernel_rfl) (fun _ _ _ h => h) (Or.inl ⟨by rfl, ?_⟩) (by assumption) ?_
    rotate_left
    · (intro w hSw; (try dsimp only at hSw); go_simp; try (with_reducible rfl))
    try simp only [Act.put, List.setIfInBounds_toArray, List.set_cons_zero, List.set_cons_succ]
    refine wpAnyH_take (i := 8) (oi := { dst := some 35, op := Op.binOp BinOp.eql 3 (Operand.tmp 32) (Operand.tmp 34) 3, type := 4, pos := "law.go:34", after := #[{ on := 5, ground := Ground.data }, { on := 7, ground := Ground.data }, { on := 3, ground := Ground.guard }], guard := some (3, true) }) (v := ?_) rfl (by kernel_rfl) (by kernel_rfl) (by kernel_rfl) (fun _ _ _ h => h) (Or.inl ⟨by rfl, ?_⟩) (by assumption) ?_
    rotate_left
    · (intro w hSw; (try dsimp only at hSw); go_simp; try (with_reducible rfl))
    try simp only [Act.put, List.setIfInBounds_toArray, List.set_cons_zero, List.set_cons_succ]
    refine wpAnyH_take (i := 9) (oi := { dst := some 36, op := Op.pick (Operand.tmp 30) (Operand.tmp 35) (Operand.const (Value.bool false)), type := 4, pos := "law.go:34", after := #[{ on := 3, ground := Ground.data }, { on := 8, ground := Ground.data }], guard := none }) (v := ?_) rfl (by kernel_rfl) (by kernel_rfl) (by kernel_rfl) (fun _ _ _ h => h) (Or.inl ⟨by rfl, ?_⟩) (by assumption) ?_
    rotate_left
    · (intro w hSw; (try dsimp only at hSw); go_simp; try (with_reducible rfl))
    try simp only [Act.put, List.setIfInBounds_toArray, List.set_cons_zero, List.set_cons_succ]
    refine wpAnyH_take (i := 10) (oi := { dst := some 37, op := Op.move (Operand.tmp 36), type := 4, pos := "law.go:34", after := #[{ on := 9, ground := Ground.data }, { on := 3, ground := Ground.chain }], guard := none }) (v := ?_) rfl (by kernel_rfl) (by kernel_rfl) (by kernel_rfl) (fun _ _ _ h => h) (Or.inl ⟨by rfl, ?_⟩) (by assumption) ?_
    rotate_left
    · (intro w hSw; (try dsimp only at hSw); go_simp; try (with_reducible rfl))
    try simp only [Act.put, List.setIfInBounds_toArray, List.set_cons_zero, List.set_cons_succ]
    refine wpAnyH_take (i := 11) (oi := { dst := some 38, op := Op.load 28 (Operand.tmp 5), type := 28, pos := "law.go:34", after := #[{ on := 10, ground := Ground.guard }], guard := some (10, true) }) (v := ?_) rfl (by kernel_rfl) (by kernel_rfl) (by kernel_rfl) (fun _ _ _ h => h) (Or.inl ⟨by rfl, ?_⟩) (by assumption) ?_
    rotate_left
    · (intro w hSw; (try dsimp only at hSw); go_simp; try (with_reducible rfl))
    try simp only [Act.put, List.setIfInBounds_toArray, List.set_cons_zero, List.set_cons_succ]
    refine wpAnyH_take (i := 12) (oi := { dst := some 39, op := Op.load 28 (Operand.tmp 7), type := 28, pos := "law.go:34", after := #[{ on := 10, ground := Ground.guard }], guard := some (10, true) }) (v := ?_) rfl (by kernel_rfl) (by kernel_rfl) (by kernel_rfl) (fun _ _ _ h => h) (Or.inl ⟨by rfl, ?_⟩) (by assumption) ?_
    rotate_left
    · (intro w hSw; (try dsimp only at hSw); go_simp; try (with_reducible rfl))
    try simp only [Act.put, List.setIfInBounds_toArray, List.set_cons_zero, List.set_cons_succ]
    refine wpAnyH_ready (rs := [13]) (by kernel_rfl) (by simp) ?_
    refine AllReadyH.cons (o := { dst := some 40, op := Op.call { callee := Callee.value (Operand.func 27), args := #[Operand.tmp 38, Operand.tmp 39], argTypes := #[28, 28] }, type := 4, pos := "law.go:34", after := #[{ on := 11, ground := Ground.data }, { on := 12, ground := Ground.data }, { on := 10, ground := Ground.chain }, { on := 10, ground := Ground.guard }], guard := some (10, true) }) rfl (fun K hK => ?_) AllReadyH.nil
    go_simp
    (go_at_call 27; refine (rsame_b W4 _ _ _ _ _ (by assumption) (by assumption) (by first | (with_reducible assumption) | (exact Moves.drew (by with_reducible assumption)))).mono ?_; rintro _ w8 ⟨rfl, m8⟩; (try (first | rw [eXX] | rw [eCD])); have ea0 := m8.cell Da0; have ea1 := m8.cell Da1; have ea2 := m8.cell Da2; have eb0 := m8.cell Db0; have eb1 := m8.cell Db1; have eb2 := m8.cell Db2; have ex0 := m8.cell Dx0; have ex1 := m8.cell Dx1; have ex2 := m8.cell Dx2; have ey0 := m8.cell Dy0; have ey1 := m8.cell Dy1; have ey2 := m8.cell Dy2; have ec0 := m8.cell Dc0; have ec1 := m8.cell Dc1; have ec2 := m8.cell Dc2; have ed0 := m8.cell Dd0; have ed1 := m8.cell Dd1; have ed2 := m8.cell Dd2; clear a0 a1 a2 b0 b1 b2 x0 x1 x2 y0 y1 y2 c0 c1 c2 d0 d1 d2; have a0 := ea0; have a1 := ea1; have a2 := ea2; have b0 := eb0; have b1 := eb1; have b2 := eb2; have x0 := ex0; have x1 := ex1; have x2 := ex2; have y0 := ey0; have y1 := ey1; have y2 := ey2; have c0 := ec0; have c1 := ec1; have c2 := ec2; have d0 := ed0; have d1 := ed1; have d2 := ed2; clear ea0 ea1 ea2 eb0 eb1 eb2 ex0 ex1 ex2 ey0 ey1 ey2 ec0 ec1 ec2 ed0 ed1 ed2)
    refine hK.out _ _ ?_ (fun hHeld => ?_)
    · (exact ⟨a0, a1, a2, b0, b1, b2, x0, x1, x2, y0, y1, y2, c0, c1, c2, d0, d1, d2⟩)
    clear hK K
    try simp only [Act.put, List.setIfInBounds_toArray, List.set_cons_zero, List.set_cons_succ]
    refine wpAnyH_take (i := 14) (oi := { dst := some 41, op := Op.pick (Operand.tmp 37) (Operand.tmp 40) (Operand.const (Value.bool false)), type := 4, pos := "law.go:34", after := #[{ on := 10, ground := Ground.data }, { on := 13, ground := Ground.data }], guard := none }) (v := ?_) rfl (by kernel_rfl) (by kernel_rfl) (by kernel_rfl) (fun _ _ _ h => h) (Or.inl ⟨by rfl, ?_⟩) (by assumption) ?_
    rotate_left
    · (intro w hSw; (try dsimp only at hSw); go_simp; try (with_reducible rfl))
    try simp only [Act.put, List.setIfInBounds_toArray, List.set_cons_zero, List.set_cons_succ]
    refine wpAnyH_take (i := 15) (oi := { dst := some 42, op := Op.move (Operand.tmp 41), type := 4, pos := "law.go:34", after := #[{ on := 14, ground := Ground.data }, { on := 13, ground := Ground.chain }], guard := none }) (v := ?_) rfl (by kernel_rfl) (by kernel_rfl) (by kernel_rfl) (fun _ _ _ h => h) (Or.inl ⟨by rfl, ?_⟩) (by assumption) ?_
    rotate_left
    · (intro w hSw; (try dsimp only at hSw); go_simp; try (with_reducible rfl))
    try simp only [Act.put, List.setIfInBounds_toArray, List.set_cons_zero, List.set_cons_succ]
    refine wpAnyH_take (i := 16) (oi := { dst := some 43, op := Op.load 28 (Operand.tmp 2), type := 28, pos := "law.go:34", after := #[{ on := 15, ground := Ground.guard }], guard := some (15, true) }) (v := ?_) rfl (by kernel_rfl) (by kernel_rfl) (by kernel_rfl) (fun _ _ _ h => h) (Or.inl ⟨by rfl, ?_⟩) (by assumption) ?_
    rotate_left
    · (intro w hSw; (try dsimp only at hSw); go_simp; try (with_reducible rfl))
    try simp only [Act.put, List.setIfInBounds_toArray, List.set_cons_zero, List.set_cons_succ]
    refine wpAnyH_take (i := 18) (oi := { dst := some 45, op := Op.load 28 (Operand.tmp 2), type := 28, pos := "law.go:34", after := #[{ on := 15, ground := Ground.guard }], guard := some (15, true) }) (v := ?_) rfl (by kernel_rfl) (by kernel_rfl) (by kernel_rfl) (fun _ _ _ h => h) (Or.inl ⟨by rfl, ?_⟩) (by assumption) ?_
    rotate_left
    · (intro w hSw; (try dsimp only at hSw); go_simp; try (with_reducible rfl))
    try simp only [Act.put, List.setIfInBounds_toArray, List.set_cons_zero, List.set_cons_succ]
    refine wpAnyH_ready (rs := [17]) (by kernel_rfl) (by simp) ?_
    refine AllReadyH.cons (o := { dst := some 44, op := Op.call { callee := Callee.value (Operand.func 28), args := #[Operand.tmp 43], argTypes := #[28] }, type := 4, pos := "law.go:34", after := #[{ on := 16, ground := Ground.data }, { on := 15, ground := Ground.chain }, { on := 15, ground := Ground.guard }], guard := some (15, true) }) rfl (fun K hK => ?_) AllReadyH.nil
    go_simp
    (go_at_call 28; refine (right_b W4 _ _ _ (by assumption) (by first | (with_reducible assumption) | (exact Moves.drew (by with_reducible assumption)))).mono ?_; rintro _ w8 ⟨rfl, m8⟩; (try (first | rw [eXX] | rw [eCD])); have ea0 := m8.cell Da0; have ea1 := m8.cell Da1; have ea2 := m8.cell Da2; have eb0 := m8.cell Db0; have eb1 := m8.cell Db1; have eb2 := m8.cell Db2; have ex0 := m8.cell Dx0; have ex1 := m8.cell Dx1; have ex2 := m8.cell Dx2; have ey0 := m8.cell Dy0; have ey1 := m8.cell Dy1; have ey2 := m8.cell Dy2; have ec0 := m8.cell Dc0; have ec1 := m8.cell Dc1; have ec2 := m8.cell Dc2; have ed0 := m8.cell Dd0; have ed1 := m8.cell Dd1; have ed2 := m8.cell Dd2; clear a0 a1 a2 b0 b1 b2 x0 x1 x2 y0 y1 y2 c0 c1 c2 d0 d1 d2; have a0 := ea0; have a1 := ea1; have a2 := ea2; have b0 := eb0; have b1 := eb1; have b2 := eb2; have x0 := ex0; have x1 := ex1; have x2 := ex2; have y0 := ey0; have y1 := ey1; have y2 := ey2; have c0 := ec0; have c1 := ec1; have c2 := ec2; have d0 := ed0; have d1 := ed1; have d2 := ed2; clear ea0 ea1 ea2 eb0 eb1 eb2 ex0 ex1 ex2 ey0 ey1 ey2 ec0 ec1 ec2 ed0 ed1 ed2)
    refine hK.out _ _ ?_ (fun hHeld => ?_)
    · (exact ⟨a0, a1, a2, b0, b1, b2, x0, x1, x2, y0, y1, y2, c0, c1, c2, d0, d1, d2⟩)
    clear hK K
    try simp only [Act.put, List.setIfInBounds_toArray, List.set_cons_zero, List.set_cons_succ]
    refine wpAnyH_ready (rs := [19]) (by kernel_rfl) (by simp) ?_
    refine AllReadyH.cons (o := { dst := some 46, op := Op.call { callee := Callee.value (Operand.func 29), args := #[Operand.tmp 45], argTypes := #[28] }, type := 4, pos := "law.go:34", after := #[{ on := 18, ground := Ground.data }, { on := 17, ground := Ground.chain }, { on := 15, ground := Ground.guard }], guard := some (15, true) }) rfl (fun K hK => ?_) AllReadyH.nil
    go_simp
    (go_at_call 29; refine (rright_b W4 _ _ _ (by assumption) (by first | (with_reducible assumption) | (exact Moves.drew (by with_reducible assumption)))).mono ?_; rintro _ w8 ⟨rfl, m8⟩; (try (first | rw [eXX] | rw [eCD])); have ea0 := m8.cell Da0; have ea1 := m8.cell Da1; have ea2 := m8.cell Da2; have eb0 := m8.cell Db0; have eb1 := m8.cell Db1; have eb2 := m8.cell Db2; have ex0 := m8.cell Dx0; have ex1 := m8.cell Dx1; have ex2 := m8.cell Dx2; have ey0 := m8.cell Dy0; have ey1 := m8.cell Dy1; have ey2 := m8.cell Dy2; have ec0 := m8.cell Dc0; have ec1 := m8.cell Dc1; have ec2 := m8.cell Dc2; have ed0 := m8.cell Dd0; have ed1 := m8.cell Dd1; have ed2 := m8.cell Dd2; clear a0 a1 a2 b0 b1 b2 x0 x1 x2 y0 y1 y2 c0 c1 c2 d0 d1 d2; have a0 := ea0; have a1 := ea1; have a2 := ea2; have b0 := eb0; have b1 := eb1; have b2 := eb2; have x0 := ex0; have x1 := ex1; have x2 := ex2; have y0 := ey0; have y1 := ey1; have y2 := ey2; have c0 := ec0; have c1 := ec1; have c2 := ec2; have d0 := ed0; have d1 := ed1; have d2 := ed2; clear ea0 ea1 ea2 eb0 eb1 eb2 ex0 ex1 ex2 ey0 ey1 ey2 ec0 ec1 ec2 ed0 ed1 ed2)
    refine hK.out _ _ ?_ (fun hHeld => ?_)
    · (exact ⟨a0, a1, a2, b0, b1, b2, x0, x1, x2, y0, y1, y2, c0, c1, c2, d0, d1, d2⟩)
    clear hK K
    try simp only [Act.put, List.setIfInBounds_toArray, List.set_cons_zero, List.set_cons_succ]
    refine wpAnyH_take (i := 20) (oi := { dst := some 47, op := Op.binOp BinOp.eql 4 (Operand.tmp 44) (Operand.tmp 46) 4, type := 4, pos := "law.go:34", after := #[{ on := 17, ground := Ground.data }, { on := 19, ground := Ground.data }, { on := 15, ground := Ground.guard }], guard := some (15, true) }) (v := ?_) rfl (by kernel_rfl) (by kernel_rfl) (by kernel_rfl) (fun _ _ _ h => h) (Or.inl ⟨by rfl, ?_⟩) (by assumption) ?_
    rotate_left
    · (intro w hSw; (try dsimp only at hSw); go_simp; try (with_reducible rfl))
    try simp only [Act.put, List.setIfInBounds_toArray, List.set_cons_zero, List.set_cons_succ]
    refine wpAnyH_take (i := 21) (oi := { dst := some 48, op := Op.pick (Operand.tmp 42) (Operand.tmp 47) (Operand.const (Value.bool false)), type := 4, pos := "law.go:34", after := #[{ on := 15, ground := Ground.data }, { on := 20, ground := Ground.data }], guard := none }) (v := ?_) rfl (by kernel_rfl) (by kernel_rfl) (by kernel_rfl) (fun _ _ _ h => h) (Or.inl ⟨by rfl, ?_⟩) (by assumption) ?_
    rotate_left
    · (intro w hSw; (try dsimp only at hSw); go_simp; try (with_reducible rfl))
    try simp only [Act.put, List.setIfInBounds_toArray, List.set_cons_zero, List.set_cons_succ]
    refine wpAnyH_take (i := 22) (oi := { dst := some 49, op := Op.move (Operand.tmp 48), type := 4, pos := "law.go:34", after := #[{ on := 21, ground := Ground.data }, { on := 19, ground := Ground.chain }], guard := none }) (v := ?_) rfl (by kernel_rfl) (by kernel_rfl) (by kernel_rfl) (fun _ _ _ h => h) (Or.inl ⟨by rfl, ?_⟩) (by assumption) ?_
    rotate_left
    · (intro w hSw; (try dsimp only at hSw); go_simp; try (with_reducible rfl))
    try simp only [Act.put, List.setIfInBounds_toArray, List.set_cons_zero, List.set_cons_succ]
    refine wpAnyH_take (i := 23) (oi := { dst := some 50, op := Op.load 28 (Operand.tmp 2), type := 28, pos := "law.go:34", after := #[{ on := 22, ground := Ground.guard }], guard := some (22, true) }) (v := ?_) rfl (by kernel_rfl) (by kernel_rfl) (by kernel_rfl) (fun _ _ _ h => h) (Or.inl ⟨by rfl, ?_⟩) (by assumption) ?_
    rotate_left
    · (intro w hSw; (try dsimp only at hSw); go_simp; try (with_reducible rfl))
    try simp only [Act.put, List.setIfInBounds_toArray, List.set_cons_zero, List.set_cons_succ]
    refine wpAnyH_take (i := 24) (oi := { dst := some 51, op := Op.load 28 (Operand.tmp 3), type := 28, pos := "law.go:34", after := #[{ on := 22, ground := Ground.guard }], guard := some (22, true) }) (v := ?_) rfl (by kernel_rfl) (by kernel_rfl) (by kernel_rfl) (fun _ _ _ h => h) (Or.inl ⟨by rfl, ?_⟩) (by assumption) ?_
    rotate_left
    · (intro w hSw; (try dsimp only at hSw); go_simp; try (with_reducible rfl))
    try simp only [Act.put, List.setIfInBounds_toArray, List.set_cons_zero, List.set_cons_succ]
    refine wpAnyH_take (i := 26) (oi := { dst := some 53, op := Op.load 28 (Operand.tmp 2), type := 28, pos := "law.go:34", after := #[{ on := 22, ground := Ground.guard }], guard := some (22, true) }) (v := ?_) rfl (by kernel_rfl) (by kernel_rfl) (by kernel_rfl) (fun _ _ _ h => h) (Or.inl ⟨by rfl, ?_⟩) (by assumption) ?_
    rotate_left
    · (intro w hSw; (try dsimp only at hSw); go_simp; try (with_reducible rfl))
    try simp only [Act.put, List.setIfInBounds_toArray, List.set_cons_zero, List.set_cons_succ]
    refine wpAnyH_take (i := 27) (oi := { dst := some 54, op := Op.load 28 (Operand.tmp 3), type := 28, pos := "law.go:34", after := #[{ on := 22, ground := Ground.guard }], guard := some (22, true) }) (v := ?_) rfl (by kernel_rfl) (by kernel_rfl) (by kernel_rfl) (fun _ _ _ h => h) (Or.inl ⟨by rfl, ?_⟩) (by assumption) ?_
    rotate_left
    · (intro w hSw; (try dsimp only at hSw); go_simp; try (with_reducible rfl))
    try simp only [Act.put, List.setIfInBounds_toArray, List.set_cons_zero, List.set_cons_succ]
    refine wpAnyH_ready (rs := [25]) (by kernel_rfl) (by simp) ?_
    refine AllReadyH.cons (o := { dst := some 52, op := Op.call { callee := Callee.value (Operand.func 21), args := #[Operand.tmp 50, Operand.tmp 51], argTypes := #[28, 28] }, type := 4, pos := "law.go:34", after := #[{ on := 23, ground := Ground.data }, { on := 24, ground := Ground.data }, { on := 22, ground := Ground.chain }, { on := 22, ground := Ground.guard }], guard := some (22, true) }) rfl (fun K hK => ?_) AllReadyH.nil
    go_simp
    (go_at_call 21; refine (same_b W4 _ _ _ _ _ (by assumption) (by assumption) (by first | (with_reducible assumption) | (exact Moves.drew (by with_reducible assumption)))).mono ?_; rintro _ w8 ⟨rfl, m8⟩; (try (first | rw [eXX] | rw [eCD])); have ea0 := m8.cell Da0; have ea1 := m8.cell Da1; have ea2 := m8.cell Da2; have eb0 := m8.cell Db0; have eb1 := m8.cell Db1; have eb2 := m8.cell Db2; have ex0 := m8.cell Dx0; have ex1 := m8.cell Dx1; have ex2 := m8.cell Dx2; have ey0 := m8.cell Dy0; have ey1 := m8.cell Dy1; have ey2 := m8.cell Dy2; have ec0 := m8.cell Dc0; have ec1 := m8.cell Dc1; have ec2 := m8.cell Dc2; have ed0 := m8.cell Dd0; have ed1 := m8.cell Dd1; have ed2 := m8.cell Dd2; clear a0 a1 a2 b0 b1 b2 x0 x1 x2 y0 y1 y2 c0 c1 c2 d0 d1 d2; have a0 := ea0; have a1 := ea1; have a2 := ea2; have b0 := eb0; have b1 := eb1; have b2 := eb2; have x0 := ex0; have x1 := ex1; have x2 := ex2; have y0 := ey0; have y1 := ey1; have y2 := ey2; have c0 := ec0; have c1 := ec1; have c2 := ec2; have d0 := ed0; have d1 := ed1; have d2 := ed2; clear ea0 ea1 ea2 eb0 eb1 eb2 ex0 ex1 ex2 ey0 ey1 ey2 ec0 ec1 ec2 ed0 ed1 ed2)
    refine hK.out _ _ ?_ (fun hHeld => ?_)
    · (exact ⟨a0, a1, a2, b0, b1, b2, x0, x1, x2, y0, y1, y2, c0, c1, c2, d0, d1, d2⟩)
    clear hK K
    try simp only [Act.put, List.setIfInBounds_toArray, List.set_cons_zero, List.set_cons_succ]
    refine wpAnyH_ready (rs := [28]) (by kernel_rfl) (by simp) ?_
    refine AllReadyH.cons (o := { dst := some 55, op := Op.call { callee := Callee.value (Operand.func 27), args := #[Operand.tmp 53, Operand.tmp 54], argTypes := #[28, 28] }, type := 4, pos := "law.go:34", after := #[{ on := 26, ground := Ground.data }, { on := 27, ground := Ground.data }, { on := 25, ground := Ground.chain }, { on := 22, ground := Ground.guard }], guard := some (22, true) }) rfl (fun K hK => ?_) AllReadyH.nil
    go_simp
    (go_at_call 27; refine (rsame_b W4 _ _ _ _ _ (by assumption) (by assumption) (by first | (with_reducible assumption) | (exact Moves.drew (by with_reducible assumption)))).mono ?_; rintro _ w8 ⟨rfl, m8⟩; (try (first | rw [eXX] | rw [eCD])); have ea0 := m8.cell Da0; have ea1 := m8.cell Da1; have ea2 := m8.cell Da2; have eb0 := m8.cell Db0; have eb1 := m8.cell Db1; have eb2 := m8.cell Db2; have ex0 := m8.cell Dx0; have ex1 := m8.cell Dx1; have ex2 := m8.cell Dx2; have ey0 := m8.cell Dy0; have ey1 := m8.cell Dy1; have ey2 := m8.cell Dy2; have ec0 := m8.cell Dc0; have ec1 := m8.cell Dc1; have ec2 := m8.cell Dc2; have ed0 := m8.cell Dd0; have ed1 := m8.cell Dd1; have ed2 := m8.cell Dd2; clear a0 a1 a2 b0 b1 b2 x0 x1 x2 y0 y1 y2 c0 c1 c2 d0 d1 d2; have a0 := ea0; have a1 := ea1; have a2 := ea2; have b0 := eb0; have b1 := eb1; have b2 := eb2; have x0 := ex0; have x1 := ex1; have x2 := ex2; have y0 := ey0; have y1 := ey1; have y2 := ey2; have c0 := ec0; have c1 := ec1; have c2 := ec2; have d0 := ed0; have d1 := ed1; have d2 := ed2; clear ea0 ea1 ea2 eb0 eb1 eb2 ex0 ex1 ex2 ey0 ey1 ey2 ec0 ec1 ec2 ed0 ed1 ed2)
    refine hK.out _ _ ?_ (fun hHeld => ?_)
    · (exact ⟨a0, a1, a2, b0, b1, b2, x0, x1, x2, y0, y1, y2, c0, c1, c2, d0, d1, d2⟩)
    clear hK K
    try simp only [Act.put, List.setIfInBounds_toArray, List.set_cons_zero, List.set_cons_succ]
    refine wpAnyH_take (i := 29) (oi := { dst := some 56, op := Op.binOp BinOp.eql 4 (Operand.tmp 52) (Operand.tmp 55) 4, type := 4, pos := "law.go:34", after := #[{ on := 25, ground := Ground.data }, { on := 28, ground := Ground.data }, { on := 22, ground := Ground.guard }], guard := some (22, true) }) (v := ?_) rfl (by kernel_rfl) (by kernel_rfl) (by kernel_rfl) (fun _ _ _ h => h) (Or.inl ⟨by rfl, ?_⟩) (by assumption) ?_
    rotate_left
    · (intro w hSw; (try dsimp only at hSw); go_simp; try (with_reducible rfl))
    try simp only [Act.put, List.setIfInBounds_toArray, List.set_cons_zero, List.set_cons_succ]
    refine wpAnyH_take (i := 30) (oi := { dst := some 57, op := Op.pick (Operand.tmp 49) (Operand.tmp 56) (Operand.const (Value.bool false)), type := 4, pos := "law.go:34", after := #[{ on := 22, ground := Ground.data }, { on := 29, ground := Ground.data }], guard := none }) (v := ?_) rfl (by kernel_rfl) (by kernel_rfl) (by kernel_rfl) (fun _ _ _ h => h) (Or.inl ⟨by rfl, ?_⟩) (by assumption) ?_
    rotate_left
    · (intro w hSw; (try dsimp only at hSw); go_simp; try (with_reducible rfl))
    try simp only [Act.put, List.setIfInBounds_toArray, List.set_cons_zero, List.set_cons_succ]
    refine wpAnyH_take (i := 31) (oi := { dst := some 58, op := Op.move (Operand.tmp 57), type := 4, pos := "law.go:34", after := #[{ on := 30, ground := Ground.data }, { on := 28, ground := Ground.chain }], guard := none }) (v := ?_) rfl (by kernel_rfl) (by kernel_rfl) (by kernel_rfl) (fun _ _ _ h => h) (Or.inl ⟨by rfl, ?_⟩) (by assumption) ?_
    rotate_left
    · (intro w hSw; (try dsimp only at hSw); go_simp; try (with_reducible rfl))
    try simp only [Act.put, List.setIfInBounds_toArray, List.set_cons_zero, List.set_cons_succ]
    refine wpAnyH_take (i := 32) (oi := { dst := some 59, op := Op.load 28 (Operand.tmp 2), type := 28, pos := "law.go:34", after := #[{ on := 31, ground := Ground.guard }], guard := some (31, true) }) (v := ?_) rfl (by kernel_rfl) (by kernel_rfl) (by kernel_rfl) (fun _ _ _ h => h) (Or.inl ⟨by rfl, ?_⟩) (by assumption) ?_
    rotate_left
    · (intro w hSw; (try dsimp only at hSw); go_simp; try (with_reducible rfl))
    try simp only [Act.put, List.setIfInBounds_toArray, List.set_cons_zero, List.set_cons_succ]
    refine wpAnyH_take (i := 33) (oi := { dst := some 60, op := Op.load 28 (Operand.tmp 3), type := 28, pos := "law.go:34", after := #[{ on := 31, ground := Ground.guard }], guard := some (31, true) }) (v := ?_) rfl (by kernel_rfl) (by kernel_rfl) (by kernel_rfl) (fun _ _ _ h => h) (Or.inl ⟨by rfl, ?_⟩) (by assumption) ?_
    rotate_left
    · (intro w hSw; (try dsimp only at hSw); go_simp; try (with_reducible rfl))
    try simp only [Act.put, List.setIfInBounds_toArray, List.set_cons_zero, List.set_cons_succ]
    refine wpAnyH_take (i := 35) (oi := { dst := some 62, op := Op.load 28 (Operand.tmp 2), type := 28, pos := "law.go:34", after := #[{ on := 31, ground := Ground.guard }], guard := some (31, true) }) (v := ?_) rfl (by kernel_rfl) (by kernel_rfl) (by kernel_rfl) (fun _ _ _ h => h) (Or.inl ⟨by rfl, ?_⟩) (by assumption) ?_
    rotate_left
    · (intro w hSw; (try dsimp only at hSw); go_simp; try (with_reducible rfl))
    try simp only [Act.put, List.setIfInBounds_toArray, List.set_cons_zero, List.set_cons_succ]
    refine wpAnyH_take (i := 36) (oi := { dst := some 63, op := Op.load 28 (Operand.tmp 3), type := 28, pos := "law.go:34", after := #[{ on := 31, ground := Ground.guard }], guard := some (31, true) }) (v := ?_) rfl (by kernel_rfl) (by kernel_rfl) (by kernel_rfl) (fun _ _ _ h => h) (Or.inl ⟨by rfl, ?_⟩) (by assumption) ?_
    rotate_left
    · (intro w hSw; (try dsimp only at hSw); go_simp; try (with_reducible rfl))
    try simp only [Act.put, List.setIfInBounds_toArray, List.set_cons_zero, List.set_cons_succ]
    refine wpAnyH_ready (rs := [34]) (by kernel_rfl) (by simp) ?_
    refine AllReadyH.cons (o := { dst := some 61, op := Op.call { callee := Callee.value (Operand.func 22), args := #[Operand.tmp 59, Operand.tmp 60], argTypes := #[28, 28] }, type := 3, pos := "law.go:34", after := #[{ on := 32, ground := Ground.data }, { on := 33, ground := Ground.data }, { on := 31, ground := Ground.chain }, { on := 31, ground := Ground.guard }], guard := some (31, true) }) rfl (fun K hK => ?_) AllReadyH.nil
    go_simp
    (go_at_call 22; refine (order_b W4 _ _ _ _ _ (by assumption) (by assumption) (by first | (with_reducible assumption) | (exact Moves.drew (by with_reducible assumption)))).mono ?_; rintro _ w8 ⟨rfl, m8⟩; (try (first | rw [eXX] | rw [eCD])); have ea0 := m8.cell Da0; have ea1 := m8.cell Da1; have ea2 := m8.cell Da2; have eb0 := m8.cell Db0; have eb1 := m8.cell Db1; have eb2 := m8.cell Db2; have ex0 := m8.cell Dx0; have ex1 := m8.cell Dx1; have ex2 := m8.cell Dx2; have ey0 := m8.cell Dy0; have ey1 := m8.cell Dy1; have ey2 := m8.cell Dy2; have ec0 := m8.cell Dc0; have ec1 := m8.cell Dc1; have ec2 := m8.cell Dc2; have ed0 := m8.cell Dd0; have ed1 := m8.cell Dd1; have ed2 := m8.cell Dd2; clear a0 a1 a2 b0 b1 b2 x0 x1 x2 y0 y1 y2 c0 c1 c2 d0 d1 d2; have a0 := ea0; have a1 := ea1; have a2 := ea2; have b0 := eb0; have b1 := eb1; have b2 := eb2; have x0 := ex0; have x1 := ex1; have x2 := ex2; have y0 := ey0; have y1 := ey1; have y2 := ey2; have c0 := ec0; have c1 := ec1; have c2 := ec2; have d0 := ed0; have d1 := ed1; have d2 := ed2; clear ea0 ea1 ea2 eb0 eb1 eb2 ex0 ex1 ex2 ey0 ey1 ey2 ec0 ec1 ec2 ed0 ed1 ed2)
    refine hK.out _ _ ?_ (fun hHeld => ?_)
    · (exact ⟨a0, a1, a2, b0, b1, b2, x0, x1, x2, y0, y1, y2, c0, c1, c2, d0, d1, d2⟩)
    clear hK K
    try simp only [Act.put, List.setIfInBounds_toArray, List.set_cons_zero, List.set_cons_succ]
    refine wpAnyH_ready (rs := [37]) (by kernel_rfl) (by simp) ?_
    refine AllReadyH.cons (o := { dst := some 64, op := Op.call { callee := Callee.value (Operand.func 30), args := #[Operand.tmp 62, Operand.tmp 63], argTypes := #[28, 28] }, type := 3, pos := "law.go:34", after := #[{ on := 35, ground := Ground.data }, { on := 36, ground := Ground.data }, { on := 34, ground := Ground.chain }, { on := 31, ground := Ground.guard }], guard := some (31, true) }) rfl (fun K hK => ?_) AllReadyH.nil
    go_simp
    (go_at_call 30; refine (rorder_b W4 _ _ _ _ _ (by assumption) (by assumption) (by first | (with_reducible assumption) | (exact Moves.drew (by with_reducible assumption)))).mono ?_; rintro _ w8 ⟨rfl, m8⟩; (try (first | rw [eXX] | rw [eCD])); have ea0 := m8.cell Da0; have ea1 := m8.cell Da1; have ea2 := m8.cell Da2; have eb0 := m8.cell Db0; have eb1 := m8.cell Db1; have eb2 := m8.cell Db2; have ex0 := m8.cell Dx0; have ex1 := m8.cell Dx1; have ex2 := m8.cell Dx2; have ey0 := m8.cell Dy0; have ey1 := m8.cell Dy1; have ey2 := m8.cell Dy2; have ec0 := m8.cell Dc0; have ec1 := m8.cell Dc1; have ec2 := m8.cell Dc2; have ed0 := m8.cell Dd0; have ed1 := m8.cell Dd1; have ed2 := m8.cell Dd2; clear a0 a1 a2 b0 b1 b2 x0 x1 x2 y0 y1 y2 c0 c1 c2 d0 d1 d2; have a0 := ea0; have a1 := ea1; have a2 := ea2; have b0 := eb0; have b1 := eb1; have b2 := eb2; have x0 := ex0; have x1 := ex1; have x2 := ex2; have y0 := ey0; have y1 := ey1; have y2 := ey2; have c0 := ec0; have c1 := ec1; have c2 := ec2; have d0 := ed0; have d1 := ed1; have d2 := ed2; clear ea0 ea1 ea2 eb0 eb1 eb2 ex0 ex1 ex2 ey0 ey1 ey2 ec0 ec1 ec2 ed0 ed1 ed2)
    refine hK.out _ _ ?_ (fun hHeld => ?_)
    · (exact ⟨a0, a1, a2, b0, b1, b2, x0, x1, x2, y0, y1, y2, c0, c1, c2, d0, d1, d2⟩)
    clear hK K
    try simp only [Act.put, List.setIfInBounds_toArray, List.set_cons_zero, List.set_cons_succ]
    refine wpAnyH_take (i := 38) (oi := { dst := some 65, op := Op.binOp BinOp.eql 3 (Operand.tmp 61) (Operand.tmp 64) 3, type := 4, pos := "law.go:34", after := #[{ on := 34, ground := Ground.data }, { on := 37, ground := Ground.data }, { on := 31, ground := Ground.guard }], guard := some (31, true) }) (v := ?_) rfl (by kernel_rfl) (by kernel_rfl) (by kernel_rfl) (fun _ _ _ h => h) (Or.inl ⟨by rfl, ?_⟩) (by assumption) ?_
    rotate_left
    · (intro w hSw; (try dsimp only at hSw); go_simp; try (with_reducible rfl))
    try simp only [Act.put, List.setIfInBounds_toArray, List.set_cons_zero, List.set_cons_succ]
    refine wpAnyH_take (i := 39) (oi := { dst := some 66, op := Op.pick (Operand.tmp 58) (Operand.tmp 65) (Operand.const (Value.bool false)), type := 4, pos := "law.go:34", after := #[{ on := 31, ground := Ground.data }, { on := 38, ground := Ground.data }], guard := none }) (v := ?_) rfl (by kernel_rfl) (by kernel_rfl) (by kernel_rfl) (fun _ _ _ h => h) (Or.inl ⟨by rfl, ?_⟩) (by assumption) ?_
    rotate_left
    · (intro w hSw; (try dsimp only at hSw); go_simp; try (with_reducible rfl))
    try simp only [Act.put, List.setIfInBounds_toArray, List.set_cons_zero, List.set_cons_succ]
    refine wpAnyH_take (i := 40) (oi := { dst := some 67, op := Op.move (Operand.tmp 66), type := 4, pos := "law.go:34", after := #[{ on := 39, ground := Ground.data }, { on := 37, ground := Ground.chain }], guard := none }) (v := ?_) rfl (by kernel_rfl) (by kernel_rfl) (by kernel_rfl) (fun _ _ _ h => h) (Or.inl ⟨by rfl, ?_⟩) (by assumption) ?_
    rotate_left
    · (intro w hSw; (try dsimp only at hSw); go_simp; try (with_reducible rfl))
    try simp only [Act.put, List.setIfInBounds_toArray, List.set_cons_zero, List.set_cons_succ]
    refine wpAnyH_take (i := 41) (oi := { dst := some 68, op := Op.fieldAddr 28 (Operand.tmp 9) 0, type := 0, pos := "law.go:34", after := #[{ on := 40, ground := Ground.guard }], guard := some (40, true) }) (v := ?_) rfl (by kernel_rfl) (by kernel_rfl) (by kernel_rfl) (fun _ _ _ h => h) (Or.inl ⟨by rfl, ?_⟩) (by assumption) ?_
    rotate_left
    · (intro w hSw; (try dsimp only at hSw); go_simp; try (with_reducible rfl))
    try simp only [Act.put, List.setIfInBounds_toArray, List.set_cons_zero, List.set_cons_succ]
    refine wpAnyH_take (i := 42) (oi := { dst := some 69, op := Op.load 3 (Operand.tmp 68), type := 3, pos := "law.go:34", after := #[{ on := 41, ground := Ground.data }, { on := 40, ground := Ground.guard }], guard := some (40, true) }) (v := ?_) rfl (by kernel_rfl) (by kernel_rfl) (by kernel_rfl) (fun _ _ _ h => h) (Or.inl ⟨by rfl, ?_⟩) (by assumption) ?_
    rotate_left
    · (intro w hSw; (try dsimp only at hSw); go_simp; try (with_reducible rfl))
    try simp only [Act.put, List.setIfInBounds_toArray, List.set_cons_zero, List.set_cons_succ]
    refine wpAnyH_take (i := 43) (oi := { dst := some 70, op := Op.fieldAddr 28 (Operand.tmp 10) 0, type := 0, pos := "law.go:34", after := #[{ on := 40, ground := Ground.guard }], guard := some (40, true) }) (v := ?_) rfl (by kernel_rfl) (by kernel_rfl) (by kernel_rfl) (fun _ _ _ h => h) (Or.inl ⟨by rfl, ?_⟩) (by assumption) ?_
    rotate_left
    · (intro w hSw; (try dsimp only at hSw); go_simp; try (with_reducible rfl))
    try simp only [Act.put, List.setIfInBounds_toArray, List.set_cons_zero, List.set_cons_succ]
    refine wpAnyH_take (i := 44) (oi := { dst := some 71, op := Op.load 3 (Operand.tmp 70), type := 3, pos := "law.go:34", after := #[{ on := 43, ground := Ground.data }, { on := 40, ground := Ground.guard }], guard := some (40, true) }) (v := ?_) rfl (by kernel_rfl) (by kernel_rfl) (by kernel_rfl) (fun _ _ _ h => h) (Or.inl ⟨by rfl, ?_⟩) (by assumption) ?_
    rotate_left
    · (intro w hSw; (try dsimp only at hSw); go_simp; try (with_reducible rfl))
    try simp only [Act.put, List.setIfInBounds_toArray, List.set_cons_zero, List.set_cons_succ]
    refine wpAnyH_take (i := 45) (oi := { dst := some 72, op := Op.binOp BinOp.eql 3 (Operand.tmp 69) (Operand.tmp 71) 3, type := 4, pos := "law.go:34", after := #[{ on := 42, ground := Ground.data }, { on := 44, ground := Ground.data }, { on := 40, ground := Ground.guard }], guard := some (40, true) }) (v := ?_) rfl (by kernel_rfl) (by kernel_rfl) (by kernel_rfl) (fun _ _ _ h => h) (Or.inl ⟨by rfl, ?_⟩) (by assumption) ?_
    rotate_left
    · (intro w hSw; (try dsimp only at hSw); go_simp; try (with_reducible rfl))
    try simp only [Act.put, List.setIfInBounds_toArray, List.set_cons_zero, List.set_cons_succ]
    refine wpAnyH_take (i := 46) (oi := { dst := some 73, op := Op.pick (Operand.tmp 67) (Operand.tmp 72) (Operand.const (Value.bool false)), type := 4, pos := "law.go:34", after := #[{ on := 40, ground := Ground.data }, { on := 45, ground := Ground.data }], guard := none }) (v := ?_) rfl (by kernel_rfl) (by kernel_rfl) (by kernel_rfl) (fun _ _ _ h => h) (Or.inl ⟨by rfl, ?_⟩) (by assumption) ?_
    rotate_left
    · (intro w hSw; (try dsimp only at hSw); go_simp; try (with_reducible rfl))
    try simp only [Act.put, List.setIfInBounds_toArray, List.set_cons_zero, List.set_cons_succ]
    refine wpAnyH_take (i := 47) (oi := { dst := some 74, op := Op.move (Operand.tmp 73), type := 4, pos := "law.go:34", after := #[{ on := 46, ground := Ground.data }, { on := 40, ground := Ground.chain }], guard := none }) (v := ?_) rfl (by kernel_rfl) (by kernel_rfl) (by kernel_rfl) (fun _ _ _ h => h) (Or.inl ⟨by rfl, ?_⟩) (by assumption) ?_
    rotate_left
    · (intro w hSw; (try dsimp only at hSw); go_simp; try (with_reducible rfl))
    try simp only [Act.put, List.setIfInBounds_toArray, List.set_cons_zero, List.set_cons_succ]
    refine wpAnyH_take (i := 48) (oi := { dst := some 75, op := Op.load 28 (Operand.tmp 9), type := 28, pos := "law.go:34", after := #[{ on := 47, ground := Ground.guard }], guard := some (47, true) }) (v := ?_) rfl (by kernel_rfl) (by kernel_rfl) (by kernel_rfl) (fun _ _ _ h => h) (Or.inl ⟨by rfl, ?_⟩) (by assumption) ?_
    rotate_left
    · (intro w hSw; (try dsimp only at hSw); go_simp; try (with_reducible rfl))
    try simp only [Act.put, List.setIfInBounds_toArray, List.set_cons_zero, List.set_cons_succ]
    refine wpAnyH_take (i := 49) (oi := { dst := some 76, op := Op.load 28 (Operand.tmp 10), type := 28, pos := "law.go:34", after := #[{ on := 47, ground := Ground.guard }], guard := some (47, true) }) (v := ?_) rfl (by kernel_rfl) (by kernel_rfl) (by kernel_rfl) (fun _ _ _ h => h) (Or.inl ⟨by rfl, ?_⟩) (by assumption) ?_
    rotate_left
    · (intro w hSw; (try dsimp only at hSw); go_simp; try (with_reducible rfl))
    try simp only [Act.put, List.setIfInBounds_toArray, List.set_cons_zero, List.set_cons_succ]
    refine wpAnyH_ready (rs := [50]) (by kernel_rfl) (by simp) ?_
    refine AllReadyH.cons (o := { dst := some 77, op := Op.call { callee := Callee.value (Operand.func 27), args := #[Operand.tmp 75, Operand.tmp 76], argTypes := #[28, 28] }, type := 4, pos := "law.go:34", after := #[{ on := 48, ground := Ground.data }, { on := 49, ground := Ground.data }, { on := 47, ground := Ground.chain }, { on := 47, ground := Ground.guard }], guard := some (47, true) }) rfl (fun K hK => ?_) AllReadyH.nil
    go_simp
    (go_at_call 27; refine (rsame_b W4 _ _ _ _ _ (by assumption) (by assumption) (by first | (with_reducible assumption) | (exact Moves.drew (by with_reducible assumption)))).mono ?_; rintro _ w8 ⟨rfl, m8⟩; (try (first | rw [eXX] | rw [eCD])); have ea0 := m8.cell Da0; have ea1 := m8.cell Da1; have ea2 := m8.cell Da2; have eb0 := m8.cell Db0; have eb1 := m8.cell Db1; have eb2 := m8.cell Db2; have ex0 := m8.cell Dx0; have ex1 := m8.cell Dx1; have ex2 := m8.cell Dx2; have ey0 := m8.cell Dy0; have ey1 := m8.cell Dy1; have ey2 := m8.cell Dy2; have ec0 := m8.cell Dc0; have ec1 := m8.cell Dc1; have ec2 := m8.cell Dc2; have ed0 := m8.cell Dd0; have ed1 := m8.cell Dd1; have ed2 := m8.cell Dd2; clear a0 a1 a2 b0 b1 b2 x0 x1 x2 y0 y1 y2 c0 c1 c2 d0 d1 d2; have a0 := ea0; have a1 := ea1; have a2 := ea2; have b0 := eb0; have b1 := eb1; have b2 := eb2; have x0 := ex0; have x1 := ex1; have x2 := ex2; have y0 := ey0; have y1 := ey1; have y2 := ey2; have c0 := ec0; have c1 := ec1; have c2 := ec2; have d0 := ed0; have d1 := ed1; have d2 := ed2; clear ea0 ea1 ea2 eb0 eb1 eb2 ex0 ex1 ex2 ey0 ey1 ey2 ec0 ec1 ec2 ed0 ed1 ed2)
    refine hK.out _ _ ?_ (fun hHeld => ?_)
    · (exact ⟨a0, a1, a2, b0, b1, b2, x0, x1, x2, y0, y1, y2, c0, c1, c2, d0, d1, d2⟩)
    clear hK K
    try simp only [Act.put, List.setIfInBounds_toArray, List.set_cons_zero, List.set_cons_succ]
    refine wpAnyH_take (i := 51) (oi := { dst := some 78, op := Op.pick (Operand.tmp 74) (Operand.tmp 77) (Operand.const (Value.bool false)), type := 4, pos := "law.go:34", after := #[{ on := 47, ground := Ground.data }, { on := 50, ground := Ground.data }], guard := none }) (v := ?_) rfl (by kernel_rfl) (by kernel_rfl) (by kernel_rfl) (fun _ _ _ h => h) (Or.inl ⟨by rfl, ?_⟩) (by assumption) ?_
    rotate_left
    · (intro w hSw; (try dsimp only at hSw); go_simp; try (with_reducible rfl))
    try simp only [Act.put, List.setIfInBounds_toArray, List.set_cons_zero, List.set_cons_succ]
    refine wpAnyH_take (i := 52) (oi := { dst := some 79, op := Op.move (Operand.tmp 78), type := 4, pos := "law.go:34", after := #[{ on := 51, ground := Ground.data }, { on := 50, ground := Ground.chain }], guard := none }) (v := ?_) rfl (by kernel_rfl) (by kernel_rfl) (by kernel_rfl) (fun _ _ _ h => h) (Or.inl ⟨by rfl, ?_⟩) (by assumption) ?_
    rotate_left
    · (intro w hSw; (try dsimp only at hSw); go_simp; try (with_reducible rfl))
    try simp only [Act.put, List.setIfInBounds_toArray, List.set_cons_zero, List.set_cons_succ]
    refine wpAnyH_take (i := 53) (oi := { dst := some 80, op := Op.fieldAddr 28 (Operand.tmp 9) 0, type := 0, pos := "law.go:34", after := #[{ on := 52, ground := Ground.guard }], guard := some (52, true) }) (v := ?_) rfl (by kernel_rfl) (by kernel_rfl) (by kernel_rfl) (fun _ _ _ h => h) (Or.inl ⟨by rfl, ?_⟩) (by assumption) ?_
    rotate_left
    · (intro w hSw; (try dsimp only at hSw); go_simp; try (with_reducible rfl))
    try simp only [Act.put, List.setIfInBounds_toArray, List.set_cons_zero, List.set_cons_succ]
    refine wpAnyH_take (i := 54) (oi := { dst := some 81, op := Op.load 3 (Operand.tmp 80), type := 3, pos := "law.go:34", after := #[{ on := 53, ground := Ground.data }, { on := 52, ground := Ground.guard }], guard := some (52, true) }) (v := ?_) rfl (by kernel_rfl) (by kernel_rfl) (by kernel_rfl) (fun _ _ _ h => h) (Or.inl ⟨by rfl, ?_⟩) (by assumption) ?_
    rotate_left
    · (intro w hSw; (try dsimp only at hSw); go_simp; try (with_reducible rfl))
    try simp only [Act.put, List.setIfInBounds_toArray, List.set_cons_zero, List.set_cons_succ]
    refine wpAnyH_take (i := 55) (oi := { dst := some 82, op := Op.binOp BinOp.eql 3 (Operand.tmp 81) (Operand.const (Value.int IntKind.i64 2)) 3, type := 4, pos := "law.go:34", after := #[{ on := 54, ground := Ground.data }, { on := 52, ground := Ground.guard }], guard := some (52, true) }) (v := ?_) rfl (by kernel_rfl) (by kernel_rfl) (by kernel_rfl) (fun _ _ _ h => h) (Or.inl ⟨by rfl, ?_⟩) (by assumption) ?_
    rotate_left
    · (intro w hSw; (try dsimp only at hSw); go_simp; try (with_reducible rfl))
    try simp only [Act.put, List.setIfInBounds_toArray, List.set_cons_zero, List.set_cons_succ]
    refine wpAnyH_take (i := 56) (oi := { dst := some 83, op := Op.move (Operand.tmp 82), type := 4, pos := "law.go:34", after := #[{ on := 55, ground := Ground.data }, { on := 52, ground := Ground.chain }, { on := 52, ground := Ground.guard }], guard := some (52, true) }) (v := ?_) rfl (by kernel_rfl) (by kernel_rfl) (by kernel_rfl) (fun _ _ _ h => h) (Or.inl ⟨by rfl, ?_⟩) (by assumption) ?_
    rotate_left
    · (intro w hSw; (try dsimp only at hSw); go_simp; try (with_reducible rfl))
    try simp only [Act.put, List.setIfInBounds_toArray, List.set_cons_zero, List.set_cons_succ]
    refine wpAnyH_take (i := 57) (oi := { dst := some 84, op := Op.fieldAddr 28 (Operand.tmp 9) 2, type := 0, pos := "law.go:34", after := #[{ on := 56, ground := Ground.guard }], guard := some (56, false) }) rfl (by kernel_rfl) (by kernel_rfl) (by kernel_rfl) (fun _ _ _ h => h) (Or.inr ⟨by rfl, rfl⟩) (by assumption) ?_
    try simp only [Act.put, List.setIfInBounds_toArray, List.set_cons_zero, List.set_cons_succ]
    refine wpAnyH_take (i := 58) (oi := { dst := some 85, op := Op.load 26 (Operand.tmp 84), type := 26, pos := "law.go:34", after := #[{ on := 57, ground := Ground.data }, { on := 56, ground := Ground.guard }], guard := some (56, false) }) rfl (by kernel_rfl) (by kernel_rfl) (by kernel_rfl) (fun _ _ _ h => h) (Or.inr ⟨by rfl, rfl⟩) (by assumption) ?_
    try simp only [Act.put, List.setIfInBounds_toArray, List.set_cons_zero, List.set_cons_succ]
    refine wpAnyH_take (i := 59) (oi := { dst := some 86, op := Op.binOp BinOp.eql 26 (Operand.tmp 85) (Operand.const (Value.float FloatKind.f64 0)) 26, type := 4, pos := "law.go:34", after := #[{ on := 58, ground := Ground.data }, { on := 56, ground := Ground.guard }], guard := some (56, false) }) rfl (by kernel_rfl) (by kernel_rfl) (by kernel_rfl) (fun _ _ _ h => h) (Or.inr ⟨by rfl, rfl⟩) (by assumption) ?_
    try simp only [Act.put, List.setIfInBounds_toArray, List.set_cons_zero, List.set_cons_succ]
    refine wpAnyH_take (i := 60) (oi := { dst := some 87, op := Op.pick (Operand.tmp 83) (Operand.const (Value.bool true)) (Operand.tmp 86), type := 4, pos := "law.go:34", after := #[{ on := 56, ground := Ground.data }, { on := 59, ground := Ground.data }, { on := 52, ground := Ground.guard }], guard := some (52, true) }) (v := ?_) rfl (by kernel_rfl) (by kernel_rfl) (by kernel_rfl) (fun _ _ _ h => h) (Or.inl ⟨by rfl, ?_⟩) (by assumption) ?_
    rotate_left
    · (intro w hSw; (try dsimp only at hSw); go_simp; try (with_reducible rfl))
    try simp only [Act.put, List.setIfInBounds_toArray, List.set_cons_zero, List.set_cons_succ]
    refine wpAnyH_take (i := 61) (oi := { dst := some 88, op := Op.pick (Operand.tmp 79) (Operand.tmp 87) (Operand.const (Value.bool false)), type := 4, pos := "law.go:34", after := #[{ on := 52, ground := Ground.data }, { on := 60, ground := Ground.data }], guard := none }) (v := ?_) rfl (by kernel_rfl) (by kernel_rfl) (by kernel_rfl) (fun _ _ _ h => h) (Or.inl ⟨by rfl, ?_⟩) (by assumption) ?_
    rotate_left
    · (intro w hSw; (try dsimp only at hSw); go_simp; try (with_reducible rfl))
    try simp only [Act.put, List.setIfInBounds_toArray, List.set_cons_zero, List.set_cons_succ]
    refine wpAnyH_take (i := 62) (oi := { dst := some 89, op := Op.move (Operand.tmp 88), type := 4, pos := "law.go:34", after := #[{ on := 61, ground := Ground.data }, { on := 56, ground := Ground.chain }], guard := none }) (v := ?_) rfl (by kernel_rfl) (by kernel_rfl) (by kernel_rfl) (fun _ _ _ h => h) (Or.inl ⟨by rfl, ?_⟩) (by assumption) ?_
    rotate_left
    · (intro w hSw; (try dsimp only at hSw); go_simp; try (with_reducible rfl))
    try simp only [Act.put, List.setIfInBounds_toArray, List.set_cons_zero, List.set_cons_succ]
    refine wpAnyH_take (i := 63) (oi := { dst := some 90, op := Op.fieldAddr 28 (Operand.tmp 9) 0, type := 0, pos := "law.go:34", after := #[{ on := 62, ground := Ground.guard }], guard := some (62, true) }) (v := ?_) rfl (by kernel_rfl) (by kernel_rfl) (by kernel_rfl) (fun _ _ _ h => h) (Or.inl ⟨by rfl, ?_⟩) (by assumption) ?_
    rotate_left
    · (intro w hSw; (try dsimp only at hSw); go_simp; try (with_reducible rfl))
    try simp only [Act.put, List.setIfInBounds_toArray, List.set_cons_zero, List.set_cons_succ]
    refine wpAnyH_take (i := 64) (oi := { dst := some 91, op := Op.load 3 (Operand.tmp 90), type := 3, pos := "law.go:34", after := #[{ on := 63, ground := Ground.data }, { on := 62, ground := Ground.guard }], guard := some (62, true) }) (v := ?_) rfl (by kernel_rfl) (by kernel_rfl) (by kernel_rfl) (fun _ _ _ h => h) (Or.inl ⟨by rfl, ?_⟩) (by assumption) ?_
    rotate_left
    · (intro w hSw; (try dsimp only at hSw); go_simp; try (with_reducible rfl))
    try simp only [Act.put, List.setIfInBounds_toArray, List.set_cons_zero, List.set_cons_succ]
    refine wpAnyH_take (i := 65) (oi := { dst := some 92, op := Op.binOp BinOp.eql 3 (Operand.tmp 91) (Operand.const (Value.int IntKind.i64 1)) 3, type := 4, pos := "law.go:34", after := #[{ on := 64, ground := Ground.data }, { on := 62, ground := Ground.guard }], guard := some (62, true) }) (v := ?_) rfl (by kernel_rfl) (by kernel_rfl) (by kernel_rfl) (fun _ _ _ h => h) (Or.inl ⟨by rfl, ?_⟩) (by assumption) ?_
    rotate_left
    · (intro w hSw; (try dsimp only at hSw); go_simp; try (with_reducible rfl))
    try simp only [Act.put, List.setIfInBounds_toArray, List.set_cons_zero, List.set_cons_succ]
    refine wpAnyH_take (i := 66) (oi := { dst := some 93, op := Op.move (Operand.tmp 92), type := 4, pos := "law.go:34", after := #[{ on := 65, ground := Ground.data }, { on := 62, ground := Ground.chain }, { on := 62, ground := Ground.guard }], guard := some (62, true) }) (v := ?_) rfl (by kernel_rfl) (by kernel_rfl) (by kernel_rfl) (fun _ _ _ h => h) (Or.inl ⟨by rfl, ?_⟩) (by assumption) ?_
    rotate_left
    · (intro w hSw; (try dsimp only at hSw); go_simp; try (with_reducible rfl))
    try simp only [Act.put, List.setIfInBounds_toArray, List.set_cons_zero, List.set_cons_succ]
    refine wpAnyH_take (i := 67) (oi := { dst := some 94, op := Op.fieldAddr 28 (Operand.tmp 9) 1, type := 0, pos := "law.go:34", after := #[{ on := 66, ground := Ground.guard }], guard := some (66, false) }) (v := ?_) rfl (by kernel_rfl) (by kernel_rfl) (by kernel_rfl) (fun _ _ _ h => h) (Or.inl ⟨by rfl, ?_⟩) (by assumption) ?_
    rotate_left
    · (intro w hSw; (try dsimp only at hSw); go_simp; try (with_reducible rfl))
    try simp only [Act.put, List.setIfInBounds_toArray, List.set_cons_zero, List.set_cons_succ]
    refine wpAnyH_take (i := 68) (oi := { dst := some 95, op := Op.load 25 (Operand.tmp 94), type := 25, pos := "law.go:34", after := #[{ on := 67, ground := Ground.data }, { on := 66, ground := Ground.guard }], guard := some (66, false) }) (v := ?_) rfl (by kernel_rfl) (by kernel_rfl) (by kernel_rfl) (fun _ _ _ h => h) (Or.inl ⟨by rfl, ?_⟩) (by assumption) ?_
    rotate_left
    · (intro w hSw; (try dsimp only at hSw); go_simp; try (with_reducible rfl))
    try simp only [Act.put, List.setIfInBounds_toArray, List.set_cons_zero, List.set_cons_succ]
    refine wpAnyH_take (i := 69) (oi := { dst := some 96, op := Op.call { callee := Callee.builtin Builtin.len, args := #[Operand.tmp 95], argTypes := #[25] }, type := 3, pos := "law.go:34", after := #[{ on := 68, ground := Ground.data }, { on := 66, ground := Ground.guard }], guard := some (66, false) }) (v := ?_) rfl (by kernel_rfl) (by kernel_rfl) (by kernel_rfl) (fun _ _ _ h => h) (Or.inl ⟨by rfl, ?_⟩) (by assumption) ?_
    rotate_left
    · (intro w hSw; (try dsimp only at hSw); go_simp; try (with_reducible rfl))
    try simp only [Act.put, List.setIfInBounds_toArray, List.set_cons_zero, List.set_cons_succ]
    refine wpAnyH_take (i := 70) (oi := { dst := some 97, op := Op.binOp BinOp.eql 3 (Operand.tmp 96) (Operand.const (Value.int IntKind.i64 0)) 3, type := 4, pos := "law.go:34", after := #[{ on := 69, ground := Ground.data }, { on := 66, ground := Ground.guard }], guard := some (66, false) }) (v := ?_) rfl (by kernel_rfl) (by kernel_rfl) (by kernel_rfl) (fun _ _ _ h => h) (Or.inl ⟨by rfl, ?_⟩) (by assumption) ?_
    rotate_left
    · (intro w hSw; (try dsimp only at hSw); go_simp; try (with_reducible rfl))
    try simp only [Act.put, List.setIfInBounds_toArray, List.set_cons_zero, List.set_cons_succ]
    refine wpAnyH_take (i := 71) (oi := { dst := some 98, op := Op.pick (Operand.tmp 93) (Operand.const (Value.bool true)) (Operand.tmp 97), type := 4, pos := "law.go:34", after := #[{ on := 66, ground := Ground.data }, { on := 70, ground := Ground.data }, { on := 62, ground := Ground.guard }], guard := some (62, true) }) (v := ?_) rfl (by kernel_rfl) (by kernel_rfl) (by kernel_rfl) (fun _ _ _ h => h) (Or.inl ⟨by rfl, ?_⟩) (by assumption) ?_
    rotate_left
    · (intro w hSw; (try dsimp only at hSw); go_simp; try (with_reducible rfl))
    try simp only [Act.put, List.setIfInBounds_toArray, List.set_cons_zero, List.set_cons_succ]
    refine wpAnyH_take (i := 72) (oi := { dst := some 99, op := Op.pick (Operand.tmp 89) (Operand.tmp 98) (Operand.const (Value.bool false)), type := 4, pos := "law.go:34", after := #[{ on := 62, ground := Ground.data }, { on := 71, ground := Ground.data }], guard := none }) (v := ?_) rfl (by kernel_rfl) (by kernel_rfl) (by kernel_rfl) (fun _ _ _ h => h) (Or.inl ⟨by rfl, ?_⟩) (by assumption) ?_
    rotate_left
    · (intro w hSw; (try dsimp only at hSw); go_simp; try (with_reducible rfl))
    try simp only [Act.put, List.setIfInBounds_toArray, List.set_cons_zero, List.set_cons_succ]
    refine wpAnyH_take (i := 73) (oi := { dst := some 4, op := Op.assign (Operand.tmp 99), type := 4, pos := "law.go:34", after := #[{ on := 72, ground := Ground.data }, { on := 66, ground := Ground.chain }, { on := 0, ground := Ground.phase }, { on := 1, ground := Ground.phase }, { on := 2, ground := Ground.phase }, { on := 3, ground := Ground.phase }, { on := 4, ground := Ground.phase }, { on := 5, ground := Ground.phase }, { on := 6, ground := Ground.phase }, { on := 7, ground := Ground.phase }, { on := 8, ground := Ground.phase }, { on := 9, ground := Ground.phase }, { on := 10, ground := Ground.phase }, { on := 11, ground := Ground.phase }, { on := 12, ground := Ground.phase }, { on := 13, ground := Ground.phase }, { on := 14, ground := Ground.phase }, { on := 15, ground := Ground.phase }, { on := 16, ground := Ground.phase }, { on := 17, ground := Ground.phase }, { on := 18, ground := Ground.phase }, { on := 19, ground := Ground.phase }, { on := 20, ground := Ground.phase }, { on := 21, ground := Ground.phase }, { on := 22, ground := Ground.phase }, { on := 23, ground := Ground.phase }, { on := 24, ground := Ground.phase }, { on := 25, ground := Ground.phase }, { on := 26, ground := Ground.phase }, { on := 27, ground := Ground.phase }, { on := 28, ground := Ground.phase }, { on := 29, ground := Ground.phase }, { on := 30, ground := Ground.phase }, { on := 31, ground := Ground.phase }, { on := 32, ground := Ground.phase }, { on := 33, ground := Ground.phase }, { on := 34, ground := Ground.phase }, { on := 35, ground := Ground.phase }, { on := 36, ground := Ground.phase }, { on := 37, ground := Ground.phase }, { on := 38, ground := Ground.phase }, { on := 39, ground := Ground.phase }, { on := 40, ground := Ground.phase }, { on := 41, ground := Ground.phase }, { on := 42, ground := Ground.phase }, { on := 43, ground := Ground.phase }, { on := 44, ground := Ground.phase }, { on := 45, ground := Ground.phase }, { on := 46, ground := Ground.phase }, { on := 47, ground := Ground.phase }, { on := 48, ground := Ground.phase }, { on := 49, ground := Ground.phase }, { on := 50, ground := Ground.phase }, { on := 51, ground := Ground.phase }, { on := 52, ground := Ground.phase }, { on := 53, ground := Ground.phase }, { on := 54, ground := Ground.phase }, { on := 55, ground := Ground.phase }, { on := 56, ground := Ground.phase }, { on := 57, ground := Ground.phase }, { on := 58, ground := Ground.phase }, { on := 59, ground := Ground.phase }, { on := 60, ground := Ground.phase }, { on := 61, ground := Ground.phase }, { on := 62, ground := Ground.phase }, { on := 63, ground := Ground.phase }, { on := 64, ground := Ground.phase }, { on := 65, ground := Ground.phase }, { on := 66, ground := Ground.phase }, { on := 67, ground := Ground.phase }, { on := 68, ground := Ground.phase }, { on := 69, ground := Ground.phase }, { on := 70, ground := Ground.phase }, { on := 71, ground := Ground.phase }, { on := 72, ground := Ground.phase }], guard := none }) (v := ?_) rfl (by kernel_rfl) (by kernel_rfl) (by kernel_rfl) (fun _ _ _ h => h) (Or.inl ⟨by rfl, ?_⟩) (by assumption) ?_
    rotate_left
    · (intro w hSw; (try dsimp only at hSw); go_simp; try (with_reducible rfl))
    try simp only [Act.put, List.setIfInBounds_toArray, List.set_cons_zero, List.set_cons_succ]
    refine wpAnyH_done (by kernel_rfl) ?_ _
    refine NoPanic.normal ?_
    go_wp2
    go_ret
    exact ⟨rfl, M4.then m8⟩
  · have hk : kc = 0 := by omega
    have hn : nc = 0 := by rw [← hnc, e]; rfl
    have ht : lenc = 0 := by rw [← hlc, ← htx, e]; rfl
    have ht2 : lend = 0 := by rw [← hld, ← htx, e]; rfl
    subst hk hn ht ht2
    clear hkc htx hnc z z2 e hlc hld
    have Da0 := a0
    have Da1 := a1
    have Da2 := a2
    have Db0 := b0
    have Db1 := b1
    have Db2 := b2
    have Dx0 := x0
    have Dx1 := x1
    have Dx2 := x2
    have Dy0 := y0
    have Dy1 := y1
    have Dy2 := y2
    have Dc0 := c0
    have Dc1 := c1
    have Dc2 := c2
    have Dd0 := d0
    have Dd1 := d1
    have Dd2 := d2
    refine wp_region_noPanic ?_
    refine wp_region_held_drew (S := (fun w' => w'.cell? ⟨w.heap.size, 0, none⟩ = some (.int .i64 A.kind) ∧ w'.cell? ⟨w.heap.size, 1, none⟩ = some (.slice adA lenA capA) ∧ w'.cell? ⟨w.heap.size, 2, none⟩ = some (.float .f64 A.n) ∧ w'.cell? ⟨w.heap.size + 1, 0, none⟩ = some (.int .i64 B.kind) ∧ w'.cell? ⟨w.heap.size + 1, 1, none⟩ = some (.slice adB lenB capB) ∧ w'.cell? ⟨w.heap.size + 1, 2, none⟩ = some (.float .f64 B.n) ∧ w'.cell? ⟨qx, 0, none⟩ = some (.int .i64 kx) ∧ w'.cell? ⟨qx, 1, none⟩ = some (.slice none 0 0) ∧ w'.cell? ⟨qx, 2, none⟩ = some (.float .f64 nx) ∧ w'.cell? ⟨qy, 0, none⟩ = some (.int .i64 kx) ∧ w'.cell? ⟨qy, 1, none⟩ = some (.slice none 0 0) ∧ w'.cell? ⟨qy, 2, none⟩ = some (.float .f64 nx) ∧ w'.cell? ⟨qc, 0, none⟩ = some (.int .i64 0) ∧ w'.cell? ⟨qc, 1, none⟩ = some (.slice adc 0 capc) ∧ w'.cell? ⟨qc, 2, none⟩ = some (.float .f64 0) ∧ w'.cell? ⟨qd, 0, none⟩ = some (.int .i64 0) ∧ w'.cell? ⟨qd, 1, none⟩ = some (.slice add 0 capd) ∧ w'.cell? ⟨qd, 2, none⟩ = some (.float .f64 0))) (by kernel_rfl) ?_ (fun hHeld => ?_)
    · first | (go_keep; done) | (exact ⟨a0, a1, a2, b0, b1, b2, x0, x1, x2, y0, y1, y2, c0, c1, c2, d0, d1, d2⟩)
    refine wpAnyH_take (i := 0) (oi := { dst := some 27, op := Op.move (Operand.tmp 6), type := 50, pos := "law.go:34", after := #[], guard := none }) (v := ?_) rfl (by kernel_rfl) (by kernel_rfl) (by kernel_rfl) (fun _ _ _ h => h) (Or.inl ⟨by rfl, ?_⟩) (by assumption) ?_
    rotate_left
    · (intro w hSw; (try dsimp only at hSw); go_simp; try (with_reducible rfl))
    try simp only [Act.put, List.setIfInBounds_toArray, List.set_cons_zero, List.set_cons_succ]
    refine wpAnyH_take (i := 1) (oi := { dst := some 28, op := Op.move (Operand.tmp 8), type := 50, pos := "law.go:34", after := #[], guard := none }) (v := ?_) rfl (by kernel_rfl) (by kernel_rfl) (by kernel_rfl) (fun _ _ _ h => h) (Or.inl ⟨by rfl, ?_⟩) (by assumption) ?_
    rotate_left
    · (intro w hSw; (try dsimp only at hSw); go_simp; try (with_reducible rfl))
    try simp only [Act.put, List.setIfInBounds_toArray, List.set_cons_zero, List.set_cons_succ]
    refine wpAnyH_take (i := 2) (oi := { dst := some 29, op := Op.binOp BinOp.eql 50 (Operand.tmp 27) (Operand.tmp 28) 50, type := 4, pos := "law.go:34", after := #[{ on := 0, ground := Ground.data }, { on := 1, ground := Ground.data }], guard := none }) (v := ?_) rfl (by kernel_rfl) (by kernel_rfl) (by kernel_rfl) (fun _ _ _ h => h) (Or.inl ⟨by rfl, ?_⟩) (by assumption) ?_
    rotate_left
    · (intro w hSw; (try dsimp only at hSw); go_simp; try (with_reducible rfl))
    try simp only [Act.put, List.setIfInBounds_toArray, List.set_cons_zero, List.set_cons_succ]
    refine wpAnyH_take (i := 3) (oi := { dst := some 30, op := Op.move (Operand.tmp 29), type := 4, pos := "law.go:34", after := #[{ on := 2, ground := Ground.data }], guard := none }) (v := ?_) rfl (by kernel_rfl) (by kernel_rfl) (by kernel_rfl) (fun _ _ _ h => h) (Or.inl ⟨by rfl, ?_⟩) (by assumption) ?_
    rotate_left
    · (intro w hSw; (try dsimp only at hSw); go_simp; try (with_reducible rfl))
    try simp only [Act.put, List.setIfInBounds_toArray, List.set_cons_zero, List.set_cons_succ]
    refine wpAnyH_take (i := 4) (oi := { dst := some 31, op := Op.fieldAddr 28 (Operand.tmp 5) 0, type := 0, pos := "law.go:34", after := #[{ on := 3, ground := Ground.guard }], guard := some (3, true) }) (v := ?_) rfl (by kernel_rfl) (by kernel_rfl) (by kernel_rfl) (fun _ _ _ h => h) (Or.inl ⟨by rfl, ?_⟩) (by assumption) ?_
    rotate_left
    · (intro w hSw; (try dsimp only at hSw); go_simp; try (with_reducible rfl))
    try simp only [Act.put, List.setIfInBounds_toArray, List.set_cons_zero, List.set_cons_succ]
    refine wpAnyH_take (i := 5) (oi := { dst := some 32, op := Op.load 3 (Operand.tmp 31), type := 3, pos := "law.go:34", after := #[{ on := 4, ground := Ground.data }, { on := 3, ground := Ground.guard }], guard := some (3, true) }) (v := ?_) rfl (by kernel_rfl) (by kernel_rfl) (by kernel_rfl) (fun _ _ _ h => h) (Or.inl ⟨by rfl, ?_⟩) (by assumption) ?_
    rotate_left
    · (intro w hSw; (try dsimp only at hSw); go_simp; try (with_reducible rfl))
    try simp only [Act.put, List.setIfInBounds_toArray, List.set_cons_zero, List.set_cons_succ]
    refine wpAnyH_take (i := 6) (oi := { dst := some 33, op := Op.fieldAddr 28 (Operand.tmp 7) 0, type := 0, pos := "law.go:34", after := #[{ on := 3, ground := Ground.guard }], guard := some (3, true) }) (v := ?_) rfl (by kernel_rfl) (by kernel_rfl) (by kernel_rfl) (fun _ _ _ h => h) (Or.inl ⟨by rfl, ?_⟩) (by assumption) ?_
    rotate_left
    · (intro w hSw; (try dsimp only at hSw); go_simp; try (with_reducible rfl))
    try simp only [Act.put, List.setIfInBounds_toArray, List.set_cons_zero, List.set_cons_succ]
    refine wpAnyH_take (i := 7) (oi := { dst := some 34, op := Op.load 3 (Operand.tmp 33), type := 3, pos := "law.go:34", after := #[{ on := 6, ground := Ground.data }, { on := 3, ground := Ground.guard }], guard := some (3, true) }) (v := ?_) rfl (by kernel_rfl) (by kernel_rfl) (by kernel_rfl) (fun _ _ _ h => h) (Or.inl ⟨by rfl, ?_⟩) (by assumption) ?_
    rotate_left
    · (intro w hSw; (try dsimp only at hSw); go_simp; try (with_reducible rfl))
    try simp only [Act.put, List.setIfInBounds_toArray, List.set_cons_zero, List.set_cons_succ]
    refine wpAnyH_take (i := 8) (oi := { dst := some 35, op := Op.binOp BinOp.eql 3 (Operand.tmp 32) (Operand.tmp 34) 3, type := 4, pos := "law.go:34", after := #[{ on := 5, ground := Ground.data }, { on := 7, ground := Ground.data }, { on := 3, ground := Ground.guard }], guard := some (3, true) }) (v := ?_) rfl (by kernel_rfl) (by kernel_rfl) (by kernel_rfl) (fun _ _ _ h => h) (Or.inl ⟨by rfl, ?_⟩) (by assumption) ?_
    rotate_left
    · (intro w hSw; (try dsimp only at hSw); go_simp; try (with_reducible rfl))
    try simp only [Act.put, List.setIfInBounds_toArray, List.set_cons_zero, List.set_cons_succ]
    refine wpAnyH_take (i := 9) (oi := { dst := some 36, op := Op.pick (Operand.tmp 30) (Operand.tmp 35) (Operand.const (Value.bool false)), type := 4, pos := "law.go:34", after := #[{ on := 3, ground := Ground.data }, { on := 8, ground := Ground.data }], guard := none }) (v := ?_) rfl (by kernel_rfl) (by kernel_rfl) (by kernel_rfl) (fun _ _ _ h => h) (Or.inl ⟨by rfl, ?_⟩) (by assumption) ?_
    rotate_left
    · (intro w hSw; (try dsimp only at hSw); go_simp; try (with_reducible rfl))
    try simp only [Act.put, List.setIfInBounds_toArray, List.set_cons_zero, List.set_cons_succ]
    refine wpAnyH_take (i := 10) (oi := { dst := some 37, op := Op.move (Operand.tmp 36), type := 4, pos := "law.go:34", after := #[{ on := 9, ground := Ground.data }, { on := 3, ground := Ground.chain }], guard := none }) (v := ?_) rfl (by kernel_rfl) (by kernel_rfl) (by kernel_rfl) (fun _ _ _ h => h) (Or.inl ⟨by rfl, ?_⟩) (by assumption) ?_
    rotate_left
    · (intro w hSw; (try dsimp only at hSw); go_simp; try (with_reducible rfl))
    try simp only [Act.put, List.setIfInBounds_toArray, List.set_cons_zero, List.set_cons_succ]
    refine wpAnyH_take (i := 11) (oi := { dst := some 38, op := Op.load 28 (Operand.tmp 5), type := 28, pos := "law.go:34", after := #[{ on := 10, ground := Ground.guard }], guard := some (10, true) }) (v := ?_) rfl (by kernel_rfl) (by kernel_rfl) (by kernel_rfl) (fun _ _ _ h => h) (Or.inl ⟨by rfl, ?_⟩) (by assumption) ?_
    rotate_left
    · (intro w hSw; (try dsimp only at hSw); go_simp; try (with_reducible rfl))
    try simp only [Act.put, List.setIfInBounds_toArray, List.set_cons_zero, List.set_cons_succ]
    refine wpAnyH_take (i := 12) (oi := { dst := some 39, op := Op.load 28 (Operand.tmp 7), type := 28, pos := "law.go:34", after := #[{ on := 10, ground := Ground.guard }], guard := some (10, true) }) (v := ?_) rfl (by kernel_rfl) (by kernel_rfl) (by kernel_rfl) (fun _ _ _ h => h) (Or.inl ⟨by rfl, ?_⟩) (by assumption) ?_
    rotate_left
    · (intro w hSw; (try dsimp only at hSw); go_simp; try (with_reducible rfl))
    try simp only [Act.put, List.setIfInBounds_toArray, List.set_cons_zero, List.set_cons_succ]
    refine wpAnyH_ready (rs := [13]) (by kernel_rfl) (by simp) ?_
    refine AllReadyH.cons (o := { dst := some 40, op := Op.call { callee := Callee.value (Operand.func 27), args := #[Operand.tmp 38, Operand.tmp 39], argTypes := #[28, 28] }, type := 4, pos := "law.go:34", after := #[{ on := 11, ground := Ground.data }, { on := 12, ground := Ground.data }, { on := 10, ground := Ground.chain }, { on := 10, ground := Ground.guard }], guard := some (10, true) }) rfl (fun K hK => ?_) AllReadyH.nil
    go_simp
    (go_at_call 27; refine (rsame_b W4 _ _ _ _ _ (by assumption) (by assumption) (by first | (with_reducible assumption) | (exact Moves.drew (by with_reducible assumption)))).mono ?_; rintro _ w8 ⟨rfl, m8⟩; (try (first | rw [eXX] | rw [eCD])); have ea0 := m8.cell Da0; have ea1 := m8.cell Da1; have ea2 := m8.cell Da2; have eb0 := m8.cell Db0; have eb1 := m8.cell Db1; have eb2 := m8.cell Db2; have ex0 := m8.cell Dx0; have ex1 := m8.cell Dx1; have ex2 := m8.cell Dx2; have ey0 := m8.cell Dy0; have ey1 := m8.cell Dy1; have ey2 := m8.cell Dy2; have ec0 := m8.cell Dc0; have ec1 := m8.cell Dc1; have ec2 := m8.cell Dc2; have ed0 := m8.cell Dd0; have ed1 := m8.cell Dd1; have ed2 := m8.cell Dd2; clear a0 a1 a2 b0 b1 b2 x0 x1 x2 y0 y1 y2 c0 c1 c2 d0 d1 d2; have a0 := ea0; have a1 := ea1; have a2 := ea2; have b0 := eb0; have b1 := eb1; have b2 := eb2; have x0 := ex0; have x1 := ex1; have x2 := ex2; have y0 := ey0; have y1 := ey1; have y2 := ey2; have c0 := ec0; have c1 := ec1; have c2 := ec2; have d0 := ed0; have d1 := ed1; have d2 := ed2; clear ea0 ea1 ea2 eb0 eb1 eb2 ex0 ex1 ex2 ey0 ey1 ey2 ec0 ec1 ec2 ed0 ed1 ed2)
    refine hK.out _ _ ?_ (fun hHeld => ?_)
    · (exact ⟨a0, a1, a2, b0, b1, b2, x0, x1, x2, y0, y1, y2, c0, c1, c2, d0, d1, d2⟩)
    clear hK K
    try simp only [Act.put, List.setIfInBounds_toArray, List.set_cons_zero, List.set_cons_succ]
    refine wpAnyH_take (i := 14) (oi := { dst := some 41, op := Op.pick (Operand.tmp 37) (Operand.tmp 40) (Operand.const (Value.bool false)), type := 4, pos := "law.go:34", after := #[{ on := 10, ground := Ground.data }, { on := 13, ground := Ground.data }], guard := none }) (v := ?_) rfl (by kernel_rfl) (by kernel_rfl) (by kernel_rfl) (fun _ _ _ h => h) (Or.inl ⟨by rfl, ?_⟩) (by assumption) ?_
    rotate_left
    · (intro w hSw; (try dsimp only at hSw); go_simp; try (with_reducible rfl))
    try simp only [Act.put, List.setIfInBounds_toArray, List.set_cons_zero, List.set_cons_succ]
    refine wpAnyH_take (i := 15) (oi := { dst := some 42, op := Op.move (Operand.tmp 41), type := 4, pos := "law.go:34", after := #[{ on := 14, ground := Ground.data }, { on := 13, ground := Ground.chain }], guard := none }) (v := ?_) rfl (by kernel_rfl) (by kernel_rfl) (by kernel_rfl) (fun _ _ _ h => h) (Or.inl ⟨by rfl, ?_⟩) (by assumption) ?_
    rotate_left
    · (intro w hSw; (try dsimp only at hSw); go_simp; try (with_reducible rfl))
    try simp only [Act.put, List.setIfInBounds_toArray, List.set_cons_zero, List.set_cons_succ]
    refine wpAnyH_take (i := 16) (oi := { dst := some 43, op := Op.load 28 (Operand.tmp 2), type := 28, pos := "law.go:34", after := #[{ on := 15, ground := Ground.guard }], guard := some (15, true) }) (v := ?_) rfl (by kernel_rfl) (by kernel_rfl) (by kernel_rfl) (fun _ _ _ h => h) (Or.inl ⟨by rfl, ?_⟩) (by assumption) ?_
    rotate_left
    · (intro w hSw; (try dsimp only at hSw); go_simp; try (with_reducible rfl))
    try simp only [Act.put, List.setIfInBounds_toArray, List.set_cons_zero, List.set_cons_succ]
    refine wpAnyH_take (i := 18) (oi := { dst := some 45, op := Op.load 28 (Operand.tmp 2), type := 28, pos := "law.go:34", after := #[{ on := 15, ground := Ground.guard }], guard := some (15, true) }) (v := ?_) rfl (by kernel_rfl) (by kernel_rfl) (by kernel_rfl) (fun _ _ _ h => h) (Or.inl ⟨by rfl, ?_⟩) (by assumption) ?_
    rotate_left
    · (intro w hSw; (try dsimp only at hSw); go_simp; try (with_reducible rfl))
    try simp only [Act.put, List.setIfInBounds_toArray, List.set_cons_zero, List.set_cons_succ]
    refine wpAnyH_ready (rs := [17]) (by kernel_rfl) (by simp) ?_
    refine AllReadyH.cons (o := { dst := some 44, op := Op.call { callee := Callee.value (Operand.func 28), args := #[Operand.tmp 43], argTypes := #[28] }, type := 4, pos := "law.go:34", after := #[{ on := 16, ground := Ground.data }, { on := 15, ground := Ground.chain }, { on := 15, ground := Ground.guard }], guard := some (15, true) }) rfl (fun K hK => ?_) AllReadyH.nil
    go_simp
    (go_at_call 28; refine (right_b W4 _ _ _ (by assumption) (by first | (with_reducible assumption) | (exact Moves.drew (by with_reducible assumption)))).mono ?_; rintro _ w8 ⟨rfl, m8⟩; (try (first | rw [eXX] | rw [eCD])); have ea0 := m8.cell Da0; have ea1 := m8.cell Da1; have ea2 := m8.cell Da2; have eb0 := m8.cell Db0; have eb1 := m8.cell Db1; have eb2 := m8.cell Db2; have ex0 := m8.cell Dx0; have ex1 := m8.cell Dx1; have ex2 := m8.cell Dx2; have ey0 := m8.cell Dy0; have ey1 := m8.cell Dy1; have ey2 := m8.cell Dy2; have ec0 := m8.cell Dc0; have ec1 := m8.cell Dc1; have ec2 := m8.cell Dc2; have ed0 := m8.cell Dd0; have ed1 := m8.cell Dd1; have ed2 := m8.cell Dd2; clear a0 a1 a2 b0 b1 b2 x0 x1 x2 y0 y1 y2 c0 c1 c2 d0 d1 d2; have a0 := ea0; have a1 := ea1; have a2 := ea2; have b0 := eb0; have b1 := eb1; have b2 := eb2; have x0 := ex0; have x1 := ex1; have x2 := ex2; have y0 := ey0; have y1 := ey1; have y2 := ey2; have c0 := ec0; have c1 := ec1; have c2 := ec2; have d0 := ed0; have d1 := ed1; have d2 := ed2; clear ea0 ea1 ea2 eb0 eb1 eb2 ex0 ex1 ex2 ey0 ey1 ey2 ec0 ec1 ec2 ed0 ed1 ed2)
    refine hK.out _ _ ?_ (fun hHeld => ?_)
    · (exact ⟨a0, a1, a2, b0, b1, b2, x0, x1, x2, y0, y1, y2, c0, c1, c2, d0, d1, d2⟩)
    clear hK K
    try simp only [Act.put, List.setIfInBounds_toArray, List.set_cons_zero, List.set_cons_succ]
    refine wpAnyH_ready (rs := [19]) (by kernel_rfl) (by simp) ?_
    refine AllReadyH.cons (o := { dst := some 46, op := Op.call { callee := Callee.value (Operand.func 29), args := #[Operand.tmp 45], argTypes := #[28] }, type := 4, pos := "law.go:34", after := #[{ on := 18, ground := Ground.data }, { on := 17, ground := Ground.chain }, { on := 15, ground := Ground.guard }], guard := some (15, true) }) rfl (fun K hK => ?_) AllReadyH.nil
    go_simp
    (go_at_call 29; refine (rright_b W4 _ _ _ (by assumption) (by first | (with_reducible assumption) | (exact Moves.drew (by with_reducible assumption)))).mono ?_; rintro _ w8 ⟨rfl, m8⟩; (try (first | rw [eXX] | rw [eCD])); have ea0 := m8.cell Da0; have ea1 := m8.cell Da1; have ea2 := m8.cell Da2; have eb0 := m8.cell Db0; have eb1 := m8.cell Db1; have eb2 := m8.cell Db2; have ex0 := m8.cell Dx0; have ex1 := m8.cell Dx1; have ex2 := m8.cell Dx2; have ey0 := m8.cell Dy0; have ey1 := m8.cell Dy1; have ey2 := m8.cell Dy2; have ec0 := m8.cell Dc0; have ec1 := m8.cell Dc1; have ec2 := m8.cell Dc2; have ed0 := m8.cell Dd0; have ed1 := m8.cell Dd1; have ed2 := m8.cell Dd2; clear a0 a1 a2 b0 b1 b2 x0 x1 x2 y0 y1 y2 c0 c1 c2 d0 d1 d2; have a0 := ea0; have a1 := ea1; have a2 := ea2; have b0 := eb0; have b1 := eb1; have b2 := eb2; have x0 := ex0; have x1 := ex1; have x2 := ex2; have y0 := ey0; have y1 := ey1; have y2 := ey2; have c0 := ec0; have c1 := ec1; have c2 := ec2; have d0 := ed0; have d1 := ed1; have d2 := ed2; clear ea0 ea1 ea2 eb0 eb1 eb2 ex0 ex1 ex2 ey0 ey1 ey2 ec0 ec1 ec2 ed0 ed1 ed2)
    refine hK.out _ _ ?_ (fun hHeld => ?_)
    · (exact ⟨a0, a1, a2, b0, b1, b2, x0, x1, x2, y0, y1, y2, c0, c1, c2, d0, d1, d2⟩)
    clear hK K
    try simp only [Act.put, List.setIfInBounds_toArray, List.set_cons_zero, List.set_cons_succ]
    refine wpAnyH_take (i := 20) (oi := { dst := some 47, op := Op.binOp BinOp.eql 4 (Operand.tmp 44) (Operand.tmp 46) 4, type := 4, pos := "law.go:34", after := #[{ on := 17, ground := Ground.data }, { on := 19, ground := Ground.data }, { on := 15, ground := Ground.guard }], guard := some (15, true) }) (v := ?_) rfl (by kernel_rfl) (by kernel_rfl) (by kernel_rfl) (fun _ _ _ h => h) (Or.inl ⟨by rfl, ?_⟩) (by assumption) ?_
    rotate_left
    · (intro w hSw; (try dsimp only at hSw); go_simp; try (with_reducible rfl))
    try simp only [Act.put, List.setIfInBounds_toArray, List.set_cons_zero, List.set_cons_succ]
    refine wpAnyH_take (i := 21) (oi := { dst := some 48, op := Op.pick (Operand.tmp 42) (Operand.tmp 47) (Operand.const (Value.bool false)), type := 4, pos := "law.go:34", after := #[{ on := 15, ground := Ground.data }, { on := 20, ground := Ground.data }], guard := none }) (v := ?_) rfl (by kernel_rfl) (by kernel_rfl) (by kernel_rfl) (fun _ _ _ h => h) (Or.inl ⟨by rfl, ?_⟩) (by assumption) ?_
    rotate_left
    · (intro w hSw; (try dsimp only at hSw); go_simp; try (with_reducible rfl))
    try simp only [Act.put, List.setIfInBounds_toArray, List.set_cons_zero, List.set_cons_succ]
    refine wpAnyH_take (i := 22) (oi := { dst := some 49, op := Op.move (Operand.tmp 48), type := 4, pos := "law.go:34", after := #[{ on := 21, ground := Ground.data }, { on := 19, ground := Ground.chain }], guard := none }) (v := ?_) rfl (by kernel_rfl) (by kernel_rfl) (by kernel_rfl) (fun _ _ _ h => h) (Or.inl ⟨by rfl, ?_⟩) (by assumption) ?_
    rotate_left
    · (intro w hSw; (try dsimp only at hSw); go_simp; try (with_reducible rfl))
    try simp only [Act.put, List.setIfInBounds_toArray, List.set_cons_zero, List.set_cons_succ]
    refine wpAnyH_take (i := 23) (oi := { dst := some 50, op := Op.load 28 (Operand.tmp 2), type := 28, pos := "law.go:34", after := #[{ on := 22, ground := Ground.guard }], guard := some (22, true) }) (v := ?_) rfl (by kernel_rfl) (by kernel_rfl) (by kernel_rfl) (fun _ _ _ h => h) (Or.inl ⟨by rfl, ?_⟩) (by assumption) ?_
    rotate_left
    · (intro w hSw; (try dsimp only at hSw); go_simp; try (with_reducible rfl))
    try simp only [Act.put, List.setIfInBounds_toArray, List.set_cons_zero, List.set_cons_succ]
    refine wpAnyH_take (i := 24) (oi := { dst := some 51, op := Op.load 28 (Operand.tmp 3), type := 28, pos := "law.go:34", after := #[{ on := 22, ground := Ground.guard }], guard := some (22, true) }) (v := ?_) rfl (by kernel_rfl) (by kernel_rfl) (by kernel_rfl) (fun _ _ _ h => h) (Or.inl ⟨by rfl, ?_⟩) (by assumption) ?_
    rotate_left
    · (intro w hSw; (try dsimp only at hSw); go_simp; try (with_reducible rfl))
    try simp only [Act.put, List.setIfInBounds_toArray, List.set_cons_zero, List.set_cons_succ]
    refine wpAnyH_take (i := 26) (oi := { dst := some 53, op := Op.load 28 (Operand.tmp 2), type := 28, pos := "law.go:34", after := #[{ on := 22, ground := Ground.guard }], guard := some (22, true) }) (v := ?_) rfl (by kernel_rfl) (by kernel_rfl) (by kernel_rfl) (fun _ _ _ h => h) (Or.inl ⟨by rfl, ?_⟩) (by assumption) ?_
    rotate_left
    · (intro w hSw; (try dsimp only at hSw); go_simp; try (with_reducible rfl))
    try simp only [Act.put, List.setIfInBounds_toArray, List.set_cons_zero, List.set_cons_succ]
    refine wpAnyH_take (i := 27) (oi := { dst := some 54, op := Op.load 28 (Operand.tmp 3), type := 28, pos := "law.go:34", after := #[{ on := 22, ground := Ground.guard }], guard := some (22, true) }) (v := ?_) rfl (by kernel_rfl) (by kernel_rfl) (by kernel_rfl) (fun _ _ _ h => h) (Or.inl ⟨by rfl, ?_⟩) (by assumption) ?_
    rotate_left
    · (intro w hSw; (try dsimp only at hSw); go_simp; try (with_reducible rfl))
    try simp only [Act.put, List.setIfInBounds_toArray, List.set_cons_zero, List.set_cons_succ]
    refine wpAnyH_ready (rs := [25]) (by kernel_rfl) (by simp) ?_
    refine AllReadyH.cons (o := { dst := some 52, op := Op.call { callee := Callee.value (Operand.func 21), args := #[Operand.tmp 50, Operand.tmp 51], argTypes := #[28, 28] }, type := 4, pos := "law.go:34", after := #[{ on := 23, ground := Ground.data }, { on := 24, ground := Ground.data }, { on := 22, ground := Ground.chain }, { on := 22, ground := Ground.guard }], guard := some (22, true) }) rfl (fun K hK => ?_) AllReadyH.nil
    go_simp
    (go_at_call 21; refine (same_b W4 _ _ _ _ _ (by assumption) (by assumption) (by first | (with_reducible assumption) | (exact Moves.drew (by with_reducible assumption)))).mono ?_; rintro _ w8 ⟨rfl, m8⟩; (try (first | rw [eXX] | rw [eCD])); have ea0 := m8.cell Da0; have ea1 := m8.cell Da1; have ea2 := m8.cell Da2; have eb0 := m8.cell Db0; have eb1 := m8.cell Db1; have eb2 := m8.cell Db2; have ex0 := m8.cell Dx0; have ex1 := m8.cell Dx1; have ex2 := m8.cell Dx2; have ey0 := m8.cell Dy0; have ey1 := m8.cell Dy1; have ey2 := m8.cell Dy2; have ec0 := m8.cell Dc0; have ec1 := m8.cell Dc1; have ec2 := m8.cell Dc2; have ed0 := m8.cell Dd0; have ed1 := m8.cell Dd1; have ed2 := m8.cell Dd2; clear a0 a1 a2 b0 b1 b2 x0 x1 x2 y0 y1 y2 c0 c1 c2 d0 d1 d2; have a0 := ea0; have a1 := ea1; have a2 := ea2; have b0 := eb0; have b1 := eb1; have b2 := eb2; have x0 := ex0; have x1 := ex1; have x2 := ex2; have y0 := ey0; have y1 := ey1; have y2 := ey2; have c0 := ec0; have c1 := ec1; have c2 := ec2; have d0 := ed0; have d1 := ed1; have d2 := ed2; clear ea0 ea1 ea2 eb0 eb1 eb2 ex0 ex1 ex2 ey0 ey1 ey2 ec0 ec1 ec2 ed0 ed1 ed2)
    refine hK.out _ _ ?_ (fun hHeld => ?_)
    · (exact ⟨a0, a1, a2, b0, b1, b2, x0, x1, x2, y0, y1, y2, c0, c1, c2, d0, d1, d2⟩)
    clear hK K
    try simp only [Act.put, List.setIfInBounds_toArray, List.set_cons_zero, List.set_cons_succ]
    refine wpAnyH_ready (rs := [28]) (by kernel_rfl) (by simp) ?_
    refine AllReadyH.cons (o := { dst := some 55, op := Op.call { callee := Callee.value (Operand.func 27), args := #[Operand.tmp 53, Operand.tmp 54], argTypes := #[28, 28] }, type := 4, pos := "law.go:34", after := #[{ on := 26, ground := Ground.data }, { on := 27, ground := Ground.data }, { on := 25, ground := Ground.chain }, { on := 22, ground := Ground.guard }], guard := some (22, true) }) rfl (fun K hK => ?_) AllReadyH.nil
    go_simp
    (go_at_call 27; refine (rsame_b W4 _ _ _ _ _ (by assumption) (by assumption) (by first | (with_reducible assumption) | (exact Moves.drew (by with_reducible assumption)))).mono ?_; rintro _ w8 ⟨rfl, m8⟩; (try (first | rw [eXX] | rw [eCD])); have ea0 := m8.cell Da0; have ea1 := m8.cell Da1; have ea2 := m8.cell Da2; have eb0 := m8.cell Db0; have eb1 := m8.cell Db1; have eb2 := m8.cell Db2; have ex0 := m8.cell Dx0; have ex1 := m8.cell Dx1; have ex2 := m8.cell Dx2; have ey0 := m8.cell Dy0; have ey1 := m8.cell Dy1; have ey2 := m8.cell Dy2; have ec0 := m8.cell Dc0; have ec1 := m8.cell Dc1; have ec2 := m8.cell Dc2; have ed0 := m8.cell Dd0; have ed1 := m8.cell Dd1; have ed2 := m8.cell Dd2; clear a0 a1 a2 b0 b1 b2 x0 x1 x2 y0 y1 y2 c0 c1 c2 d0 d1 d2; have a0 := ea0; have a1 := ea1; have a2 := ea2; have b0 := eb0; have b1 := eb1; have b2 := eb2; have x0 := ex0; have x1 := ex1; have x2 := ex2; have y0 := ey0; have y1 := ey1; have y2 := ey2; have c0 := ec0; have c1 := ec1; have c2 := ec2; have d0 := ed0; have d1 := ed1; have d2 := ed2; clear ea0 ea1 ea2 eb0 eb1 eb2 ex0 ex1 ex2 ey0 ey1 ey2 ec0 ec1 ec2 ed0 ed1 ed2)
    refine hK.out _ _ ?_ (fun hHeld => ?_)
    · (exact ⟨a0, a1, a2, b0, b1, b2, x0, x1, x2, y0, y1, y2, c0, c1, c2, d0, d1, d2⟩)
    clear hK K
    try simp only [Act.put, List.setIfInBounds_toArray, List.set_cons_zero, List.set_cons_succ]
    refine wpAnyH_take (i := 29) (oi := { dst := some 56, op := Op.binOp BinOp.eql 4 (Operand.tmp 52) (Operand.tmp 55) 4, type := 4, pos := "law.go:34", after := #[{ on := 25, ground := Ground.data }, { on := 28, ground := Ground.data }, { on := 22, ground := Ground.guard }], guard := some (22, true) }) (v := ?_) rfl (by kernel_rfl) (by kernel_rfl) (by kernel_rfl) (fun _ _ _ h => h) (Or.inl ⟨by rfl, ?_⟩) (by assumption) ?_
    rotate_left
    · (intro w hSw; (try dsimp only at hSw); go_simp; try (with_reducible rfl))
    try simp only [Act.put, List.setIfInBounds_toArray, List.set_cons_zero, List.set_cons_succ]
    refine wpAnyH_take (i := 30) (oi := { dst := some 57, op := Op.pick (Operand.tmp 49) (Operand.tmp 56) (Operand.const (Value.bool false)), type := 4, pos := "law.go:34", after := #[{ on := 22, ground := Ground.data }, { on := 29, ground := Ground.data }], guard := none }) (v := ?_) rfl (by kernel_rfl) (by kernel_rfl) (by kernel_rfl) (fun _ _ _ h => h) (Or.inl ⟨by rfl, ?_⟩) (by assumption) ?_
    rotate_left
    · (intro w hSw; (try dsimp only at hSw); go_simp; try (with_reducible rfl))
    try simp only [Act.put, List.setIfInBounds_toArray, List.set_cons_zero, List.set_cons_succ]
    refine wpAnyH_take (i := 31) (oi := { dst := some 58, op := Op.move (Operand.tmp 57), type := 4, pos := "law.go:34", after := #[{ on := 30, ground := Ground.data }, { on := 28, ground := Ground.chain }], guard := none }) (v := ?_) rfl (by kernel_rfl) (by kernel_rfl) (by kernel_rfl) (fun _ _ _ h => h) (Or.inl ⟨by rfl, ?_⟩) (by assumption) ?_
    rotate_left
    · (intro w hSw; (try dsimp only at hSw); go_simp; try (with_reducible rfl))
    try simp only [Act.put, List.setIfInBounds_toArray, List.set_cons_zero, List.set_cons_succ]
    refine wpAnyH_take (i := 32) (oi := { dst := some 59, op := Op.load 28 (Operand.tmp 2), type := 28, pos := "law.go:34", after := #[{ on := 31, ground := Ground.guard }], guard := some (31, true) }) (v := ?_) rfl (by kernel_rfl) (by kernel_rfl) (by kernel_rfl) (fun _ _ _ h => h) (Or.inl ⟨by rfl, ?_⟩) (by assumption) ?_
    rotate_left
    · (intro w hSw; (try dsimp only at hSw); go_simp; try (with_reducible rfl))
    try simp only [Act.put, List.setIfInBounds_toArray, List.set_cons_zero, List.set_cons_succ]
    refine wpAnyH_take (i := 33) (oi := { dst := some 60, op := Op.load 28 (Operand.tmp 3), type := 28, pos := "law.go:34", after := #[{ on := 31, ground := Ground.guard }], guard := some (31, true) }) (v := ?_) rfl (by kernel_rfl) (by kernel_rfl) (by kernel_rfl) (fun _ _ _ h => h) (Or.inl ⟨by rfl, ?_⟩) (by assumption) ?_
    rotate_left
    · (intro w hSw; (try dsimp only at hSw); go_simp; try (with_reducible rfl))
    try simp only [Act.put, List.setIfInBounds_toArray, List.set_cons_zero, List.set_cons_succ]
    refine wpAnyH_take (i := 35) (oi := { dst := some 62, op := Op.load 28 (Operand.tmp 2), type := 28, pos := "law.go:34", after := #[{ on := 31, ground := Ground.guard }], guard := some (31, true) }) (v := ?_) rfl (by kernel_rfl) (by kernel_rfl) (by kernel_rfl) (fun _ _ _ h => h) (Or.inl ⟨by rfl, ?_⟩) (by assumption) ?_
    rotate_left
    · (intro w hSw; (try dsimp only at hSw); go_simp; try (with_reducible rfl))
    try simp only [Act.put, List.setIfInBounds_toArray, List.set_cons_zero, List.set_cons_succ]
    refine wpAnyH_take (i := 36) (oi := { dst := some 63, op := Op.load 28 (Operand.tmp 3), type := 28, pos := "law.go:34", after := #[{ on := 31, ground := Ground.guard }], guard := some (31, true) }) (v := ?_) rfl (by kernel_rfl) (by kernel_rfl) (by kernel_rfl) (fun _ _ _ h => h) (Or.inl ⟨by rfl, ?_⟩) (by assumption) ?_
    rotate_left
    · (intro w hSw; (try dsimp only at hSw); go_simp; try (with_reducible rfl))
    try simp only [Act.put, List.setIfInBounds_toArray, List.set_cons_zero, List.set_cons_succ]
    refine wpAnyH_ready (rs := [34]) (by kernel_rfl) (by simp) ?_
    refine AllReadyH.cons (o := { dst := some 61, op := Op.call { callee := Callee.value (Operand.func 22), args := #[Operand.tmp 59, Operand.tmp 60], argTypes := #[28, 28] }, type := 3, pos := "law.go:34", after := #[{ on := 32, ground := Ground.data }, { on := 33, ground := Ground.data }, { on := 31, ground := Ground.chain }, { on := 31, ground := Ground.guard }], guard := some (31, true) }) rfl (fun K hK => ?_) AllReadyH.nil
    go_simp
    (go_at_call 22; refine (order_b W4 _ _ _ _ _ (by assumption) (by assumption) (by first | (with_reducible assumption) | (exact Moves.drew (by with_reducible assumption)))).mono ?_; rintro _ w8 ⟨rfl, m8⟩; (try (first | rw [eXX] | rw [eCD])); have ea0 := m8.cell Da0; have ea1 := m8.cell Da1; have ea2 := m8.cell Da2; have eb0 := m8.cell Db0; have eb1 := m8.cell Db1; have eb2 := m8.cell Db2; have ex0 := m8.cell Dx0; have ex1 := m8.cell Dx1; have ex2 := m8.cell Dx2; have ey0 := m8.cell Dy0; have ey1 := m8.cell Dy1; have ey2 := m8.cell Dy2; have ec0 := m8.cell Dc0; have ec1 := m8.cell Dc1; have ec2 := m8.cell Dc2; have ed0 := m8.cell Dd0; have ed1 := m8.cell Dd1; have ed2 := m8.cell Dd2; clear a0 a1 a2 b0 b1 b2 x0 x1 x2 y0 y1 y2 c0 c1 c2 d0 d1 d2; have a0 := ea0; have a1 := ea1; have a2 := ea2; have b0 := eb0; have b1 := eb1; have b2 := eb2; have x0 := ex0; have x1 := ex1; have x2 := ex2; have y0 := ey0; have y1 := ey1; have y2 := ey2; have c0 := ec0; have c1 := ec1; have c2 := ec2; have d0 := ed0; have d1 := ed1; have d2 := ed2; clear ea0 ea1 ea2 eb0 eb1 eb2 ex0 ex1 ex2 ey0 ey1 ey2 ec0 ec1 ec2 ed0 ed1 ed2)
    refine hK.out _ _ ?_ (fun hHeld => ?_)
    · (exact ⟨a0, a1, a2, b0, b1, b2, x0, x1, x2, y0, y1, y2, c0, c1, c2, d0, d1, d2⟩)
    clear hK K
    try simp only [Act.put, List.setIfInBounds_toArray, List.set_cons_zero, List.set_cons_succ]
    refine wpAnyH_ready (rs := [37]) (by kernel_rfl) (by simp) ?_
    refine AllReadyH.cons (o := { dst := some 64, op := Op.call { callee := Callee.value (Operand.func 30), args := #[Operand.tmp 62, Operand.tmp 63], argTypes := #[28, 28] }, type := 3, pos := "law.go:34", after := #[{ on := 35, ground := Ground.data }, { on := 36, ground := Ground.data }, { on := 34, ground := Ground.chain }, { on := 31, ground := Ground.guard }], guard := some (31, true) }) rfl (fun K hK => ?_) AllReadyH.nil
    go_simp
    (go_at_call 30; refine (rorder_b W4 _ _ _ _ _ (by assumption) (by assumption) (by first | (with_reducible assumption) | (exact Moves.drew (by with_reducible assumption)))).mono ?_; rintro _ w8 ⟨rfl, m8⟩; (try (first | rw [eXX] | rw [eCD])); have ea0 := m8.cell Da0; have ea1 := m8.cell Da1; have ea2 := m8.cell Da2; have eb0 := m8.cell Db0; have eb1 := m8.cell Db1; have eb2 := m8.cell Db2; have ex0 := m8.cell Dx0; have ex1 := m8.cell Dx1; have ex2 := m8.cell Dx2; have ey0 := m8.cell Dy0; have ey1 := m8.cell Dy1; have ey2 := m8.cell Dy2; have ec0 := m8.cell Dc0; have ec1 := m8.cell Dc1; have ec2 := m8.cell Dc2; have ed0 := m8.cell Dd0; have ed1 := m8.cell Dd1; have ed2 := m8.cell Dd2; clear a0 a1 a2 b0 b1 b2 x0 x1 x2 y0 y1 y2 c0 c1 c2 d0 d1 d2; have a0 := ea0; have a1 := ea1; have a2 := ea2; have b0 := eb0; have b1 := eb1; have b2 := eb2; have x0 := ex0; have x1 := ex1; have x2 := ex2; have y0 := ey0; have y1 := ey1; have y2 := ey2; have c0 := ec0; have c1 := ec1; have c2 := ec2; have d0 := ed0; have d1 := ed1; have d2 := ed2; clear ea0 ea1 ea2 eb0 eb1 eb2 ex0 ex1 ex2 ey0 ey1 ey2 ec0 ec1 ec2 ed0 ed1 ed2)
    refine hK.out _ _ ?_ (fun hHeld => ?_)
    · (exact ⟨a0, a1, a2, b0, b1, b2, x0, x1, x2, y0, y1, y2, c0, c1, c2, d0, d1, d2⟩)
    clear hK K
    try simp only [Act.put, List.setIfInBounds_toArray, List.set_cons_zero, List.set_cons_succ]
    refine wpAnyH_take (i := 38) (oi := { dst := some 65, op := Op.binOp BinOp.eql 3 (Operand.tmp 61) (Operand.tmp 64) 3, type := 4, pos := "law.go:34", after := #[{ on := 34, ground := Ground.data }, { on := 37, ground := Ground.data }, { on := 31, ground := Ground.guard }], guard := some (31, true) }) (v := ?_) rfl (by kernel_rfl) (by kernel_rfl) (by kernel_rfl) (fun _ _ _ h => h) (Or.inl ⟨by rfl, ?_⟩) (by assumption) ?_
    rotate_left
    · (intro w hSw; (try dsimp only at hSw); go_simp; try (with_reducible rfl))
    try simp only [Act.put, List.setIfInBounds_toArray, List.set_cons_zero, List.set_cons_succ]
    refine wpAnyH_take (i := 39) (oi := { dst := some 66, op := Op.pick (Operand.tmp 58) (Operand.tmp 65) (Operand.const (Value.bool false)), type := 4, pos := "law.go:34", after := #[{ on := 31, ground := Ground.data }, { on := 38, ground := Ground.data }], guard := none }) (v := ?_) rfl (by kernel_rfl) (by kernel_rfl) (by kernel_rfl) (fun _ _ _ h => h) (Or.inl ⟨by rfl, ?_⟩) (by assumption) ?_
    rotate_left
    · (intro w hSw; (try dsimp only at hSw); go_simp; try (with_reducible rfl))
    try simp only [Act.put, List.setIfInBounds_toArray, List.set_cons_zero, List.set_cons_succ]
    refine wpAnyH_take (i := 40) (oi := { dst := some 67, op := Op.move (Operand.tmp 66), type := 4, pos := "law.go:34", after := #[{ on := 39, ground := Ground.data }, { on := 37, ground := Ground.chain }], guard := none }) (v := ?_) rfl (by kernel_rfl) (by kernel_rfl) (by kernel_rfl) (fun _ _ _ h => h) (Or.inl ⟨by rfl, ?_⟩) (by assumption) ?_
    rotate_left
    · (intro w hSw; (try dsimp only at hSw); go_simp; try (with_reducible rfl))
    try simp only [Act.put, List.setIfInBounds_toArray, List.set_cons_zero, List.set_cons_succ]
    refine wpAnyH_take (i := 41) (oi := { dst := some 68, op := Op.fieldAddr 28 (Operand.tmp 9) 0, type := 0, pos := "law.go:34", after := #[{ on := 40, ground := Ground.guard }], guard := some (40, true) }) (v := ?_) rfl (by kernel_rfl) (by kernel_rfl) (by kernel_rfl) (fun _ _ _ h => h) (Or.inl ⟨by rfl, ?_⟩) (by assumption) ?_
    rotate_left
    · (intro w hSw; (try dsimp only at hSw); go_simp; try (with_reducible rfl))
    try simp only [Act.put, List.setIfInBounds_toArray, List.set_cons_zero, List.set_cons_succ]
    refine wpAnyH_take (i := 42) (oi := { dst := some 69, op := Op.load 3 (Operand.tmp 68), type := 3, pos := "law.go:34", after := #[{ on := 41, ground := Ground.data }, { on := 40, ground := Ground.guard }], guard := some (40, true) }) (v := ?_) rfl (by kernel_rfl) (by kernel_rfl) (by kernel_rfl) (fun _ _ _ h => h) (Or.inl ⟨by rfl, ?_⟩) (by assumption) ?_
    rotate_left
    · (intro w hSw; (try dsimp only at hSw); go_simp; try (with_reducible rfl))
    try simp only [Act.put, List.setIfInBounds_toArray, List.set_cons_zero, List.set_cons_succ]
    refine wpAnyH_take (i := 43) (oi := { dst := some 70, op := Op.fieldAddr 28 (Operand.tmp 10) 0, type := 0, pos := "law.go:34", after := #[{ on := 40, ground := Ground.guard }], guard := some (40, true) }) (v := ?_) rfl (by kernel_rfl) (by kernel_rfl) (by kernel_rfl) (fun _ _ _ h => h) (Or.inl ⟨by rfl, ?_⟩) (by assumption) ?_
    rotate_left
    · (intro w hSw; (try dsimp only at hSw); go_simp; try (with_reducible rfl))
    try simp only [Act.put, List.setIfInBounds_toArray, List.set_cons_zero, List.set_cons_succ]
    refine wpAnyH_take (i := 44) (oi := { dst := some 71, op := Op.load 3 (Operand.tmp 70), type := 3, pos := "law.go:34", after := #[{ on := 43, ground := Ground.data }, { on := 40, ground := Ground.guard }], guard := some (40, true) }) (v := ?_) rfl (by kernel_rfl) (by kernel_rfl) (by kernel_rfl) (fun _ _ _ h => h) (Or.inl ⟨by rfl, ?_⟩) (by assumption) ?_
    rotate_left
    · (intro w hSw; (try dsimp only at hSw); go_simp; try (with_reducible rfl))
    try simp only [Act.put, List.setIfInBounds_toArray, List.set_cons_zero, List.set_cons_succ]
    refine wpAnyH_take (i := 45) (oi := { dst := some 72, op := Op.binOp BinOp.eql 3 (Operand.tmp 69) (Operand.tmp 71) 3, type := 4, pos := "law.go:34", after := #[{ on := 42, ground := Ground.data }, { on := 44, ground := Ground.data }, { on := 40, ground := Ground.guard }], guard := some (40, true) }) (v := ?_) rfl (by kernel_rfl) (by kernel_rfl) (by kernel_rfl) (fun _ _ _ h => h) (Or.inl ⟨by rfl, ?_⟩) (by assumption) ?_
    rotate_left
    · (intro w hSw; (try dsimp only at hSw); go_simp; try (with_reducible rfl))
    try simp only [Act.put, List.setIfInBounds_toArray, List.set_cons_zero, List.set_cons_succ]
    refine wpAnyH_take (i := 46) (oi := { dst := some 73, op := Op.pick (Operand.tmp 67) (Operand.tmp 72) (Operand.const (Value.bool false)), type := 4, pos := "law.go:34", after := #[{ on := 40, ground := Ground.data }, { on := 45, ground := Ground.data }], guard := none }) (v := ?_) rfl (by kernel_rfl) (by kernel_rfl) (by kernel_rfl) (fun _ _ _ h => h) (Or.inl ⟨by rfl, ?_⟩) (by assumption) ?_
    rotate_left
    · (intro w hSw; (try dsimp only at hSw); go_simp; try (with_reducible rfl))
    try simp only [Act.put, List.setIfInBounds_toArray, List.set_cons_zero, List.set_cons_succ]
    refine wpAnyH_take (i := 47) (oi := { dst := some 74, op := Op.move (Operand.tmp 73), type := 4, pos := "law.go:34", after := #[{ on := 46, ground := Ground.data }, { on := 40, ground := Ground.chain }], guard := none }) (v := ?_) rfl (by kernel_rfl) (by kernel_rfl) (by kernel_rfl) (fun _ _ _ h => h) (Or.inl ⟨by rfl, ?_⟩) (by assumption) ?_
    rotate_left
    · (intro w hSw; (try dsimp only at hSw); go_simp; try (with_reducible rfl))
    try simp only [Act.put, List.setIfInBounds_toArray, List.set_cons_zero, List.set_cons_succ]
    refine wpAnyH_take (i := 48) (oi := { dst := some 75, op := Op.load 28 (Operand.tmp 9), type := 28, pos := "law.go:34", after := #[{ on := 47, ground := Ground.guard }], guard := some (47, true) }) (v := ?_) rfl (by kernel_rfl) (by kernel_rfl) (by kernel_rfl) (fun _ _ _ h => h) (Or.inl ⟨by rfl, ?_⟩) (by assumption) ?_
    rotate_left
    · (intro w hSw; (try dsimp only at hSw); go_simp; try (with_reducible rfl))
    try simp only [Act.put, List.setIfInBounds_toArray, List.set_cons_zero, List.set_cons_succ]
    refine wpAnyH_take (i := 49) (oi := { dst := some 76, op := Op.load 28 (Operand.tmp 10), type := 28, pos := "law.go:34", after := #[{ on := 47, ground := Ground.guard }], guard := some (47, true) }) (v := ?_) rfl (by kernel_rfl) (by kernel_rfl) (by kernel_rfl) (fun _ _ _ h => h) (Or.inl ⟨by rfl, ?_⟩) (by assumption) ?_
    rotate_left
    · (intro w hSw; (try dsimp only at hSw); go_simp; try (with_reducible rfl))
    try simp only [Act.put, List.setIfInBounds_toArray, List.set_cons_zero, List.set_cons_succ]
    refine wpAnyH_ready (rs := [50]) (by kernel_rfl) (by simp) ?_
    refine AllReadyH.cons (o := { dst := some 77, op := Op.call { callee := Callee.value (Operand.func 27), args := #[Operand.tmp 75, Operand.tmp 76], argTypes := #[28, 28] }, type := 4, pos := "law.go:34", after := #[{ on := 48, ground := Ground.data }, { on := 49, ground := Ground.data }, { on := 47, ground := Ground.chain }, { on := 47, ground := Ground.guard }], guard := some (47, true) }) rfl (fun K hK => ?_) AllReadyH.nil
    go_simp
    (go_at_call 27; refine (rsame_b W4 _ _ _ _ _ (by assumption) (by assumption) (by first | (with_reducible assumption) | (exact Moves.drew (by with_reducible assumption)))).mono ?_; rintro _ w8 ⟨rfl, m8⟩; (try (first | rw [eXX] | rw [eCD])); have ea0 := m8.cell Da0; have ea1 := m8.cell Da1; have ea2 := m8.cell Da2; have eb0 := m8.cell Db0; have eb1 := m8.cell Db1; have eb2 := m8.cell Db2; have ex0 := m8.cell Dx0; have ex1 := m8.cell Dx1; have ex2 := m8.cell Dx2; have ey0 := m8.cell Dy0; have ey1 := m8.cell Dy1; have ey2 := m8.cell Dy2; have ec0 := m8.cell Dc0; have ec1 := m8.cell Dc1; have ec2 := m8.cell Dc2; have ed0 := m8.cell Dd0; have ed1 := m8.cell Dd1; have ed2 := m8.cell Dd2; clear a0 a1 a2 b0 b1 b2 x0 x1 x2 y0 y1 y2 c0 c1 c2 d0 d1 d2; have a0 := ea0; have a1 := ea1; have a2 := ea2; have b0 := eb0; have b1 := eb1; have b2 := eb2; have x0 := ex0; have x1 := ex1; have x2 := ex2; have y0 := ey0; have y1 := ey1; have y2 := ey2; have c0 := ec0; have c1 := ec1; have c2 := ec2; have d0 := ed0; have d1 := ed1; have d2 := ed2; clear ea0 ea1 ea2 eb0 eb1 eb2 ex0 ex1 ex2 ey0 ey1 ey2 ec0 ec1 ec2 ed0 ed1 ed2)
    refine hK.out _ _ ?_ (fun hHeld => ?_)
    · (exact ⟨a0, a1, a2, b0, b1, b2, x0, x1, x2, y0, y1, y2, c0, c1, c2, d0, d1, d2⟩)
    clear hK K
    try simp only [Act.put, List.setIfInBounds_toArray, List.set_cons_zero, List.set_cons_succ]
    refine wpAnyH_take (i := 51) (oi := { dst := some 78, op := Op.pick (Operand.tmp 74) (Operand.tmp 77) (Operand.const (Value.bool false)), type := 4, pos := "law.go:34", after := #[{ on := 47, ground := Ground.data }, { on := 50, ground := Ground.data }], guard := none }) (v := ?_) rfl (by kernel_rfl) (by kernel_rfl) (by kernel_rfl) (fun _ _ _ h => h) (Or.inl ⟨by rfl, ?_⟩) (by assumption) ?_
    rotate_left
    · (intro w hSw; (try dsimp only at hSw); go_simp; try (with_reducible rfl))
    try simp only [Act.put, List.setIfInBounds_toArray, List.set_cons_zero, List.set_cons_succ]
    refine wpAnyH_take (i := 52) (oi := { dst := some 79, op := Op.move (Operand.tmp 78), type := 4, pos := "law.go:34", after := #[{ on := 51, ground := Ground.data }, { on := 50, ground := Ground.chain }], guard := none }) (v := ?_) rfl (by kernel_rfl) (by kernel_rfl) (by kernel_rfl) (fun _ _ _ h => h) (Or.inl ⟨by rfl, ?_⟩) (by assumption) ?_
    rotate_left
    · (intro w hSw; (try dsimp only at hSw); go_simp; try (with_reducible rfl))
    try simp only [Act.put, List.setIfInBounds_toArray, List.set_cons_zero, List.set_cons_succ]
    refine wpAnyH_take (i := 53) (oi := { dst := some 80, op := Op.fieldAddr 28 (Operand.tmp 9) 0, type := 0, pos := "law.go:34", after := #[{ on := 52, ground := Ground.guard }], guard := some (52, true) }) (v := ?_) rfl (by kernel_rfl) (by kernel_rfl) (by kernel_rfl) (fun _ _ _ h => h) (Or.inl ⟨by rfl, ?_⟩) (by assumption) ?_
    rotate_left
    · (intro w hSw; (try dsimp only at hSw); go_simp; try (with_reducible rfl))
    try simp only [Act.put, List.setIfInBounds_toArray, List.set_cons_zero, List.set_cons_succ]
    refine wpAnyH_take (i := 54) (oi := { dst := some 81, op := Op.load 3 (Operand.tmp 80), type := 3, pos := "law.go:34", after := #[{ on := 53, ground := Ground.data }, { on := 52, ground := Ground.guard }], guard := some (52, true) }) (v := ?_) rfl (by kernel_rfl) (by kernel_rfl) (by kernel_rfl) (fun _ _ _ h => h) (Or.inl ⟨by rfl, ?_⟩) (by assumption) ?_
    rotate_left
    · (intro w hSw; (try dsimp only at hSw); go_simp; try (with_reducible rfl))
    try simp only [Act.put, List.setIfInBounds_toArray, List.set_cons_zero, List.set_cons_succ]
    refine wpAnyH_take (i := 55) (oi := { dst := some 82, op := Op.binOp BinOp.eql 3 (Operand.tmp 81) (Operand.const (Value.int IntKind.i64 2)) 3, type := 4, pos := "law.go:34", after := #[{ on := 54, ground := Ground.data }, { on := 52, ground := Ground.guard }], guard := some (52, true) }) (v := ?_) rfl (by kernel_rfl) (by kernel_rfl) (by kernel_rfl) (fun _ _ _ h => h) (Or.inl ⟨by rfl, ?_⟩) (by assumption) ?_
    rotate_left
    · (intro w hSw; (try dsimp only at hSw); go_simp; try (with_reducible rfl))
    try simp only [Act.put, List.setIfInBounds_toArray, List.set_cons_zero, List.set_cons_succ]
    refine wpAnyH_take (i := 56) (oi := { dst := some 83, op := Op.move (Operand.tmp 82), type := 4, pos := "law.go:34", after := #[{ on := 55, ground := Ground.data }, { on := 52, ground := Ground.chain }, { on := 52, ground := Ground.guard }], guard := some (52, true) }) (v := ?_) rfl (by kernel_rfl) (by kernel_rfl) (by kernel_rfl) (fun _ _ _ h => h) (Or.inl ⟨by rfl, ?_⟩) (by assumption) ?_
    rotate_left
    · (intro w hSw; (try dsimp only at hSw); go_simp; try (with_reducible rfl))
    try simp only [Act.put, List.setIfInBounds_toArray, List.set_cons_zero, List.set_cons_succ]
    refine wpAnyH_take (i := 57) (oi := { dst := some 84, op := Op.fieldAddr 28 (Operand.tmp 9) 2, type := 0, pos := "law.go:34", after := #[{ on := 56, ground := Ground.guard }], guard := some (56, false) }) (v := ?_) rfl (by kernel_rfl) (by kernel_rfl) (by kernel_rfl) (fun _ _ _ h => h) (Or.inl ⟨by rfl, ?_⟩) (by assumption) ?_
    rotate_left
    · (intro w hSw; (try dsimp only at hSw); go_simp; try (with_reducible rfl))
    try simp only [Act.put, List.setIfInBounds_toArray, List.set_cons_zero, List.set_cons_succ]
    refine wpAnyH_take (i := 58) (oi := { dst := some 85, op := Op.load 26 (Operand.tmp 84), type := 26, pos := "law.go:34", after := #[{ on := 57, ground := Ground.data }, { on := 56, ground := Ground.guard }], guard := some (56, false) }) (v := ?_) rfl (by kernel_rfl) (by kernel_rfl) (by kernel_rfl) (fun _ _ _ h => h) (Or.inl ⟨by rfl, ?_⟩) (by assumption) ?_
    rotate_left
    · (intro w hSw; (try dsimp only at hSw); go_simp; try (with_reducible rfl))
    try simp only [Act.put, List.setIfInBounds_toArray, List.set_cons_zero, List.set_cons_succ]
    refine wpAnyH_take (i := 59) (oi := { dst := some 86, op := Op.binOp BinOp.eql 26 (Operand.tmp 85) (Operand.const (Value.float FloatKind.f64 0)) 26, type := 4, pos := "law.go:34", after := #[{ on := 58, ground := Ground.data }, { on := 56, ground := Ground.guard }], guard := some (56, false) }) (v := ?_) rfl (by kernel_rfl) (by kernel_rfl) (by kernel_rfl) (fun _ _ _ h => h) (Or.inl ⟨by rfl, ?_⟩) (by assumption) ?_
    rotate_left
    · (intro w hSw; (try dsimp only at hSw); go_simp; try (with_reducible rfl))
    try simp only [Act.put, List.setIfInBounds_toArray, List.set_cons_zero, List.set_cons_succ]
    refine wpAnyH_take (i := 60) (oi := { dst := some 87, op := Op.pick (Operand.tmp 83) (Operand.const (Value.bool true)) (Operand.tmp 86), type := 4, pos := "law.go:34", after := #[{ on := 56, ground := Ground.data }, { on := 59, ground := Ground.data }, { on := 52, ground := Ground.guard }], guard := some (52, true) }) (v := ?_) rfl (by kernel_rfl) (by kernel_rfl) (by kernel_rfl) (fun _ _ _ h => h) (Or.inl ⟨by rfl, ?_⟩) (by assumption) ?_
    rotate_left
    · (intro w hSw; (try dsimp only at hSw); go_simp; try (with_reducible rfl))
    try simp only [Act.put, List.setIfInBounds_toArray, List.set_cons_zero, List.set_cons_succ]
    refine wpAnyH_take (i := 61) (oi := { dst := some 88, op := Op.pick (Operand.tmp 79) (Operand.tmp 87) (Operand.const (Value.bool false)), type := 4, pos := "law.go:34", after := #[{ on := 52, ground := Ground.data }, { on := 60, ground := Ground.data }], guard := none }) (v := ?_) rfl (by kernel_rfl) (by kernel_rfl) (by kernel_rfl) (fun _ _ _ h => h) (Or.inl ⟨by rfl, ?_⟩) (by assumption) ?_
    rotate_left
    · (intro w hSw; (try dsimp only at hSw); go_simp; try (with_reducible rfl))
    try simp only [Act.put, List.setIfInBounds_toArray, List.set_cons_zero, List.set_cons_succ]
    refine wpAnyH_take (i := 62) (oi := { dst := some 89, op := Op.move (Operand.tmp 88), type := 4, pos := "law.go:34", after := #[{ on := 61, ground := Ground.data }, { on := 56, ground := Ground.chain }], guard := none }) (v := ?_) rfl (by kernel_rfl) (by kernel_rfl) (by kernel_rfl) (fun _ _ _ h => h) (Or.inl ⟨by rfl, ?_⟩) (by assumption) ?_
    rotate_left
    · (intro w hSw; (try dsimp only at hSw); go_simp; try (with_reducible rfl))
    try simp only [Act.put, List.setIfInBounds_toArray, List.set_cons_zero, List.set_cons_succ]
    refine wpAnyH_take (i := 63) (oi := { dst := some 90, op := Op.fieldAddr 28 (Operand.tmp 9) 0, type := 0, pos := "law.go:34", after := #[{ on := 62, ground := Ground.guard }], guard := some (62, true) }) (v := ?_) rfl (by kernel_rfl) (by kernel_rfl) (by kernel_rfl) (fun _ _ _ h => h) (Or.inl ⟨by rfl, ?_⟩) (by assumption) ?_
    rotate_left
    · (intro w hSw; (try dsimp only at hSw); go_simp; try (with_reducible rfl))
    try simp only [Act.put, List.setIfInBounds_toArray, List.set_cons_zero, List.set_cons_succ]
    refine wpAnyH_take (i := 64) (oi := { dst := some 91, op := Op.load 3 (Operand.tmp 90), type := 3, pos := "law.go:34", after := #[{ on := 63, ground := Ground.data }, { on := 62, ground := Ground.guard }], guard := some (62, true) }) (v := ?_) rfl (by kernel_rfl) (by kernel_rfl) (by kernel_rfl) (fun _ _ _ h => h) (Or.inl ⟨by rfl, ?_⟩) (by assumption) ?_
    rotate_left
    · (intro w hSw; (try dsimp only at hSw); go_simp; try (with_reducible rfl))
    try simp only [Act.put, List.setIfInBounds_toArray, List.set_cons_zero, List.set_cons_succ]
    refine wpAnyH_take (i := 65) (oi := { dst := some 92, op := Op.binOp BinOp.eql 3 (Operand.tmp 91) (Operand.const (Value.int IntKind.i64 1)) 3, type := 4, pos := "law.go:34", after := #[{ on := 64, ground := Ground.data }, { on := 62, ground := Ground.guard }], guard := some (62, true) }) (v := ?_) rfl (by kernel_rfl) (by kernel_rfl) (by kernel_rfl) (fun _ _ _ h => h) (Or.inl ⟨by rfl, ?_⟩) (by assumption) ?_
    rotate_left
    · (intro w hSw; (try dsimp only at hSw); go_simp; try (with_reducible rfl))
    try simp only [Act.put, List.setIfInBounds_toArray, List.set_cons_zero, List.set_cons_succ]
    refine wpAnyH_take (i := 66) (oi := { dst := some 93, op := Op.move (Operand.tmp 92), type := 4, pos := "law.go:34", after := #[{ on := 65, ground := Ground.data }, { on := 62, ground := Ground.chain }, { on := 62, ground := Ground.guard }], guard := some (62, true) }) (v := ?_) rfl (by kernel_rfl) (by kernel_rfl) (by kernel_rfl) (fun _ _ _ h => h) (Or.inl ⟨by rfl, ?_⟩) (by assumption) ?_
    rotate_left
    · (intro w hSw; (try dsimp only at hSw); go_simp; try (with_reducible rfl))
    try simp only [Act.put, List.setIfInBounds_toArray, List.set_cons_zero, List.set_cons_succ]
    refine wpAnyH_take (i := 67) (oi := { dst := some 94, op := Op.fieldAddr 28 (Operand.tmp 9) 1, type := 0, pos := "law.go:34", after := #[{ on := 66, ground := Ground.guard }], guard := some (66, false) }) (v := ?_) rfl (by kernel_rfl) (by kernel_rfl) (by kernel_rfl) (fun _ _ _ h => h) (Or.inl ⟨by rfl, ?_⟩) (by assumption) ?_
    rotate_left
    · (intro w hSw; (try dsimp only at hSw); go_simp; try (with_reducible rfl))
    try simp only [Act.put, List.setIfInBounds_toArray, List.set_cons_zero, List.set_cons_succ]
    refine wpAnyH_take (i := 68) (oi := { dst := some 95, op := Op.load 25 (Operand.tmp 94), type := 25, pos := "law.go:34", after := #[{ on := 67, ground := Ground.data }, { on := 66, ground := Ground.guard }], guard := some (66, false) }) (v := ?_) rfl (by kernel_rfl) (by kernel_rfl) (by kernel_rfl) (fun _ _ _ h => h) (Or.inl ⟨by rfl, ?_⟩) (by assumption) ?_
    rotate_left
    · (intro w hSw; (try dsimp only at hSw); go_simp; try (with_reducible rfl))
    try simp only [Act.put, List.setIfInBounds_toArray, List.set_cons_zero, List.set_cons_succ]
    refine wpAnyH_take (i := 69) (oi := { dst := some 96, op := Op.call { callee := Callee.builtin Builtin.len, args := #[Operand.tmp 95], argTypes := #[25] }, type := 3, pos := "law.go:34", after := #[{ on := 68, ground := Ground.data }, { on := 66, ground := Ground.guard }], guard := some (66, false) }) (v := ?_) rfl (by kernel_rfl) (by kernel_rfl) (by kernel_rfl) (fun _ _ _ h => h) (Or.inl ⟨by rfl, ?_⟩) (by assumption) ?_
    rotate_left
    · (intro w hSw; (try dsimp only at hSw); go_simp; try (with_reducible rfl))
    try simp only [Act.put, List.setIfInBounds_toArray, List.set_cons_zero, List.set_cons_succ]
    refine wpAnyH_take (i := 70) (oi := { dst := some 97, op := Op.binOp BinOp.eql 3 (Operand.tmp 96) (Operand.const (Value.int IntKind.i64 0)) 3, type := 4, pos := "law.go:34", after := #[{ on := 69, ground := Ground.data }, { on := 66, ground := Ground.guard }], guard := some (66, false) }) (v := ?_) rfl (by kernel_rfl) (by kernel_rfl) (by kernel_rfl) (fun _ _ _ h => h) (Or.inl ⟨by rfl, ?_⟩) (by assumption) ?_
    rotate_left
    · (intro w hSw; (try dsimp only at hSw); go_simp; try (with_reducible rfl))
    try simp only [Act.put, List.setIfInBounds_toArray, List.set_cons_zero, List.set_cons_succ]
    refine wpAnyH_take (i := 71) (oi := { dst := some 98, op := Op.pick (Operand.tmp 93) (Operand.const (Value.bool true)) (Operand.tmp 97), type := 4, pos := "law.go:34", after := #[{ on := 66, ground := Ground.data }, { on := 70, ground := Ground.data }, { on := 62, ground := Ground.guard }], guard := some (62, true) }) (v := ?_) rfl (by kernel_rfl) (by kernel_rfl) (by kernel_rfl) (fun _ _ _ h => h) (Or.inl ⟨by rfl, ?_⟩) (by assumption) ?_
    rotate_left
    · (intro w hSw; (try dsimp only at hSw); go_simp; try (with_reducible rfl))
    try simp only [Act.put, List.setIfInBounds_toArray, List.set_cons_zero, List.set_cons_succ]
    refine wpAnyH_take (i := 72) (oi := { dst := some 99, op := Op.pick (Operand.tmp 89) (Operand.tmp 98) (Operand.const (Value.bool false)), type := 4, pos := "law.go:34", after := #[{ on := 62, ground := Ground.data }, { on := 71, ground := Ground.data }], guard := none }) (v := ?_) rfl (by kernel_rfl) (by kernel_rfl) (by kernel_rfl) (fun _ _ _ h => h) (Or.inl ⟨by rfl, ?_⟩) (by assumption) ?_
    rotate_left
    · (intro w hSw; (try dsimp only at hSw); go_simp; try (with_reducible rfl))
    try simp only [Act.put, List.setIfInBounds_toArray, List.set_cons_zero, List.set_cons_succ]
    refine wpAnyH_take (i := 73) (oi := { dst := some 4, op := Op.assign (Operand.tmp 99), type := 4, pos := "law.go:34", after := #[{ on := 72, ground := Ground.data }, { on := 66, ground := Ground.chain }, { on := 0, ground := Ground.phase }, { on := 1, ground := Ground.phase }, { on := 2, ground := Ground.phase }, { on := 3, ground := Ground.phase }, { on := 4, ground := Ground.phase }, { on := 5, ground := Ground.phase }, { on := 6, ground := Ground.phase }, { on := 7, ground := Ground.phase }, { on := 8, ground := Ground.phase }, { on := 9, ground := Ground.phase }, { on := 10, ground := Ground.phase }, { on := 11, ground := Ground.phase }, { on := 12, ground := Ground.phase }, { on := 13, ground := Ground.phase }, { on := 14, ground := Ground.phase }, { on := 15, ground := Ground.phase }, { on := 16, ground := Ground.phase }, { on := 17, ground := Ground.phase }, { on := 18, ground := Ground.phase }, { on := 19, ground := Ground.phase }, { on := 20, ground := Ground.phase }, { on := 21, ground := Ground.phase }, { on := 22, ground := Ground.phase }, { on := 23, ground := Ground.phase }, { on := 24, ground := Ground.phase }, { on := 25, ground := Ground.phase }, { on := 26, ground := Ground.phase }, { on := 27, ground := Ground.phase }, { on := 28, ground := Ground.phase }, { on := 29, ground := Ground.phase }, { on := 30, ground := Ground.phase }, { on := 31, ground := Ground.phase }, { on := 32, ground := Ground.phase }, { on := 33, ground := Ground.phase }, { on := 34, ground := Ground.phase }, { on := 35, ground := Ground.phase }, { on := 36, ground := Ground.phase }, { on := 37, ground := Ground.phase }, { on := 38, ground := Ground.phase }, { on := 39, ground := Ground.phase }, { on := 40, ground := Ground.phase }, { on := 41, ground := Ground.phase }, { on := 42, ground := Ground.phase }, { on := 43, ground := Ground.phase }, { on := 44, ground := Ground.phase }, { on := 45, ground := Ground.phase }, { on := 46, ground := Ground.phase }, { on := 47, ground := Ground.phase }, { on := 48, ground := Ground.phase }, { on := 49, ground := Ground.phase }, { on := 50, ground := Ground.phase }, { on := 51, ground := Ground.phase }, { on := 52, ground := Ground.phase }, { on := 53, ground := Ground.phase }, { on := 54, ground := Ground.phase }, { on := 55, ground := Ground.phase }, { on := 56, ground := Ground.phase }, { on := 57, ground := Ground.phase }, { on := 58, ground := Ground.phase }, { on := 59, ground := Ground.phase }, { on := 60, ground := Ground.phase }, { on := 61, ground := Ground.phase }, { on := 62, ground := Ground.phase }, { on := 63, ground := Ground.phase }, { on := 64, ground := Ground.phase }, { on := 65, ground := Ground.phase }, { on := 66, ground := Ground.phase }, { on := 67, ground := Ground.phase }, { on := 68, ground := Ground.phase }, { on := 69, ground := Ground.phase }, { on := 70, ground := Ground.phase }, { on := 71, ground := Ground.phase }, { on := 72, ground := Ground.phase }], guard := none }) (v := ?_) rfl (by kernel_rfl) (by kernel_rfl) (by kernel_rfl) (fun _ _ _ h => h) (Or.inl ⟨by rfl, ?_⟩) (by assumption) ?_
    rotate_left
    · (intro w hSw; (try dsimp only at hSw); go_simp; try (with_reducible rfl))
    try simp only [Act.put, List.setIfInBounds_toArray, List.set_cons_zero, List.set_cons_succ]
    refine wpAnyH_done (by kernel_rfl) ?_ _
    refine NoPanic.normal ?_
    go_wp2
    go_ret
    exact ⟨rfl, M4.then m8⟩
end Go.Proofs.Ythgoedifkabadaa
