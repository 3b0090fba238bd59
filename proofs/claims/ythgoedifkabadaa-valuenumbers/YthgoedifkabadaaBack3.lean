/-
  What ValueBack does: for any two drawn values it returns true, and writes nothing that was there.
-/
import Derived.Test.YthgoedifkabadaaBack3a
import Derived.Test.YthgoedifkabadaaPar3
import Derived.ProofKit
import Derived.OpenShut
import Derived.ChangeOld
namespace Go.Proofs.Ythgoedifkabadaa
open Go.RowKit

theorem Vm.In.moves' {w w' : World} {a : Vm} {S : List Nat} (h : a.In w) (m : Moves S w w') (hg : a.bs ≠ [] → a.g ∉ S) : a.In w' := by
  refine ⟨?_, h.fits, h.oct⟩
  by_cases hn : a.bs = []
  · obtain ⟨ad, n, cap, h1, h2, h3, h4, _⟩ := h.isB
    exact ⟨ad, n, cap, h1, h2, h3, h4, .inl hn⟩
  · exact h.isB.moves m (hg hn)
theorem Vm.In.old {w : World} {a : Vm} (h : a.In w) : a.bs ≠ [] → a.g < w.heap.size := fun hn => h.isB.lt hn

theorem young {w w' : World} {B p : Nat} {a a' : Option Nat} {es : List Nat} (h : Wrote w p a w' a' es) (hy : ∀ x ∈ p :: a.toList, B ≤ x) (hB : B ≤ w.heap.size) : ∀ x ∈ p :: a'.toList, B ≤ x := by
  intro x hx
  rcases List.mem_cons.1 hx with hx | hx
  · exact hy x (by simp [hx])
  · rcases h.2.2 with e | ⟨k, e, hk⟩
    · rw [e] at hx; exact hy x (by simp [hx])
    · rw [e] at hx
      simp at hx
      omega

theorem put_v (p : Nat) (a : Option Nat) (bs es : List Nat) (va : Value) (A : Vm) (w : World) (hva : va = A.val) (h : Wr w p a bs) (hb : bs.length + 2000010 ≤ 1099511627776) (ha : A.In w) (hl : A.bs.length ≤ 1048576) (hg : A.bs ≠ [] → A.g ∉ p :: a.toList) (he : bs ++ venc A = es) :
    Calls Try.prog 16 #[.pointer (some ⟨p, 0, none⟩), va] w fun e w' => e = .returned (.tuple #[]) ∧ ∃ a', Wrote w p a w' a' es := by
  subst hva he
  exact vPut_w p a bs A w h hb ha hl hg

theorem VWays.small {A : Vm} (h : VWays A) : A.bs.length ≤ 16 := by
  rcases h with ⟨_, _, h⟩ | ⟨_, h⟩
  · exact h
  · rw [h]; simp

theorem vord_cn {A A' : Vm} (hw : VWays A) (hk : A'.kind = A.kind) (hb : A'.bs = A.bs) (hn : A'.n = cn A) : vord A' A = 0 := by
  unfold vord
  rw [hk, hb, hn]
  rcases hw with ⟨h, _⟩ | ⟨h, _⟩
  · have e : kd A.kind = 1 := by rw [h]; decide
    rw [e]
    simp [icmp, bcmp_self]
  · have e : kd A.kind = 2 := by rw [h]; decide
    rw [e]
    simp [icmp, cn, h]
    unfold Pl.ord Pl.rank
    rw [Pl.canon_canon]
    simp [Pl.cmp]

/-- A box that Read filled, as a value. -/
theorem BoxHas.vis {w0 w : World} {q : Nat} {A : Vm} (h : BoxHas w0 w q A.kind A.bs (cn A)) (hw : VWays A) (hf : Pl.Fits (cn A)) (ho : ∀ z ∈ A.bs, z < 256) :
    ∃ ad len cap A', w.heap[q]? = some (.cells #[.int .i64 A.kind, .slice ad len cap, .float .f64 (cn A)] 28 (0, 0)) ∧ VIs w (.agg #[.int .i64 A.kind, .slice ad len cap, .float .f64 (cn A)]) A' ∧ vord A' A = 0 := by
  obtain ⟨ad, len, cap, h1, h2, _⟩ := h
  exact ⟨ad, len, cap, ⟨A.kind, .slice ad len cap, (Value.slice ad len cap).ownBlock.getD 0, A.bs, cn A⟩, h1, ⟨rfl, ⟨h2.isB, hf, ho⟩⟩, vord_cn hw rfl rfl rfl⟩

theorem fits_cn {A : Vm} (h : Pl.Fits A.n) : Pl.Fits (cn A) := by
  unfold cn
  split
  · exact Pl.fits_canon h
  · exact fits_zero

set_option maxRecDepth 100000 in
set_option maxHeartbeats 8000000 in
theorem back_w (u0 u1 : Value) (w : World) (h0 : KArg w u0) (h1 : KArg w u1) :
    Calls Try.prog 5 #[u0, u1] w fun e w' => e = .returned (.bool true) ∧ Moves [] w w' := by
  have k0 := h0
  have k1 := h1
  obtain ⟨t0, n0, x0, ad0, len0, cap0, _, _, rfl, _⟩ := h0.out
  obtain ⟨t1, n1, x1, ad1, len1, cap1, _, _, rfl, _⟩ := h1.out
  clear h0 h1
  obtain ⟨p0, p1, m0⟩ := boxes (Moves.refl [] ((w.alloc (.cells #[.bool t0, .int .i64 n0, .float .f64 x0, .slice ad0 len0 cap0] 34)).alloc (.cells #[.bool t1, .int .i64 n1, .float .f64 x1, .slice ad1 len1 cap1] 34)))
  go_enter Try.func5, Try.ntmps5
  go_wp2
  replace k0 := k0.moves m0
  replace k1 := k1.moves m0
  generalize ((w.alloc (.cells #[.bool t0, .int .i64 n0, .float .f64 x0, .slice ad0 len0 cap0] 34)).alloc (.cells #[.bool t1, .int .i64 n1, .float .f64 x1, .slice ad1 len1 cap1] 34)) = W1 at *
  refine par2_wp (by kernel_rfl) (F := fun _ => 14) (S := fun j => 2 + j) (L := fun j => 11 + 2 * j) (C := fun j => 12 + 2 * j) (D := fun j => 5 + j) (tv := 34) (T := 28) (Z := #[.int .i64 0, .slice none 0 0, .float .f64 0]) (B := fun j => w.heap.size + j)
    (scs := fun j => match j with | 0 => #[.bool t0, .int .i64 n0, .float .f64 x0, .slice ad0 len0 cap0] | _ => #[.bool t1, .int .i64 n1, .float .f64 x1, .slice ad1 len1 cap1]) (R := fun _ => Drew W1) (W := W1) ?_ (Moves.refl _ _) ?_
  · refine ⟨rfl, by kernel_rfl, by kernel_rfl, ?_, ?_, ?_, ?_, ?_, ?_, ?_, ?_, ?_, ⟨_, Try.underlying34⟩, fun _ _ _ _ => rfl, fun _ => rfl, by kernel_rfl, ?_⟩
    · intro j hj; simp; omega
    · intro j k hj hk; omega
    · intro j k hj hk hne; omega
    · intro j k hj hk; omega
    · intro j hj; match j, hj with | 0, _ => exact ⟨_, rfl, rfl, rfl, rfl⟩ | 1, _ => exact ⟨_, rfl, rfl, rfl, rfl⟩
    · intro j hj; match j, hj with | 0, _ => exact ⟨_, _, rfl, rfl, rfl, rfl⟩ | 1, _ => exact ⟨_, _, rfl, rfl, rfl, rfl⟩
    · intro j hj; match j, hj with | 0, _ => exact ⟨_, rfl, rfl, rfl, rfl⟩ | 1, _ => exact ⟨_, rfl, rfl, rfl, rfl⟩
    · intro j hj; match j, hj with | 0, _ => exact ⟨_, rfl, rfl, rfl, rfl⟩ | 1, _ => exact ⟨_, rfl, rfl, rfl, rfl⟩
    · intro j hj; match j, hj with | 0, _ => exact ⟨rfl, p0, by kernel_rfl⟩ | 1, _ => exact ⟨rfl, p1, by kernel_rfl⟩
    · intro j hj w' _; match j, hj with | 0, _ => exact drew_b W1 w' _ k0 | 1, _ => exact drew_b W1 w' _ k1
  clear k0 k1 p0 p1
  rintro l0 c0 l1 c1 q0 q1 cs0 cs1 w2 m2 ⟨P, adP, lenP, capP, rfl, hP, yP⟩ z0 b0 ⟨Q, adQ, lenQ, capQ, rfl, hQ, yQ⟩ z1 b1
  replace hP := hP.moves m2
  replace hQ := hQ.moves m2
  have M2 := m0.then m2
  clear m0 m2 z0 z1
  simp only [List.setIfInBounds_toArray, List.set_cons_zero, List.set_cons_succ]
  have HP : Hid (VIs w2 (.agg #[.int .i64 P.kind, .slice adP lenP capP, .float .f64 P.n]) P) := hP
  have HQ : Hid (VIs w2 (.agg #[.int .i64 Q.kind, .slice adQ lenQ capQ, .float .f64 Q.n]) Q) := hQ
  have oP := hP.isIn.old
  have oQ := hQ.isIn.old
  have lq0 := lt_of_block b0
  have lq1 := lt_of_block b1
  obtain ⟨c00, c01, c02, _, _, _⟩ := three_cells b0
  obtain ⟨c10, c11, c12, _, _, _⟩ := three_cells b1
  have sP := yP.small
  have sQ := yQ.small
  obtain ⟨E, hE⟩ : ∃ E, [] ++ venc P = E := ⟨_, rfl⟩
  obtain ⟨E2, hE2⟩ : ∃ E2, E ++ venc Q = E2 := ⟨_, rfl⟩
  have lE : E.length ≤ 25 := by rw [← hE]; have := venc_length P; simp; omega
  have lE2 : E2.length ≤ 50 := by rw [← hE2]; have := venc_length Q; simp; omega
  have H2 : Hid (venc P ++ venc Q = E2) := by
    show venc P ++ venc Q = E2
    rw [← hE2, ← hE]; rfl
  have HE : Hid ([] ++ venc P = E) := hE
  have HE2 : Hid (E ++ venc Q = E2) := hE2
  clear hE hE2 hP hQ
  go_wp2_with (first | (go_at_call 15; refine (new_w _).mono ?_; rintro _ w3 ⟨rfl, hW3, m3⟩; replace b0 := m3.at b0 (by simp); replace b1 := m3.at b1 (by simp); clear c00 c01 c02 c10 c11 c12; obtain ⟨c00, c01, c02, _, _, _⟩ := three_cells b0; obtain ⟨c10, c11, c12, _, _, _⟩ := three_cells b1; have iP := (HP.out.isIn.moves m3 (by simp)); have iQ := (HQ.out.isIn.moves m3 (by simp)); have y3 : (∀ x ∈ w2.heap.size :: (none : Option Nat).toList, w2.heap.size ≤ x) := (by simp)) | (go_at_call 16; have z4 := hw4; refine (put_v _ a4 E E2 _ Q _ HQ.out.val hw4.1 (by omega) iQ (by omega) (fun hn hx => (by have := oQ hn; have := y4 _ hx; omega)) HE2.out).mono ?_; rintro _ w5 ⟨rfl, a5, hw5⟩; have y5 := young hw5 y4 (Nat.le_trans m3.size hw4.2.1.size); replace b0 := hw5.2.1.at b0 (fun hx => (by have := y4 _ hx; omega)); replace b1 := hw5.2.1.at b1 (fun hx => (by have := y4 _ hx; omega)); clear c00 c01 c02 c10 c11 c12; obtain ⟨c00, c01, c02, _, _, _⟩ := three_cells b0; obtain ⟨c10, c11, c12, _, _, _⟩ := three_cells b1; replace iP := iP.moves' hw5.2.1 (fun hn hx => (by have := oP hn; have := y4 _ hx; omega)); replace iQ := iQ.moves' hw5.2.1 (fun hn hx => (by have := oQ hn; have := y4 _ hx; omega)); obtain ⟨pa, pb, m6⟩ := boxes (Moves.refl [] ((w5.alloc (.cells #[.int .i64 0, .slice none 0 0, .float .f64 0] 28)).alloc (.cells #[.int .i64 0, .slice none 0 0, .float .f64 0] 28)))) | (go_at_call 16; refine (put_v _ none [] E _ P _ HP.out.val hW3 (by simp) iP (by omega) (fun hn hx => (by have := oP hn; have := y3 _ hx; omega)) HE.out).mono ?_; rintro _ w4 ⟨rfl, a4, hw4⟩; have y4 := young hw4 y3 m3.size; replace b0 := hw4.2.1.at b0 (fun hx => (by have := y3 _ hx; omega)); replace b1 := hw4.2.1.at b1 (fun hx => (by have := y3 _ hx; omega)); clear c00 c01 c02 c10 c11 c12; obtain ⟨c00, c01, c02, _, _, _⟩ := three_cells b0; obtain ⟨c10, c11, c12, _, _, _⟩ := three_cells b1; replace iP := iP.moves' hw4.2.1 (fun hn hx => (by have := oP hn; have := y3 _ hx; omega)); replace iQ := iQ.moves' hw4.2.1 (fun hn hx => (by have := oQ hn; have := y3 _ hx; omega))) | (go_at_call 18; refine (done_w _ a5 E2 _ (hw5.1.moves m6 (by simp) (by simp)) (by omega)).mono ?_; rintro _ w6 ⟨v6, rfl, ho6, m6', f6⟩; rw [← H2.out] at ho6; have pa6 := m6'.at pa (by simp); have pb6 := m6'.at pb (by simp); replace b0 := (m6.then m6').at b0 (by simp); replace b1 := (m6.then m6').at b1 (by simp); replace iP := iP.moves (m6.then m6') (by simp); replace iQ := iQ.moves (m6.then m6') (by simp)) | (go_at_call 17; refine (back_read _ w5.heap.size (w5.heap.size + 1) P Q _ yP yQ iP.fits iQ.fits iP.oct iQ.oct ho6 pa6 pb6 (by omega)).mono ?_; rintro _ w7 ⟨rfl, hA7, hB7, m7⟩; have hsz := Nat.le_trans m3.size (Nat.le_trans hw4.2.1.size hw5.2.1.size); replace b0 := m7.at b0 (by simp; omega); replace b1 := m7.at b1 (by simp; omega); clear c00 c01 c02 c10 c11 c12; obtain ⟨c00, c01, c02, _, _, _⟩ := three_cells b0; obtain ⟨c10, c11, c12, _, _, _⟩ := three_cells b1; replace iP := iP.moves' m7 (fun hn => (by have := oP hn; simp; omega)); replace iQ := iQ.moves' m7 (fun hn => (by have := oQ hn; simp; omega)); obtain ⟨adA, lenA, capA, A, qA, vA, eA⟩ := hA7.vis yP (fits_cn iP.fits) iP.oct; obtain ⟨adB, lenB, capB, B, qB, vB, eB⟩ := hB7.vis yQ (fits_cn iQ.fits) iQ.oct; have vP : (VIs w7 (.agg #[.int .i64 P.kind, .slice adP lenP capP, .float .f64 P.n]) P) := ⟨HP.out.val, iP⟩; have vQ : (VIs w7 (.agg #[.int .i64 Q.kind, .slice adQ lenQ capQ, .float .f64 Q.n]) Q) := ⟨HQ.out.val, iQ⟩; obtain ⟨a0, a1, a2, _, _, _⟩ := three_cells qA; obtain ⟨b20, b21, b22, _, _, _⟩ := three_cells qB; have m8 := Moves.refl [] w7; have d00 := c00; have d01 := c01; have d02 := c02; have d10 := c10; have d11 := c11; have d12 := c12; have g0 := a0; have g1 := a1; have g2 := a2; have g3 := b20; have g4 := b21; have g5 := b22) | (go_at_call 21; refine (same_b w7 _ _ _ _ _ (by assumption) (by assumption) (by with_reducible assumption)).mono ?_; rintro _ w8 ⟨rfl, m8⟩; (first | rw [eA] | rw [eB]); replace c00 := m8.cell d00; replace c01 := m8.cell d01; replace c02 := m8.cell d02; replace c10 := m8.cell d10; replace c11 := m8.cell d11; replace c12 := m8.cell d12; replace a0 := m8.cell g0; replace a1 := m8.cell g1; replace a2 := m8.cell g2; replace b20 := m8.cell g3; replace b21 := m8.cell g4; replace b22 := m8.cell g5))
  have MM := (((((((M2.then m3).trans hw4.2.1 (fun x hx => .inr (Nat.le_trans M2.size (y3 x hx)))).trans hw5.2.1 (fun x hx => .inr (Nat.le_trans M2.size (y4 x hx)))).then m6).then m6').trans m7 (fun x hx => .inr (by have := M2.size; simp at hx; omega))))
  have f2 : IntKind.i64.wrap (-(vord Q P)) = vord P Q := by rw [wrap_i64 (by have := vord_bounds Q P; omega), vord_anti P Q]
  have kPs : (P.kind = 1 ∨ P.kind = 2) := by rcases yP with ⟨h, _⟩ | ⟨h, _⟩; exact .inl h; exact .inr h
  have kQs : (Q.kind = 1 ∨ Q.kind = 2) := by rcases yQ with ⟨h, _⟩ | ⟨h, _⟩; exact .inl h; exact .inr h
  have v12 : P.kind = 1 → Q.kind = 2 → vord P Q = -1 := fun h1 h2 => by unfold vord; rw [h1, h2, if_pos (by decide)]; decide
  have v21 : P.kind = 2 → Q.kind = 1 → vord P Q = 1 := fun h1 h2 => by unfold vord; rw [h1, h2, if_pos (by decide)]; decide
  clear qA qB vA vB eA eB a0 a1 a2 b20 b21 b22 g0 g1 g2 g3 g4 g5 b0 b1 HP HQ hA7 hB7 pa pb pa6 pb6 m6 m6' f6 ho6 hw4 hw5 z4 hW3 y3 y4 y5 yP yQ H2 HE HE2
  generalize hkP : P.kind = kP at *
  generalize hkQ : Q.kind = kQ at *
  rcases kPs with rfl | rfl <;> rcases kQs with rfl | rfl
  · clear v12 v21
    refine wp_region_noPanic ?_
    refine wp_region_held_drew (S := (fun w' => w'.cell? ⟨q0, 0, none⟩ = some (.int .i64 1) ∧ w'.cell? ⟨q0, 1, none⟩ = some (.slice adP lenP capP) ∧ w'.cell? ⟨q0, 2, none⟩ = some (.float .f64 P.n) ∧ w'.cell? ⟨q1, 0, none⟩ = some (.int .i64 1) ∧ w'.cell? ⟨q1, 1, none⟩ = some (.slice adQ lenQ capQ) ∧ w'.cell? ⟨q1, 2, none⟩ = some (.float .f64 Q.n))) (by kernel_rfl) ?_ (fun hHeld => ?_)
    · first | (go_keep; done) | (exact ⟨c00, c01, c02, c10, c11, c12⟩)
    refine wpAnyH_take (i := 0) (oi := { dst := some 42, op := Op.fieldAddr 28 (Operand.tmp 5) 0, type := 0, pos := "law.go:100", after := #[], guard := none }) (v := ?_) rfl (by kernel_rfl) (by kernel_rfl) (by kernel_rfl) (fun _ _ _ h => h) (Or.inl ⟨by rfl, ?_⟩) (by assumption) ?_
    rotate_left
    · (intro w hSw; (try dsimp only at hSw); go_simp; try (with_reducible rfl))
    try simp only [Act.put, List.setIfInBounds_toArray, List.set_cons_zero, List.set_cons_succ]
    refine wpAnyH_take (i := 1) (oi := { dst := some 43, op := Op.load 3 (Operand.tmp 42), type := 3, pos := "law.go:100", after := #[{ on := 0, ground := Ground.data }], guard := none }) (v := ?_) rfl (by kernel_rfl) (by kernel_rfl) (by kernel_rfl) (fun _ _ _ h => h) (Or.inl ⟨by rfl, ?_⟩) (by assumption) ?_
    rotate_left
    · (intro w hSw; (try dsimp only at hSw); go_simp; try (with_reducible rfl))
    try simp only [Act.put, List.setIfInBounds_toArray, List.set_cons_zero, List.set_cons_succ]
    refine wpAnyH_take (i := 2) (oi := { dst := some 44, op := Op.fieldAddr 28 (Operand.tmp 6) 0, type := 0, pos := "law.go:100", after := #[], guard := none }) (v := ?_) rfl (by kernel_rfl) (by kernel_rfl) (by kernel_rfl) (fun _ _ _ h => h) (Or.inl ⟨by rfl, ?_⟩) (by assumption) ?_
    rotate_left
    · (intro w hSw; (try dsimp only at hSw); go_simp; try (with_reducible rfl))
    try simp only [Act.put, List.setIfInBounds_toArray, List.set_cons_zero, List.set_cons_succ]
    refine wpAnyH_take (i := 3) (oi := { dst := some 45, op := Op.load 3 (Operand.tmp 44), type := 3, pos := "law.go:100", after := #[{ on := 2, ground := Ground.data }], guard := none }) (v := ?_) rfl (by kernel_rfl) (by kernel_rfl) (by kernel_rfl) (fun _ _ _ h => h) (Or.inl ⟨by rfl, ?_⟩) (by assumption) ?_
    rotate_left
    · (intro w hSw; (try dsimp only at hSw); go_simp; try (with_reducible rfl))
    try simp only [Act.put, List.setIfInBounds_toArray, List.set_cons_zero, List.set_cons_succ]
    refine wpAnyH_take (i := 4) (oi := { dst := some 46, op := Op.binOp BinOp.eql 3 (Operand.tmp 43) (Operand.tmp 45) 3, type := 4, pos := "law.go:100", after := #[{ on := 1, ground := Ground.data }, { on := 3, ground := Ground.data }], guard := none }) (v := ?_) rfl (by kernel_rfl) (by kernel_rfl) (by kernel_rfl) (fun _ _ _ h => h) (Or.inl ⟨by rfl, ?_⟩) (by assumption) ?_
    rotate_left
    · (intro w hSw; (try dsimp only at hSw); go_simp; try (with_reducible rfl))
    try simp only [Act.put, List.setIfInBounds_toArray, List.set_cons_zero, List.set_cons_succ]
    refine wpAnyH_take (i := 5) (oi := { dst := some 47, op := Op.move (Operand.tmp 46), type := 4, pos := "law.go:100", after := #[{ on := 4, ground := Ground.data }], guard := none }) (v := ?_) rfl (by kernel_rfl) (by kernel_rfl) (by kernel_rfl) (fun _ _ _ h => h) (Or.inl ⟨by rfl, ?_⟩) (by assumption) ?_
    rotate_left
    · (intro w hSw; (try dsimp only at hSw); go_simp; try (with_reducible rfl))
    try simp only [Act.put, List.setIfInBounds_toArray, List.set_cons_zero, List.set_cons_succ]
    refine wpAnyH_take (i := 6) (oi := { dst := some 48, op := Op.load 28 (Operand.tmp 5), type := 28, pos := "law.go:100", after := #[{ on := 5, ground := Ground.guard }], guard := some (5, false) }) rfl (by kernel_rfl) (by kernel_rfl) (by kernel_rfl) (fun _ _ _ h => h) (Or.inr ⟨by rfl, rfl⟩) (by assumption) ?_
    try simp only [Act.put, List.setIfInBounds_toArray, List.set_cons_zero, List.set_cons_succ]
    refine wpAnyH_take (i := 7) (oi := { dst := some 49, op := Op.load 28 (Operand.tmp 6), type := 28, pos := "law.go:100", after := #[{ on := 5, ground := Ground.guard }], guard := some (5, false) }) rfl (by kernel_rfl) (by kernel_rfl) (by kernel_rfl) (fun _ _ _ h => h) (Or.inr ⟨by rfl, rfl⟩) (by assumption) ?_
    try simp only [Act.put, List.setIfInBounds_toArray, List.set_cons_zero, List.set_cons_succ]
    refine wpAnyH_take (i := 8) (oi := { dst := some 50, op := Op.call { callee := Callee.value (Operand.func 22), args := #[Operand.tmp 48, Operand.tmp 49], argTypes := #[28, 28] }, type := 3, pos := "law.go:100", after := #[{ on := 6, ground := Ground.data }, { on := 7, ground := Ground.data }, { on := 5, ground := Ground.chain }, { on := 5, ground := Ground.guard }], guard := some (5, false) }) rfl (by kernel_rfl) (by kernel_rfl) (by kernel_rfl) (fun _ _ _ h => h) (Or.inr ⟨by rfl, rfl⟩) (by assumption) ?_
    try simp only [Act.put, List.setIfInBounds_toArray, List.set_cons_zero, List.set_cons_succ]
    refine wpAnyH_take (i := 9) (oi := { dst := some 51, op := Op.binOp BinOp.eql 3 (Operand.tmp 50) (Operand.const (Value.int IntKind.i64 (-1))) 3, type := 4, pos := "law.go:100", after := #[{ on := 8, ground := Ground.data }, { on := 5, ground := Ground.guard }], guard := some (5, false) }) rfl (by kernel_rfl) (by kernel_rfl) (by kernel_rfl) (fun _ _ _ h => h) (Or.inr ⟨by rfl, rfl⟩) (by assumption) ?_
    try simp only [Act.put, List.setIfInBounds_toArray, List.set_cons_zero, List.set_cons_succ]
    refine wpAnyH_take (i := 10) (oi := { dst := some 52, op := Op.fieldAddr 28 (Operand.tmp 5) 0, type := 0, pos := "law.go:100", after := #[{ on := 5, ground := Ground.guard }], guard := some (5, false) }) rfl (by kernel_rfl) (by kernel_rfl) (by kernel_rfl) (fun _ _ _ h => h) (Or.inr ⟨by rfl, rfl⟩) (by assumption) ?_
    try simp only [Act.put, List.setIfInBounds_toArray, List.set_cons_zero, List.set_cons_succ]
    refine wpAnyH_take (i := 11) (oi := { dst := some 53, op := Op.load 3 (Operand.tmp 52), type := 3, pos := "law.go:100", after := #[{ on := 10, ground := Ground.data }, { on := 5, ground := Ground.guard }], guard := some (5, false) }) rfl (by kernel_rfl) (by kernel_rfl) (by kernel_rfl) (fun _ _ _ h => h) (Or.inr ⟨by rfl, rfl⟩) (by assumption) ?_
    try simp only [Act.put, List.setIfInBounds_toArray, List.set_cons_zero, List.set_cons_succ]
    refine wpAnyH_take (i := 12) (oi := { dst := some 54, op := Op.binOp BinOp.eql 3 (Operand.tmp 53) (Operand.const (Value.int IntKind.i64 1)) 3, type := 4, pos := "law.go:100", after := #[{ on := 11, ground := Ground.data }, { on := 5, ground := Ground.guard }], guard := some (5, false) }) rfl (by kernel_rfl) (by kernel_rfl) (by kernel_rfl) (fun _ _ _ h => h) (Or.inr ⟨by rfl, rfl⟩) (by assumption) ?_
    try simp only [Act.put, List.setIfInBounds_toArray, List.set_cons_zero, List.set_cons_succ]
    refine wpAnyH_take (i := 13) (oi := { dst := some 55, op := Op.binOp BinOp.eql 4 (Operand.tmp 51) (Operand.tmp 54) 4, type := 4, pos := "law.go:100", after := #[{ on := 9, ground := Ground.data }, { on := 12, ground := Ground.data }, { on := 5, ground := Ground.guard }], guard := some (5, false) }) rfl (by kernel_rfl) (by kernel_rfl) (by kernel_rfl) (fun _ _ _ h => h) (Or.inr ⟨by rfl, rfl⟩) (by assumption) ?_
    try simp only [Act.put, List.setIfInBounds_toArray, List.set_cons_zero, List.set_cons_succ]
    refine wpAnyH_take (i := 14) (oi := { dst := some 56, op := Op.pick (Operand.tmp 47) (Operand.const (Value.bool true)) (Operand.tmp 55), type := 4, pos := "law.go:100", after := #[{ on := 5, ground := Ground.data }, { on := 13, ground := Ground.data }], guard := none }) (v := ?_) rfl (by kernel_rfl) (by kernel_rfl) (by kernel_rfl) (fun _ _ _ h => h) (Or.inl ⟨by rfl, ?_⟩) (by assumption) ?_
    rotate_left
    · (intro w hSw; (try dsimp only at hSw); go_simp; try (with_reducible rfl))
    try simp only [Act.put, List.setIfInBounds_toArray, List.set_cons_zero, List.set_cons_succ]
    refine wpAnyH_take (i := 15) (oi := { dst := some 57, op := Op.move (Operand.tmp 56), type := 4, pos := "law.go:100", after := #[{ on := 14, ground := Ground.data }, { on := 8, ground := Ground.chain }], guard := none }) (v := ?_) rfl (by kernel_rfl) (by kernel_rfl) (by kernel_rfl) (fun _ _ _ h => h) (Or.inl ⟨by rfl, ?_⟩) (by assumption) ?_
    rotate_left
    · (intro w hSw; (try dsimp only at hSw); go_simp; try (with_reducible rfl))
    try simp only [Act.put, List.setIfInBounds_toArray, List.set_cons_zero, List.set_cons_succ]
    refine wpAnyH_take (i := 16) (oi := { dst := some 58, op := Op.load 28 (Operand.tmp 5), type := 28, pos := "law.go:100", after := #[{ on := 15, ground := Ground.guard }], guard := some (15, true) }) (v := ?_) rfl (by kernel_rfl) (by kernel_rfl) (by kernel_rfl) (fun _ _ _ h => h) (Or.inl ⟨by rfl, ?_⟩) (by assumption) ?_
    rotate_left
    · (intro w hSw; (try dsimp only at hSw); go_simp; try (with_reducible rfl))
    try simp only [Act.put, List.setIfInBounds_toArray, List.set_cons_zero, List.set_cons_succ]
    refine wpAnyH_take (i := 17) (oi := { dst := some 59, op := Op.load 28 (Operand.tmp 6), type := 28, pos := "law.go:100", after := #[{ on := 15, ground := Ground.guard }], guard := some (15, true) }) (v := ?_) rfl (by kernel_rfl) (by kernel_rfl) (by kernel_rfl) (fun _ _ _ h => h) (Or.inl ⟨by rfl, ?_⟩) (by assumption) ?_
    rotate_left
    · (intro w hSw; (try dsimp only at hSw); go_simp; try (with_reducible rfl))
    try simp only [Act.put, List.setIfInBounds_toArray, List.set_cons_zero, List.set_cons_succ]
    refine wpAnyH_take (i := 19) (oi := { dst := some 61, op := Op.load 28 (Operand.tmp 6), type := 28, pos := "law.go:100", after := #[{ on := 15, ground := Ground.guard }], guard := some (15, true) }) (v := ?_) rfl (by kernel_rfl) (by kernel_rfl) (by kernel_rfl) (fun _ _ _ h => h) (Or.inl ⟨by rfl, ?_⟩) (by assumption) ?_
    rotate_left
    · (intro w hSw; (try dsimp only at hSw); go_simp; try (with_reducible rfl))
    try simp only [Act.put, List.setIfInBounds_toArray, List.set_cons_zero, List.set_cons_succ]
    refine wpAnyH_take (i := 20) (oi := { dst := some 62, op := Op.load 28 (Operand.tmp 5), type := 28, pos := "law.go:100", after := #[{ on := 15, ground := Ground.guard }], guard := some (15, true) }) (v := ?_) rfl (by kernel_rfl) (by kernel_rfl) (by kernel_rfl) (fun _ _ _ h => h) (Or.inl ⟨by rfl, ?_⟩) (by assumption) ?_
    rotate_left
    · (intro w hSw; (try dsimp only at hSw); go_simp; try (with_reducible rfl))
    try simp only [Act.put, List.setIfInBounds_toArray, List.set_cons_zero, List.set_cons_succ]
    refine wpAnyH_ready (rs := [18]) (by kernel_rfl) (by simp) ?_
    refine AllReadyH.cons (o := { dst := some 60, op := Op.call { callee := Callee.value (Operand.func 22), args := #[Operand.tmp 58, Operand.tmp 59], argTypes := #[28, 28] }, type := 3, pos := "law.go:100", after := #[{ on := 16, ground := Ground.data }, { on := 17, ground := Ground.data }, { on := 15, ground := Ground.chain }, { on := 15, ground := Ground.guard }], guard := some (15, true) }) rfl (fun K hK => ?_) AllReadyH.nil
    go_simp
    (first | (go_at_call 22; refine (order_b w7 _ _ _ _ _ (by assumption) (by assumption) (by first | (with_reducible assumption) | (exact Moves.drew (by with_reducible assumption)))).mono ?_; rintro _ w8 ⟨rfl, m8⟩; have e00 := m8.cell d00; have e01 := m8.cell d01; have e02 := m8.cell d02; have e10 := m8.cell d10; have e11 := m8.cell d11; have e12 := m8.cell d12; clear c00 c01 c02 c10 c11 c12; have c00 := e00; have c01 := e01; have c02 := e02; have c10 := e10; have c11 := e11; have c12 := e12; clear e00 e01 e02 e10 e11 e12) | (go_at_call 21; refine (same_b w7 _ _ _ _ _ (by assumption) (by assumption) (by first | (with_reducible assumption) | (exact Moves.drew (by with_reducible assumption)))).mono ?_; rintro _ w8 ⟨rfl, m8⟩; have e00 := m8.cell d00; have e01 := m8.cell d01; have e02 := m8.cell d02; have e10 := m8.cell d10; have e11 := m8.cell d11; have e12 := m8.cell d12; clear c00 c01 c02 c10 c11 c12; have c00 := e00; have c01 := e01; have c02 := e02; have c10 := e10; have c11 := e11; have c12 := e12; clear e00 e01 e02 e10 e11 e12) | (go_at_call 12; refine (vknown_w _).mono ?_; rintro _ w9 ⟨rfl, m9⟩; have m8 := m8.then m9; have e00 := m8.cell d00; have e01 := m8.cell d01; have e02 := m8.cell d02; have e10 := m8.cell d10; have e11 := m8.cell d11; have e12 := m8.cell d12; clear c00 c01 c02 c10 c11 c12; have c00 := e00; have c01 := e01; have c02 := e02; have c10 := e10; have c11 := e11; have c12 := e12; clear e00 e01 e02 e10 e11 e12))
    refine hK.out _ _ ?_ (fun hHeld => ?_)
    · (exact ⟨c00, c01, c02, c10, c11, c12⟩)
    clear hK K
    try simp only [Act.put, List.setIfInBounds_toArray, List.set_cons_zero, List.set_cons_succ]
    refine wpAnyH_ready (rs := [21]) (by kernel_rfl) (by simp) ?_
    refine AllReadyH.cons (o := { dst := some 63, op := Op.call { callee := Callee.value (Operand.func 22), args := #[Operand.tmp 61, Operand.tmp 62], argTypes := #[28, 28] }, type := 3, pos := "law.go:100", after := #[{ on := 19, ground := Ground.data }, { on := 20, ground := Ground.data }, { on := 18, ground := Ground.chain }, { on := 15, ground := Ground.guard }], guard := some (15, true) }) rfl (fun K hK => ?_) AllReadyH.nil
    go_simp
    (first | (go_at_call 22; refine (order_b w7 _ _ _ _ _ (by assumption) (by assumption) (by first | (with_reducible assumption) | (exact Moves.drew (by with_reducible assumption)))).mono ?_; rintro _ w8 ⟨rfl, m8⟩; have e00 := m8.cell d00; have e01 := m8.cell d01; have e02 := m8.cell d02; have e10 := m8.cell d10; have e11 := m8.cell d11; have e12 := m8.cell d12; clear c00 c01 c02 c10 c11 c12; have c00 := e00; have c01 := e01; have c02 := e02; have c10 := e10; have c11 := e11; have c12 := e12; clear e00 e01 e02 e10 e11 e12) | (go_at_call 21; refine (same_b w7 _ _ _ _ _ (by assumption) (by assumption) (by first | (with_reducible assumption) | (exact Moves.drew (by with_reducible assumption)))).mono ?_; rintro _ w8 ⟨rfl, m8⟩; have e00 := m8.cell d00; have e01 := m8.cell d01; have e02 := m8.cell d02; have e10 := m8.cell d10; have e11 := m8.cell d11; have e12 := m8.cell d12; clear c00 c01 c02 c10 c11 c12; have c00 := e00; have c01 := e01; have c02 := e02; have c10 := e10; have c11 := e11; have c12 := e12; clear e00 e01 e02 e10 e11 e12) | (go_at_call 12; refine (vknown_w _).mono ?_; rintro _ w9 ⟨rfl, m9⟩; have m8 := m8.then m9; have e00 := m8.cell d00; have e01 := m8.cell d01; have e02 := m8.cell d02; have e10 := m8.cell d10; have e11 := m8.cell d11; have e12 := m8.cell d12; clear c00 c01 c02 c10 c11 c12; have c00 := e00; have c01 := e01; have c02 := e02; have c10 := e10; have c11 := e11; have c12 := e12; clear e00 e01 e02 e10 e11 e12))
    refine hK.out _ _ ?_ (fun hHeld => ?_)
    · (exact ⟨c00, c01, c02, c10, c11, c12⟩)
    clear hK K
    try simp only [Act.put, List.setIfInBounds_toArray, List.set_cons_zero, List.set_cons_succ]
    refine wpAnyH_take (i := 22) (oi := { dst := some 64, op := Op.unOp UnOp.neg 3 (Operand.tmp 63), type := 3, pos := "law.go:100", after := #[{ on := 21, ground := Ground.data }, { on := 15, ground := Ground.guard }], guard := some (15, true) }) (v := ?_) rfl (by kernel_rfl) (by kernel_rfl) (by kernel_rfl) (fun _ _ _ h => h) (Or.inl ⟨by rfl, ?_⟩) (by assumption) ?_
    rotate_left
    · (intro w hSw; (try dsimp only at hSw); go_simp; try (with_reducible rfl))
    try simp only [Act.put, List.setIfInBounds_toArray, List.set_cons_zero, List.set_cons_succ]
    refine wpAnyH_take (i := 23) (oi := { dst := some 65, op := Op.binOp BinOp.eql 3 (Operand.tmp 60) (Operand.tmp 64) 3, type := 4, pos := "law.go:100", after := #[{ on := 18, ground := Ground.data }, { on := 22, ground := Ground.data }, { on := 15, ground := Ground.guard }], guard := some (15, true) }) (v := ?_) rfl (by kernel_rfl) (by kernel_rfl) (by kernel_rfl) (fun _ _ _ h => h) (Or.inl ⟨by rfl, ?_⟩) (by assumption) ?_
    rotate_left
    · (intro w hSw; (try dsimp only at hSw); go_simp; try (with_reducible rfl))
    try simp only [Act.put, List.setIfInBounds_toArray, List.set_cons_zero, List.set_cons_succ]
    refine wpAnyH_take (i := 24) (oi := { dst := some 66, op := Op.pick (Operand.tmp 57) (Operand.tmp 65) (Operand.const (Value.bool false)), type := 4, pos := "law.go:100", after := #[{ on := 15, ground := Ground.data }, { on := 23, ground := Ground.data }], guard := none }) (v := ?_) rfl (by kernel_rfl) (by kernel_rfl) (by kernel_rfl) (fun _ _ _ h => h) (Or.inl ⟨by rfl, ?_⟩) (by assumption) ?_
    rotate_left
    · (intro w hSw; (try dsimp only at hSw); go_simp; try (with_reducible rfl))
    try simp only [Act.put, List.setIfInBounds_toArray, List.set_cons_zero, List.set_cons_succ]
    refine wpAnyH_take (i := 25) (oi := { dst := some 67, op := Op.move (Operand.tmp 66), type := 4, pos := "law.go:100", after := #[{ on := 24, ground := Ground.data }, { on := 21, ground := Ground.chain }], guard := none }) (v := ?_) rfl (by kernel_rfl) (by kernel_rfl) (by kernel_rfl) (fun _ _ _ h => h) (Or.inl ⟨by rfl, ?_⟩) (by assumption) ?_
    rotate_left
    · (intro w hSw; (try dsimp only at hSw); go_simp; try (with_reducible rfl))
    try simp only [Act.put, List.setIfInBounds_toArray, List.set_cons_zero, List.set_cons_succ]
    refine wpAnyH_take (i := 26) (oi := { dst := some 68, op := Op.load 28 (Operand.tmp 5), type := 28, pos := "law.go:100", after := #[{ on := 25, ground := Ground.guard }], guard := some (25, true) }) (v := ?_) rfl (by kernel_rfl) (by kernel_rfl) (by kernel_rfl) (fun _ _ _ h => h) (Or.inl ⟨by rfl, ?_⟩) (by assumption) ?_
    rotate_left
    · (intro w hSw; (try dsimp only at hSw); go_simp; try (with_reducible rfl))
    try simp only [Act.put, List.setIfInBounds_toArray, List.set_cons_zero, List.set_cons_succ]
    refine wpAnyH_take (i := 27) (oi := { dst := some 69, op := Op.load 28 (Operand.tmp 6), type := 28, pos := "law.go:100", after := #[{ on := 25, ground := Ground.guard }], guard := some (25, true) }) (v := ?_) rfl (by kernel_rfl) (by kernel_rfl) (by kernel_rfl) (fun _ _ _ h => h) (Or.inl ⟨by rfl, ?_⟩) (by assumption) ?_
    rotate_left
    · (intro w hSw; (try dsimp only at hSw); go_simp; try (with_reducible rfl))
    try simp only [Act.put, List.setIfInBounds_toArray, List.set_cons_zero, List.set_cons_succ]
    refine wpAnyH_take (i := 30) (oi := { dst := some 72, op := Op.load 28 (Operand.tmp 5), type := 28, pos := "law.go:100", after := #[{ on := 25, ground := Ground.guard }], guard := some (25, true) }) (v := ?_) rfl (by kernel_rfl) (by kernel_rfl) (by kernel_rfl) (fun _ _ _ h => h) (Or.inl ⟨by rfl, ?_⟩) (by assumption) ?_
    rotate_left
    · (intro w hSw; (try dsimp only at hSw); go_simp; try (with_reducible rfl))
    try simp only [Act.put, List.setIfInBounds_toArray, List.set_cons_zero, List.set_cons_succ]
    refine wpAnyH_take (i := 31) (oi := { dst := some 73, op := Op.load 28 (Operand.tmp 6), type := 28, pos := "law.go:100", after := #[{ on := 25, ground := Ground.guard }], guard := some (25, true) }) (v := ?_) rfl (by kernel_rfl) (by kernel_rfl) (by kernel_rfl) (fun _ _ _ h => h) (Or.inl ⟨by rfl, ?_⟩) (by assumption) ?_
    rotate_left
    · (intro w hSw; (try dsimp only at hSw); go_simp; try (with_reducible rfl))
    try simp only [Act.put, List.setIfInBounds_toArray, List.set_cons_zero, List.set_cons_succ]
    refine wpAnyH_ready (rs := [28]) (by kernel_rfl) (by simp) ?_
    refine AllReadyH.cons (o := { dst := some 70, op := Op.call { callee := Callee.value (Operand.func 22), args := #[Operand.tmp 68, Operand.tmp 69], argTypes := #[28, 28] }, type := 3, pos := "law.go:100", after := #[{ on := 26, ground := Ground.data }, { on := 27, ground := Ground.data }, { on := 25, ground := Ground.chain }, { on := 25, ground := Ground.guard }], guard := some (25, true) }) rfl (fun K hK => ?_) AllReadyH.nil
    go_simp
    (first | (go_at_call 22; refine (order_b w7 _ _ _ _ _ (by assumption) (by assumption) (by first | (with_reducible assumption) | (exact Moves.drew (by with_reducible assumption)))).mono ?_; rintro _ w8 ⟨rfl, m8⟩; have e00 := m8.cell d00; have e01 := m8.cell d01; have e02 := m8.cell d02; have e10 := m8.cell d10; have e11 := m8.cell d11; have e12 := m8.cell d12; clear c00 c01 c02 c10 c11 c12; have c00 := e00; have c01 := e01; have c02 := e02; have c10 := e10; have c11 := e11; have c12 := e12; clear e00 e01 e02 e10 e11 e12) | (go_at_call 21; refine (same_b w7 _ _ _ _ _ (by assumption) (by assumption) (by first | (with_reducible assumption) | (exact Moves.drew (by with_reducible assumption)))).mono ?_; rintro _ w8 ⟨rfl, m8⟩; have e00 := m8.cell d00; have e01 := m8.cell d01; have e02 := m8.cell d02; have e10 := m8.cell d10; have e11 := m8.cell d11; have e12 := m8.cell d12; clear c00 c01 c02 c10 c11 c12; have c00 := e00; have c01 := e01; have c02 := e02; have c10 := e10; have c11 := e11; have c12 := e12; clear e00 e01 e02 e10 e11 e12) | (go_at_call 12; refine (vknown_w _).mono ?_; rintro _ w9 ⟨rfl, m9⟩; have m8 := m8.then m9; have e00 := m8.cell d00; have e01 := m8.cell d01; have e02 := m8.cell d02; have e10 := m8.cell d10; have e11 := m8.cell d11; have e12 := m8.cell d12; clear c00 c01 c02 c10 c11 c12; have c00 := e00; have c01 := e01; have c02 := e02; have c10 := e10; have c11 := e11; have c12 := e12; clear e00 e01 e02 e10 e11 e12))
    refine hK.out _ _ ?_ (fun hHeld => ?_)
    · (exact ⟨c00, c01, c02, c10, c11, c12⟩)
    clear hK K
    try simp only [Act.put, List.setIfInBounds_toArray, List.set_cons_zero, List.set_cons_succ]
    refine wpAnyH_take (i := 29) (oi := { dst := some 71, op := Op.binOp BinOp.eql 3 (Operand.tmp 70) (Operand.const (Value.int IntKind.i64 0)) 3, type := 4, pos := "law.go:100", after := #[{ on := 28, ground := Ground.data }, { on := 25, ground := Ground.guard }], guard := some (25, true) }) (v := ?_) rfl (by kernel_rfl) (by kernel_rfl) (by kernel_rfl) (fun _ _ _ h => h) (Or.inl ⟨by rfl, ?_⟩) (by assumption) ?_
    rotate_left
    · (intro w hSw; (try dsimp only at hSw); go_simp; try (with_reducible rfl))
    try simp only [Act.put, List.setIfInBounds_toArray, List.set_cons_zero, List.set_cons_succ]
    refine wpAnyH_ready (rs := [32]) (by kernel_rfl) (by simp) ?_
    refine AllReadyH.cons (o := { dst := some 74, op := Op.call { callee := Callee.value (Operand.func 21), args := #[Operand.tmp 72, Operand.tmp 73], argTypes := #[28, 28] }, type := 4, pos := "law.go:100", after := #[{ on := 30, ground := Ground.data }, { on := 31, ground := Ground.data }, { on := 28, ground := Ground.chain }, { on := 25, ground := Ground.guard }], guard := some (25, true) }) rfl (fun K hK => ?_) AllReadyH.nil
    go_simp
    (first | (go_at_call 22; refine (order_b w7 _ _ _ _ _ (by assumption) (by assumption) (by first | (with_reducible assumption) | (exact Moves.drew (by with_reducible assumption)))).mono ?_; rintro _ w8 ⟨rfl, m8⟩; have e00 := m8.cell d00; have e01 := m8.cell d01; have e02 := m8.cell d02; have e10 := m8.cell d10; have e11 := m8.cell d11; have e12 := m8.cell d12; clear c00 c01 c02 c10 c11 c12; have c00 := e00; have c01 := e01; have c02 := e02; have c10 := e10; have c11 := e11; have c12 := e12; clear e00 e01 e02 e10 e11 e12) | (go_at_call 21; refine (same_b w7 _ _ _ _ _ (by assumption) (by assumption) (by first | (with_reducible assumption) | (exact Moves.drew (by with_reducible assumption)))).mono ?_; rintro _ w8 ⟨rfl, m8⟩; have e00 := m8.cell d00; have e01 := m8.cell d01; have e02 := m8.cell d02; have e10 := m8.cell d10; have e11 := m8.cell d11; have e12 := m8.cell d12; clear c00 c01 c02 c10 c11 c12; have c00 := e00; have c01 := e01; have c02 := e02; have c10 := e10; have c11 := e11; have c12 := e12; clear e00 e01 e02 e10 e11 e12) | (go_at_call 12; refine (vknown_w _).mono ?_; rintro _ w9 ⟨rfl, m9⟩; have m8 := m8.then m9; have e00 := m8.cell d00; have e01 := m8.cell d01; have e02 := m8.cell d02; have e10 := m8.cell d10; have e11 := m8.cell d11; have e12 := m8.cell d12; clear c00 c01 c02 c10 c11 c12; have c00 := e00; have c01 := e01; have c02 := e02; have c10 := e10; have c11 := e11; have c12 := e12; clear e00 e01 e02 e10 e11 e12))
    refine hK.out _ _ ?_ (fun hHeld => ?_)
    · (exact ⟨c00, c01, c02, c10, c11, c12⟩)
    clear hK K
    try simp only [Act.put, List.setIfInBounds_toArray, List.set_cons_zero, List.set_cons_succ]
    refine wpAnyH_take (i := 33) (oi := { dst := some 75, op := Op.binOp BinOp.eql 4 (Operand.tmp 71) (Operand.tmp 74) 4, type := 4, pos := "law.go:100", after := #[{ on := 29, ground := Ground.data }, { on := 32, ground := Ground.data }, { on := 25, ground := Ground.guard }], guard := some (25, true) }) (v := ?_) rfl (by kernel_rfl) (by kernel_rfl) (by kernel_rfl) (fun _ _ _ h => h) (Or.inl ⟨by rfl, ?_⟩) (by assumption) ?_
    rotate_left
    · (intro w hSw; (try dsimp only at hSw); go_simp; try (with_reducible rfl))
    try simp only [Act.put, List.setIfInBounds_toArray, List.set_cons_zero, List.set_cons_succ]
    refine wpAnyH_take (i := 34) (oi := { dst := some 76, op := Op.pick (Operand.tmp 67) (Operand.tmp 75) (Operand.const (Value.bool false)), type := 4, pos := "law.go:100", after := #[{ on := 25, ground := Ground.data }, { on := 33, ground := Ground.data }], guard := none }) (v := ?_) rfl (by kernel_rfl) (by kernel_rfl) (by kernel_rfl) (fun _ _ _ h => h) (Or.inl ⟨by rfl, ?_⟩) (by assumption) ?_
    rotate_left
    · (intro w hSw; (try dsimp only at hSw); go_simp; try (with_reducible rfl))
    try simp only [Act.put, List.setIfInBounds_toArray, List.set_cons_zero, List.set_cons_succ]
    refine wpAnyH_take (i := 35) (oi := { dst := some 77, op := Op.move (Operand.tmp 76), type := 4, pos := "law.go:100", after := #[{ on := 34, ground := Ground.data }, { on := 32, ground := Ground.chain }], guard := none }) (v := ?_) rfl (by kernel_rfl) (by kernel_rfl) (by kernel_rfl) (fun _ _ _ h => h) (Or.inl ⟨by rfl, ?_⟩) (by assumption) ?_
    rotate_left
    · (intro w hSw; (try dsimp only at hSw); go_simp; try (with_reducible rfl))
    try simp only [Act.put, List.setIfInBounds_toArray, List.set_cons_zero, List.set_cons_succ]
    refine wpAnyH_ready (rs := [36]) (by kernel_rfl) (by simp) ?_
    refine AllReadyH.cons (o := { dst := some 78, op := Op.call { callee := Callee.value (Operand.func 12), args := #[], argTypes := #[] }, type := 4, pos := "law.go:100", after := #[{ on := 35, ground := Ground.chain }, { on := 35, ground := Ground.guard }], guard := some (35, true) }) rfl (fun K hK => ?_) AllReadyH.nil
    go_simp
    (first | (go_at_call 22; refine (order_b w7 _ _ _ _ _ (by assumption) (by assumption) (by first | (with_reducible assumption) | (exact Moves.drew (by with_reducible assumption)))).mono ?_; rintro _ w8 ⟨rfl, m8⟩; have e00 := m8.cell d00; have e01 := m8.cell d01; have e02 := m8.cell d02; have e10 := m8.cell d10; have e11 := m8.cell d11; have e12 := m8.cell d12; clear c00 c01 c02 c10 c11 c12; have c00 := e00; have c01 := e01; have c02 := e02; have c10 := e10; have c11 := e11; have c12 := e12; clear e00 e01 e02 e10 e11 e12) | (go_at_call 21; refine (same_b w7 _ _ _ _ _ (by assumption) (by assumption) (by first | (with_reducible assumption) | (exact Moves.drew (by with_reducible assumption)))).mono ?_; rintro _ w8 ⟨rfl, m8⟩; have e00 := m8.cell d00; have e01 := m8.cell d01; have e02 := m8.cell d02; have e10 := m8.cell d10; have e11 := m8.cell d11; have e12 := m8.cell d12; clear c00 c01 c02 c10 c11 c12; have c00 := e00; have c01 := e01; have c02 := e02; have c10 := e10; have c11 := e11; have c12 := e12; clear e00 e01 e02 e10 e11 e12) | (go_at_call 12; refine (vknown_w _).mono ?_; rintro _ w9 ⟨rfl, m9⟩; have m8 := m8.then m9; have e00 := m8.cell d00; have e01 := m8.cell d01; have e02 := m8.cell d02; have e10 := m8.cell d10; have e11 := m8.cell d11; have e12 := m8.cell d12; clear c00 c01 c02 c10 c11 c12; have c00 := e00; have c01 := e01; have c02 := e02; have c10 := e10; have c11 := e11; have c12 := e12; clear e00 e01 e02 e10 e11 e12))
    refine hK.out _ _ ?_ (fun hHeld => ?_)
    · (exact ⟨c00, c01, c02, c10, c11, c12⟩)
    clear hK K
    try simp only [Act.put, List.setIfInBounds_toArray, List.set_cons_zero, List.set_cons_succ]
    refine wpAnyH_take (i := 37) (oi := { dst := some 79, op := Op.pick (Operand.tmp 77) (Operand.tmp 78) (Operand.const (Value.bool false)), type := 4, pos := "law.go:100", after := #[{ on := 35, ground := Ground.data }, { on := 36, ground := Ground.data }], guard := none }) (v := ?_) rfl (by kernel_rfl) (by kernel_rfl) (by kernel_rfl) (fun _ _ _ h => h) (Or.inl ⟨by rfl, ?_⟩) (by assumption) ?_
    rotate_left
    · (intro w hSw; (try dsimp only at hSw); go_simp; try (with_reducible rfl))
    try simp only [Act.put, List.setIfInBounds_toArray, List.set_cons_zero, List.set_cons_succ]
    refine wpAnyH_take (i := 38) (oi := { dst := some 4, op := Op.assign (Operand.tmp 79), type := 4, pos := "law.go:100", after := #[{ on := 37, ground := Ground.data }, { on := 36, ground := Ground.chain }, { on := 0, ground := Ground.phase }, { on := 1, ground := Ground.phase }, { on := 2, ground := Ground.phase }, { on := 3, ground := Ground.phase }, { on := 4, ground := Ground.phase }, { on := 5, ground := Ground.phase }, { on := 6, ground := Ground.phase }, { on := 7, ground := Ground.phase }, { on := 8, ground := Ground.phase }, { on := 9, ground := Ground.phase }, { on := 10, ground := Ground.phase }, { on := 11, ground := Ground.phase }, { on := 12, ground := Ground.phase }, { on := 13, ground := Ground.phase }, { on := 14, ground := Ground.phase }, { on := 15, ground := Ground.phase }, { on := 16, ground := Ground.phase }, { on := 17, ground := Ground.phase }, { on := 18, ground := Ground.phase }, { on := 19, ground := Ground.phase }, { on := 20, ground := Ground.phase }, { on := 21, ground := Ground.phase }, { on := 22, ground := Ground.phase }, { on := 23, ground := Ground.phase }, { on := 24, ground := Ground.phase }, { on := 25, ground := Ground.phase }, { on := 26, ground := Ground.phase }, { on := 27, ground := Ground.phase }, { on := 28, ground := Ground.phase }, { on := 29, ground := Ground.phase }, { on := 30, ground := Ground.phase }, { on := 31, ground := Ground.phase }, { on := 32, ground := Ground.phase }, { on := 33, ground := Ground.phase }, { on := 34, ground := Ground.phase }, { on := 35, ground := Ground.phase }, { on := 36, ground := Ground.phase }, { on := 37, ground := Ground.phase }], guard := none }) (v := ?_) rfl (by kernel_rfl) (by kernel_rfl) (by kernel_rfl) (fun _ _ _ h => h) (Or.inl ⟨by rfl, ?_⟩) (by assumption) ?_
    rotate_left
    · (intro w hSw; (try dsimp only at hSw); go_simp; try (with_reducible rfl))
    try simp only [Act.put, List.setIfInBounds_toArray, List.set_cons_zero, List.set_cons_succ]
    refine wpAnyH_done (by kernel_rfl) ?_ _
    refine NoPanic.normal ?_
    go_wp2
    go_ret
    exact ⟨rfl, MM.then m8⟩
  · have v := v12 rfl rfl
    clear v12 v21
    go_region_held3 (fun w' => w'.cell? ⟨q0, 0, none⟩ = some (.int .i64 1) ∧ w'.cell? ⟨q0, 1, none⟩ = some (.slice adP lenP capP) ∧ w'.cell? ⟨q0, 2, none⟩ = some (.float .f64 P.n) ∧ w'.cell? ⟨q1, 0, none⟩ = some (.int .i64 2) ∧ w'.cell? ⟨q1, 1, none⟩ = some (.slice adQ lenQ capQ) ∧ w'.cell? ⟨q1, 2, none⟩ = some (.float .f64 Q.n)) (first | (with_reducible exact ⟨c00, c01, c02, c10, c11, c12⟩) | (go_keep; done)) (first | (go_at_call 22; refine (order_b w7 _ _ _ _ _ (by assumption) (by assumption) (by first | (with_reducible assumption) | (exact Moves.drew (by with_reducible assumption)))).mono ?_; rintro _ w8 ⟨rfl, m8⟩; have e00 := m8.cell d00; have e01 := m8.cell d01; have e02 := m8.cell d02; have e10 := m8.cell d10; have e11 := m8.cell d11; have e12 := m8.cell d12; clear c00 c01 c02 c10 c11 c12; have c00 := e00; have c01 := e01; have c02 := e02; have c10 := e10; have c11 := e11; have c12 := e12; clear e00 e01 e02 e10 e11 e12) | (go_at_call 21; refine (same_b w7 _ _ _ _ _ (by assumption) (by assumption) (by first | (with_reducible assumption) | (exact Moves.drew (by with_reducible assumption)))).mono ?_; rintro _ w8 ⟨rfl, m8⟩; have e00 := m8.cell d00; have e01 := m8.cell d01; have e02 := m8.cell d02; have e10 := m8.cell d10; have e11 := m8.cell d11; have e12 := m8.cell d12; clear c00 c01 c02 c10 c11 c12; have c00 := e00; have c01 := e01; have c02 := e02; have c10 := e10; have c11 := e11; have c12 := e12; clear e00 e01 e02 e10 e11 e12) | (go_at_call 12; refine (vknown_w _).mono ?_; rintro _ w9 ⟨rfl, m9⟩; have m8 := m8.then m9; have e00 := m8.cell d00; have e01 := m8.cell d01; have e02 := m8.cell d02; have e10 := m8.cell d10; have e11 := m8.cell d11; have e12 := m8.cell d12; clear c00 c01 c02 c10 c11 c12; have c00 := e00; have c01 := e01; have c02 := e02; have c10 := e10; have c11 := e11; have c12 := e12; clear e00 e01 e02 e10 e11 e12))
    go_wp2
    go_ret
    exact ⟨rfl, MM.then m8⟩
  · have v := v21 rfl rfl
    clear v12 v21
    go_region_held3 (fun w' => w'.cell? ⟨q0, 0, none⟩ = some (.int .i64 2) ∧ w'.cell? ⟨q0, 1, none⟩ = some (.slice adP lenP capP) ∧ w'.cell? ⟨q0, 2, none⟩ = some (.float .f64 P.n) ∧ w'.cell? ⟨q1, 0, none⟩ = some (.int .i64 1) ∧ w'.cell? ⟨q1, 1, none⟩ = some (.slice adQ lenQ capQ) ∧ w'.cell? ⟨q1, 2, none⟩ = some (.float .f64 Q.n)) (first | (with_reducible exact ⟨c00, c01, c02, c10, c11, c12⟩) | (go_keep; done)) (first | (go_at_call 22; refine (order_b w7 _ _ _ _ _ (by assumption) (by assumption) (by first | (with_reducible assumption) | (exact Moves.drew (by with_reducible assumption)))).mono ?_; rintro _ w8 ⟨rfl, m8⟩; have e00 := m8.cell d00; have e01 := m8.cell d01; have e02 := m8.cell d02; have e10 := m8.cell d10; have e11 := m8.cell d11; have e12 := m8.cell d12; clear c00 c01 c02 c10 c11 c12; have c00 := e00; have c01 := e01; have c02 := e02; have c10 := e10; have c11 := e11; have c12 := e12; clear e00 e01 e02 e10 e11 e12) | (go_at_call 21; refine (same_b w7 _ _ _ _ _ (by assumption) (by assumption) (by first | (with_reducible assumption) | (exact Moves.drew (by with_reducible assumption)))).mono ?_; rintro _ w8 ⟨rfl, m8⟩; have e00 := m8.cell d00; have e01 := m8.cell d01; have e02 := m8.cell d02; have e10 := m8.cell d10; have e11 := m8.cell d11; have e12 := m8.cell d12; clear c00 c01 c02 c10 c11 c12; have c00 := e00; have c01 := e01; have c02 := e02; have c10 := e10; have c11 := e11; have c12 := e12; clear e00 e01 e02 e10 e11 e12) | (go_at_call 12; refine (vknown_w _).mono ?_; rintro _ w9 ⟨rfl, m9⟩; have m8 := m8.then m9; have e00 := m8.cell d00; have e01 := m8.cell d01; have e02 := m8.cell d02; have e10 := m8.cell d10; have e11 := m8.cell d11; have e12 := m8.cell d12; clear c00 c01 c02 c10 c11 c12; have c00 := e00; have c01 := e01; have c02 := e02; have c10 := e10; have c11 := e11; have c12 := e12; clear e00 e01 e02 e10 e11 e12))
    go_wp2
    go_ret
    exact ⟨rfl, MM.then m8⟩
  · clear v12 v21
    refine wp_region_noPanic ?_
    refine wp_region_held_drew (S := (fun w' => w'.cell? ⟨q0, 0, none⟩ = some (.int .i64 2) ∧ w'.cell? ⟨q0, 1, none⟩ = some (.slice adP lenP capP) ∧ w'.cell? ⟨q0, 2, none⟩ = some (.float .f64 P.n) ∧ w'.cell? ⟨q1, 0, none⟩ = some (.int .i64 2) ∧ w'.cell? ⟨q1, 1, none⟩ = some (.slice adQ lenQ capQ) ∧ w'.cell? ⟨q1, 2, none⟩ = some (.float .f64 Q.n))) (by kernel_rfl) ?_ (fun hHeld => ?_)
    · first | (go_keep; done) | (exact ⟨c00, c01, c02, c10, c11, c12⟩)
    refine wpAnyH_take (i := 0) (oi := { dst := some 42, op := Op.fieldAddr 28 (Operand.tmp 5) 0, type := 0, pos := "law.go:100", after := #[], guard := none }) (v := ?_) rfl (by kernel_rfl) (by kernel_rfl) (by kernel_rfl) (fun _ _ _ h => h) (Or.inl ⟨by rfl, ?_⟩) (by assumption) ?_
    rotate_left
    · (intro w hSw; (try dsimp only at hSw); go_simp; try (with_reducible rfl))
    try simp only [Act.put, List.setIfInBounds_toArray, List.set_cons_zero, List.set_cons_succ]
    refine wpAnyH_take (i := 1) (oi := { dst := some 43, op := Op.load 3 (Operand.tmp 42), type := 3, pos := "law.go:100", after := #[{ on := 0, ground := Ground.data }], guard := none }) (v := ?_) rfl (by kernel_rfl) (by kernel_rfl) (by kernel_rfl) (fun _ _ _ h => h) (Or.inl ⟨by rfl, ?_⟩) (by assumption) ?_
    rotate_left
    · (intro w hSw; (try dsimp only at hSw); go_simp; try (with_reducible rfl))
    try simp only [Act.put, List.setIfInBounds_toArray, List.set_cons_zero, List.set_cons_succ]
    refine wpAnyH_take (i := 2) (oi := { dst := some 44, op := Op.fieldAddr 28 (Operand.tmp 6) 0, type := 0, pos := "law.go:100", after := #[], guard := none }) (v := ?_) rfl (by kernel_rfl) (by kernel_rfl) (by kernel_rfl) (fun _ _ _ h => h) (Or.inl ⟨by rfl, ?_⟩) (by assumption) ?_
    rotate_left
    · (intro w hSw; (try dsimp only at hSw); go_simp; try (with_reducible rfl))
    try simp only [Act.put, List.setIfInBounds_toArray, List.set_cons_zero, List.set_cons_succ]
    refine wpAnyH_take (i := 3) (oi := { dst := some 45, op := Op.load 3 (Operand.tmp 44), type := 3, pos := "law.go:100", after := #[{ on := 2, ground := Ground.data }], guard := none }) (v := ?_) rfl (by kernel_rfl) (by kernel_rfl) (by kernel_rfl) (fun _ _ _ h => h) (Or.inl ⟨by rfl, ?_⟩) (by assumption) ?_
    rotate_left
    · (intro w hSw; (try dsimp only at hSw); go_simp; try (with_reducible rfl))
    try simp only [Act.put, List.setIfInBounds_toArray, List.set_cons_zero, List.set_cons_succ]
    refine wpAnyH_take (i := 4) (oi := { dst := some 46, op := Op.binOp BinOp.eql 3 (Operand.tmp 43) (Operand.tmp 45) 3, type := 4, pos := "law.go:100", after := #[{ on := 1, ground := Ground.data }, { on := 3, ground := Ground.data }], guard := none }) (v := ?_) rfl (by kernel_rfl) (by kernel_rfl) (by kernel_rfl) (fun _ _ _ h => h) (Or.inl ⟨by rfl, ?_⟩) (by assumption) ?_
    rotate_left
    · (intro w hSw; (try dsimp only at hSw); go_simp; try (with_reducible rfl))
    try simp only [Act.put, List.setIfInBounds_toArray, List.set_cons_zero, List.set_cons_succ]
    refine wpAnyH_take (i := 5) (oi := { dst := some 47, op := Op.move (Operand.tmp 46), type := 4, pos := "law.go:100", after := #[{ on := 4, ground := Ground.data }], guard := none }) (v := ?_) rfl (by kernel_rfl) (by kernel_rfl) (by kernel_rfl) (fun _ _ _ h => h) (Or.inl ⟨by rfl, ?_⟩) (by assumption) ?_
    rotate_left
    · (intro w hSw; (try dsimp only at hSw); go_simp; try (with_reducible rfl))
    try simp only [Act.put, List.setIfInBounds_toArray, List.set_cons_zero, List.set_cons_succ]
    refine wpAnyH_take (i := 6) (oi := { dst := some 48, op := Op.load 28 (Operand.tmp 5), type := 28, pos := "law.go:100", after := #[{ on := 5, ground := Ground.guard }], guard := some (5, false) }) rfl (by kernel_rfl) (by kernel_rfl) (by kernel_rfl) (fun _ _ _ h => h) (Or.inr ⟨by rfl, rfl⟩) (by assumption) ?_
    try simp only [Act.put, List.setIfInBounds_toArray, List.set_cons_zero, List.set_cons_succ]
    refine wpAnyH_take (i := 7) (oi := { dst := some 49, op := Op.load 28 (Operand.tmp 6), type := 28, pos := "law.go:100", after := #[{ on := 5, ground := Ground.guard }], guard := some (5, false) }) rfl (by kernel_rfl) (by kernel_rfl) (by kernel_rfl) (fun _ _ _ h => h) (Or.inr ⟨by rfl, rfl⟩) (by assumption) ?_
    try simp only [Act.put, List.setIfInBounds_toArray, List.set_cons_zero, List.set_cons_succ]
    refine wpAnyH_take (i := 8) (oi := { dst := some 50, op := Op.call { callee := Callee.value (Operand.func 22), args := #[Operand.tmp 48, Operand.tmp 49], argTypes := #[28, 28] }, type := 3, pos := "law.go:100", after := #[{ on := 6, ground := Ground.data }, { on := 7, ground := Ground.data }, { on := 5, ground := Ground.chain }, { on := 5, ground := Ground.guard }], guard := some (5, false) }) rfl (by kernel_rfl) (by kernel_rfl) (by kernel_rfl) (fun _ _ _ h => h) (Or.inr ⟨by rfl, rfl⟩) (by assumption) ?_
    try simp only [Act.put, List.setIfInBounds_toArray, List.set_cons_zero, List.set_cons_succ]
    refine wpAnyH_take (i := 9) (oi := { dst := some 51, op := Op.binOp BinOp.eql 3 (Operand.tmp 50) (Operand.const (Value.int IntKind.i64 (-1))) 3, type := 4, pos := "law.go:100", after := #[{ on := 8, ground := Ground.data }, { on := 5, ground := Ground.guard }], guard := some (5, false) }) rfl (by kernel_rfl) (by kernel_rfl) (by kernel_rfl) (fun _ _ _ h => h) (Or.inr ⟨by rfl, rfl⟩) (by assumption) ?_
    try simp only [Act.put, List.setIfInBounds_toArray, List.set_cons_zero, List.set_cons_succ]
    refine wpAnyH_take (i := 10) (oi := { dst := some 52, op := Op.fieldAddr 28 (Operand.tmp 5) 0, type := 0, pos := "law.go:100", after := #[{ on := 5, ground := Ground.guard }], guard := some (5, false) }) rfl (by kernel_rfl) (by kernel_rfl) (by kernel_rfl) (fun _ _ _ h => h) (Or.inr ⟨by rfl, rfl⟩) (by assumption) ?_
    try simp only [Act.put, List.setIfInBounds_toArray, List.set_cons_zero, List.set_cons_succ]
    refine wpAnyH_take (i := 11) (oi := { dst := some 53, op := Op.load 3 (Operand.tmp 52), type := 3, pos := "law.go:100", after := #[{ on := 10, ground := Ground.data }, { on := 5, ground := Ground.guard }], guard := some (5, false) }) rfl (by kernel_rfl) (by kernel_rfl) (by kernel_rfl) (fun _ _ _ h => h) (Or.inr ⟨by rfl, rfl⟩) (by assumption) ?_
    try simp only [Act.put, List.setIfInBounds_toArray, List.set_cons_zero, List.set_cons_succ]
    refine wpAnyH_take (i := 12) (oi := { dst := some 54, op := Op.binOp BinOp.eql 3 (Operand.tmp 53) (Operand.const (Value.int IntKind.i64 1)) 3, type := 4, pos := "law.go:100", after := #[{ on := 11, ground := Ground.data }, { on := 5, ground := Ground.guard }], guard := some (5, false) }) rfl (by kernel_rfl) (by kernel_rfl) (by kernel_rfl) (fun _ _ _ h => h) (Or.inr ⟨by rfl, rfl⟩) (by assumption) ?_
    try simp only [Act.put, List.setIfInBounds_toArray, List.set_cons_zero, List.set_cons_succ]
    refine wpAnyH_take (i := 13) (oi := { dst := some 55, op := Op.binOp BinOp.eql 4 (Operand.tmp 51) (Operand.tmp 54) 4, type := 4, pos := "law.go:100", after := #[{ on := 9, ground := Ground.data }, { on := 12, ground := Ground.data }, { on := 5, ground := Ground.guard }], guard := some (5, false) }) rfl (by kernel_rfl) (by kernel_rfl) (by kernel_rfl) (fun _ _ _ h => h) (Or.inr ⟨by rfl, rfl⟩) (by assumption) ?_
    try simp only [Act.put, List.setIfInBounds_toArray, List.set_cons_zero, List.set_cons_succ]
    refine wpAnyH_take (i := 14) (oi := { dst := some 56, op := Op.pick (Operand.tmp 47) (Operand.const (Value.bool true)) (Operand.tmp 55), type := 4, pos := "law.go:100", after := #[{ on := 5, ground := Ground.data }, { on := 13, ground := Ground.data }], guard := none }) (v := ?_) rfl (by kernel_rfl) (by kernel_rfl) (by kernel_rfl) (fun _ _ _ h => h) (Or.inl ⟨by rfl, ?_⟩) (by assumption) ?_
    rotate_left
    · (intro w hSw; (try dsimp only at hSw); go_simp; try (with_reducible rfl))
    try simp only [Act.put, List.setIfInBounds_toArray, List.set_cons_zero, List.set_cons_succ]
    refine wpAnyH_take (i := 15) (oi := { dst := some 57, op := Op.move (Operand.tmp 56), type := 4, pos := "law.go:100", after := #[{ on := 14, ground := Ground.data }, { on := 8, ground := Ground.chain }], guard := none }) (v := ?_) rfl (by kernel_rfl) (by kernel_rfl) (by kernel_rfl) (fun _ _ _ h => h) (Or.inl ⟨by rfl, ?_⟩) (by assumption) ?_
    rotate_left
    · (intro w hSw; (try dsimp only at hSw); go_simp; try (with_reducible rfl))
    try simp only [Act.put, List.setIfInBounds_toArray, List.set_cons_zero, List.set_cons_succ]
    refine wpAnyH_take (i := 16) (oi := { dst := some 58, op := Op.load 28 (Operand.tmp 5), type := 28, pos := "law.go:100", after := #[{ on := 15, ground := Ground.guard }], guard := some (15, true) }) (v := ?_) rfl (by kernel_rfl) (by kernel_rfl) (by kernel_rfl) (fun _ _ _ h => h) (Or.inl ⟨by rfl, ?_⟩) (by assumption) ?_
    rotate_left
    · (intro w hSw; (try dsimp only at hSw); go_simp; try (with_reducible rfl))
    try simp only [Act.put, List.setIfInBounds_toArray, List.set_cons_zero, List.set_cons_succ]
    refine wpAnyH_take (i := 17) (oi := { dst := some 59, op := Op.load 28 (Operand.tmp 6), type := 28, pos := "law.go:100", after := #[{ on := 15, ground := Ground.guard }], guard := some (15, true) }) (v := ?_) rfl (by kernel_rfl) (by kernel_rfl) (by kernel_rfl) (fun _ _ _ h => h) (Or.inl ⟨by rfl, ?_⟩) (by assumption) ?_
    rotate_left
    · (intro w hSw; (try dsimp only at hSw); go_simp; try (with_reducible rfl))
    try simp only [Act.put, List.setIfInBounds_toArray, List.set_cons_zero, List.set_cons_succ]
    refine wpAnyH_take (i := 19) (oi := { dst := some 61, op := Op.load 28 (Operand.tmp 6), type := 28, pos := "law.go:100", after := #[{ on := 15, ground := Ground.guard }], guard := some (15, true) }) (v := ?_) rfl (by kernel_rfl) (by kernel_rfl) (by kernel_rfl) (fun _ _ _ h => h) (Or.inl ⟨by rfl, ?_⟩) (by assumption) ?_
    rotate_left
    · (intro w hSw; (try dsimp only at hSw); go_simp; try (with_reducible rfl))
    try simp only [Act.put, List.setIfInBounds_toArray, List.set_cons_zero, List.set_cons_succ]
    refine wpAnyH_take (i := 20) (oi := { dst := some 62, op := Op.load 28 (Operand.tmp 5), type := 28, pos := "law.go:100", after := #[{ on := 15, ground := Ground.guard }], guard := some (15, true) }) (v := ?_) rfl (by kernel_rfl) (by kernel_rfl) (by kernel_rfl) (fun _ _ _ h => h) (Or.inl ⟨by rfl, ?_⟩) (by assumption) ?_
    rotate_left
    · (intro w hSw; (try dsimp only at hSw); go_simp; try (with_reducible rfl))
    try simp only [Act.put, List.setIfInBounds_toArray, List.set_cons_zero, List.set_cons_succ]
    refine wpAnyH_ready (rs := [18]) (by kernel_rfl) (by simp) ?_
    refine AllReadyH.cons (o := { dst := some 60, op := Op.call { callee := Callee.value (Operand.func 22), args := #[Operand.tmp 58, Operand.tmp 59], argTypes := #[28, 28] }, type := 3, pos := "law.go:100", after := #[{ on := 16, ground := Ground.data }, { on := 17, ground := Ground.data }, { on := 15, ground := Ground.chain }, { on := 15, ground := Ground.guard }], guard := some (15, true) }) rfl (fun K hK => ?_) AllReadyH.nil
    go_simp
    (first | (go_at_call 22; refine (order_b w7 _ _ _ _ _ (by assumption) (by assumption) (by first | (with_reducible assumption) | (exact Moves.drew (by with_reducible assumption)))).mono ?_; rintro _ w8 ⟨rfl, m8⟩; have e00 := m8.cell d00; have e01 := m8.cell d01; have e02 := m8.cell d02; have e10 := m8.cell d10; have e11 := m8.cell d11; have e12 := m8.cell d12; clear c00 c01 c02 c10 c11 c12; have c00 := e00; have c01 := e01; have c02 := e02; have c10 := e10; have c11 := e11; have c12 := e12; clear e00 e01 e02 e10 e11 e12) | (go_at_call 21; refine (same_b w7 _ _ _ _ _ (by assumption) (by assumption) (by first | (with_reducible assumption) | (exact Moves.drew (by with_reducible assumption)))).mono ?_; rintro _ w8 ⟨rfl, m8⟩; have e00 := m8.cell d00; have e01 := m8.cell d01; have e02 := m8.cell d02; have e10 := m8.cell d10; have e11 := m8.cell d11; have e12 := m8.cell d12; clear c00 c01 c02 c10 c11 c12; have c00 := e00; have c01 := e01; have c02 := e02; have c10 := e10; have c11 := e11; have c12 := e12; clear e00 e01 e02 e10 e11 e12) | (go_at_call 12; refine (vknown_w _).mono ?_; rintro _ w9 ⟨rfl, m9⟩; have m8 := m8.then m9; have e00 := m8.cell d00; have e01 := m8.cell d01; have e02 := m8.cell d02; have e10 := m8.cell d10; have e11 := m8.cell d11; have e12 := m8.cell d12; clear c00 c01 c02 c10 c11 c12; have c00 := e00; have c01 := e01; have c02 := e02; have c10 := e10; have c11 := e11; have c12 := e12; clear e00 e01 e02 e10 e11 e12))
    refine hK.out _ _ ?_ (fun hHeld => ?_)
    · (exact ⟨c00, c01, c02, c10, c11, c12⟩)
    clear hK K
    try simp only [Act.put, List.setIfInBounds_toArray, List.set_cons_zero, List.set_cons_succ]
    refine wpAnyH_ready (rs := [21]) (by kernel_rfl) (by simp) ?_
    refine AllReadyH.cons (o := { dst := some 63, op := Op.call { callee := Callee.value (Operand.func 22), args := #[Operand.tmp 61, Operand.tmp 62], argTypes := #[28, 28] }, type := 3, pos := "law.go:100", after := #[{ on := 19, ground := Ground.data }, { on := 20, ground := Ground.data }, { on := 18, ground := Ground.chain }, { on := 15, ground := Ground.guard }], guard := some (15, true) }) rfl (fun K hK => ?_) AllReadyH.nil
    go_simp
    (first | (go_at_call 22; refine (order_b w7 _ _ _ _ _ (by assumption) (by assumption) (by first | (with_reducible assumption) | (exact Moves.drew (by with_reducible assumption)))).mono ?_; rintro _ w8 ⟨rfl, m8⟩; have e00 := m8.cell d00; have e01 := m8.cell d01; have e02 := m8.cell d02; have e10 := m8.cell d10; have e11 := m8.cell d11; have e12 := m8.cell d12; clear c00 c01 c02 c10 c11 c12; have c00 := e00; have c01 := e01; have c02 := e02; have c10 := e10; have c11 := e11; have c12 := e12; clear e00 e01 e02 e10 e11 e12) | (go_at_call 21; refine (same_b w7 _ _ _ _ _ (by assumption) (by assumption) (by first | (with_reducible assumption) | (exact Moves.drew (by with_reducible assumption)))).mono ?_; rintro _ w8 ⟨rfl, m8⟩; have e00 := m8.cell d00; have e01 := m8.cell d01; have e02 := m8.cell d02; have e10 := m8.cell d10; have e11 := m8.cell d11; have e12 := m8.cell d12; clear c00 c01 c02 c10 c11 c12; have c00 := e00; have c01 := e01; have c02 := e02; have c10 := e10; have c11 := e11; have c12 := e12; clear e00 e01 e02 e10 e11 e12) | (go_at_call 12; refine (vknown_w _).mono ?_; rintro _ w9 ⟨rfl, m9⟩; have m8 := m8.then m9; have e00 := m8.cell d00; have e01 := m8.cell d01; have e02 := m8.cell d02; have e10 := m8.cell d10; have e11 := m8.cell d11; have e12 := m8.cell d12; clear c00 c01 c02 c10 c11 c12; have c00 := e00; have c01 := e01; have c02 := e02; have c10 := e10; have c11 := e11; have c12 := e12; clear e00 e01 e02 e10 e11 e12))
    refine hK.out _ _ ?_ (fun hHeld => ?_)
    · (exact ⟨c00, c01, c02, c10, c11, c12⟩)
    clear hK K
    try simp only [Act.put, List.setIfInBounds_toArray, List.set_cons_zero, List.set_cons_succ]
    refine wpAnyH_take (i := 22) (oi := { dst := some 64, op := Op.unOp UnOp.neg 3 (Operand.tmp 63), type := 3, pos := "law.go:100", after := #[{ on := 21, ground := Ground.data }, { on := 15, ground := Ground.guard }], guard := some (15, true) }) (v := ?_) rfl (by kernel_rfl) (by kernel_rfl) (by kernel_rfl) (fun _ _ _ h => h) (Or.inl ⟨by rfl, ?_⟩) (by assumption) ?_
    rotate_left
    · (intro w hSw; (try dsimp only at hSw); go_simp; try (with_reducible rfl))
    try simp only [Act.put, List.setIfInBounds_toArray, List.set_cons_zero, List.set_cons_succ]
    refine wpAnyH_take (i := 23) (oi := { dst := some 65, op := Op.binOp BinOp.eql 3 (Operand.tmp 60) (Operand.tmp 64) 3, type := 4, pos := "law.go:100", after := #[{ on := 18, ground := Ground.data }, { on := 22, ground := Ground.data }, { on := 15, ground := Ground.guard }], guard := some (15, true) }) (v := ?_) rfl (by kernel_rfl) (by kernel_rfl) (by kernel_rfl) (fun _ _ _ h => h) (Or.inl ⟨by rfl, ?_⟩) (by assumption) ?_
    rotate_left
    · (intro w hSw; (try dsimp only at hSw); go_simp; try (with_reducible rfl))
    try simp only [Act.put, List.setIfInBounds_toArray, List.set_cons_zero, List.set_cons_succ]
    refine wpAnyH_take (i := 24) (oi := { dst := some 66, op := Op.pick (Operand.tmp 57) (Operand.tmp 65) (Operand.const (Value.bool false)), type := 4, pos := "law.go:100", after := #[{ on := 15, ground := Ground.data }, { on := 23, ground := Ground.data }], guard := none }) (v := ?_) rfl (by kernel_rfl) (by kernel_rfl) (by kernel_rfl) (fun _ _ _ h => h) (Or.inl ⟨by rfl, ?_⟩) (by assumption) ?_
    rotate_left
    · (intro w hSw; (try dsimp only at hSw); go_simp; try (with_reducible rfl))
    try simp only [Act.put, List.setIfInBounds_toArray, List.set_cons_zero, List.set_cons_succ]
    refine wpAnyH_take (i := 25) (oi := { dst := some 67, op := Op.move (Operand.tmp 66), type := 4, pos := "law.go:100", after := #[{ on := 24, ground := Ground.data }, { on := 21, ground := Ground.chain }], guard := none }) (v := ?_) rfl (by kernel_rfl) (by kernel_rfl) (by kernel_rfl) (fun _ _ _ h => h) (Or.inl ⟨by rfl, ?_⟩) (by assumption) ?_
    rotate_left
    · (intro w hSw; (try dsimp only at hSw); go_simp; try (with_reducible rfl))
    try simp only [Act.put, List.setIfInBounds_toArray, List.set_cons_zero, List.set_cons_succ]
    refine wpAnyH_take (i := 26) (oi := { dst := some 68, op := Op.load 28 (Operand.tmp 5), type := 28, pos := "law.go:100", after := #[{ on := 25, ground := Ground.guard }], guard := some (25, true) }) (v := ?_) rfl (by kernel_rfl) (by kernel_rfl) (by kernel_rfl) (fun _ _ _ h => h) (Or.inl ⟨by rfl, ?_⟩) (by assumption) ?_
    rotate_left
    · (intro w hSw; (try dsimp only at hSw); go_simp; try (with_reducible rfl))
    try simp only [Act.put, List.setIfInBounds_toArray, List.set_cons_zero, List.set_cons_succ]
    refine wpAnyH_take (i := 27) (oi := { dst := some 69, op := Op.load 28 (Operand.tmp 6), type := 28, pos := "law.go:100", after := #[{ on := 25, ground := Ground.guard }], guard := some (25, true) }) (v := ?_) rfl (by kernel_rfl) (by kernel_rfl) (by kernel_rfl) (fun _ _ _ h => h) (Or.inl ⟨by rfl, ?_⟩) (by assumption) ?_
    rotate_left
    · (intro w hSw; (try dsimp only at hSw); go_simp; try (with_reducible rfl))
    try simp only [Act.put, List.setIfInBounds_toArray, List.set_cons_zero, List.set_cons_succ]
    refine wpAnyH_take (i := 30) (oi := { dst := some 72, op := Op.load 28 (Operand.tmp 5), type := 28, pos := "law.go:100", after := #[{ on := 25, ground := Ground.guard }], guard := some (25, true) }) (v := ?_) rfl (by kernel_rfl) (by kernel_rfl) (by kernel_rfl) (fun _ _ _ h => h) (Or.inl ⟨by rfl, ?_⟩) (by assumption) ?_
    rotate_left
    · (intro w hSw; (try dsimp only at hSw); go_simp; try (with_reducible rfl))
    try simp only [Act.put, List.setIfInBounds_toArray, List.set_cons_zero, List.set_cons_succ]
    refine wpAnyH_take (i := 31) (oi := { dst := some 73, op := Op.load 28 (Operand.tmp 6), type := 28, pos := "law.go:100", after := #[{ on := 25, ground := Ground.guard }], guard := some (25, true) }) (v := ?_) rfl (by kernel_rfl) (by kernel_rfl) (by kernel_rfl) (fun _ _ _ h => h) (Or.inl ⟨by rfl, ?_⟩) (by assumption) ?_
    rotate_left
    · (intro w hSw; (try dsimp only at hSw); go_simp; try (with_reducible rfl))
    try simp only [Act.put, List.setIfInBounds_toArray, List.set_cons_zero, List.set_cons_succ]
    refine wpAnyH_ready (rs := [28]) (by kernel_rfl) (by simp) ?_
    refine AllReadyH.cons (o := { dst := some 70, op := Op.call { callee := Callee.value (Operand.func 22), args := #[Operand.tmp 68, Operand.tmp 69], argTypes := #[28, 28] }, type := 3, pos := "law.go:100", after := #[{ on := 26, ground := Ground.data }, { on := 27, ground := Ground.data }, { on := 25, ground := Ground.chain }, { on := 25, ground := Ground.guard }], guard := some (25, true) }) rfl (fun K hK => ?_) AllReadyH.nil
    go_simp
    (first | (go_at_call 22; refine (order_b w7 _ _ _ _ _ (by assumption) (by assumption) (by first | (with_reducible assumption) | (exact Moves.drew (by with_reducible assumption)))).mono ?_; rintro _ w8 ⟨rfl, m8⟩; have e00 := m8.cell d00; have e01 := m8.cell d01; have e02 := m8.cell d02; have e10 := m8.cell d10; have e11 := m8.cell d11; have e12 := m8.cell d12; clear c00 c01 c02 c10 c11 c12; have c00 := e00; have c01 := e01; have c02 := e02; have c10 := e10; have c11 := e11; have c12 := e12; clear e00 e01 e02 e10 e11 e12) | (go_at_call 21; refine (same_b w7 _ _ _ _ _ (by assumption) (by assumption) (by first | (with_reducible assumption) | (exact Moves.drew (by with_reducible assumption)))).mono ?_; rintro _ w8 ⟨rfl, m8⟩; have e00 := m8.cell d00; have e01 := m8.cell d01; have e02 := m8.cell d02; have e10 := m8.cell d10; have e11 := m8.cell d11; have e12 := m8.cell d12; clear c00 c01 c02 c10 c11 c12; have c00 := e00; have c01 := e01; have c02 := e02; have c10 := e10; have c11 := e11; have c12 := e12; clear e00 e01 e02 e10 e11 e12) | (go_at_call 12; refine (vknown_w _).mono ?_; rintro _ w9 ⟨rfl, m9⟩; have m8 := m8.then m9; have e00 := m8.cell d00; have e01 := m8.cell d01; have e02 := m8.cell d02; have e10 := m8.cell d10; have e11 := m8.cell d11; have e12 := m8.cell d12; clear c00 c01 c02 c10 c11 c12; have c00 := e00; have c01 := e01; have c02 := e02; have c10 := e10; have c11 := e11; have c12 := e12; clear e00 e01 e02 e10 e11 e12))
    refine hK.out _ _ ?_ (fun hHeld => ?_)
    · (exact ⟨c00, c01, c02, c10, c11, c12⟩)
    clear hK K
    try simp only [Act.put, List.setIfInBounds_toArray, List.set_cons_zero, List.set_cons_succ]
    refine wpAnyH_take (i := 29) (oi := { dst := some 71, op := Op.binOp BinOp.eql 3 (Operand.tmp 70) (Operand.const (Value.int IntKind.i64 0)) 3, type := 4, pos := "law.go:100", after := #[{ on := 28, ground := Ground.data }, { on := 25, ground := Ground.guard }], guard := some (25, true) }) (v := ?_) rfl (by kernel_rfl) (by kernel_rfl) (by kernel_rfl) (fun _ _ _ h => h) (Or.inl ⟨by rfl, ?_⟩) (by assumption) ?_
    rotate_left
    · (intro w hSw; (try dsimp only at hSw); go_simp; try (with_reducible rfl))
    try simp only [Act.put, List.setIfInBounds_toArray, List.set_cons_zero, List.set_cons_succ]
    refine wpAnyH_ready (rs := [32]) (by kernel_rfl) (by simp) ?_
    refine AllReadyH.cons (o := { dst := some 74, op := Op.call { callee := Callee.value (Operand.func 21), args := #[Operand.tmp 72, Operand.tmp 73], argTypes := #[28, 28] }, type := 4, pos := "law.go:100", after := #[{ on := 30, ground := Ground.data }, { on := 31, ground := Ground.data }, { on := 28, ground := Ground.chain }, { on := 25, ground := Ground.guard }], guard := some (25, true) }) rfl (fun K hK => ?_) AllReadyH.nil
    go_simp
    (first | (go_at_call 22; refine (order_b w7 _ _ _ _ _ (by assumption) (by assumption) (by first | (with_reducible assumption) | (exact Moves.drew (by with_reducible assumption)))).mono ?_; rintro _ w8 ⟨rfl, m8⟩; have e00 := m8.cell d00; have e01 := m8.cell d01; have e02 := m8.cell d02; have e10 := m8.cell d10; have e11 := m8.cell d11; have e12 := m8.cell d12; clear c00 c01 c02 c10 c11 c12; have c00 := e00; have c01 := e01; have c02 := e02; have c10 := e10; have c11 := e11; have c12 := e12; clear e00 e01 e02 e10 e11 e12) | (go_at_call 21; refine (same_b w7 _ _ _ _ _ (by assumption) (by assumption) (by first | (with_reducible assumption) | (exact Moves.drew (by with_reducible assumption)))).mono ?_; rintro _ w8 ⟨rfl, m8⟩; have e00 := m8.cell d00; have e01 := m8.cell d01; have e02 := m8.cell d02; have e10 := m8.cell d10; have e11 := m8.cell d11; have e12 := m8.cell d12; clear c00 c01 c02 c10 c11 c12; have c00 := e00; have c01 := e01; have c02 := e02; have c10 := e10; have c11 := e11; have c12 := e12; clear e00 e01 e02 e10 e11 e12) | (go_at_call 12; refine (vknown_w _).mono ?_; rintro _ w9 ⟨rfl, m9⟩; have m8 := m8.then m9; have e00 := m8.cell d00; have e01 := m8.cell d01; have e02 := m8.cell d02; have e10 := m8.cell d10; have e11 := m8.cell d11; have e12 := m8.cell d12; clear c00 c01 c02 c10 c11 c12; have c00 := e00; have c01 := e01; have c02 := e02; have c10 := e10; have c11 := e11; have c12 := e12; clear e00 e01 e02 e10 e11 e12))
    refine hK.out _ _ ?_ (fun hHeld => ?_)
    · (exact ⟨c00, c01, c02, c10, c11, c12⟩)
    clear hK K
    try simp only [Act.put, List.setIfInBounds_toArray, List.set_cons_zero, List.set_cons_succ]
    refine wpAnyH_take (i := 33) (oi := { dst := some 75, op := Op.binOp BinOp.eql 4 (Operand.tmp 71) (Operand.tmp 74) 4, type := 4, pos := "law.go:100", after := #[{ on := 29, ground := Ground.data }, { on := 32, ground := Ground.data }, { on := 25, ground := Ground.guard }], guard := some (25, true) }) (v := ?_) rfl (by kernel_rfl) (by kernel_rfl) (by kernel_rfl) (fun _ _ _ h => h) (Or.inl ⟨by rfl, ?_⟩) (by assumption) ?_
    rotate_left
    · (intro w hSw; (try dsimp only at hSw); go_simp; try (with_reducible rfl))
    try simp only [Act.put, List.setIfInBounds_toArray, List.set_cons_zero, List.set_cons_succ]
    refine wpAnyH_take (i := 34) (oi := { dst := some 76, op := Op.pick (Operand.tmp 67) (Operand.tmp 75) (Operand.const (Value.bool false)), type := 4, pos := "law.go:100", after := #[{ on := 25, ground := Ground.data }, { on := 33, ground := Ground.data }], guard := none }) (v := ?_) rfl (by kernel_rfl) (by kernel_rfl) (by kernel_rfl) (fun _ _ _ h => h) (Or.inl ⟨by rfl, ?_⟩) (by assumption) ?_
    rotate_left
    · (intro w hSw; (try dsimp only at hSw); go_simp; try (with_reducible rfl))
    try simp only [Act.put, List.setIfInBounds_toArray, List.set_cons_zero, List.set_cons_succ]
    refine wpAnyH_take (i := 35) (oi := { dst := some 77, op := Op.move (Operand.tmp 76), type := 4, pos := "law.go:100", after := #[{ on := 34, ground := Ground.data }, { on := 32, ground := Ground.chain }], guard := none }) (v := ?_) rfl (by kernel_rfl) (by kernel_rfl) (by kernel_rfl) (fun _ _ _ h => h) (Or.inl ⟨by rfl, ?_⟩) (by assumption) ?_
    rotate_left
    · (intro w hSw; (try dsimp only at hSw); go_simp; try (with_reducible rfl))
    try simp only [Act.put, List.setIfInBounds_toArray, List.set_cons_zero, List.set_cons_succ]
    refine wpAnyH_ready (rs := [36]) (by kernel_rfl) (by simp) ?_
    refine AllReadyH.cons (o := { dst := some 78, op := Op.call { callee := Callee.value (Operand.func 12), args := #[], argTypes := #[] }, type := 4, pos := "law.go:100", after := #[{ on := 35, ground := Ground.chain }, { on := 35, ground := Ground.guard }], guard := some (35, true) }) rfl (fun K hK => ?_) AllReadyH.nil
    go_simp
    (first | (go_at_call 22; refine (order_b w7 _ _ _ _ _ (by assumption) (by assumption) (by first | (with_reducible assumption) | (exact Moves.drew (by with_reducible assumption)))).mono ?_; rintro _ w8 ⟨rfl, m8⟩; have e00 := m8.cell d00; have e01 := m8.cell d01; have e02 := m8.cell d02; have e10 := m8.cell d10; have e11 := m8.cell d11; have e12 := m8.cell d12; clear c00 c01 c02 c10 c11 c12; have c00 := e00; have c01 := e01; have c02 := e02; have c10 := e10; have c11 := e11; have c12 := e12; clear e00 e01 e02 e10 e11 e12) | (go_at_call 21; refine (same_b w7 _ _ _ _ _ (by assumption) (by assumption) (by first | (with_reducible assumption) | (exact Moves.drew (by with_reducible assumption)))).mono ?_; rintro _ w8 ⟨rfl, m8⟩; have e00 := m8.cell d00; have e01 := m8.cell d01; have e02 := m8.cell d02; have e10 := m8.cell d10; have e11 := m8.cell d11; have e12 := m8.cell d12; clear c00 c01 c02 c10 c11 c12; have c00 := e00; have c01 := e01; have c02 := e02; have c10 := e10; have c11 := e11; have c12 := e12; clear e00 e01 e02 e10 e11 e12) | (go_at_call 12; refine (vknown_w _).mono ?_; rintro _ w9 ⟨rfl, m9⟩; have m8 := m8.then m9; have e00 := m8.cell d00; have e01 := m8.cell d01; have e02 := m8.cell d02; have e10 := m8.cell d10; have e11 := m8.cell d11; have e12 := m8.cell d12; clear c00 c01 c02 c10 c11 c12; have c00 := e00; have c01 := e01; have c02 := e02; have c10 := e10; have c11 := e11; have c12 := e12; clear e00 e01 e02 e10 e11 e12))
    refine hK.out _ _ ?_ (fun hHeld => ?_)
    · (exact ⟨c00, c01, c02, c10, c11, c12⟩)
    clear hK K
    try simp only [Act.put, List.setIfInBounds_toArray, List.set_cons_zero, List.set_cons_succ]
    refine wpAnyH_take (i := 37) (oi := { dst := some 79, op := Op.pick (Operand.tmp 77) (Operand.tmp 78) (Operand.const (Value.bool false)), type := 4, pos := "law.go:100", after := #[{ on := 35, ground := Ground.data }, { on := 36, ground := Ground.data }], guard := none }) (v := ?_) rfl (by kernel_rfl) (by kernel_rfl) (by kernel_rfl) (fun _ _ _ h => h) (Or.inl ⟨by rfl, ?_⟩) (by assumption) ?_
    rotate_left
    · (intro w hSw; (try dsimp only at hSw); go_simp; try (with_reducible rfl))
    try simp only [Act.put, List.setIfInBounds_toArray, List.set_cons_zero, List.set_cons_succ]
    refine wpAnyH_take (i := 38) (oi := { dst := some 4, op := Op.assign (Operand.tmp 79), type := 4, pos := "law.go:100", after := #[{ on := 37, ground := Ground.data }, { on := 36, ground := Ground.chain }, { on := 0, ground := Ground.phase }, { on := 1, ground := Ground.phase }, { on := 2, ground := Ground.phase }, { on := 3, ground := Ground.phase }, { on := 4, ground := Ground.phase }, { on := 5, ground := Ground.phase }, { on := 6, ground := Ground.phase }, { on := 7, ground := Ground.phase }, { on := 8, ground := Ground.phase }, { on := 9, ground := Ground.phase }, { on := 10, ground := Ground.phase }, { on := 11, ground := Ground.phase }, { on := 12, ground := Ground.phase }, { on := 13, ground := Ground.phase }, { on := 14, ground := Ground.phase }, { on := 15, ground := Ground.phase }, { on := 16, ground := Ground.phase }, { on := 17, ground := Ground.phase }, { on := 18, ground := Ground.phase }, { on := 19, ground := Ground.phase }, { on := 20, ground := Ground.phase }, { on := 21, ground := Ground.phase }, { on := 22, ground := Ground.phase }, { on := 23, ground := Ground.phase }, { on := 24, ground := Ground.phase }, { on := 25, ground := Ground.phase }, { on := 26, ground := Ground.phase }, { on := 27, ground := Ground.phase }, { on := 28, ground := Ground.phase }, { on := 29, ground := Ground.phase }, { on := 30, ground := Ground.phase }, { on := 31, ground := Ground.phase }, { on := 32, ground := Ground.phase }, { on := 33, ground := Ground.phase }, { on := 34, ground := Ground.phase }, { on := 35, ground := Ground.phase }, { on := 36, ground := Ground.phase }, { on := 37, ground := Ground.phase }], guard := none }) (v := ?_) rfl (by kernel_rfl) (by kernel_rfl) (by kernel_rfl) (fun _ _ _ h => h) (Or.inl ⟨by rfl, ?_⟩) (by assumption) ?_
    rotate_left
    · (intro w hSw; (try dsimp only at hSw); go_simp; try (with_reducible rfl))
    try simp only [Act.put, List.setIfInBounds_toArray, List.set_cons_zero, List.set_cons_succ]
    refine wpAnyH_done (by kernel_rfl) ?_ _
    refine NoPanic.normal ?_
    go_wp2
    go_ret
    exact ⟨rfl, MM.then m8⟩
end Go.Proofs.Ythgoedifkabadaa
