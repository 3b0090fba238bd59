/-
  What ValueTells does: for any values, drawn values and bytes it returns true, and writes nothing that was there.
-/
import Derived.Test.YthgoedifkabadaaTwo3
import Derived.Test.YthgoedifkabadaaPar3
import Derived.Deep.RegionWith
namespace Go.Proofs.Ythgoedifkabadaa
open Go.RowKit

theorem two_b (W w : World) (va vb : Value) (A B : Vm) (ha : VIs W va A) (hb : VIs W vb B) (m : Moves [] W w) (hl : A.bs.length ≤ 20) :
    Calls Try.prog 8 #[va, vb] w fun e w' => e = .returned (.bool true) ∧ Moves [] W w' :=
  (two_w va vb A B w (ha.moves m) (hb.moves m) (by omega)).mono fun e w' h => ⟨h.1, m.then h.2⟩
theorem writes_b (W w : World) (va : Value) (A : Vm) (ha : VIs W va A) (m : Moves [] W w) (hl : A.bs.length ≤ 20) :
    Calls Try.prog 11 #[va] w fun e w' => e = .returned (.bool true) ∧ Moves [] W w' :=
  (writes_w va A w (ha.moves m) (by omega)).mono fun e w' h => ⟨h.1, m.then h.2⟩

/-- What a piece of code leaves, told by what it left in its slots: the rest is walked once. -/
theorem wp_mid {P : Program} {c : Code} {Q : Exit → Act → World → Prop} {a0 : Act} {w0 : World} (T : Type) (tm : T → Array Value → Array Value) (H : T → World → Prop)
    (h1 : c.wp P (fun e a w => e = .normal ∧ ∃ t, a = { tmps := tm t a0.tmps, defers := a0.defers } ∧ H t w) a0 w0) (h2 : ∀ t w, H t w → Q .normal { tmps := tm t a0.tmps, defers := a0.defers } w) : c.wp P Q a0 w0 :=
  Code.wp_mono (fun e a w ⟨he, t, ha, hH⟩ => by subst he ha; exact h2 t w hH) h1

/-- Four boxes that a call laid. -/
theorem boxes4 {w : World} {A B C D : Array Value} {s t u v : TypeId} {W : World} (hW : ((((w.alloc (.cells A s)).alloc (.cells B t)).alloc (.cells C u)).alloc (.cells D v)) = W) :
    W.heap[w.heap.size]? = some (.cells A s (0, 0)) ∧ W.heap[w.heap.size + 1]? = some (.cells B t (0, 0)) ∧ W.heap[w.heap.size + 1 + 1]? = some (.cells C u (0, 0)) ∧ W.heap[w.heap.size + 1 + 1 + 1]? = some (.cells D v (0, 0)) ∧ Moves [] w W := by
  subst hW
  obtain ⟨h1, h2, h3, h4⟩ := boxes3 ((Moves.refl [] (((w.alloc (.cells A s)).alloc (.cells B t)).alloc (.cells C u))).alloc (.cells D v))
  refine ⟨h1, h2, h3, ?_, h4⟩
  have e := heap_alloc_new (((w.alloc (.cells A s)).alloc (.cells B t)).alloc (.cells C u)) (.cells D v)
  have e2 : (((w.alloc (.cells A s)).alloc (.cells B t)).alloc (.cells C u)).heap.size = w.heap.size + 1 + 1 + 1 := by simp
  rw [e2] at e
  exact e

set_option maxRecDepth 100000 in
set_option maxHeartbeats 16000000 in
theorem vtells_w (va vb u0 u1 zv : Value) (w : World) (A : Vm) (hA : VIs w va A) (B : Vm) (hB : VIs w vb B) (k0 : KArg w u0) (k1 : KArg w u1) (gz : Nat) (zs : List Nat) (hz : IsB w gz zv zs) (oz : ∀ z ∈ zs, z < 256) :
    Calls Try.prog 4 #[va, vb, u0, u1, zv] w fun e w' => e = .returned (.bool true) ∧ Moves [] w w' := by
  have iA := hA.isIn
  have iB := hB.isIn
  obtain ⟨adA, lenA, capA, ebA, rfl⟩ := hA.open
  obtain ⟨adB, lenB, capB, ebB, rfl⟩ := hB.open
  have bA := iA.isB
  have bB := iB.isB
  rw [ebA] at bA
  rw [ebB] at bB
  obtain ⟨t0, n0, x0, ad0, len0, cap0, _, _, rfl, _⟩ := k0.out
  obtain ⟨t1, n1, x1, ad1, len1, cap1, _, _, rfl, _⟩ := k1.out
  obtain ⟨adz, lenz, capz, rfl, _⟩ := id hz
  have ozs : ∀ z ∈ zs.take 30, z < 256 := fun z h => oz z (List.mem_of_mem_take h)
  have lzs : (zs.take 30).length ≤ 1099511627776 := by rw [List.length_take]; omega
  clear hA hB ebA ebB oz
  obtain ⟨pa, pb, pc, pd, m0⟩ := boxes4 (rfl : ((((w.alloc (.cells #[.int .i64 A.kind, .slice adA lenA capA, .float .f64 A.n] 28)).alloc (.cells #[.int .i64 B.kind, .slice adB lenB capB, .float .f64 B.n] 28)).alloc (.cells #[.bool t0, .int .i64 n0, .float .f64 x0, .slice ad0 len0 cap0] 34)).alloc (.cells #[.bool t1, .int .i64 n1, .float .f64 x1, .slice ad1 len1 cap1] 34)) = ((((w.alloc (.cells #[.int .i64 A.kind, .slice adA lenA capA, .float .f64 A.n] 28)).alloc (.cells #[.int .i64 B.kind, .slice adB lenB capB, .float .f64 B.n] 28)).alloc (.cells #[.bool t0, .int .i64 n0, .float .f64 x0, .slice ad0 len0 cap0] 34)).alloc (.cells #[.bool t1, .int .i64 n1, .float .f64 x1, .slice ad1 len1 cap1] 34)))
  obtain ⟨a0, a1, a2, fa0, fa1, fa2⟩ := three_cells pa
  obtain ⟨b0, b1, b2, fb0, fb1, fb2⟩ := three_cells pb
  go_enter Try.func4, Try.ntmps4
  go_wp2_with fail
  generalize ((((w.alloc (.cells #[.int .i64 A.kind, .slice adA lenA capA, .float .f64 A.n] 28)).alloc (.cells #[.int .i64 B.kind, .slice adB lenB capB, .float .f64 B.n] 28)).alloc (.cells #[.bool t0, .int .i64 n0, .float .f64 x0, .slice ad0 len0 cap0] 34)).alloc (.cells #[.bool t1, .int .i64 n1, .float .f64 x1, .slice ad1 len1 cap1] 34)) = W1 at *
  refine wp_mid ((Option Addr × Nat × Nat) × (Option Addr × Nat × Nat)) (fun t T => (((((((T.setIfInBounds 13 (.pointer (some ⟨w.heap.size, 1, none⟩))).setIfInBounds 14 (.slice adA lenA capA)).setIfInBounds 15 (.slice t.1.1 t.1.2.1 t.1.2.2)).setIfInBounds 16 (.pointer (some ⟨w.heap.size + 1, 1, none⟩))).setIfInBounds 17 (.slice adB lenB capB)).setIfInBounds 18 (.slice t.2.1 t.2.2.1 t.2.2.2)).setIfInBounds 19 (.pointer (some ⟨w.heap.size, 1, none⟩))).setIfInBounds 20 (.pointer (some ⟨w.heap.size + 1, 1, none⟩)))
    (fun t W => IsB w A.g (.slice t.1.1 t.1.2.1 t.1.2.2) (A.bs.take 20) ∧ IsB w B.g (.slice t.2.1 t.2.2.1 t.2.2.2) (B.bs.take 20) ∧ W.heap[w.heap.size]? = some (.cells #[.int .i64 A.kind, .slice t.1.1 t.1.2.1 t.1.2.2, .float .f64 A.n] 28 (0, 0)) ∧ W.heap[w.heap.size + 1]? = some (.cells #[.int .i64 B.kind, .slice t.2.1 t.2.2.1 t.2.2.2, .float .f64 B.n] 28 (0, 0)) ∧ Moves [w.heap.size, w.heap.size + 1] W1 W) ?_ ?_
  · refine wp_region_noPanic ?_
    go_region_with (first | (go_at_call_of 13 (Value.slice adA lenA capA); refine (cutAt_w w _ A.g A.bs 20 _ rfl _ bA).mono ?_; rintro _ _ ⟨vS, rfl, hS, rfl⟩; obtain ⟨adS, lenS, capS, rfl, _⟩ := id hS) | (go_at_call 13; refine (cutAt_w w _ B.g B.bs 20 _ rfl _ bB).mono ?_; rintro _ _ ⟨vT, rfl, hT, rfl⟩; obtain ⟨adT, lenT, capT, rfl, _⟩ := id hT))
    all_goals (refine NoPanic.normal ⟨rfl, ((adS, lenS, capS), (adT, lenT, capT)), ?_, hS, hT, ?_, ?_, ?_⟩)
    all_goals first
      | (simp only [List.setIfInBounds_toArray, List.set_cons_zero, List.set_cons_succ]; done)
      | exact (moves_set _ (w.heap.size + 1) 1 _).at (heap_set (i := 1) pa (.slice adS lenS capS)) (by simp)
      | exact heap_set (i := 1) ((moves_set _ w.heap.size 1 _).at pb (by simp)) (.slice adT lenT capT)
      | exact (((moves_set _ _ _ _).mono (by simp)).then ((moves_set _ _ _ _).mono (by simp))).drew
  · rintro ⟨⟨adS, lenS, capS⟩, ⟨adT, lenT, capT⟩⟩ W2 ⟨hS, hT, pa, pb, m2⟩
    simp only at hS hT pa pb
    simp only [List.setIfInBounds_toArray, List.set_cons_zero, List.set_cons_succ]
    have M2 : Moves [] w W2 := m0.trans m2 (fun x hx => .inr (by simp at hx; omega))
    replace pc := m2.at pc (by simp; omega)
    replace pd := m2.at pd (by simp; omega)
    replace k0 := k0.moves M2
    replace k1 := k1.moves M2
    have vA : VIs W2 (.agg #[.int .i64 A.kind, .slice adS lenS capS, .float .f64 A.n]) ⟨A.kind, .slice adS lenS capS, A.g, A.bs.take 20, A.n⟩ := ⟨rfl, ⟨hS.moves M2 (by simp), iA.fits, fun z h => iA.oct z (List.mem_of_mem_take h)⟩⟩
    have vB : VIs W2 (.agg #[.int .i64 B.kind, .slice adT lenT capT, .float .f64 B.n]) ⟨B.kind, .slice adT lenT capT, B.g, B.bs.take 20, B.n⟩ := ⟨rfl, ⟨hT.moves M2 (by simp), iB.fits, fun z h => iB.oct z (List.mem_of_mem_take h)⟩⟩
    clear hS hT m2 m0 a0 a1 a2 b0 b1 b2 fa0 fa1 fa2 fb0 fb1 fb2 bA bB
    obtain ⟨A2, hA2⟩ : ∃ X : Vm, X = ⟨A.kind, .slice adS lenS capS, A.g, A.bs.take 20, A.n⟩ := ⟨_, rfl⟩
    obtain ⟨B2, hB2⟩ : ∃ X : Vm, X = ⟨B.kind, .slice adT lenT capT, B.g, B.bs.take 20, B.n⟩ := ⟨_, rfl⟩
    have lA : A2.bs.length ≤ 20 := by rw [hA2]; simp; omega
    have lB : B2.bs.length ≤ 20 := by rw [hB2]; simp; omega
    rw [← hA2] at vA
    rw [← hB2] at vB
    clear hA2 hB2
    go_wp2_with fail
    refine par2_wp (by kernel_rfl) (F := fun _ => 14) (S := fun j => 7 + j) (L := fun j => 21 + 2 * j) (C := fun j => 22 + 2 * j) (D := fun j => 11 + j) (tv := 34) (T := 28) (Z := #[.int .i64 0, .slice none 0 0, .float .f64 0]) (B := fun j => w.heap.size + 1 + 1 + j)
      (scs := fun j => match j with | 0 => #[.bool t0, .int .i64 n0, .float .f64 x0, .slice ad0 len0 cap0] | _ => #[.bool t1, .int .i64 n1, .float .f64 x1, .slice ad1 len1 cap1]) (R := fun _ => Drew W2) (W := W2) ?_ (Moves.refl _ _) ?_
    · refine ⟨rfl, by kernel_rfl, by kernel_rfl, ?_, ?_, ?_, ?_, ?_, ?_, ?_, ?_, ?_, ⟨_, Try.underlying34⟩, fun _ _ _ _ => rfl, fun _ => rfl, by kernel_rfl, ?_⟩
      · intro j hj; simp; omega
      · intro j k hj hk; omega
      · intro j k hj hk hne; omega
      · intro j k hj hk; omega
      · intro j hj; match j, hj with | 0, _ => exact ⟨_, rfl, rfl, rfl, rfl⟩ | 1, _ => exact ⟨_, rfl, rfl, rfl, rfl⟩
      · intro j hj; match j, hj with | 0, _ => exact ⟨_, _, rfl, rfl, rfl, rfl⟩ | 1, _ => exact ⟨_, _, rfl, rfl, rfl, rfl⟩
      · intro j hj; match j, hj with | 0, _ => exact ⟨_, rfl, rfl, rfl, rfl⟩ | 1, _ => exact ⟨_, rfl, rfl, rfl, rfl⟩
      · intro j hj; match j, hj with | 0, _ => exact ⟨_, rfl, rfl, rfl, rfl⟩ | 1, _ => exact ⟨_, rfl, rfl, rfl, rfl⟩
      · intro j hj; match j, hj with | 0, _ => exact ⟨rfl, pc, by kernel_rfl⟩ | 1, _ => exact ⟨rfl, pd, by kernel_rfl⟩
      · intro j hj w' _; match j, hj with | 0, _ => exact drew_b W2 w' _ k0 | 1, _ => exact drew_b W2 w' _ k1
    clear k0 k1 pc pd
    rintro l0 c0 l1 c1 qp qq cs0 cs1 w3 m3 ⟨P, adP, lenP, capP, rfl, vP, yP⟩ z0 pp ⟨Q, adQ, lenQ, capQ, rfl, vQ, yQ⟩ z1 pq
    simp only [List.setIfInBounds_toArray, List.set_cons_zero, List.set_cons_succ]
    replace pa := m3.at pa (by simp)
    replace pb := m3.at pb (by simp)
    replace vA := vA.moves m3
    replace vB := vB.moves m3
    replace vP := vP.moves m3
    replace vQ := vQ.moves m3
    have M3 := M2.then m3
    have lP : P.bs.length ≤ 20 := by have := yP.small; omega
    obtain ⟨EP, hEP⟩ : ∃ E, [] ++ venc P = E := ⟨_, rfl⟩
    have HEP : Hid ([] ++ venc P = EP) := hEP
    have lEP : EP.length ≤ 1099511627776 := by rw [← hEP, List.nil_append]; have := venc_length P; omega
    have oEP : ∀ z ∈ EP, z < 256 := by rw [← hEP, List.nil_append]; exact venc_oct vP.isIn.oct
    have hz0 : ([] : List Nat).length + 2000010 ≤ 1099511627776 := by rw [List.length_nil]; omega
    obtain ⟨a0, a1, a2, _, _, _⟩ := three_cells pa
    obtain ⟨b0, b1, b2, _, _, _⟩ := three_cells pb
    obtain ⟨p0, p1, p2, _, _, _⟩ := three_cells pp
    obtain ⟨q0, q1, q2, _, _, _⟩ := three_cells pq
    have Da0 := a0
    have Da1 := a1
    have Da2 := a2
    have Db0 := b0
    have Db1 := b1
    have Db2 := b2
    have Dp0 := p0
    have Dp1 := p1
    have Dp2 := p2
    have Dq0 := q0
    have Dq1 := q1
    have Dq2 := q2
    have m8 := Moves.refl [] w3
    clear hEP z0 z1 m3 M2 pa pb pp pq iA iB yP yQ
    go_wp2_with (first | (go_at_call 8; refine (two_b w3 _ _ _ _ _ (by assumption) (by assumption) (by with_reducible assumption) (by assumption)).mono ?_; rintro _ w8 ⟨rfl, m8⟩; have ea0 := m8.cell Da0; have ea1 := m8.cell Da1; have ea2 := m8.cell Da2; have eb0 := m8.cell Db0; have eb1 := m8.cell Db1; have eb2 := m8.cell Db2; have ep0 := m8.cell Dp0; have ep1 := m8.cell Dp1; have ep2 := m8.cell Dp2; have eq0 := m8.cell Dq0; have eq1 := m8.cell Dq1; have eq2 := m8.cell Dq2; clear a0 a1 a2 b0 b1 b2 p0 p1 p2 q0 q1 q2; have a0 := ea0; have a1 := ea1; have a2 := ea2; have b0 := eb0; have b1 := eb1; have b2 := eb2; have p0 := ep0; have p1 := ep1; have p2 := ep2; have q0 := eq0; have q1 := eq1; have q2 := eq2; clear ea0 ea1 ea2 eb0 eb1 eb2 ep0 ep1 ep2 eq0 eq1 eq2) | (go_at_call 11; refine (writes_b w3 _ _ _ (by assumption) (by with_reducible assumption) (by assumption)).mono ?_; rintro _ w8 ⟨rfl, m8⟩; have ea0 := m8.cell Da0; have ea1 := m8.cell Da1; have ea2 := m8.cell Da2; have eb0 := m8.cell Db0; have eb1 := m8.cell Db1; have eb2 := m8.cell Db2; have ep0 := m8.cell Dp0; have ep1 := m8.cell Dp1; have ep2 := m8.cell Dp2; have eq0 := m8.cell Dq0; have eq1 := m8.cell Dq1; have eq2 := m8.cell Dq2; clear a0 a1 a2 b0 b1 b2 p0 p1 p2 q0 q1 q2; have a0 := ea0; have a1 := ea1; have a2 := ea2; have b0 := eb0; have b1 := eb1; have b2 := eb2; have p0 := ep0; have p1 := ep1; have p2 := ep2; have q0 := eq0; have q1 := eq1; have q2 := eq2; clear ea0 ea1 ea2 eb0 eb1 eb2 ep0 ep1 ep2 eq0 eq1 eq2) | (go_at_call 13; refine (cutAt_w w _ gz zs 30 _ rfl _ hz).mono ?_; rintro _ _ ⟨vz, rfl, hvz, rfl⟩) | (go_at_call 10; have zz := ho9; refine (reads_w _ _ EP _ ho9.isB oEP lEP).mono ?_; rintro _ w10 ⟨rfl, m10⟩; have m8 := m9.then m10; have ea0 := m8.cell Da0; have ea1 := m8.cell Da1; have ea2 := m8.cell Da2; have eb0 := m8.cell Db0; have eb1 := m8.cell Db1; have eb2 := m8.cell Db2; have ep0 := m8.cell Dp0; have ep1 := m8.cell Dp1; have ep2 := m8.cell Dp2; have eq0 := m8.cell Dq0; have eq1 := m8.cell Dq1; have eq2 := m8.cell Dq2; clear a0 a1 a2 b0 b1 b2 p0 p1 p2 q0 q1 q2; have a0 := ea0; have a1 := ea1; have a2 := ea2; have b0 := eb0; have b1 := eb1; have b2 := eb2; have p0 := ep0; have p1 := ep1; have p2 := ep2; have q0 := eq0; have q1 := eq1; have q2 := eq2; clear ea0 ea1 ea2 eb0 eb1 eb2 ep0 ep1 ep2 eq0 eq1 eq2) | (go_at_call 10; refine (reads_w _ gz (zs.take 30) _ (hvz.moves (M3.then m8) (by simp)) ozs lzs).mono ?_; rintro _ w11 ⟨rfl, m11⟩; have m8 := m8.then m11; have ea0 := m8.cell Da0; have ea1 := m8.cell Da1; have ea2 := m8.cell Da2; have eb0 := m8.cell Db0; have eb1 := m8.cell Db1; have eb2 := m8.cell Db2; have ep0 := m8.cell Dp0; have ep1 := m8.cell Dp1; have ep2 := m8.cell Dp2; have eq0 := m8.cell Dq0; have eq1 := m8.cell Dq1; have eq2 := m8.cell Dq2; clear a0 a1 a2 b0 b1 b2 p0 p1 p2 q0 q1 q2; have a0 := ea0; have a1 := ea1; have a2 := ea2; have b0 := eb0; have b1 := eb1; have b2 := eb2; have p0 := ep0; have p1 := ep1; have p2 := ep2; have q0 := eq0; have q1 := eq1; have q2 := eq2; clear ea0 ea1 ea2 eb0 eb1 eb2 ep0 ep1 ep2 eq0 eq1 eq2) | (go_at_call 9; refine (rPut_v _ 0 [] EP _ P _ vP.val (isB_nil _ _) (vP.isIn.moves m8 (by simp)) hz0 (by omega) HEP.out).mono ?_; rintro _ w9 ⟨v9, rfl, ho9, m9', f9⟩; have m9 := m8.then m9'; have ea0 := m9.cell Da0; have ea1 := m9.cell Da1; have ea2 := m9.cell Da2; have eb0 := m9.cell Db0; have eb1 := m9.cell Db1; have eb2 := m9.cell Db2; have ep0 := m9.cell Dp0; have ep1 := m9.cell Dp1; have ep2 := m9.cell Dp2; have eq0 := m9.cell Dq0; have eq1 := m9.cell Dq1; have eq2 := m9.cell Dq2; clear a0 a1 a2 b0 b1 b2 p0 p1 p2 q0 q1 q2; have a0 := ea0; have a1 := ea1; have a2 := ea2; have b0 := eb0; have b1 := eb1; have b2 := eb2; have p0 := ep0; have p1 := ep1; have p2 := ep2; have q0 := eq0; have q1 := eq1; have q2 := eq2; clear ea0 ea1 ea2 eb0 eb1 eb2 ep0 ep1 ep2 eq0 eq1 eq2) | (go_at_call 12; refine (vknown_w _).mono ?_; rintro _ w12 ⟨rfl, m12⟩; have m8 := m8.then m12; have ea0 := m8.cell Da0; have ea1 := m8.cell Da1; have ea2 := m8.cell Da2; have eb0 := m8.cell Db0; have eb1 := m8.cell Db1; have eb2 := m8.cell Db2; have ep0 := m8.cell Dp0; have ep1 := m8.cell Dp1; have ep2 := m8.cell Dp2; have eq0 := m8.cell Dq0; have eq1 := m8.cell Dq1; have eq2 := m8.cell Dq2; clear a0 a1 a2 b0 b1 b2 p0 p1 p2 q0 q1 q2; have a0 := ea0; have a1 := ea1; have a2 := ea2; have b0 := eb0; have b1 := eb1; have b2 := eb2; have p0 := ep0; have p1 := ep1; have p2 := ep2; have q0 := eq0; have q1 := eq1; have q2 := eq2; clear ea0 ea1 ea2 eb0 eb1 eb2 ep0 ep1 ep2 eq0 eq1 eq2))
    go_ret
    exact ⟨rfl, M3.then m8⟩
end Go.Proofs.Ythgoedifkabadaa
