/-
  OnceJoins: joined, each client has the greater number, and its answer; both stay as they were; the other way round it is the same, but where numbers are the same. No condition.
-/
import Derived.Test.YtoijkdknjbgebaaCOnJ
import Derived.Test.YtoijkdknjbgebaaRows
import Derived.ProofKit
import Derived.OpenShut
import Derived.ChangeOld
namespace Go.Proofs.Ytoijkdknjbgebaa
open Go.RowKit

theorem OArgs.moves {W w : World} {v : Value} (h : OArgs W v) (m : Moves [] W w) : OArgs w v := by
  obtain ⟨ad, len, cap, rfl, hc, ha⟩ := h
  refine ⟨ad, len, cap, rfl, hc, fun k hk => ?_⟩
  obtain ⟨b, off, z0, z1, z2, a3, l3, c3, g, bs, e, y0, y1, y2, y3, hB, ho⟩ := ha k hk
  exact ⟨b, off, z0, z1, z2, a3, l3, c3, g, bs, e, m.cell y0, m.cell y1, m.cell y2, m.cell y3, hB.moves m (by simp), ho⟩

set_option maxRecDepth 100000 in
set_option maxHeartbeats 16000000 in
theorem onceJoins_w (lv kv : Value) (w : World) (hl : OArgs w lv) (hk : OArgs w kv) : Calls Try.prog 5 #[lv, kv] w fun e w' => e = .returned (.bool true) ∧ Moves [] w w' := by
  have hp := play9_w lv w w hl (Moves.refl _ _)
  have HK : Hid (OArgs w kv) := hk
  obtain ⟨ad, len, cap, rfl, -, -⟩ := hl
  obtain ⟨ad2, len2, cap2, rfl, -, -⟩ := hk
  go_enter Try.func5, Try.ntmps5
  go_wp2_with fail
  refine hp.mono ?_
  rintro _ w1 ⟨xv, rfl, a, xs, xm, h1⟩
  obtain ⟨ax, nx, cx, rfl, hnx, -⟩ := h1.ents.open
  have hq := play9_w _ w w1 HK.out h1.mv
  clear hp
  go_wp2_with fail
  refine hq.mono ?_
  rintro _ w2 ⟨yv, rfl, b, ys, ym, h2⟩
  obtain ⟨ay, ny, cy, rfl, hny, -⟩ := h2.ents.open
  clear hq
  obtain ⟨P, hP⟩ : ∃ P, w.heap.size = P := ⟨_, rfl⟩
  obtain ⟨Q, hQ⟩ : ∃ Q, w1.heap.size = Q := ⟨_, rfl⟩
  rw [hP] at h1 ⊢
  rw [hQ] at h2 ⊢
  have m2 := h2.mv
  have M2 := h1.mv.then m2
  have H1 : Hid (PlayIs w w w2 P a xs (.slice ax nx cx) xm 50) := h1.moves m2
  have H2 : Hid (PlayIs w w w2 Q b ys (.slice ay ny cy) ym 50) := ⟨h2.ca.elder h1.mv.size, h2.ag, h2.ents, h2.few, M2, h2.may⟩
  have sP := h1.mv.size
  clear h1 h2
  have px := MayT.pos H1.out.may
  have py := MayT.pos H2.out.may
  have hfew : xs.length + ys.length ≤ 900 := by have := H1.out.few; have := H2.out.few; omega
  have hfew' : ys.length + xs.length ≤ 900 := by omega
  have HJ := ojoin_w w w2 _ _ xs ys (.inr ⟨P, a, rfl, H1.out.ca⟩) (.inr ⟨Q, b, rfl, H2.out.ca⟩) px py hfew
  go_wp2_with fail
  refine HJ.mono ?_
  rintro _ w3 ⟨rfl, ⟨aj, hj⟩, m3⟩
  clear HJ
  have HJ2 := ojoin_w w w3 _ _ ys xs (.inr ⟨Q, b, rfl, H2.out.ca.moves0 m3⟩) (.inr ⟨P, a, rfl, H1.out.ca.moves0 m3⟩) py px hfew'
  obtain ⟨J, hJ⟩ : ∃ J, w2.heap.size = J := ⟨_, rfl⟩
  rw [hJ] at hj ⊢
  go_wp2_with fail
  refine HJ2.mono ?_
  rintro _ w4 ⟨rfl, ⟨ar, hr⟩, m4⟩
  clear HJ2
  obtain ⟨R, hR⟩ : ∃ R, w3.heap.size = R := ⟨_, rfl⟩
  rw [hR] at hr ⊢
  obtain ⟨kA, kR, kL, kM, kS⟩ := joined H1.out.ag H2.out.ag H1.out.may H2.out.may
  obtain ⟨JL, hJL⟩ : ∃ JL, ys.foldl keepT (xs.foldl keepT []) = JL := ⟨_, rfl⟩
  obtain ⟨RL, hRL⟩ : ∃ RL, xs.foldl keepT (ys.foldl keepT []) = RL := ⟨_, rfl⟩
  have hJfew : JL.length ≤ 1000 := by
    have q1 := foldl_few ys (xs.foldl keepT [])
    have q2 := foldl_few xs []
    rw [hJL] at q1
    simp at q2
    omega
  rw [hJL] at hj kA
  rw [hRL] at hr kR kL kS
  have HRJ := reJoin_w w4 _ _ xm ym ((H1.out.ents.moves m3).moves m4) ((H2.out.ents.moves m3).moves m4) H1.out.ag.one H1.out.small H2.out.small (by have := H1.out.ag.len; have := H2.out.ag.len; omega)
  obtain ⟨ML, hML⟩ : ∃ ML, ym.foldl keepEO xm = ML := ⟨_, rfl⟩
  rw [hML] at HRJ kA kL kM kS
  clear hJL hRL hML px py hfew hfew'
  go_wp2_with fail
  refine HRJ.mono ?_
  rintro _ w5 ⟨mv, rfl, hE5, m5⟩
  clear HRJ
  obtain ⟨am, nm, cm, rfl, hnm, -⟩ := hE5.open
  have HJ5 : Hid (CaIs w2 w5 J aj JL) := (hj.moves0 m4).moves0 m5
  have HR5 : Hid (CaIs w3 w5 R ar RL) := hr.moves0 m5
  have HE5 : Hid (EntsAt w5 (.slice am nm cm) ML) := hE5
  have HKA : Hid (Agree JL ML) := kA
  have HKR : Hid (RiseT RL) := kR
  have hln : nm ≤ 1000 := by have := kA.len; have := hnm.out; omega
  have eJ : (JL.length : Int) = (nm : Int) := by have := kA.len; have := hnm.out; omega
  have eR : (RL.length : Int) = (nm : Int) := by have := hnm.out; omega
  have HSM : Hid (∀ x ∈ ML, x.a.size ≤ 1048576) := fun x hx => by have := (kM x hx).2.2.2.2; omega
  have HKS : Hid (∀ x ∈ ML, lookT (ofT RL x.c) x.s = 2) := kS
  have hRfew : RL.length ≤ 1000 := by omega
  have M5 := ((M2.then m3).then m4).then m5
  have H15 : Hid (PlayIs w w w5 P a xs (.slice ax nx cx) xm 50) := H1.out.moves ((m3.then m4).then m5)
  have H25 : Hid (PlayIs w w w5 Q b ys (.slice ay ny cy) ym 50) := H2.out.moves ((m3.then m4).then m5)
  clear hj hr hE5 kA kR kL kM kS H1 H2
  go_wp2_with fail
  refine (olen_w w2 w5 J aj JL HJ5.out).mono ?_
  rintro _ _ ⟨rfl, rfl⟩
  rw [eJ]
  go_wp2_with fail
  refine (olen_w w3 _ R ar RL HR5.out).mono ?_
  rintro _ _ ⟨rfl, rfl⟩
  rw [eR]
  go_wp2_with fail
  go_loopw [14] (fun iv wr => ∃ k : Nat, k ≤ nm ∧ iv = .int .i64 (k : Int) ∧ Moves [] w5 wr) (fun iv _ => (nm - intOf iv).toNat)
  case atStart => exact ⟨0, Nat.zero_le _, rfl, Moves.refl _ _⟩
  case round =>
    obtain ⟨k, hk, rfl, mr⟩ := hrel
    by_cases hkn : k < nm
    · have hkn' : (k : Int) < (nm : Int) := by omega
      obtain ⟨x, hx⟩ : ∃ x, ML[k]? = some x := ⟨_, List.getElem?_eq_getElem (by have := hnm.out; omega)⟩
      obtain ⟨g, off, a2, n2, c2, rfl, y0, y1, -, -⟩ := (HE5.out.moves mr).at hx
      have h2' := HKS.out x (List.mem_of_getElem? hx)
      have hlook := fun w' (m' : Moves [] wr w') => olook_w w3 w' R ar RL x.c x.s (HR5.out.moves0 (mr.then m')) HKR.out (by omega)
      rw [h2'] at hlook
      have hlooks := fun w' (m' : Moves [] wr w') => looks_w w2 w' J aj JL ML _ x.c x.s (HJ5.out.moves0 (mr.then m')) HKA.out (HE5.out.moves (mr.then m')) (by omega) HSM.out
      clear h2' hx
      go_wp2_with fail
      refine wp_region_noPanic ?_
      refine wp_region_held_drew (S := (fun w' => w'.cell? ⟨g, off + k * 3, none⟩ = some (.int .i64 x.c) ∧ w'.cell? ⟨g, off + k * 3 + 1, none⟩ = some (.int .i64 x.s))) (by kernel_rfl) ?_ (fun hHeld => ?_)
      · first | (go_keep; done) | first | exact ⟨y0, y1⟩ | exact ⟨d0, d1⟩ | exact ⟨f0, f1⟩
      refine wpAnyH_take (i := 0) (oi := { dst := some 72, op := Op.move (Operand.tmp 12), type := 22, pos := "law.go:110", after := #[], guard := none }) (v := ?_) rfl (by kernel_rfl) (by kernel_rfl) (by kernel_rfl) (fun _ _ _ h => h) (Or.inl ⟨by rfl, ?_⟩) (by assumption) ?_
      rotate_left
      · (intro w hSw; (try dsimp only at hSw); go_simp; try (with_reducible rfl))
      try simp only [Act.put, List.setIfInBounds_toArray, List.set_cons_zero, List.set_cons_succ]
      refine wpAnyH_take (i := 1) (oi := { dst := some 73, op := Op.move (Operand.tmp 13), type := 25, pos := "law.go:110", after := #[], guard := none }) (v := ?_) rfl (by kernel_rfl) (by kernel_rfl) (by kernel_rfl) (fun _ _ _ h => h) (Or.inl ⟨by rfl, ?_⟩) (by assumption) ?_
      rotate_left
      · (intro w hSw; (try dsimp only at hSw); go_simp; try (with_reducible rfl))
      try simp only [Act.put, List.setIfInBounds_toArray, List.set_cons_zero, List.set_cons_succ]
      refine wpAnyH_take (i := 2) (oi := { dst := some 74, op := Op.move (Operand.tmp 14), type := 3, pos := "law.go:110", after := #[], guard := none }) (v := ?_) rfl (by kernel_rfl) (by kernel_rfl) (by kernel_rfl) (fun _ _ _ h => h) (Or.inl ⟨by rfl, ?_⟩) (by assumption) ?_
      rotate_left
      · (intro w hSw; (try dsimp only at hSw); go_simp; try (with_reducible rfl))
      try simp only [Act.put, List.setIfInBounds_toArray, List.set_cons_zero, List.set_cons_succ]
      refine wpAnyH_take (i := 3) (oi := { dst := some 75, op := Op.indexAddr 25 (Operand.tmp 73) (Operand.tmp 74), type := 0, pos := "law.go:110", after := #[{ on := 1, ground := Ground.data }, { on := 2, ground := Ground.data }], guard := none }) (v := ?_) rfl (by kernel_rfl) (by kernel_rfl) (by kernel_rfl) (fun _ _ _ h => h) (Or.inl ⟨by rfl, ?_⟩) (by assumption) ?_
      rotate_left
      · (intro w hSw; (try dsimp only at hSw); go_simp; try (with_reducible rfl))
      try simp only [Act.put, List.setIfInBounds_toArray, List.set_cons_zero, List.set_cons_succ]
      refine wpAnyH_take (i := 4) (oi := { dst := some 76, op := Op.fieldAddr 50 (Operand.tmp 75) 0, type := 0, pos := "law.go:110", after := #[{ on := 3, ground := Ground.data }], guard := none }) (v := ?_) rfl (by kernel_rfl) (by kernel_rfl) (by kernel_rfl) (fun _ _ _ h => h) (Or.inl ⟨by rfl, ?_⟩) (by assumption) ?_
      rotate_left
      · (intro w hSw; (try dsimp only at hSw); go_simp; try (with_reducible rfl))
      try simp only [Act.put, List.setIfInBounds_toArray, List.set_cons_zero, List.set_cons_succ]
      refine wpAnyH_take (i := 5) (oi := { dst := some 77, op := Op.load 3 (Operand.tmp 76), type := 3, pos := "law.go:110", after := #[{ on := 4, ground := Ground.data }], guard := none }) (v := ?_) rfl (by kernel_rfl) (by kernel_rfl) (by kernel_rfl) (fun _ _ _ h => h) (Or.inl ⟨by rfl, ?_⟩) (by assumption) ?_
      rotate_left
      · (intro w hSw; (try dsimp only at hSw); go_simp; try (with_reducible rfl))
      try simp only [Act.put, List.setIfInBounds_toArray, List.set_cons_zero, List.set_cons_succ]
      refine wpAnyH_take (i := 6) (oi := { dst := some 78, op := Op.move (Operand.tmp 13), type := 25, pos := "law.go:110", after := #[], guard := none }) (v := ?_) rfl (by kernel_rfl) (by kernel_rfl) (by kernel_rfl) (fun _ _ _ h => h) (Or.inl ⟨by rfl, ?_⟩) (by assumption) ?_
      rotate_left
      · (intro w hSw; (try dsimp only at hSw); go_simp; try (with_reducible rfl))
      try simp only [Act.put, List.setIfInBounds_toArray, List.set_cons_zero, List.set_cons_succ]
      refine wpAnyH_take (i := 7) (oi := { dst := some 79, op := Op.move (Operand.tmp 14), type := 3, pos := "law.go:110", after := #[], guard := none }) (v := ?_) rfl (by kernel_rfl) (by kernel_rfl) (by kernel_rfl) (fun _ _ _ h => h) (Or.inl ⟨by rfl, ?_⟩) (by assumption) ?_
      rotate_left
      · (intro w hSw; (try dsimp only at hSw); go_simp; try (with_reducible rfl))
      try simp only [Act.put, List.setIfInBounds_toArray, List.set_cons_zero, List.set_cons_succ]
      refine wpAnyH_take (i := 8) (oi := { dst := some 80, op := Op.indexAddr 25 (Operand.tmp 78) (Operand.tmp 79), type := 0, pos := "law.go:110", after := #[{ on := 6, ground := Ground.data }, { on := 7, ground := Ground.data }], guard := none }) (v := ?_) rfl (by kernel_rfl) (by kernel_rfl) (by kernel_rfl) (fun _ _ _ h => h) (Or.inl ⟨by rfl, ?_⟩) (by assumption) ?_
      rotate_left
      · (intro w hSw; (try dsimp only at hSw); go_simp; try (with_reducible rfl))
      try simp only [Act.put, List.setIfInBounds_toArray, List.set_cons_zero, List.set_cons_succ]
      refine wpAnyH_take (i := 9) (oi := { dst := some 81, op := Op.fieldAddr 50 (Operand.tmp 80) 1, type := 0, pos := "law.go:110", after := #[{ on := 8, ground := Ground.data }], guard := none }) (v := ?_) rfl (by kernel_rfl) (by kernel_rfl) (by kernel_rfl) (fun _ _ _ h => h) (Or.inl ⟨by rfl, ?_⟩) (by assumption) ?_
      rotate_left
      · (intro w hSw; (try dsimp only at hSw); go_simp; try (with_reducible rfl))
      try simp only [Act.put, List.setIfInBounds_toArray, List.set_cons_zero, List.set_cons_succ]
      refine wpAnyH_take (i := 10) (oi := { dst := some 82, op := Op.load 3 (Operand.tmp 81), type := 3, pos := "law.go:110", after := #[{ on := 9, ground := Ground.data }], guard := none }) (v := ?_) rfl (by kernel_rfl) (by kernel_rfl) (by kernel_rfl) (fun _ _ _ h => h) (Or.inl ⟨by rfl, ?_⟩) (by assumption) ?_
      rotate_left
      · (intro w hSw; (try dsimp only at hSw); go_simp; try (with_reducible rfl))
      try simp only [Act.put, List.setIfInBounds_toArray, List.set_cons_zero, List.set_cons_succ]
      refine wpAnyH_ready (rs := [11]) (by kernel_rfl) (by simp) ?_
      refine AllReadyH.cons (o := { dst := some 83, op := Op.call { callee := Callee.value (Operand.func 24), args := #[Operand.tmp 72, Operand.tmp 77, Operand.tmp 82], argTypes := #[22, 3, 3] }, type := 47, pos := "law.go:110", after := #[{ on := 0, ground := Ground.data }, { on := 5, ground := Ground.data }, { on := 10, ground := Ground.data }], guard := none }) rfl (fun K hK => ?_) AllReadyH.nil
      go_simp
      (go_at_call 24; refine (hlook _ (Moves.refl [] wr).drew).mono ?_; rintro _ w6 ⟨v6, g6, rfl, -, m6, -⟩)
      have M6 : Moves [] wr w6 := (Moves.refl [] wr).drew.then m6
      have d0 := M6.cell y0
      have d1 := M6.cell y1
      refine hK.out _ _ ?_ (fun hHeld => ?_)
      · first | exact ⟨y0, y1⟩ | exact ⟨d0, d1⟩ | exact ⟨f0, f1⟩
      clear hK K
      try simp only [Act.put, List.setIfInBounds_toArray, List.set_cons_zero, List.set_cons_succ]
      refine wpAnyH_take (i := 12) (oi := { dst := some 71, op := Op.move (Operand.tmp 83), type := 47, pos := "law.go:110", after := #[{ on := 11, ground := Ground.data }], guard := none }) (v := ?_) rfl (by kernel_rfl) (by kernel_rfl) (by kernel_rfl) (fun _ _ _ h => h) (Or.inl ⟨by rfl, ?_⟩) (by assumption) ?_
      rotate_left
      · (intro w hSw; (try dsimp only at hSw); go_simp; try (with_reducible rfl))
      try simp only [Act.put, List.setIfInBounds_toArray, List.set_cons_zero, List.set_cons_succ]
      refine wpAnyH_take (i := 13) (oi := { dst := some 84, op := Op.extract (Operand.tmp 71) 0, type := 26, pos := "law.go:110", after := #[{ on := 12, ground := Ground.data }], guard := none }) (v := ?_) rfl (by kernel_rfl) (by kernel_rfl) (by kernel_rfl) (fun _ _ _ h => h) (Or.inl ⟨by rfl, ?_⟩) (by assumption) ?_
      rotate_left
      · (intro w hSw; (try dsimp only at hSw); go_simp; try (with_reducible rfl))
      try simp only [Act.put, List.setIfInBounds_toArray, List.set_cons_zero, List.set_cons_succ]
      refine wpAnyH_take (i := 14) (oi := { dst := some 85, op := Op.extract (Operand.tmp 71) 1, type := 3, pos := "law.go:110", after := #[{ on := 12, ground := Ground.data }, { on := 15, ground := Ground.gcOnly Departure.lateStores }], guard := none }) (v := ?_) rfl (by kernel_rfl) (by kernel_rfl) (by kernel_rfl) (fun _ _ _ h => h) (Or.inl ⟨by rfl, ?_⟩) (by assumption) ?_
      rotate_left
      · (intro w hSw; (try dsimp only at hSw); go_simp; try (with_reducible rfl))
      try simp only [Act.put, List.setIfInBounds_toArray, List.set_cons_zero, List.set_cons_succ]
      refine wpAnyH_take (i := 15) (oi := { dst := some 15, op := Op.assign (Operand.tmp 84), type := 26, pos := "law.go:110", after := #[{ on := 13, ground := Ground.data }, { on := 11, ground := Ground.chain }, { on := 0, ground := Ground.phase }, { on := 1, ground := Ground.phase }, { on := 2, ground := Ground.phase }, { on := 3, ground := Ground.phase }, { on := 4, ground := Ground.phase }, { on := 5, ground := Ground.phase }, { on := 6, ground := Ground.phase }, { on := 7, ground := Ground.phase }, { on := 8, ground := Ground.phase }, { on := 9, ground := Ground.phase }, { on := 10, ground := Ground.phase }, { on := 11, ground := Ground.phase }, { on := 12, ground := Ground.phase }, { on := 13, ground := Ground.phase }, { on := 14, ground := Ground.textOnly Departure.lateStores }], guard := none }) (v := ?_) rfl (by kernel_rfl) (by kernel_rfl) (by kernel_rfl) (fun _ _ _ h => h) (Or.inl ⟨by rfl, ?_⟩) (by assumption) ?_
      rotate_left
      · (intro w hSw; (try dsimp only at hSw); go_simp; try (with_reducible rfl))
      try simp only [Act.put, List.setIfInBounds_toArray, List.set_cons_zero, List.set_cons_succ]
      refine wpAnyH_take (i := 16) (oi := { dst := some 16, op := Op.assign (Operand.tmp 85), type := 3, pos := "law.go:110", after := #[{ on := 14, ground := Ground.data }, { on := 15, ground := Ground.chain }, { on := 0, ground := Ground.phase }, { on := 1, ground := Ground.phase }, { on := 2, ground := Ground.phase }, { on := 3, ground := Ground.phase }, { on := 4, ground := Ground.phase }, { on := 5, ground := Ground.phase }, { on := 6, ground := Ground.phase }, { on := 7, ground := Ground.phase }, { on := 8, ground := Ground.phase }, { on := 9, ground := Ground.phase }, { on := 10, ground := Ground.phase }, { on := 11, ground := Ground.phase }, { on := 12, ground := Ground.phase }, { on := 13, ground := Ground.phase }, { on := 14, ground := Ground.phase }, { on := 15, ground := Ground.phase }], guard := none }) (v := ?_) rfl (by kernel_rfl) (by kernel_rfl) (by kernel_rfl) (fun _ _ _ h => h) (Or.inl ⟨by rfl, ?_⟩) (by assumption) ?_
      rotate_left
      · (intro w hSw; (try dsimp only at hSw); go_simp; try (with_reducible rfl))
      try simp only [Act.put, List.setIfInBounds_toArray, List.set_cons_zero, List.set_cons_succ]
      refine wpAnyH_done (by kernel_rfl) ?_ _
      refine NoPanic.normal ?_
      go_wp2_with fail
      refine wp_region_noPanic ?_
      refine wp_region_held_drew (S := (fun w' => w'.cell? ⟨g, off + k * 3, none⟩ = some (.int .i64 x.c) ∧ w'.cell? ⟨g, off + k * 3 + 1, none⟩ = some (.int .i64 x.s))) (by kernel_rfl) ?_ (fun hHeld => ?_)
      · first | (go_keep; done) | first | exact ⟨y0, y1⟩ | exact ⟨d0, d1⟩ | exact ⟨f0, f1⟩
      refine wpAnyH_take (i := 0) (oi := { dst := some 86, op := Op.move (Operand.tmp 11), type := 22, pos := "law.go:111", after := #[], guard := none }) (v := ?_) rfl (by kernel_rfl) (by kernel_rfl) (by kernel_rfl) (fun _ _ _ h => h) (Or.inl ⟨by rfl, ?_⟩) (by assumption) ?_
      rotate_left
      · (intro w hSw; (try dsimp only at hSw); go_simp; try (with_reducible rfl))
      try simp only [Act.put, List.setIfInBounds_toArray, List.set_cons_zero, List.set_cons_succ]
      refine wpAnyH_take (i := 1) (oi := { dst := some 87, op := Op.move (Operand.tmp 13), type := 25, pos := "law.go:111", after := #[], guard := none }) (v := ?_) rfl (by kernel_rfl) (by kernel_rfl) (by kernel_rfl) (fun _ _ _ h => h) (Or.inl ⟨by rfl, ?_⟩) (by assumption) ?_
      rotate_left
      · (intro w hSw; (try dsimp only at hSw); go_simp; try (with_reducible rfl))
      try simp only [Act.put, List.setIfInBounds_toArray, List.set_cons_zero, List.set_cons_succ]
      refine wpAnyH_take (i := 2) (oi := { dst := some 88, op := Op.move (Operand.tmp 13), type := 25, pos := "law.go:111", after := #[], guard := none }) (v := ?_) rfl (by kernel_rfl) (by kernel_rfl) (by kernel_rfl) (fun _ _ _ h => h) (Or.inl ⟨by rfl, ?_⟩) (by assumption) ?_
      rotate_left
      · (intro w hSw; (try dsimp only at hSw); go_simp; try (with_reducible rfl))
      try simp only [Act.put, List.setIfInBounds_toArray, List.set_cons_zero, List.set_cons_succ]
      refine wpAnyH_take (i := 3) (oi := { dst := some 89, op := Op.move (Operand.tmp 14), type := 3, pos := "law.go:111", after := #[], guard := none }) (v := ?_) rfl (by kernel_rfl) (by kernel_rfl) (by kernel_rfl) (fun _ _ _ h => h) (Or.inl ⟨by rfl, ?_⟩) (by assumption) ?_
      rotate_left
      · (intro w hSw; (try dsimp only at hSw); go_simp; try (with_reducible rfl))
      try simp only [Act.put, List.setIfInBounds_toArray, List.set_cons_zero, List.set_cons_succ]
      refine wpAnyH_take (i := 4) (oi := { dst := some 90, op := Op.indexAddr 25 (Operand.tmp 88) (Operand.tmp 89), type := 0, pos := "law.go:111", after := #[{ on := 2, ground := Ground.data }, { on := 3, ground := Ground.data }], guard := none }) (v := ?_) rfl (by kernel_rfl) (by kernel_rfl) (by kernel_rfl) (fun _ _ _ h => h) (Or.inl ⟨by rfl, ?_⟩) (by assumption) ?_
      rotate_left
      · (intro w hSw; (try dsimp only at hSw); go_simp; try (with_reducible rfl))
      try simp only [Act.put, List.setIfInBounds_toArray, List.set_cons_zero, List.set_cons_succ]
      refine wpAnyH_take (i := 5) (oi := { dst := some 91, op := Op.fieldAddr 50 (Operand.tmp 90) 0, type := 0, pos := "law.go:111", after := #[{ on := 4, ground := Ground.data }], guard := none }) (v := ?_) rfl (by kernel_rfl) (by kernel_rfl) (by kernel_rfl) (fun _ _ _ h => h) (Or.inl ⟨by rfl, ?_⟩) (by assumption) ?_
      rotate_left
      · (intro w hSw; (try dsimp only at hSw); go_simp; try (with_reducible rfl))
      try simp only [Act.put, List.setIfInBounds_toArray, List.set_cons_zero, List.set_cons_succ]
      refine wpAnyH_take (i := 6) (oi := { dst := some 92, op := Op.load 3 (Operand.tmp 91), type := 3, pos := "law.go:111", after := #[{ on := 5, ground := Ground.data }], guard := none }) (v := ?_) rfl (by kernel_rfl) (by kernel_rfl) (by kernel_rfl) (fun _ _ _ h => h) (Or.inl ⟨by rfl, ?_⟩) (by assumption) ?_
      rotate_left
      · (intro w hSw; (try dsimp only at hSw); go_simp; try (with_reducible rfl))
      try simp only [Act.put, List.setIfInBounds_toArray, List.set_cons_zero, List.set_cons_succ]
      refine wpAnyH_take (i := 7) (oi := { dst := some 93, op := Op.move (Operand.tmp 13), type := 25, pos := "law.go:111", after := #[], guard := none }) (v := ?_) rfl (by kernel_rfl) (by kernel_rfl) (by kernel_rfl) (fun _ _ _ h => h) (Or.inl ⟨by rfl, ?_⟩) (by assumption) ?_
      rotate_left
      · (intro w hSw; (try dsimp only at hSw); go_simp; try (with_reducible rfl))
      try simp only [Act.put, List.setIfInBounds_toArray, List.set_cons_zero, List.set_cons_succ]
      refine wpAnyH_take (i := 8) (oi := { dst := some 94, op := Op.move (Operand.tmp 14), type := 3, pos := "law.go:111", after := #[], guard := none }) (v := ?_) rfl (by kernel_rfl) (by kernel_rfl) (by kernel_rfl) (fun _ _ _ h => h) (Or.inl ⟨by rfl, ?_⟩) (by assumption) ?_
      rotate_left
      · (intro w hSw; (try dsimp only at hSw); go_simp; try (with_reducible rfl))
      try simp only [Act.put, List.setIfInBounds_toArray, List.set_cons_zero, List.set_cons_succ]
      refine wpAnyH_take (i := 9) (oi := { dst := some 95, op := Op.indexAddr 25 (Operand.tmp 93) (Operand.tmp 94), type := 0, pos := "law.go:111", after := #[{ on := 7, ground := Ground.data }, { on := 8, ground := Ground.data }], guard := none }) (v := ?_) rfl (by kernel_rfl) (by kernel_rfl) (by kernel_rfl) (fun _ _ _ h => h) (Or.inl ⟨by rfl, ?_⟩) (by assumption) ?_
      rotate_left
      · (intro w hSw; (try dsimp only at hSw); go_simp; try (with_reducible rfl))
      try simp only [Act.put, List.setIfInBounds_toArray, List.set_cons_zero, List.set_cons_succ]
      refine wpAnyH_take (i := 10) (oi := { dst := some 96, op := Op.fieldAddr 50 (Operand.tmp 95) 1, type := 0, pos := "law.go:111", after := #[{ on := 9, ground := Ground.data }], guard := none }) (v := ?_) rfl (by kernel_rfl) (by kernel_rfl) (by kernel_rfl) (fun _ _ _ h => h) (Or.inl ⟨by rfl, ?_⟩) (by assumption) ?_
      rotate_left
      · (intro w hSw; (try dsimp only at hSw); go_simp; try (with_reducible rfl))
      try simp only [Act.put, List.setIfInBounds_toArray, List.set_cons_zero, List.set_cons_succ]
      refine wpAnyH_take (i := 11) (oi := { dst := some 97, op := Op.load 3 (Operand.tmp 96), type := 3, pos := "law.go:111", after := #[{ on := 10, ground := Ground.data }], guard := none }) (v := ?_) rfl (by kernel_rfl) (by kernel_rfl) (by kernel_rfl) (fun _ _ _ h => h) (Or.inl ⟨by rfl, ?_⟩) (by assumption) ?_
      rotate_left
      · (intro w hSw; (try dsimp only at hSw); go_simp; try (with_reducible rfl))
      try simp only [Act.put, List.setIfInBounds_toArray, List.set_cons_zero, List.set_cons_succ]
      refine wpAnyH_ready (rs := [12]) (by kernel_rfl) (by simp) ?_
      refine AllReadyH.cons (o := { dst := some 98, op := Op.call { callee := Callee.value (Operand.func 19), args := #[Operand.tmp 86, Operand.tmp 87, Operand.tmp 92, Operand.tmp 97], argTypes := #[22, 25, 3, 3] }, type := 4, pos := "law.go:111", after := #[{ on := 0, ground := Ground.data }, { on := 1, ground := Ground.data }, { on := 6, ground := Ground.data }, { on := 11, ground := Ground.data }], guard := none }) rfl (fun K hK => ?_) AllReadyH.nil
      go_simp
      (go_at_call 19; refine (hlooks _ M6.drew).mono ?_; rintro _ w7 ⟨rfl, m7⟩)
      have M7 : Moves [] wr w7 := M6.drew.then m7
      have f0 := M7.cell y0
      have f1 := M7.cell y1
      refine hK.out _ _ ?_ (fun hHeld => ?_)
      · first | exact ⟨y0, y1⟩ | exact ⟨d0, d1⟩ | exact ⟨f0, f1⟩
      clear hK K
      try simp only [Act.put, List.setIfInBounds_toArray, List.set_cons_zero, List.set_cons_succ]
      refine wpAnyH_take (i := 13) (oi := { dst := some 99, op := Op.unOp UnOp.not 4 (Operand.tmp 98), type := 4, pos := "law.go:111", after := #[{ on := 12, ground := Ground.data }], guard := none }) (v := ?_) rfl (by kernel_rfl) (by kernel_rfl) (by kernel_rfl) (fun _ _ _ h => h) (Or.inl ⟨by rfl, ?_⟩) (by assumption) ?_
      rotate_left
      · (intro w hSw; (try dsimp only at hSw); go_simp; try (with_reducible rfl))
      try simp only [Act.put, List.setIfInBounds_toArray, List.set_cons_zero, List.set_cons_succ]
      refine wpAnyH_take (i := 14) (oi := { dst := some 100, op := Op.move (Operand.tmp 99), type := 4, pos := "law.go:111", after := #[{ on := 13, ground := Ground.data }, { on := 12, ground := Ground.chain }], guard := none }) (v := ?_) rfl (by kernel_rfl) (by kernel_rfl) (by kernel_rfl) (fun _ _ _ h => h) (Or.inl ⟨by rfl, ?_⟩) (by assumption) ?_
      rotate_left
      · (intro w hSw; (try dsimp only at hSw); go_simp; try (with_reducible rfl))
      try simp only [Act.put, List.setIfInBounds_toArray, List.set_cons_zero, List.set_cons_succ]
      refine wpAnyH_take (i := 15) (oi := { dst := some 101, op := Op.move (Operand.tmp 16), type := 3, pos := "law.go:111", after := #[{ on := 14, ground := Ground.guard }], guard := some (14, false) }) (v := ?_) rfl (by kernel_rfl) (by kernel_rfl) (by kernel_rfl) (fun _ _ _ h => h) (Or.inl ⟨by rfl, ?_⟩) (by assumption) ?_
      rotate_left
      · (intro w hSw; (try dsimp only at hSw); go_simp; try (with_reducible rfl))
      try simp only [Act.put, List.setIfInBounds_toArray, List.set_cons_zero, List.set_cons_succ]
      refine wpAnyH_take (i := 16) (oi := { dst := some 102, op := Op.binOp BinOp.neq 3 (Operand.tmp 101) (Operand.const (Value.int IntKind.i64 2)) 3, type := 4, pos := "law.go:111", after := #[{ on := 15, ground := Ground.data }, { on := 14, ground := Ground.guard }], guard := some (14, false) }) (v := ?_) rfl (by kernel_rfl) (by kernel_rfl) (by kernel_rfl) (fun _ _ _ h => h) (Or.inl ⟨by rfl, ?_⟩) (by assumption) ?_
      rotate_left
      · (intro w hSw; (try dsimp only at hSw); go_simp; try (with_reducible rfl))
      try simp only [Act.put, List.setIfInBounds_toArray, List.set_cons_zero, List.set_cons_succ]
      refine wpAnyH_take (i := 17) (oi := { dst := some 103, op := Op.pick (Operand.tmp 100) (Operand.const (Value.bool true)) (Operand.tmp 102), type := 4, pos := "law.go:111", after := #[{ on := 14, ground := Ground.data }, { on := 16, ground := Ground.data }], guard := none }) (v := ?_) rfl (by kernel_rfl) (by kernel_rfl) (by kernel_rfl) (fun _ _ _ h => h) (Or.inl ⟨by rfl, ?_⟩) (by assumption) ?_
      rotate_left
      · (intro w hSw; (try dsimp only at hSw); go_simp; try (with_reducible rfl))
      try simp only [Act.put, List.setIfInBounds_toArray, List.set_cons_zero, List.set_cons_succ]
      refine wpAnyH_done (by kernel_rfl) ?_ _
      refine NoPanic.normal ?_
      go_wp2_with fail
      go_roundw
      case rel => exact ⟨k + 1, by omega, by go_num, mr.then M7⟩
      case measure => simp [intOf]; omega
    · have hkn' : ¬ (k : Int) < (nm : Int) := by omega
      have hcp := ocopy_w w wr P a xs (H15.out.ca.moves0 mr) (by have := H15.out.few; omega)
      go_wp2_with fail
      refine hcp.mono ?_
      rintro _ w6 ⟨q6, a6, rfl, h6, m6, -⟩
      clear hcp
      go_wp2_with fail
      refine (osame_yes _ w w6 q6 P a6 a xs h6 ((H15.out.ca.moves0 mr).moves0 m6) (by have := H15.out.few; omega)).mono ?_
      rintro _ w7 ⟨rfl, m7⟩
      have ex : (xs.length : Int) = (nx : Int) := by have := H15.out.ag.len; have := hnx.out; omega
      have ey : (ys.length : Int) = (ny : Int) := by have := H25.out.ag.len; have := hny.out; omega
      go_wp2_with fail
      refine (olen_w w w7 P a xs (((H15.out.ca.moves0 mr).moves0 m6).moves0 m7)).mono ?_
      rintro _ _ ⟨rfl, rfl⟩
      rw [ex]
      go_wp2_with fail
      refine (olen_w w _ Q b ys (((H25.out.ca.moves0 mr).moves0 m6).moves0 m7)).mono ?_
      rintro _ _ ⟨rfl, rfl⟩
      rw [ey]
      go_wp2_with fail
      refine (known9_w _).mono ?_
      rintro _ w8 ⟨rfl, m8⟩
      go_wp2_with fail
      go_ret
      exact ⟨rfl, (((M5.then mr).then m6).then m7).then m8⟩

open Go.ChangeShapes Go.WideShapes Go.ChangeAt
set_option linter.unusedVariables false
theorem oj_own : ownKnob Try.prog.godebug = none := by kernel_rfl
theorem oj_laidOut : laidOutB Try.prog = true := by kernel_rfl

set_option maxRecDepth 100000 in
theorem oj_lifted (os : Os) (started : os.Started) (H : Type) (enc : TypeId × Value → H) :
    ReturnsInHanded {} Try.checked os 5 .any (Rows.onceJoinsSpec.pre6 enc Try.prog Try.f5 Rows.onceJoinsRow.domain false) (Rows.onceJoinsSpec.post enc Try.prog Try.f5 false true false false) := by
  refine returnsInHanded_of_change (C := Try.checked) oj_own started (by kernel_rfl) Try.func5
    (ChangeSpec.witness6 (enc := enc) (C := Try.checked) false ⟨#[], #[.slice none 0 0, .slice none 0 0], []⟩ 8 (by kernel_rfl) (by kernel_rfl) (by kernel_rfl) (by kernel_rfl)) ?_
  intro W base args ds gs before hval0 hW hcnd _
  have hval : ∀ (j : Nat) t v, Try.f5.params[j]? = some t → args[j]? = some v → Value.okWide Try.prog W .any base t v := hval0
  have hW' := hW
  obtain ⟨p, q, hA0, hV, rfl, hfz, hnd⟩ := hW
  have hA : DataW.TrodAll enc Try.prog W 0 (fun _ => true) true Try.f5.params.toList args.toList ds p := hA0
  rw [Try.params5] at hA hval
  obtain ⟨v0, vs0, d0, ds0, p0, q0, hargs, rfl, rfl, h0, r0⟩ := trodAll_cons hA
  obtain ⟨v1, vs1, d1, ds1, p1, q1, rfl, rfl, rfl, h1, r1⟩ := trodAll_cons r0
  obtain ⟨rfl, rfl, rfl⟩ := trodAll_nil r1
  obtain rfl : args = #[v0, v1] := by cases args; simp_all
  obtain ⟨rfl, rfl⟩ := trodVars_none hV
  have k0 := h0
  have lt0 : ∀ x ∈ p0, x.block < W.heap.size := by obtain ⟨m, hm⟩ := k0; exact DataW.trod_lt m _ _ _ hm
  have w0 := oargs_of_trod (hval 0 42 v0 rfl rfl) h0
  have k1 := h1
  have lt1 : ∀ x ∈ p1, x.block < W.heap.size := by obtain ⟨m, hm⟩ := k1; exact DataW.trod_lt m _ _ _ hm
  have w1 := oargs_of_trod (hval 1 42 v1 rfl rfl) h1
  clear hA0 hval0
  refine (onceJoins_w v0 v1 W w0 w1).mono fun e W' ⟨he, mv⟩ => ?_
  subst he
  have bel : Below W.heap.size W W' := mv.below (by simp) (Nat.le_refl _)
  exact ⟨_, rfl, _, _, _, [], _, [], hW', trodAll_mk1 (shut_bool Try.underlying4 _), (trodAll_cons_mk (Below.trod oj_laidOut (by kernel_rfl) (of_decide_eq_true (by kernel_rfl)) k0 bel lt0) (trodAll_cons_mk (Below.trod oj_laidOut (by kernel_rfl) (of_decide_eq_true (by kernel_rfl)) k1 bel lt1) trodAll_mk0)), rfl, bel.frame _, fun h => by cases h⟩

theorem OnceJoins_holds : Rows.OnceJoinsSaid :=
  OpenClaim.holds_of_wide 5 Try.f5 rfl rfl rfl rfl rfl rfl rfl ⟨rfl, rfl, rfl, rfl, rfl⟩ rfl rfl rfl rfl rfl (by kernel_rfl) Try.func5 (by kernel_rfl)
    (of_decide_eq_true (by kernel_rfl)) (by unfold Func.isWrapper; first | (rw [if_pos (by decide +kernel)]; kernel_rfl) | (rw [if_neg (by decide +kernel)]; exact ⟨rfl, rfl⟩))
    (fun os started H enc _ => oj_lifted os started H enc)

#print axioms OnceJoins_holds
end Go.Proofs.Ytoijkdknjbgebaa
