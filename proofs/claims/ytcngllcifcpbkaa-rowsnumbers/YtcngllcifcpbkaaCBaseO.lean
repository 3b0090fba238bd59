/-
  La6, Lb6, Lc6: our texts of these names, laid into one.
-/
import Derived.Test.YtcngllcifcpbkaaCBaseN
import Derived.Test.YtcngllcifcpbkaaCRw4
import Derived.Test.YtcngllcifcpbkaaCBaseS
import Derived.Test.YtcngllcifcpbkaaCBaseR
/-
  A table and the list that the document has of it: what tells says.
-/
namespace Go.Proofs.Ytcngllcifcpbkaa
open Go.RowKit

/-- Rows by names that may be in a table. -/
structure InvN (xs : List Pnam) : Prop where
  rise : RiseN xs
  len : xs.length ≤ 32
  right : ∀ x ∈ xs, pright x.r = true
  canon : ∀ x ∈ xs, x.r.map pcanonC = x.r
  name : ∀ x ∈ xs, pname x.name = true
theorem InvN.copy {xs : List Pnam} (h : InvN xs) {x : Pnam} (hx : x ∈ xs) : pcopy x.r = x.r := by
  unfold pcopy pasked
  rw [if_pos (h.right x hx), h.canon x hx]
theorem InvN.own {xs ys : List Pnam} (h : InvN xs) (hy : ∀ y ∈ ys, y ∈ xs) : pownX ys = ys := by
  unfold pownX
  conv => rhs; rw [← List.map_id ys]
  refine List.map_congr_left (fun y hm => ?_)
  unfold pown
  rw [h.copy (hy y hm)]
  rfl
theorem InvN.no {xs : List Pnam} (h : InvN xs) (s : ByteArray) (hs : pname s = false) : phasN xs s = false := by
  unfold phasN
  rw [List.any_eq_false]
  intro x hx hq
  have e := h.name x hx
  rw [neq_iff.1 hq, hs] at e
  simp at e
theorem pright_sizes {R : List Pcol} (h : pright R = true) : R.length ≤ 1048576 ∧ ∀ c ∈ R, c.l.length ≤ 1048576 := by
  refine ⟨by have := pright_len4 h; omega, fun c hc => ?_⟩
  have e := pasked_l R c (by unfold pasked; rw [if_pos h]; exact hc)
  omega

set_option maxRecDepth 100000 in
set_option maxHeartbeats 8000000 in
theorem tells6_w (W w : World) (p : Nat) (a : Option Nat) (xs : List Pnam) (mv : Value) (lo hi : ByteArray) (most : Int) (h : TabIs W w p a xs) (hm : NamsAt w mv xs) (hI : InvN xs) :
    Calls Try.prog 6 #[.pointer (some ⟨p, 0, none⟩), mv, .string lo, .string hi, .int .i64 most] w fun e w' => e = .returned (.bool true) ∧ Moves [] w w' := by
  have hl : xs.length ≤ 1000 := by have := hI.len; omega
  have hrange := trange_w W w p a xs lo hi most h hI.rise hl
  have hrange2 := fun w1 (m1 : Moves [] w w1) => nrange_w w w1 mv xs lo hi most hm hl m1
  have hlen := fun w1 (m1 : Moves [] w w1) => tlen_w W w1 p a xs (h.moves0 m1)
  have hfind := fun w1 (m1 : Moves [] w w1) k x (hx : xs[k]? = some x) => tfind_yes W w1 p a xs k x (h.moves0 m1) hI.rise hl hx
  have hno := fun w1 (m1 : Moves [] w w1) s (hs : pname s = false) => tfind_no W w1 p a xs s (h.moves0 m1) hI.rise hl (hI.no s hs)
  obtain ⟨F, HF⟩ : ∃ F, Hid ((pfil xs lo hi).take (pmost most) = F) := ⟨_, rfl⟩
  obtain ⟨nx, HNX⟩ : ∃ nx, Hid (pnext (pfil xs lo hi) (pmost most) = nx) := ⟨_, rfl⟩
  have hFx : ∀ y ∈ F, y ∈ xs := fun y hy => by
    rw [← HF.out] at hy
    exact (List.mem_filter.1 (List.mem_of_mem_take hy)).1
  have hFl : F.length ≤ 1000 := by
    rw [← HF.out, List.length_take]
    have := pfil_len xs lo hi
    omega
  have hown : pownX F = F := hI.own hFx
  unfold NRange at hrange2
  simp only [HF.out, HNX.out, hown] at hrange hrange2
  have HS1 : Hid (∀ x ∈ xs, x.r.length ≤ 1048576 ∧ ∀ c ∈ x.r, c.l.length ≤ 1048576) := fun x hx => pright_sizes (hI.right x hx)
  have hsame := fun (w0 w1 : World) u v (h1 : NamsAt w0 u F) (h2 : NamsAt w0 v F) (m1 : Moves [] w0 w1) => nsame_yes w0 w1 u v F h1 h2 m1 hFl (fun x hx => HS1.out x (hFx x hx))
  obtain ⟨ad, cap, hv, hcap⟩ := hm.slice
  obtain ⟨n, HN⟩ : ∃ n, Hid (n = xs.length) := ⟨_, rfl⟩
  simp only [← HN.out] at hlen
  rw [← HN.out] at hv hcap hl
  subst hv
  have HA : Hid (NamsAt w (.slice ad n cap) xs) := hm
  have HI : Hid (InvN xs) := hI
  clear hm hI h hFx hFl hown
  go_enter Try.func6, Try.ntmps6
  go_wp2_with (first | (go_at_call 14; refine hrange.mono ?_; rintro _ w1 ⟨ad1, n1, cap1, rfl, hG1, m1⟩; have HG1 : Hid (GrowN w w1 (.slice ad1 n1 cap1) F) := hG1; clear hG1) | (go_at_call 19; refine (hrange2 _ m1).mono ?_; rintro _ w2 ⟨ad2, n2, cap2, rfl, hG2, m2⟩; have HG2 : Hid (NamsAt w2 (.slice ad2 n2 cap2) F) := hG2.at; have m12 := m1.then m2; clear hG2) | (go_at_call 7; refine (hlen _ m12).mono ?_; rintro _ _ ⟨rfl, rfl⟩) | (go_at_call 20; refine (hsame w2 _ _ _ (HG1.out.at.moves m2) HG2.out (Moves.refl _ _)).mono ?_; rintro _ w3 ⟨rfl, m3⟩; have m13 := m12.then m3))
  go_loopw [15] (fun i wr => ∃ k : Nat, k ≤ n ∧ i = .int .i64 k ∧ Moves [] w wr) (fun i _ => n - (intOf i).toNat)
  case atStart => exact ⟨0, Nat.zero_le _, rfl, m13⟩
  case round =>
    obtain ⟨k, hk, rfl, mr⟩ := hrel
    by_cases hlt : k < n
    · have hk3 : (k : Int) < n := by omega
      obtain ⟨x, hx⟩ : ∃ x, xs[k]? = some x := ⟨_, List.getElem?_eq_getElem (by have := HN.out; omega)⟩
      obtain ⟨g, off, a2, n2', c2, rfl, f0, f1, en, hC⟩ := HA.out.at hx
      have d0 := mr.cell f0
      have d1 := mr.cell f1
      have HX : Hid (xs[k]? = some x) := hx
      have HC : Hid (ColsAt w (.slice a2 n2' c2) x.r) := hC
      clear f0 f1 en hC hx
      go_wp2_with (go_at_call 21; refine (hfind _ mr k x HX.out).mono ?_; rintro _ w5 ⟨ad5, n5, cap5, rfl, hC5, m5⟩; have HC5 : Hid (ColsAt w5 (.slice ad5 n5 cap5) x.r) := (by unfold Hid; rw [← HI.out.copy (List.mem_of_getElem? HX.out)]; exact hC5); clear hC5)
      obtain ⟨w6, hw6⟩ : ∃ w6, w5.alloc (.cells #[.slice ad5 n5 cap5] 36) = w6 := ⟨_, rfl⟩
      have b6 : w6.heap[w5.heap.size]? = some (.cells #[.slice ad5 n5 cap5] 36 (0, 0)) := by rw [← hw6]; exact heap_alloc_new _ _
      have m6 : Moves [] w5 w6 := by rw [← hw6]; exact (Moves.refl _ _).alloc _
      have M6 := m5.then m6
      have HC6 : Hid (ColsAt w6 (.slice ad5 n5 cap5) x.r) := HC5.out.moves m6
      obtain ⟨z5, _⟩ := one_cell b6
      have z6 := M6.cell d1
      rw [hw6]
      clear hw6
      refine wp_region_noPanic ?_
      refine wp_region_held_drew (S := (fun w' => w'.cell? ⟨w5.heap.size, 0, none⟩ = some (.slice ad5 n5 cap5) ∧ w'.cell? ⟨g, off + k * 2 + 1, none⟩ = some (.slice a2 n2' c2))) (by kernel_rfl) ?_ (fun hHeld => ?_)
      · first | (go_keep; done) | first | exact ⟨z5, z6⟩ | exact ⟨m7.cell z5, m7.cell z6⟩
      refine wpAnyH_take (i := 0) (oi := { dst := some 68, op := Op.move (Operand.tmp 17), type := 4, pos := "law.go:67", after := #[], guard := none }) (v := ?_) rfl (by kernel_rfl) (by kernel_rfl) (by kernel_rfl) (fun _ _ _ h => h) (Or.inl ⟨by rfl, ?_⟩) (by assumption) ?_
      rotate_left
      · (intro w hSw; (try dsimp only at hSw); go_simp; try (with_reducible rfl))
      try simp only [Act.put, List.setIfInBounds_toArray, List.set_cons_zero, List.set_cons_succ]
      refine wpAnyH_take (i := 1) (oi := { dst := some 69, op := Op.unOp UnOp.not 4 (Operand.tmp 68), type := 4, pos := "law.go:67", after := #[{ on := 0, ground := Ground.data }], guard := none }) (v := ?_) rfl (by kernel_rfl) (by kernel_rfl) (by kernel_rfl) (fun _ _ _ h => h) (Or.inl ⟨by rfl, ?_⟩) (by assumption) ?_
      rotate_left
      · (intro w hSw; (try dsimp only at hSw); go_simp; try (with_reducible rfl))
      try simp only [Act.put, List.setIfInBounds_toArray, List.set_cons_zero, List.set_cons_succ]
      refine wpAnyH_take (i := 2) (oi := { dst := some 70, op := Op.move (Operand.tmp 69), type := 4, pos := "law.go:67", after := #[{ on := 1, ground := Ground.data }], guard := none }) (v := ?_) rfl (by kernel_rfl) (by kernel_rfl) (by kernel_rfl) (fun _ _ _ h => h) (Or.inl ⟨by rfl, ?_⟩) (by assumption) ?_
      rotate_left
      · (intro w hSw; (try dsimp only at hSw); go_simp; try (with_reducible rfl))
      try simp only [Act.put, List.setIfInBounds_toArray, List.set_cons_zero, List.set_cons_succ]
      refine wpAnyH_take (i := 3) (oi := { dst := some 71, op := Op.load 36 (Operand.tmp 16), type := 36, pos := "law.go:67", after := #[{ on := 2, ground := Ground.guard }], guard := some (2, false) }) (v := ?_) rfl (by kernel_rfl) (by kernel_rfl) (by kernel_rfl) (fun _ _ _ h => h) (Or.inl ⟨by rfl, ?_⟩) (by assumption) ?_
      rotate_left
      · (intro w hSw; (try dsimp only at hSw); go_simp; try (with_reducible rfl))
      try simp only [Act.put, List.setIfInBounds_toArray, List.set_cons_zero, List.set_cons_succ]
      refine wpAnyH_take (i := 4) (oi := { dst := some 72, op := Op.move (Operand.tmp 1), type := 27, pos := "law.go:67", after := #[{ on := 2, ground := Ground.guard }], guard := some (2, false) }) (v := ?_) rfl (by kernel_rfl) (by kernel_rfl) (by kernel_rfl) (fun _ _ _ h => h) (Or.inl ⟨by rfl, ?_⟩) (by assumption) ?_
      rotate_left
      · (intro w hSw; (try dsimp only at hSw); go_simp; try (with_reducible rfl))
      try simp only [Act.put, List.setIfInBounds_toArray, List.set_cons_zero, List.set_cons_succ]
      refine wpAnyH_take (i := 5) (oi := { dst := some 73, op := Op.move (Operand.tmp 15), type := 3, pos := "law.go:67", after := #[{ on := 2, ground := Ground.guard }], guard := some (2, false) }) (v := ?_) rfl (by kernel_rfl) (by kernel_rfl) (by kernel_rfl) (fun _ _ _ h => h) (Or.inl ⟨by rfl, ?_⟩) (by assumption) ?_
      rotate_left
      · (intro w hSw; (try dsimp only at hSw); go_simp; try (with_reducible rfl))
      try simp only [Act.put, List.setIfInBounds_toArray, List.set_cons_zero, List.set_cons_succ]
      refine wpAnyH_take (i := 6) (oi := { dst := some 74, op := Op.indexAddr 27 (Operand.tmp 72) (Operand.tmp 73), type := 0, pos := "law.go:67", after := #[{ on := 4, ground := Ground.data }, { on := 5, ground := Ground.data }, { on := 2, ground := Ground.guard }], guard := some (2, false) }) (v := ?_) rfl (by kernel_rfl) (by kernel_rfl) (by kernel_rfl) (fun _ _ _ h => h) (Or.inl ⟨by rfl, ?_⟩) (by assumption) ?_
      rotate_left
      · (intro w hSw; (try dsimp only at hSw); go_simp; try (with_reducible rfl))
      try simp only [Act.put, List.setIfInBounds_toArray, List.set_cons_zero, List.set_cons_succ]
      refine wpAnyH_take (i := 7) (oi := { dst := some 75, op := Op.fieldAddr 53 (Operand.tmp 74) 1, type := 0, pos := "law.go:67", after := #[{ on := 6, ground := Ground.data }, { on := 2, ground := Ground.guard }], guard := some (2, false) }) (v := ?_) rfl (by kernel_rfl) (by kernel_rfl) (by kernel_rfl) (fun _ _ _ h => h) (Or.inl ⟨by rfl, ?_⟩) (by assumption) ?_
      rotate_left
      · (intro w hSw; (try dsimp only at hSw); go_simp; try (with_reducible rfl))
      try simp only [Act.put, List.setIfInBounds_toArray, List.set_cons_zero, List.set_cons_succ]
      refine wpAnyH_take (i := 8) (oi := { dst := some 76, op := Op.load 36 (Operand.tmp 75), type := 36, pos := "law.go:67", after := #[{ on := 7, ground := Ground.data }, { on := 2, ground := Ground.guard }], guard := some (2, false) }) (v := ?_) rfl (by kernel_rfl) (by kernel_rfl) (by kernel_rfl) (fun _ _ _ h => h) (Or.inl ⟨by rfl, ?_⟩) (by assumption) ?_
      rotate_left
      · (intro w hSw; (try dsimp only at hSw); go_simp; try (with_reducible rfl))
      try simp only [Act.put, List.setIfInBounds_toArray, List.set_cons_zero, List.set_cons_succ]
      refine wpAnyH_ready (rs := [9]) (by kernel_rfl) (by simp) ?_
      refine AllReadyH.cons (o := { dst := some 77, op := Op.call { callee := Callee.value (Operand.func 22), args := #[Operand.tmp 71, Operand.tmp 76], argTypes := #[36, 36] }, type := 4, pos := "law.go:67", after := #[{ on := 3, ground := Ground.data }, { on := 8, ground := Ground.data }, { on := 2, ground := Ground.chain }, { on := 2, ground := Ground.guard }], guard := some (2, false) }) rfl (fun K hK => ?_) AllReadyH.nil
      go_simp
      (go_at_call 22; refine (rfSame_yes w6.drew w6.drew _ _ x.r x.r ⟨_, rfl, HC6.out.moves (Moves.refl _ _).drew⟩ ⟨_, rfl, (HC.out.moves (mr.then M6)).moves (Moves.refl _ _).drew⟩ (Moves.refl _ _) (SameR.refl _) (HS1.out x (List.mem_of_getElem? HX.out)).1 (HS1.out x (List.mem_of_getElem? HX.out)).2).mono ?_; rintro _ w7 ⟨rfl, m7'⟩)
      have m7 : Moves [] w6 w7 := (Moves.refl [] w6).drew.then m7'
      refine hK.out _ _ ?_ (fun hHeld => ?_)
      · first | exact ⟨z5, z6⟩ | exact ⟨m7.cell z5, m7.cell z6⟩
      clear hK K
      try simp only [Act.put, List.setIfInBounds_toArray, List.set_cons_zero, List.set_cons_succ]
      refine wpAnyH_take (i := 10) (oi := { dst := some 78, op := Op.unOp UnOp.not 4 (Operand.tmp 77), type := 4, pos := "law.go:67", after := #[{ on := 9, ground := Ground.data }, { on := 2, ground := Ground.guard }], guard := some (2, false) }) (v := ?_) rfl (by kernel_rfl) (by kernel_rfl) (by kernel_rfl) (fun _ _ _ h => h) (Or.inl ⟨by rfl, ?_⟩) (by assumption) ?_
      rotate_left
      · (intro w hSw; (try dsimp only at hSw); go_simp; try (with_reducible rfl))
      try simp only [Act.put, List.setIfInBounds_toArray, List.set_cons_zero, List.set_cons_succ]
      refine wpAnyH_take (i := 11) (oi := { dst := some 79, op := Op.pick (Operand.tmp 70) (Operand.const (Value.bool true)) (Operand.tmp 78), type := 4, pos := "law.go:67", after := #[{ on := 2, ground := Ground.data }, { on := 10, ground := Ground.data }], guard := none }) (v := ?_) rfl (by kernel_rfl) (by kernel_rfl) (by kernel_rfl) (fun _ _ _ h => h) (Or.inl ⟨by rfl, ?_⟩) (by assumption) ?_
      rotate_left
      · (intro w hSw; (try dsimp only at hSw); go_simp; try (with_reducible rfl))
      try simp only [Act.put, List.setIfInBounds_toArray, List.set_cons_zero, List.set_cons_succ]
      refine wpAnyH_done (by kernel_rfl) ?_ _
      refine NoPanic.normal ?_
      go_wp2_with fail
      go_roundw
      case rel => exact ⟨k + 1, by omega, by go_num, (mr.then M6).then m7⟩
      case measure => simp [intOf]; omega
    · have hk3 : ¬ (k : Int) < n := by omega
      go_wp2_with (go_at_call 21; refine (hno _ mr _ (by decide)).mono ?_; rintro _ w5 ⟨rfl, m5⟩)
      go_ret
      exact ⟨rfl, (mr.then m5).alloc _⟩
end Go.Proofs.Ytcngllcifcpbkaa
/-
  law6's some and known.
-/
namespace Go.Proofs.Ytcngllcifcpbkaa
open Go.RowKit

def psome : List Pcol := pPut [] ⟨#[99]⟩ 5 ⟨1, [118], 0⟩
theorem psome_e : pPutE [] ⟨#[99]⟩ 5 ⟨1, [118], 0⟩ = 0 := by decide
theorem psome_right : pright psome = true := pPut_right _ _ _ _
theorem psome_ne : psome.isEmpty = false := by decide

/-- []byte("..") of a row that is the call's own, with its bytes. -/
theorem conv_exact {W w : World} {c : List Nat} {g : Nat} {fz : Nat × Nat} (hW : W.heap.size ≤ g) (m : Moves [] W w) (hg : w.heap[g]? = some (.cells (c.map fun (b : Nat) => Value.int .u8 (b : Int)).toArray 5 fz)) :
    ∃ w', (convert 46 46 (.slice (some ⟨g, 0, none⟩) c.length c.length)).run Try.prog w = .ok (.slice (some ⟨g, 0, none⟩) c.length c.length) w' ∧ IsB w' g (.slice (some ⟨g, 0, none⟩) c.length c.length) c ∧ Moves [] W w' ∧ ∀ k, k ≠ g → w'.heap[k]? = w.heap[k]? := by
  have hsh : w.shape? g = some (5, c.length) := by unfold World.shape?; rw [hg]; simp
  have hlt : g < w.heap.size := (Array.getElem?_eq_some_iff.1 hg).1
  have hfr : ∃ f, (w.freeze ⟨g, c.length, none⟩ 1).heap[g]? = some (.cells (c.map fun (b : Nat) => Value.int .u8 (b : Int)).toArray 5 f) := by
    have h' : w.heap[g] = .cells (c.map fun (b : Nat) => Value.int .u8 (b : Int)).toArray 5 fz := by simpa [Array.getElem?_eq_getElem hlt] using hg
    show ∃ f, (Array.modify _ _ _)[g]? = _
    rw [Array.getElem?_eq_getElem (by simpa using hlt), Array.getElem_modify_self, h']
    exact ⟨_, rfl⟩
  have hne : ∀ k, k ≠ g → (w.freeze ⟨g, c.length, none⟩ 1).heap[k]? = w.heap[k]? := fun k hk => by
    show (Array.modify _ _ _)[k]? = _
    rw [Array.getElem?_modify, if_neg (fun e => hk e.symm)]
  refine ⟨w.freeze ⟨g, c.length, none⟩ 1, ?_, ?_, ?_, hne⟩
  · simp [convert, run_underlying Try.underlying46, run_underlying Try.underlying5, markStringish, hsh]
  · obtain ⟨f, hf⟩ := hfr
    refine ⟨_, _, _, rfl, rfl, Nat.le_refl _, fun h => by simp at h, .inr ⟨0, rfl, fun j b hj => ?_⟩⟩
    unfold World.cell?
    simp only [hf]
    simp [hj]
  · exact m.trans (T := [g]) ⟨rfl, rfl, rfl, by simp [World.freeze], fun k _ hn => hne k (by simpa using hn)⟩ (fun x hx => .inr (by simp at hx; omega))

set_option maxRecDepth 100000 in
set_option maxHeartbeats 4000000 in
theorem some6_w (w : World) : Calls Try.prog 9 #[] w fun e w' => ∃ ad n cap, e = .returned (.agg #[.slice ad n cap]) ∧ RowAt w' (.agg #[.slice ad n cap]) psome ∧ Moves [] w w' := by
  obtain ⟨b1, hg, hm⟩ := boxes (Moves.refl [] ((w.alloc (.cells #[.slice none 0 0] 36)).alloc (.cells #[.int .u8 118] 5)))
  obtain ⟨W1, hcv, hB, hm1, hne⟩ := conv_exact (W := w) (c := [118]) (by omega) hm hg
  have b2 := (hne w.heap.size (by omega)).trans b1
  have hcv' : (convert 46 46 (.slice (some ⟨w.heap.size + 1, 0, none⟩) 1 1)).run Try.prog ((w.alloc (.cells #[.slice none 0 0] 36)).alloc (.cells #[.int .u8 118] 5)) = .ok (.slice (some ⟨w.heap.size + 1, 0, none⟩) 1 1) W1 := hcv
  have hP := refPut_p W1 W1 _ [] ⟨#[99]⟩ 5 1 (some ⟨w.heap.size + 1, 0, none⟩) 1 1 0 ⟨1, [118], 0⟩ (RowAt.nil _) ⟨_, _, _, _, rfl, hB, by show Pl.Fits 0; unfold Pl.Fits; omega, by decide, by decide⟩ (Moves.refl _ _) pright_nil
  rw [psome_e] at hP
  clear hB hne b1 hg hm hcv
  go_enter Try.func9, Try.ntmps9
  go_wp2_with (go_at_call 13; refine hP.mono ?_; rintro _ w3 ⟨ad3, n3, cap3, rfl, hC3, m3⟩; have HC3 : Hid (ColsAt w3 (.slice ad3 n3 cap3) psome) := hC3; have m4 : Moves [] w3 (w3.alloc (.cells #[.slice ad3 n3 cap3] 36)) := ((Moves.refl _ _).alloc _); have b4 := (m3.then m4).at b2 (by simp); obtain ⟨c4, c5⟩ := one_cell b4; obtain ⟨c6, c7⟩ := one_cell (heap_alloc_new w3 (.cells #[.slice ad3 n3 cap3] 36)); have hlt := lt_of_block b2; have hsz := m3.size; clear hC3)
  try simp only [Exit.inBlock, Exit.then]
  refine bodyPost_ret (ret_row rfl _ _ _ _ rfl (set_one b4 _)) rfl ⟨_, _, _, rfl, ⟨_, rfl, ?_⟩, ((hm1.then m3).then m4).setCell (.inr (Nat.le_refl _)) _⟩
  exact (HC3.out.moves m4).stayX (T := fun t => t ≠ 36) (Stay.set b4 (by simp) _) (by decide) (by decide) (by decide)

def bA : ByteArray := ⟨#[97]⟩
def bB : ByteArray := ⟨#[98]⟩
def b0 : ByteArray := ⟨#[]⟩
def kX1 : List Pnam := [⟨bB, psome.map pcanonC⟩]
def kX2 : List Pnam := [⟨bA, psome.map pcanonC⟩, ⟨bB, psome.map pcanonC⟩]
theorem psome_nn : ¬ psome = [] := by
  intro h
  have := psome_ne
  rw [h] at this
  simp at this
theorem nlt_AB : nlt bA bB = true := by unfold nlt bA bB; rw [ByteArray.toList_eq, ByteArray.toList_eq]; decide
theorem nlt_BA : nlt bB bA = false := nlt_asymm nlt_AB
theorem nlt_0 (s : ByteArray) : nlt s b0 = false := by
  unfold nlt b0
  rw [ByteArray.toList_eq, ByteArray.toList_eq]
  generalize s.data.toList = l
  cases l <;> rfl
theorem k_rise1 : RiseN kX1 := by simp [RiseN, kX1]
theorem k_rise2 : RiseN kX2 := by simp [RiseN, kX2, nlt_AB]
theorem k_set1 : psetE [] bB psome = 0 ∧ psetN [] bB psome = kX1 := by
  obtain ⟨h1, h2⟩ := psetE_ok (xs := []) (s := bB) (R := psome) (by decide) psome_right (by simp)
  refine ⟨h1, ?_⟩
  rw [h2]
  simp [pputN, psome_nn, kX1]
theorem k_set2 : psetE kX1 bA psome = 0 ∧ psetN kX1 bA psome = kX2 := by
  obtain ⟨h1, h2⟩ := psetE_ok (xs := kX1) (s := bA) (R := psome) (by decide) psome_right (by simp [kX1])
  refine ⟨h1, ?_⟩
  rw [h2]
  simp [pputN, psome_nn, kX1, kX2, nlt_AB, nlt_BA]
theorem k_set3 : psetE kX2 b0 psome = 1 ∧ psetN kX2 b0 psome = kX2 := psetE_bad (by decide)
theorem k_fil : pfil kX2 b0 b0 = kX2 := by
  unfold pfil
  refine List.filter_eq_self.2 (fun x _ => ?_)
  simp [inR, nlt_0]
  rfl
theorem k_next : pnext (pfil kX2 b0 b0) (pmost 1) = bB := by rw [k_fil]; rfl
theorem k_own : pownX ((pfil kX2 b0 b0).take (pmost 1)) = [pown ⟨bA, psome.map pcanonC⟩] := by rw [k_fil]; rfl

theorem tab_moves {w w1 w2 : World} {p : Nat} {a : Option Nat} {xs : List Pnam} (h : TabIs w w1 p a xs) (hp : w.heap.size ≤ p) (M : Moves [] w w1) (m : Moves (p :: a.toList) w1 w2) : Moves [] w w2 := by
  refine M.trans m (fun k hk => .inr ?_)
  rcases List.mem_cons.1 hk with rfl | hk
  · exact hp
  · obtain ⟨v, _, rfl, hG⟩ := h
    exact hG.1 k (Option.mem_toList.1 hk)

set_option maxRecDepth 100000 in
set_option maxHeartbeats 8000000 in
theorem known6_w (w : World) : Calls Try.prog 10 #[] w fun e w' => e = .returned (.bool true) ∧ Moves [] w w' := by
  obtain ⟨s1, s2⟩ := k_set1
  obtain ⟨s3, s4⟩ := k_set2
  obtain ⟨s5, s6⟩ := k_set3
  have k1 := k_next
  have k2 := k_own
  have r0 : RiseN [] := by simp [RiseN]
  have r1 := k_rise1
  have r2 := k_rise2
  have l0 : ([] : List Pnam).length ≤ 1000 := by simp
  have l1 : kX1.length ≤ 1000 := by simp [kX1]
  have l2 : kX2.length ≤ 1000 := by simp [kX2]
  have hl2 : ∀ (W w1 : World) (p : Nat) (a : Option Nat) (h : TabIs W w1 p a kX2), Calls Try.prog 7 #[.pointer (some ⟨p, 0, none⟩)] w1 fun e w' => e = .returned (.int .i64 2) ∧ w1 = w' := fun W w1 p a h => tlen_w W w1 p a kX2 h
  obtain ⟨E, hE⟩ : ∃ E : List Pnam, Hid ([] = E) := ⟨_, rfl⟩
  rw [hE.out] at s1 s2 r0 l0
  obtain ⟨X1, hX1⟩ : ∃ X1, Hid (kX1 = X1) := ⟨_, rfl⟩
  rw [hX1.out] at s2 s3 s4 r1 l1
  obtain ⟨X2, hX2⟩ : ∃ X2, Hid (kX2 = X2) := ⟨_, rfl⟩
  rw [hX2.out] at s4 s5 s6 k1 k2 r2 l2
  simp only [hX2.out] at hl2
  unfold b0 bA bB at *
  obtain ⟨Y, hY⟩ : ∃ Y, Hid ([pown ⟨⟨#[97]⟩, psome.map pcanonC⟩] = Y) := ⟨_, rfl⟩
  rw [hY.out] at k2
  obtain ⟨P, hP⟩ : ∃ P, w.heap.size = P := ⟨_, rfl⟩
  have hPP : w.heap.size ≤ P := by omega
  have hnew := tnew_w w
  rw [hP, hE.out] at hnew
  have S1 : Hid (psetN E ⟨#[98]⟩ psome = X1) := s2
  have S2 : Hid (psetN X1 ⟨#[97]⟩ psome = X2) := s4
  have S3 : Hid (psetN X2 ⟨#[]⟩ psome = X2) := s6
  have R0 : Hid (RiseN E) := r0
  have R1 : Hid (RiseN X1) := r1
  have R2 : Hid (RiseN X2) := r2
  have L0 : Hid (E.length ≤ 1000) := l0
  have L1 : Hid (X1.length ≤ 1000) := l1
  have L2 : Hid (X2.length ≤ 1000) := l2
  have K2 : Hid (pownX (List.take (pmost 1) (pfil X2 ⟨#[]⟩ ⟨#[]⟩)) = Y) := k2
  clear hP s2 s4 s6 r0 r1 r2 l0 l1 l2 k2
  go_enter Try.func10, Try.ntmps10
  go_wp2_with (first | (go_at_call 15; refine hnew.mono ?_; rintro _ w1 ⟨rfl, hT1, m1⟩; have HT : Hid (TabIs w w1 P none E) := hT1; have HM : Hid (Moves [] w w1) := m1; clear hT1 m1) | (go_at_call 9; refine (some6_w _).mono ?_; rintro _ w2 ⟨ad2, n2, cap2, rfl, hR2, m2⟩; have HS : Hid (RowAt w2 (.agg #[.slice ad2 n2 cap2]) psome) := hR2; have HM : Hid (Moves [] w w2) := HM.out.then m2; have HT : Hid (TabIs w w2 P _ _) := HT.out.moves0 m2; clear hR2 m2) | (go_at_call 8; refine (tset_w w _ P _ _ _ _ psome HT.out (by first | exact R0.out | exact R1.out | exact R2.out) (by first | exact L0.out | exact L1.out | exact L2.out) HS.out HM.out.size).mono ?_; rintro _ w3 ⟨rfl, a3, ⟨hT3, m3, _⟩, _⟩; have HM : Hid (Moves [] w w3) := (tab_moves HT.out hPP HM.out m3); (first | rw [S1.out] at hT3 | rw [S2.out] at hT3 | rw [S3.out] at hT3); have HT : Hid (TabIs w w3 P a3 _) := hT3; clear hT3 m3) | (go_at_call 14; refine (trange_w w _ P _ X2 _ _ _ HT.out R2.out L2.out).mono ?_; rintro _ w4 ⟨ad4, n4, cap4, rfl, hG4, m4⟩; rw [K2.out] at hG4; have HG4 : Hid (NamsAt w4 (.slice ad4 n4 cap4) Y) := hG4.at; have HM : Hid (Moves [] w w4) := HM.out.then m4; have HT : Hid (TabIs w w4 P _ _) := HT.out.moves0 m4; clear hG4 m4; obtain rfl : n4 = 1 := (by have e := HG4.out.slice; obtain ⟨_, _, e1, _⟩ := e; rw [← hY.out] at e1; simp at e1; exact e1.2.1); obtain ⟨g5, o5, a5, n5, c5, rfl, f0, _, _, _⟩ := HG4.out.at (k := 0) (x := pown ⟨⟨#[97]⟩, psome.map pcanonC⟩) (by rw [← hY.out]; rfl); have f0' : w4.cell? ⟨g5, o5, none⟩ = some (.string ⟨#[97]⟩) := (by simpa [pown] using f0)) | (go_at_call 7; refine (hl2 w _ P _ HT.out).mono ?_; rintro _ _ ⟨rfl, rfl⟩))
  go_ret
  exact ⟨rfl, HM.out⟩
end Go.Proofs.Ytcngllcifcpbkaa
/-
  law6's name: of one call always the same.
-/
namespace Go.Proofs.Ytcngllcifcpbkaa
open Go.RowKit

end Go.Proofs.Ytcngllcifcpbkaa
