/-
  The law's own 'writes' and 'reads' of rows: of a row that may be, and of any bytes, they return true, and write nothing that was there.
-/
import Derived.Test.YtdngndkdkbggkaaCRfT4
import Derived.Test.YtdngndkdkbggkaaCRw4
import Derived.Test.YtdngndkdkbggkaaCRef6
namespace Go.Proofs.Ytdngndkdkbggkaa
open Go.RowKit

theorem ColsAt.stayT {T : TypeId → Prop} {w w' : World} (st : Stay T w w') (h1 : T 5) (h2 : T 69) (h3 : T 45) {v : Value} {xs : List Pcol} (h : ColsAt w v xs) : ColsAt w' v xs := by
  obtain ⟨css, k1, k2⟩ := h
  exact ⟨css, k1.stay st h3, k2.mono fun _ _ k => k.stay st h1 h2⟩
theorem rowAt_oct {w : World} {v : Value} {R : List Pcol} (h : RowAt w v R) : ∀ c ∈ R, ∀ y ∈ c.l, ∀ z ∈ y.v.bs, z < 256 := by
  obtain ⟨lv, _, css, h1, h2⟩ := h
  intro c hc y hy
  obtain ⟨k, hk⟩ := List.mem_iff_getElem?.1 hc
  obtain ⟨cc, _, vv, _, ⟨vs, _, hv⟩⟩ := h2.get hk
  obtain ⟨j, hj⟩ := List.mem_iff_getElem?.1 hy
  obtain ⟨vc, _, d, _, _, _, _, _, _, _, _, ho, _⟩ := hv.get hj
  exact ho
theorem pencR_oct {R : List Pcol} (hr : pright R = true) (ho : ∀ c ∈ R, ∀ y ∈ c.l, ∀ z ∈ y.v.bs, z < 256) : ∀ z ∈ pencR R, z < 256 := by
  intro z hz
  have h4 := pright_len4 hr
  unfold pencR at hz
  rcases List.mem_append.1 hz with hz | hz
  · simp at hz; omega
  · unfold pencCs at hz
    obtain ⟨l, hl, hz⟩ := List.mem_flatten.1 hz
    obtain ⟨c, hc, rfl⟩ := List.mem_map.1 hl
    have h2 := prightV_two (pright_at hr hc).2
    unfold pencC at hz
    rcases List.mem_append.1 hz with hz | hz
    · rcases List.mem_append.1 hz with hz | hz
      · rcases List.mem_append.1 hz with hz | hz
        · exact mem_be hz
        · exact sbs_oct _ z hz
      · simp at hz; omega
    · unfold pencVs at hz
      obtain ⟨l, hl, hz⟩ := List.mem_flatten.1 hz
      obtain ⟨y, hy, rfl⟩ := List.mem_map.1 hl
      unfold pencV at hz
      rcases List.mem_append.1 hz with hz | hz
      · exact mem_be hz
      · exact penc_oct (ho c hc y hy) z hz
theorem isB_in {w : World} {g : Nat} {v : Value} {bs : List Nat} (h : IsB w g v bs) (hp : 0 < w.heap.size) : ∃ g', g' < w.heap.size ∧ IsB w g' v bs := by
  by_cases hb : bs = []
  · subst hb
    obtain ⟨ad, n, cap, h1, h2, h3, h4, _⟩ := h
    exact ⟨0, hp, ad, n, cap, h1, h2, h3, h4, .inl rfl⟩
  · exact ⟨g, h.lt hb, h⟩

set_option maxRecDepth 100000 in
theorem reads4_1 (N p g qa : Nat) (bs : List Nat) (w : World) (h : RdIs w p g bs false) (ho : OctN N bs) (hg : g < w.heap.size) (ha : w.heap[qa]? = some (.cells #[.slice none 0 0] 26 (0, 0))) (hpa : qa ≠ p) (hga : g ≠ qa) :
    Calls Try.prog 30 #[.pointer (some ⟨p, 0, none⟩), .pointer (some ⟨qa, 0, none⟩)] w fun e w' =>
      (∃ R rest ad n cap, dGood tAny bs = some (R, rest) ∧ e = .returned (.tuple #[]) ∧ RdIs w' p g rest false ∧ w'.heap[qa]? = some (.cells #[.slice ad n cap] 26 (0, 0)) ∧ ColsAt w' (.slice ad n cap) R ∧ Moves [p, qa] w w') ∨ (dGood tAny bs = none ∧ e = .panicked (stop p) ∧ ∃ bs', RdIs w' p g bs' true ∧ Moves [p] w w') := by
  have hT := rowTake_w N p g bs w h ho hg
  cases hd : dGood tAny bs with
  | none =>
    have HD : Hid (dGood tAny bs = none) := hd
    clear hd
    go_enter Try.func30, Try.ntmps30
    go_wp2_with (go_at_call 31; refine hT.mono ?_; intro e2 w2 hTT; obtain ⟨rfl, bs', hr2, m2⟩ : e2 = .panicked (stop p) ∧ ∃ bs', RdIs w2 p g bs' true ∧ Moves [p] w w2 := (by rcases hTT with ⟨_, _, _, _, _, h1, _⟩ | ⟨_, h2⟩; (rw [HD.out] at h1; simp at h1); exact h2))
    exact ⟨rfl, .inr ⟨trivial, rfl, bs', hr2, m2⟩⟩
  | some z =>
    obtain ⟨R, rest⟩ := z
    have HD : Hid (dGood tAny bs = some (R, rest)) := hd
    clear hd
    go_enter Try.func30, Try.ntmps30
    go_wp2_with (go_at_call 31; refine hT.mono ?_; intro e2 w2 hTT; obtain ⟨ad, n, cap, rfl, hG2, hr2, m2⟩ : ∃ ad n cap, e2 = .returned (.agg #[.slice ad n cap]) ∧ GrowC w w2 (.slice ad n cap) R ∧ RdIs w2 p g rest false ∧ Moves [p] w w2 := (by rcases hTT with ⟨R', rest', ad, n, cap, h1, h2⟩ | ⟨h1, _⟩; (rw [HD.out] at h1; simp only [Option.some.injEq, Prod.mk.injEq] at h1; obtain ⟨rfl, rfl⟩ := h1; exact ⟨ad, n, cap, h2⟩); (rw [HD.out] at h1; simp at h1)); have a2 := m2.at ha (by simpa using hpa); obtain ⟨x0, x1⟩ := one_cell a2)
    go_end0
    have st : Stay (fun t => t ≠ 26) w2 (w2.setCell ⟨qa, 0, none⟩ (.slice ad n cap)) := Stay.set a2 (by simp) _
    exact .inl ⟨R, rest, ad, n, cap, rfl, rfl, hr2.moves (moves_set _ _ _ _) (by simpa using Ne.symm hpa) (by simpa using hga), set_one a2 _, hG2.at.stayT st (by decide) (by decide) (by decide), (m2.mono (by simp)).then ((moves_set _ _ _ _).mono (by simp))⟩

set_option maxRecDepth 100000 in
theorem read4_w (N g qa : Nat) (v : Value) (bs : List Nat) (w : World) (hv : IsB w g v bs) (ho : OctN N bs) (hg : g < w.heap.size) (ha : w.heap[qa]? = some (.cells #[.slice none 0 0] 26 (0, 0))) (hga : g ≠ qa) :
    Calls Try.prog 29 #[v, .func (.func 30) #[] #[.pointer (some ⟨qa, 0, none⟩)]] w fun e w' =>
      (∃ R rest ad n cap, dGood tAny bs = some (R, rest) ∧ e = .returned (.bool ((rest.length : Int) == 0)) ∧ w'.heap[qa]? = some (.cells #[.slice ad n cap] 26 (0, 0)) ∧ ColsAt w' (.slice ad n cap) R ∧ Moves [qa] w w') ∨ (dGood tAny bs = none ∧ e = .returned (.bool false) ∧ Moves [] w w') := by
  have la := lt_of_block ha
  refine (read_any 30 #[.pointer (some ⟨qa, 0, none⟩)] v g bs w hv (by omega) (fun rest w2 => ∃ R ad n cap, dGood tAny bs = some (R, rest) ∧ (∃ c, w2.heap[w.heap.size]? = some (.cells c 122 (0, 0))) ∧ w2.heap[qa]? = some (.cells #[.slice ad n cap] 26 (0, 0)) ∧ ColsAt w2 (.slice ad n cap) R ∧ Moves [qa] w w2) (fun _ w2 => dGood tAny bs = none ∧ Moves [] w w2) (fun _ _ => rfl) ?_).mono ?_
  · intro w1 hbg hm
    refine (reads4_1 N w.heap.size g qa bs w1 hbg.1 ho (Nat.lt_of_lt_of_le hg hm.size) (hm.at ha (by simp)) (by omega) hga).mono ?_
    rintro _ w2 (⟨R, rest, ad, n, cap, hd, rfl, hr, hb, hC, m⟩ | ⟨hd, rfl, bs', hr, m⟩)
    · refine .inl ⟨rfl, rest, ⟨hr, m.at hbg.2 (by simp; omega)⟩, R, ad, n, cap, hd, hr.block, hb, hC, ?_⟩
      exact (hm.mono (by simp)).trans m (fun x hx => by
          simp at hx
          rcases hx with rfl | rfl
          · exact .inr (Nat.le_refl _)
          · exact .inl (by simp))
    · exact .inr ⟨rfl, bs', ⟨hr, m.at hbg.2 (by simp)⟩, hd, hm.trans m (fun x hx => .inr (by simp at hx; omega))⟩
  · rintro _ w' (⟨rest, rfl, w2, ⟨R, ad, n, cap, hd, ⟨c, hc⟩, hb, hC, m⟩, m2⟩ | ⟨rfl, bs', w2, ⟨hd, m⟩, m2⟩)
    · have st : Stay (fun t => t ≠ 122) w2 w' := Stay.ofMovesS m2 (fun k hk c' t' fz' hc' => by simp at hk; subst hk; rw [hc] at hc'; simp at hc'; rw [← hc'.2.1]; simp)
      exact .inl ⟨R, rest, ad, n, cap, hd, rfl, m2.at hb (by simp; omega), hC.stayT st (by decide) (by decide) (by decide), m.trans m2 (fun x hx => .inr (by simp at hx; omega))⟩
    · exact .inr ⟨hd, rfl, m.trans m2 (fun x hx => .inr (by simp at hx; omega))⟩

set_option maxRecDepth 100000 in
set_option maxHeartbeats 4000000 in
theorem reads4_w (N : Nat) (hN : N ≤ 1099511627776) (v : Value) (g : Nat) (bs : List Nat) (w : World) (hv0 : IsB w g v bs) (ho : OctN N bs) (hpos : 0 < w.heap.size) :
    Calls Try.prog 9 #[v] w fun e w' => e = .returned (.bool true) ∧ Moves [] w w' := by
  obtain ⟨ad, len, cap, rfl, _⟩ := id hv0
  obtain ⟨g1, hg1, hv1⟩ := isB_in hv0 hpos
  have hm0 : Moves [] w (w.alloc (.cells #[.slice none 0 0] 26)) := (Moves.refl _ _).alloc _
  have b0 := heap_alloc_new w (.cells #[.slice none 0 0] 26)
  replace hv1 := hv1.moves hm0 (by simp)
  have hsz : (w.alloc (.cells #[.slice none 0 0] 26)).heap.size = w.heap.size + 1 := by simp
  have hR := read4_w N g1 w.heap.size _ bs _ hv1 ho (by rw [hsz]; omega) b0 (by omega)
  have hE := dGood_eq ho
  cases hd : dGood tAny bs with
  | none =>
    have HD : Hid (dGood tAny bs = none) := hd
    have HD2 : Hid (dGood tMax bs = none) := by unfold Hid; rw [← hE]; exact hd
    clear hd hE
    go_enter Try.func9, Try.ntmps9
    go_wp2_with fail
    generalize (w.alloc (.cells #[.slice none 0 0] 26)) = W1 at *
    refine hR.mono ?_
    intro e2 w2 hT
    obtain ⟨rfl, m2⟩ : e2 = .returned (.bool false) ∧ Moves [] W1 w2 := by
      rcases hT with ⟨_, _, _, _, _, h1, _⟩ | ⟨_, h1, h2⟩
      · rw [HD.out] at h1; simp at h1
      · exact ⟨h1, h2⟩
    have hs2 := m2.size
    have hv2 := hv1.moves m2 (by simp)
    have r3 := rf_new hv2 (by omega)
    have ma : Moves [] w2 (w2.alloc (.cells #[.slice ad len cap, .bool false] 80)) := (Moves.refl _ _).alloc _
    have hT3 := refTake_w N hN _ g1 bs _ r3 ho (by have := ma.size; omega)
    go_wp2_with (first | (go_at_call 32; refine hT3.mono ?_; intro e4 w4 hTT; obtain ⟨rfl, hr4, m4⟩ : e4 = .returned (.agg #[.slice none 0 0]) ∧ RfIs w4 w2.heap.size g1 [] true ∧ Moves [w2.heap.size] (w2.alloc (.cells #[.slice ad len cap, .bool false] 80)) w4 := (by rcases hTT with ⟨_, _, _, _, _, h1, _⟩ | ⟨_, h2⟩; (rw [HD2.out] at h1; simp at h1); exact h2)) | (go_at_call 33; refine (rfWhole_w _ g1 [] true _ (hr4.moves ((Moves.refl [] _).alloc _) (by simp) (by simp))).mono ?_; rintro _ _ ⟨rfl, rfl⟩))
    go_ret
    exact ⟨rfl, ((((hm0.then m2).then ma).trans m4 (fun x hx => .inr (by simp at hx; have := hm0.size; omega))).then ((Moves.refl _ _).alloc _))⟩
  | some z =>
    obtain ⟨R, rest⟩ := z
    have HD : Hid (dGood tAny bs = some (R, rest)) := hd
    have HD2 : Hid (dGood tMax bs = some (R, rest)) := by unfold Hid; rw [← hE]; exact hd
    have hpr := (dGood_yes hd).2
    have hR1 : R.length ≤ 1048576 := by have := pright_len4 hpr; omega
    have hR2 : ∀ x ∈ R, x.l.length ≤ 1048576 := fun x hx => by have := (prightV_two (pright_at hpr hx).2).2; omega
    clear hd hE hpr
    cases hr : ((rest.length : Int) == 0) with
    | true =>
      go_enter Try.func9, Try.ntmps9
      go_wp2_with fail
      generalize (w.alloc (.cells #[.slice none 0 0] 26)) = W1 at *
      refine hR.mono ?_
      intro e2 w2 hT
      obtain ⟨ad2, n2, cap2, rfl, hb2, hC2, m2⟩ : ∃ ad n cap, e2 = .returned (.bool true) ∧ w2.heap[w.heap.size]? = some (.cells #[.slice ad n cap] 26 (0, 0)) ∧ ColsAt w2 (.slice ad n cap) R ∧ Moves [w.heap.size] W1 w2 := by
        rcases hT with ⟨R', rest', ad, n, cap, h1, h2⟩ | ⟨h1, _⟩
        · rw [HD.out] at h1
          simp only [Option.some.injEq, Prod.mk.injEq] at h1
          obtain ⟨rfl, rfl⟩ := h1
          rw [hr] at h2
          exact ⟨ad, n, cap, h2⟩
        · rw [HD.out] at h1; simp at h1
      have hs2 := m2.size
      have hv2 := hv1.moves m2 (by simp; omega)
      have r3 := rf_new hv2 (by omega)
      have ma : Moves [] w2 (w2.alloc (.cells #[.slice ad len cap, .bool false] 80)) := (Moves.refl _ _).alloc _
      have hT3 := refTake_w N hN _ g1 bs _ r3 ho (by have := ma.size; omega)
      go_wp2_with (first | (go_at_call 32; refine hT3.mono ?_; intro e4 w4 hTT; obtain ⟨ad4, n4, cap4, rfl, hG4, hr4, m4⟩ : ∃ ad' n' cap', e4 = .returned (.agg #[.slice ad' n' cap']) ∧ GrowC (w2.alloc (.cells #[.slice ad len cap, .bool false] 80)) w4 (.slice ad' n' cap') R ∧ RfIs w4 w2.heap.size g1 rest false ∧ Moves [w2.heap.size] (w2.alloc (.cells #[.slice ad len cap, .bool false] 80)) w4 := (by rcases hTT with ⟨R', rest', ad', n', cap', h1, h2⟩ | ⟨h1, _⟩; (rw [HD2.out] at h1; simp only [Option.some.injEq, Prod.mk.injEq] at h1; obtain ⟨rfl, rfl⟩ := h1; exact ⟨ad', n', cap', h2⟩); (rw [HD2.out] at h1; simp at h1)); have mb : (Moves [] w4 (w4.alloc (.cells #[.slice ad4 n4 cap4] 26))) := (Moves.refl _ _).alloc _; have q5 := mb.at (m4.at (ma.at hb2 (by simp)) (by simp; have := lt_of_block hb2; omega)) (by simp); obtain ⟨x0, x1⟩ := one_cell q5; have hst4 : Stay (fun t => t ≠ 80) (w2.alloc (.cells #[.slice ad len cap, .bool false] 80)) w4 := (Stay.ofMovesS m4 (fun k hk c' t' fz' hc' => (by simp at hk; subst hk; rw [heap_alloc_new] at hc'; simp at hc'; rw [← hc'.2.1]; simp))); have hC5 := ((hC2.moves ma).stayT hst4 (by decide) (by decide) (by decide)).moves mb; have hG5 := hG4.at.moves mb) | (go_at_call 33; refine (rfWhole_w _ g1 rest false _ (hr4.moves mb (by simp) (by simp))).mono ?_; rintro _ _ ⟨rfl, rfl⟩; rw [hr]) | (go_at_call 34; refine (rfSame_yes _ _ _ _ R R ⟨_, rfl, hC5⟩ ⟨_, rfl, hG5⟩ (Moves.refl _ _) (SameR.refl R) hR1 hR2).mono ?_; rintro _ w6 ⟨rfl, m6⟩))
      go_ret
      exact ⟨rfl, ((((hm0.trans m2 (fun x hx => .inr (by simp at hx; omega))).then ma).trans m4 (fun x hx => .inr (by simp at hx; have := hm0.size; omega))).then mb).then m6⟩
    | false =>
      go_enter Try.func9, Try.ntmps9
      go_wp2_with fail
      generalize (w.alloc (.cells #[.slice none 0 0] 26)) = W1 at *
      refine hR.mono ?_
      intro e2 w2 hT
      obtain ⟨ad2, n2, cap2, rfl, hb2, hC2, m2⟩ : ∃ ad n cap, e2 = .returned (.bool false) ∧ w2.heap[w.heap.size]? = some (.cells #[.slice ad n cap] 26 (0, 0)) ∧ ColsAt w2 (.slice ad n cap) R ∧ Moves [w.heap.size] W1 w2 := by
        rcases hT with ⟨R', rest', ad, n, cap, h1, h2⟩ | ⟨h1, _⟩
        · rw [HD.out] at h1
          simp only [Option.some.injEq, Prod.mk.injEq] at h1
          obtain ⟨rfl, rfl⟩ := h1
          rw [hr] at h2
          exact ⟨ad, n, cap, h2⟩
        · rw [HD.out] at h1; simp at h1
      have hs2 := m2.size
      have hv2 := hv1.moves m2 (by simp; omega)
      have r3 := rf_new hv2 (by omega)
      have ma : Moves [] w2 (w2.alloc (.cells #[.slice ad len cap, .bool false] 80)) := (Moves.refl _ _).alloc _
      have hT3 := refTake_w N hN _ g1 bs _ r3 ho (by have := ma.size; omega)
      go_wp2_with (first | (go_at_call 32; refine hT3.mono ?_; intro e4 w4 hTT; obtain ⟨ad4, n4, cap4, rfl, hG4, hr4, m4⟩ : ∃ ad' n' cap', e4 = .returned (.agg #[.slice ad' n' cap']) ∧ GrowC (w2.alloc (.cells #[.slice ad len cap, .bool false] 80)) w4 (.slice ad' n' cap') R ∧ RfIs w4 w2.heap.size g1 rest false ∧ Moves [w2.heap.size] (w2.alloc (.cells #[.slice ad len cap, .bool false] 80)) w4 := (by rcases hTT with ⟨R', rest', ad', n', cap', h1, h2⟩ | ⟨h1, _⟩; (rw [HD2.out] at h1; simp only [Option.some.injEq, Prod.mk.injEq] at h1; obtain ⟨rfl, rfl⟩ := h1; exact ⟨ad', n', cap', h2⟩); (rw [HD2.out] at h1; simp at h1)); have mb : (Moves [] w4 (w4.alloc (.cells #[.slice ad4 n4 cap4] 26))) := (Moves.refl _ _).alloc _) | (go_at_call 33; refine (rfWhole_w _ g1 rest false _ (hr4.moves mb (by simp) (by simp))).mono ?_; rintro _ _ ⟨rfl, rfl⟩; rw [hr]))
      go_ret
      exact ⟨rfl, ((((hm0.trans m2 (fun x hx => .inr (by simp at hx; omega))).then ma).trans m4 (fun x hx => .inr (by simp at hx; have := hm0.size; omega))).then mb)⟩

set_option maxRecDepth 100000 in
set_option maxHeartbeats 4000000 in
theorem writes4_w (W w : World) (v : Value) (R : List Pcol) (h : RowAt W v R) (m : Moves [] W w) (hr : pright R = true) :
    Calls Try.prog 8 #[v] w fun e w' => e = .returned (.bool true) ∧ Moves [] w w' := by
  have h0 := h
  obtain ⟨lv, rfl, hl⟩ := h
  obtain ⟨ad, cap, rfl, hc⟩ := hl.slice
  have hpe : ∀ (p : Nat) (w1 : World), (binOp .eql 70 (.pointer (some ⟨p, 0, none⟩)) (.pointer none)).run Try.prog w1 = .ok (.bool false) w1 := by intro p w1; kernel_rfl
  have hpl := pencR_len hr
  obtain ⟨E, hE⟩ : ∃ E, [] ++ pencR R = E := ⟨_, rfl⟩
  have hask : pasked R = R := by unfold pasked; rw [if_pos hr]
  have HE1 : Hid ([] ++ pencR (pasked R) = E) := by unfold Hid; rw [hask]; exact hE
  have HE2 : Hid ([] ++ pencR R = E) := hE
  have lE : E.length ≤ 1099511627776 := by rw [← hE, List.nil_append]; omega
  have oE : ∀ z ∈ E, z < 256 := by rw [← hE, List.nil_append]; exact pencR_oct hr (rowAt_oct h0)
  have m1 : Moves [] w (w.alloc (.cells #[.slice ad R.length cap] 26)) := (Moves.refl _ _).alloc _
  have b0 := heap_alloc_new w (.cells #[.slice ad R.length cap] 26)
  have H0 : Hid (RowAt W (.agg #[.slice ad R.length cap]) R) := h0
  clear hE hl h0 hask hpl
  go_enter Try.func8, Try.ntmps8
  go_wp2_with fail
  generalize (w.alloc (.cells #[.slice ad R.length cap] 26)) = W1 at *
  refine (new_w _).mono ?_
  rintro _ w3 ⟨rfl, hW3, m3⟩
  have MW1 : Moves [] W W1 := m.then m1
  have hS3 : WrS W1 w3 W1.heap.size none [] := ⟨hW3, m3, Nat.le_refl _, by simp⟩
  have b3 := m3.at b0 (by simp)
  obtain ⟨c0, _⟩ := one_cell b3
  have lb := lt_of_block b0
  go_wp2_with (go_at_call 27; refine (rowWrite_w W1 _ _ none [] _ R (H0.out.moves MW1) hS3 (by simp)).mono ?_; rintro _ w4 ⟨rfl, a4, hS4⟩; rw [HE1.out] at hS4; have b4 := hS4.moves.at b0 (by simp); obtain ⟨c4, _⟩ := one_cell b4)
  have M4 : Moves [] w w4 := m1.then hS4.moves
  refine wp_region_noPanic ?_
  go_region_held (fun w' => w'.cell? ⟨w.heap.size, 0, none⟩ = some (.slice ad R.length cap)) (first | (go_keep; done) | exact c4 | exact c5 | exact c6) (first | (go_at_call 28; refine (done_w _ a4 E _ (hS4.wr.moves (Moves.refl [] _).drew (by simp) (by simp)) lE).mono ?_; rintro _ w5 ⟨v5, rfl, ho5, m5, f5⟩; have r1 := run_str ho5.isB oE; have c5 := m5.cell (show w4.drew.cell? _ = _ from c4)) | (go_at_call 7; refine (refWrite_w W _ _ 0 [] _ R (isB_nil _ _) (by simp) H0.out ((m.then M4).drew.then m5) hr).mono ?_; rintro _ w6 ⟨ad6, n6, cap6, rfl, ho6, m6, f6⟩; rw [HE2.out] at ho6; have r1' := run_str (ho5.moves m6 (by simp)).isB oE; have r2 := run_str ho6.isB oE; have c6 := m6.cell c5))
  all_goals (refine NoPanic.normal ?_; go_wp2; go_ret; exact ⟨rfl, (M4.drew.then m5).then m6⟩)
end Go.Proofs.Ytdngndkdkbggkaa
