/-
  What the law's own 'writes' and 'reads' do: for every value, and for any bytes, they return true, and write nothing that was there.
-/
import Derived.Test.YthgoedifkabadaaRf3d
import Derived.Test.YthgoedifkabadaaBack3
namespace Go.Proofs.Ythgoedifkabadaa
open Go.RowKit

theorem rPut_v (v : Value) (g : Nat) (bs es : List Nat) (va : Value) (A : Vm) (w : World) (hva : va = A.val) (hb : IsB w g v bs) (ha : A.In w) (hn : bs.length + 2000010 ≤ 1099511627776) (hl : A.bs.length ≤ 1048576) (he : bs ++ venc A = es) :
    Calls Try.prog 9 #[v, va] w fun e w' => ∃ v', e = .returned v' ∧ Own w' v' es ∧ Moves [] w w' ∧ Fresh w v' := by
  subst hva he
  exact rPut_w v g bs A w hb ha hn hl

set_option maxHeartbeats 4000000 in
theorem writes_w (va : Value) (A : Vm) (w : World) (hV : VIs w va A) (hl : A.bs.length ≤ 1048576) :
    Calls Try.prog 11 #[va] w fun e w' => e = .returned (.bool true) ∧ Moves [] w w' := by
  have hval := hV.val
  have hin := hV.isIn
  obtain ⟨ad, len, cap, hbv, rfl⟩ := hV.open
  obtain ⟨k, hk⟩ : ∃ k, A.kind = k := ⟨_, rfl⟩
  obtain ⟨n, hn⟩ : ∃ n, A.n = n := ⟨_, rfl⟩
  rw [hk, hn] at hval ⊢
  have hold := hin.old
  have HVAL : Hid (Value.agg #[.int .i64 k, .slice ad len cap, .float .f64 n] = A.val) := hval
  obtain ⟨E, hE⟩ : ∃ E, [] ++ venc A = E := ⟨_, rfl⟩
  have HE : Hid ([] ++ venc A = E) := hE
  have lE : E.length ≤ 1048600 := by rw [← hE]; have := venc_length A; simp; omega
  have oE : ∀ z ∈ E, z < 256 := by rw [← hE, List.nil_append]; exact venc_oct hin.oct
  have hm0 : Moves [] w (w.alloc (.cells #[.int .i64 k, .slice ad len cap, .float .f64 n] 28)) := (Moves.refl _ _).alloc _
  have b0 : (w.alloc (.cells #[.int .i64 k, .slice ad len cap, .float .f64 n] 28)).heap[w.heap.size]? = some (.cells #[.int .i64 k, .slice ad len cap, .float .f64 n] 28 (0, 0)) := heap_alloc_new _ _
  have hz0 : ([] : List Nat).length + 2000010 ≤ 1099511627776 := by rw [List.length_nil]; omega
  have lE2 : E.length ≤ 1099511627776 := by omega
  have hne0 : w.heap.size ≠ (w.alloc (.cells #[.int .i64 k, .slice ad len cap, .float .f64 n] 28)).heap.size := by simp
  clear hval hE hV hbv hk hn
  go_enter Try.func11, Try.ntmps11
  go_wp2_with fail
  generalize (w.alloc (.cells #[.int .i64 k, .slice ad len cap, .float .f64 n] 28)) = W1 at *
  refine (new_w _).mono ?_
  rintro _ w3 ⟨rfl, hW3, m3⟩
  replace b0 := m3.at b0 (by simp)
  have lb0 := lt_of_block b0
  have lW1 := hm0.size
  obtain ⟨c0, c1, c2, _, _, _⟩ := three_cells b0
  have i3 := hin.moves (hm0.then m3) (by simp)
  have hne : w.heap.size ≠ W1.heap.size := hne0
  go_wp2_with (go_at_call 16; refine (put_v _ none [] E _ A _ HVAL.out hW3 hz0 i3 hl (fun hn => (by have := hold hn; simp; omega)) HE.out).mono ?_; rintro _ w4 ⟨rfl, a4, hw4⟩; replace b0 := hw4.2.1.at b0 (by simpa using hne); clear c0 c1 c2; obtain ⟨c0, c1, c2, _, _, _⟩ := three_cells b0; have i4 := i3.moves' hw4.2.1 (fun hn => (by have := hold hn; simp; omega)))
  have M4 : Moves [] w w4 := (hm0.then m3).trans hw4.2.1 (fun x hx => .inr (by simp at hx; omega))
  refine wp_region_noPanic ?_
  go_region_held (fun w' => w'.cell? ⟨w.heap.size, 0, none⟩ = some (.int .i64 k) ∧ w'.cell? ⟨w.heap.size, 1, none⟩ = some (.slice ad len cap) ∧ w'.cell? ⟨w.heap.size, 2, none⟩ = some (.float .f64 n)) (first | (go_keep; done) | exact ⟨c0, c1, c2⟩) (first | (go_at_call 18; refine (done_w _ a4 E _ (hw4.1.moves (Moves.refl [] _).drew (by simp) (by simp)) lE2).mono ?_; rintro _ w5 ⟨v5, rfl, ho5, m5, f5⟩; have r1 := run_str ho5.isB oE; have d0 := m5.cell (show w4.drew.cell? _ = _ from c0); have d1 := m5.cell (show w4.drew.cell? _ = _ from c1); have d2 := m5.cell (show w4.drew.cell? _ = _ from c2); clear c0 c1 c2; have c0 := d0; have c1 := d1; have c2 := d2; clear d0 d1 d2) | (go_at_call 9; refine (rPut_v _ 0 [] E _ A _ HVAL.out (isB_nil _ _) (i4.moves ((Moves.refl [] _).drew.then m5) (by simp)) hz0 hl HE.out).mono ?_; rintro _ w6 ⟨v6, rfl, ho6, m6, f6⟩; have r1' := run_str (ho5.moves m6 (by simp)).isB oE; have r2 := run_str ho6.isB oE; have d0 := m6.cell c0; have d1 := m6.cell c1; have d2 := m6.cell c2; clear c0 c1 c2; have c0 := d0; have c1 := d1; have c2 := d2; clear d0 d1 d2))
  all_goals (refine NoPanic.normal ?_; go_wp2; go_ret; exact ⟨rfl, (M4.drew.then m5).then m6⟩)

theorem isB_away {w : World} {g : Nat} {v : Value} {bs : List Nat} (h : IsB w g v bs) (S : List Nat) (hS : ∀ x ∈ S, w.heap.size ≤ x) : ∃ g', g' ∉ S ∧ IsB w g' v bs :=
  h.pick S (fun hn hx => by have := h.lt hn; have := hS g hx; omega)

theorem reads1_ok (p g qa : Nat) (bs : List Nat) (k : Int) (tx : List Nat) (n : Nat) (rest : List Nat) (w : World) (h : RdIs w p g bs false) (ho : ∀ b ∈ bs, b < 256) (hd : VDec bs k tx n rest)
    (ha : w.heap[qa]? = some (.cells #[.int .i64 0, .slice none 0 0, .float .f64 0] 28 (0, 0))) (hpa : qa ≠ p) (hga : g ≠ qa) :
    Calls Try.prog 33 #[.pointer (some ⟨p, 0, none⟩), .pointer (some ⟨qa, 0, none⟩)] w fun e w' => e = .returned (.tuple #[]) ∧ RdIs w' p g rest false ∧ BoxHas w w' qa k tx n ∧ Moves [p, qa] w w' := by
  have la := lt_of_block ha
  go_enter Try.func33, Try.ntmps33
  go_wp2_with (go_at_call 20; refine (vGet_ok _ g _ _ _ _ _ _ h ho hd).mono ?_; rintro _ w2 ⟨c2, rfl, hc2⟩; obtain ⟨k2, v2, g2, b2, n2⟩ := c2; obtain ⟨rfl, rfl, rfl, ho2, hf2, hi2, hr2, m2⟩ := hc2; simp only [Vm.val]; have hB2 := ho2.isB; obtain ⟨ad2, len2, cap2, rfl, _⟩ := hB2; have ha2 := m2.at ha (by simpa using hpa); obtain ⟨x0, x1, x2, y0, y1, y2⟩ := three_cells ha2)
  go_end0
  have st := stored_box (k := k2) (n := n2) ha2 ho2 hf2 la
  exact ⟨rfl, hr2.moves st.2 (by simpa using Ne.symm hpa) (by simpa using hga), st.1, (m2.mono (by simp)).then (st.2.mono (by simp))⟩

theorem reads1_fail (p g qa : Nat) (bs : List Nat) (w : World) (h : RdIs w p g bs false) (ho : ∀ b ∈ bs, b < 256) (hd : ¬ ∃ k tx n rest, VDec bs k tx n rest) :
    Calls Try.prog 33 #[.pointer (some ⟨p, 0, none⟩), .pointer (some ⟨qa, 0, none⟩)] w fun e w' => e = .panicked (stop p) ∧ ∃ bs', RdIs w' p g bs' true ∧ Moves [p] w w' := by
  go_enter Try.func33, Try.ntmps33
  go_wp2_with (go_at_call 20; refine (vGet_fail _ g _ _ h ho hd).mono ?_; rintro _ w2 ⟨rfl, bs', hr2, m2⟩)
  exact ⟨rfl, rfl, bs', hr2, m2⟩

theorem read_ok (v : Value) (g qa : Nat) (bs : List Nat) (k : Int) (tx : List Nat) (n : Nat) (rest : List Nat) (w : World) (hv : IsB w g v bs) (ho : ∀ b ∈ bs, b < 256) (hd : VDec bs k tx n rest)
    (ha : w.heap[qa]? = some (.cells #[.int .i64 0, .slice none 0 0, .float .f64 0] 28 (0, 0))) (hga : g ≠ qa) :
    Calls Try.prog 17 #[v, .func (.func 33) #[] #[.pointer (some ⟨qa, 0, none⟩)]] w fun e w' => e = .returned (.bool ((rest.length : Int) == 0)) ∧ BoxHas w w' qa k tx n ∧ Moves [qa] w w' := by
  have la := lt_of_block ha
  have hgl : g < w.heap.size := hv.lt (by intro e; have := hd.1; rw [e] at this; simp at this)
  refine (read_ret 33 #[.pointer (some ⟨qa, 0, none⟩)] v g bs rest w hv (by omega) (fun w2 => ∃ w1 : World, w.heap.size < w1.heap.size ∧ BoxHas w1 w2 qa k tx n ∧ Moves [qa] w w2) (fun _ _ => rfl) ?_).mono ?_
  · intro w1 hbg hm
    refine (reads1_ok w.heap.size g qa bs k tx n rest w1 hbg.1 ho hd (hm.at ha (by simp)) (by omega) hga).mono ?_
    rintro _ w2 ⟨rfl, hr, h1, m⟩
    refine ⟨rfl, ⟨hr, m.at hbg.2 (by simp; omega)⟩, w1, hbg.1.ltp, h1, ?_⟩
    exact (hm.mono (by simp)).trans m (fun x hx => by
        simp at hx
        rcases hx with rfl | rfl
        · exact .inr (Nat.le_refl _)
        · exact .inl (by simp))
  · rintro _ w' ⟨rfl, w2, ⟨w1, hlt, h1, m⟩, m2⟩
    exact ⟨rfl, (h1.moves m2 (by simp; omega) (by simpa using hlt)).elder (by omega), m.trans m2 (fun x hx => .inr (by simp at hx; omega))⟩

theorem read_bad (v : Value) (g qa : Nat) (bs : List Nat) (w : World) (hv : IsB w g v bs) (hg : g ≠ w.heap.size) (ho : ∀ b ∈ bs, b < 256) (hd : ¬ ∃ k tx n rest, VDec bs k tx n rest) :
    Calls Try.prog 17 #[v, .func (.func 33) #[] #[.pointer (some ⟨qa, 0, none⟩)]] w fun e w' => e = .returned (.bool false) ∧ Moves [] w w' := by
  refine (read_any 33 #[.pointer (some ⟨qa, 0, none⟩)] v g bs w hv hg (fun _ _ => False) (fun _ w2 => Moves [] w w2) (fun _ _ => rfl) ?_).mono ?_
  · intro w1 hbg hm
    refine (reads1_fail w.heap.size g qa bs w1 hbg.1 ho hd).mono ?_
    rintro _ w2 ⟨rfl, bs', hr, m⟩
    exact .inr ⟨rfl, bs', ⟨hr, m.at hbg.2 (by simp)⟩, hm.trans m (fun x hx => .inr (by simp at hx; omega))⟩
  · rintro _ w' (⟨bs', rfl, w2, h, _⟩ | ⟨rfl, bs', w2, h, m2⟩)
    · exact h.elim
    · exact ⟨rfl, h.trans m2 (fun x hx => .inr (by simp at hx; omega))⟩

theorem rf_new {w : World} {g : Nat} {v : Value} {bs : List Nat} (h : IsB w g v bs) (hg : g ≠ w.heap.size) : RfIs (w.alloc (.cells #[v, .bool false] 57)) w.heap.size g bs false :=
  ⟨v, heap_alloc_new _ _, h.moves ((Moves.refl [] _).alloc _) (by simp), hg⟩

theorem vord_like {A B : Vm} (hk : A.kind = B.kind) (hb : A.bs = B.bs) (hn : A.n = B.n) : vord A B = 0 := by
  have := vord_self A
  unfold vord at *
  rw [← hk, ← hb, ← hn]
  exact this

theorem rsame_b (W w : World) (va vb : Value) (A B : Vm) (ha : VIs W va A) (hb : VIs W vb B) (m : Moves [] W w) :
    Calls Try.prog 27 #[va, vb] w fun e w' => e = .returned (.bool (vord A B == 0)) ∧ Moves [] W w' := by
  obtain ⟨rfl, ha⟩ := ha
  obtain ⟨rfl, hb⟩ := hb
  exact (rSame_w A B w (ha.moves m (by simp)) (hb.moves m (by simp))).mono fun e w' h => ⟨h.1, m.then h.2⟩

theorem rsame_like (W w : World) (va vb : Value) (A B : Vm) (ha : VIs W va A) (hb : VIs W vb B) (m : Moves [] W w) (hk : A.kind = B.kind) (hs : A.bs = B.bs) (hn : A.n = B.n) :
    Calls Try.prog 27 #[va, vb] w fun e w' => e = .returned (.bool true) ∧ Moves [] W w' := by
  have h := rsame_b W w va vb A B ha hb m
  rw [vord_like hk hs hn] at h
  exact h

set_option maxHeartbeats 4000000 in
theorem reads_w (v : Value) (g : Nat) (bs : List Nat) (w : World) (hv : IsB w g v bs) (ho : ∀ b ∈ bs, b < 256) (hb : bs.length ≤ 1099511627776) :
    Calls Try.prog 10 #[v] w fun e w' => e = .returned (.bool true) ∧ Moves [] w w' := by
  obtain ⟨ad, len, cap, rfl, _⟩ := id hv
  have hm0 : Moves [] w (w.alloc (.cells #[.int .i64 0, .slice none 0 0, .float .f64 0] 28)) := (Moves.refl _ _).alloc _
  have b0 : (w.alloc (.cells #[.int .i64 0, .slice none 0 0, .float .f64 0] 28)).heap[w.heap.size]? = some (.cells #[.int .i64 0, .slice none 0 0, .float .f64 0] 28 (0, 0)) := heap_alloc_new _ _
  by_cases hd : ∃ k tx n rest, VDec bs k tx n rest
  · obtain ⟨k, tx, n, rest, hd⟩ := hd
    have hgl : g < w.heap.size := hv.lt (by intro e; have := hd.1; rw [e] at this; simp at this)
    by_cases hr : rest = []
    · subst hr
      go_enter Try.func10, Try.ntmps10
      go_wp2_with fail
      replace hv := hv.moves hm0 (by simp)
      have hsz := hm0.size
      have hlt0 := lt_of_block b0
      generalize (w.alloc (.cells #[.int .i64 0, .slice none 0 0, .float .f64 0] 28)) = W1 at *
      refine (read_ok _ g w.heap.size bs k tx n [] _ hv ho hd b0 (by omega)).mono ?_
      rintro _ w2 ⟨rfl, hA, m2⟩
      obtain ⟨ad3, len3, cap3, q3, o3, f3⟩ := hA
      have hv2 := hv.moves m2 (by simp; omega)
      have hs2 := m2.size
      have r3 := rf_new hv2 (by omega)
      have ma : Moves [] w2 (w2.alloc (.cells #[.slice ad len cap, .bool false] 57)) := (Moves.refl _ _).alloc _
      go_wp2_with (first | (go_at_call 34; refine (rGet_ok _ g bs k tx n [] _ r3 hb ho hd).mono ?_; rintro _ w4 ⟨c4, rfl, hc4⟩; obtain ⟨k4, v4, g4, b4, n4⟩ := c4; obtain ⟨rfl, rfl, rfl, ho4, hf4, hi4, hr4, m4⟩ := hc4; simp only [Vm.val]; have hB4 := ho4.isB; obtain ⟨ad4, len4, cap4, rfl, _⟩ := hB4; have mb : (Moves [] w4 (w4.alloc (.cells #[.int .i64 k4, .slice ad4 len4 cap4, .float .f64 n4] 28))) := (Moves.refl _ _).alloc _; have q5 := mb.at (m4.at (ma.at q3 (by simp)) (by simp; omega)) (by simp); obtain ⟨x0, x1, x2, _, _, _⟩ := three_cells q5; have o5 := ((o3.moves ma (by simp)).moves m4 (fun j hj => (by have := o3.lt hj; simp; omega))).moves mb (by simp); have vA : (VIs (w4.alloc (.cells #[.int .i64 k4, .slice ad4 len4 cap4, .float .f64 n4] 28)) (.agg #[.int .i64 k4, .slice ad3 len3 cap3, .float .f64 n4]) ⟨k4, .slice ad3 len3 cap3, (Value.slice ad3 len3 cap3).ownBlock.getD 0, b4, n4⟩) := ⟨rfl, ⟨o5.isB, hi4.fits, hi4.oct⟩⟩; have vB : (VIs (w4.alloc (.cells #[.int .i64 k4, .slice ad4 len4 cap4, .float .f64 n4] 28)) (.agg #[.int .i64 k4, .slice ad4 len4 cap4, .float .f64 n4]) ⟨k4, .slice ad4 len4 cap4, g4, b4, n4⟩) := ⟨rfl, hi4.moves mb (by simp)⟩) | (go_at_call 35; refine (rfWhole_w _ g [] false _ (hr4.moves mb (by simp) (by simp))).mono ?_; rintro _ _ ⟨rfl, rfl⟩) | (go_at_call 27; refine (rsame_like _ _ _ _ _ _ vA vB (Moves.refl _ _) rfl rfl rfl).mono ?_; rintro _ w6 ⟨rfl, m6⟩))
      go_ret
      have M5 : Moves [] w (w4.alloc (.cells #[.int .i64 k4, .slice ad4 len4 cap4, .float .f64 n4] 28)) := (((hm0.trans m2 (fun x hx => .inr (by simp at hx; omega))).then ma).trans m4 (fun x hx => .inr (by simp at hx; omega))).then mb
      exact ⟨rfl, M5.then m6⟩
    · have t : ((rest.length : Int) == 0) = false := by
        simpa using hr
      clear hr
      go_enter Try.func10, Try.ntmps10
      go_wp2_with fail
      replace hv := hv.moves hm0 (by simp)
      have hsz := hm0.size
      have hlt0 := lt_of_block b0
      generalize (w.alloc (.cells #[.int .i64 0, .slice none 0 0, .float .f64 0] 28)) = W1 at *
      refine (read_ok _ g w.heap.size bs k tx n rest _ hv ho hd b0 (by omega)).mono ?_
      rintro _ w2 ⟨rfl, hA, m2⟩
      obtain ⟨ad3, len3, cap3, q3, o3, f3⟩ := hA
      have hv2 := hv.moves m2 (by simp; omega)
      have hs2 := m2.size
      have r3 := rf_new hv2 (by omega)
      have ma : Moves [] w2 (w2.alloc (.cells #[.slice ad len cap, .bool false] 57)) := (Moves.refl _ _).alloc _
      go_wp2_with (first | (go_at_call 34; refine (rGet_ok _ g bs k tx n rest _ r3 hb ho hd).mono ?_; rintro _ w4 ⟨c4, rfl, hc4⟩; obtain ⟨k4, v4, g4, b4, n4⟩ := c4; obtain ⟨rfl, rfl, rfl, ho4, hf4, hi4, hr4, m4⟩ := hc4; simp only [Vm.val]; have hB4 := ho4.isB; obtain ⟨ad4, len4, cap4, rfl, _⟩ := hB4; have mb : (Moves [] w4 (w4.alloc (.cells #[.int .i64 k4, .slice ad4 len4 cap4, .float .f64 n4] 28))) := (Moves.refl _ _).alloc _; have q5 := mb.at (m4.at (ma.at q3 (by simp)) (by simp; omega)) (by simp); obtain ⟨x0, x1, x2, _, _, _⟩ := three_cells q5; have o5 := ((o3.moves ma (by simp)).moves m4 (fun j hj => (by have := o3.lt hj; simp; omega))).moves mb (by simp); have vA : (VIs (w4.alloc (.cells #[.int .i64 k4, .slice ad4 len4 cap4, .float .f64 n4] 28)) (.agg #[.int .i64 k4, .slice ad3 len3 cap3, .float .f64 n4]) ⟨k4, .slice ad3 len3 cap3, (Value.slice ad3 len3 cap3).ownBlock.getD 0, b4, n4⟩) := ⟨rfl, ⟨o5.isB, hi4.fits, hi4.oct⟩⟩; have vB : (VIs (w4.alloc (.cells #[.int .i64 k4, .slice ad4 len4 cap4, .float .f64 n4] 28)) (.agg #[.int .i64 k4, .slice ad4 len4 cap4, .float .f64 n4]) ⟨k4, .slice ad4 len4 cap4, g4, b4, n4⟩) := ⟨rfl, hi4.moves mb (by simp)⟩) | (go_at_call 35; refine (rfWhole_w _ g rest false _ (hr4.moves mb (by simp) (by simp))).mono ?_; rintro _ _ ⟨rfl, rfl⟩))
      go_ret
      have M5 : Moves [] w (w4.alloc (.cells #[.int .i64 k4, .slice ad4 len4 cap4, .float .f64 n4] 28)) := (((hm0.trans m2 (fun x hx => .inr (by simp at hx; omega))).then ma).trans m4 (fun x hx => .inr (by simp at hx; omega))).then mb
      exact ⟨rfl, M5⟩
  · obtain ⟨g1, hg1, hv1⟩ := isB_away hv [w.heap.size, w.heap.size + 1] (by simp)
    simp only [List.mem_cons, List.not_mem_nil, or_false, not_or] at hg1
    go_enter Try.func10, Try.ntmps10
    go_wp2_with fail
    replace hv1 := hv1.moves hm0 (by simp)
    have hsz : (w.alloc (.cells #[.int .i64 0, .slice none 0 0, .float .f64 0] 28)).heap.size = w.heap.size + 1 := by simp
    generalize (w.alloc (.cells #[.int .i64 0, .slice none 0 0, .float .f64 0] 28)) = W1 at *
    refine (read_bad _ g1 w.heap.size bs _ hv1 (by omega) ho hd).mono ?_
    rintro _ w2 ⟨rfl, m2⟩
    obtain ⟨g2, hg2, hv2⟩ := isB_away (hv1.moves m2 (by simp)) [w2.heap.size] (by simp)
    have r3 := rf_new hv2 (by simpa using hg2)
    have ma : Moves [] w2 (w2.alloc (.cells #[.slice ad len cap, .bool false] 57)) := (Moves.refl _ _).alloc _
    have ls := Nat.le_trans hm0.size m2.size
    go_wp2_with (first | (go_at_call 34; refine (rGet_fail _ g2 bs _ r3 hb ho hd).mono ?_; rintro _ w4 ⟨k4, ad4, len4, cap4, n4, rfl, hr4, m4⟩; have mb : (Moves [] w4 (w4.alloc (.cells #[.int .i64 k4, .slice ad4 len4 cap4, .float .f64 n4] 28))) := (Moves.refl _ _).alloc _) | (go_at_call 35; refine (rfWhole_w _ g2 [] true _ (hr4.moves mb (by simp) (by simp))).mono ?_; rintro _ _ ⟨rfl, rfl⟩))
    go_ret
    exact ⟨rfl, ((((hm0.then m2).then ma).trans m4 (fun x hx => .inr (by simp at hx; omega))).then mb)⟩
end Go.Proofs.Ythgoedifkabadaa
