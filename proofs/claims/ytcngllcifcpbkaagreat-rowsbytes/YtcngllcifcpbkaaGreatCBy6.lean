/- ours -/
import Derived.Test.YtcngllcifcpbkaaGreatCRT6
import Derived.Test.YtcngllcifcpbkaaGreatCTab6
import Derived.Test.YtcngllcifcpbkaaGreatCBytes4
namespace Go.Proofs.YtcngllcifcpbkaaGreat
open Go.RowKit

set_option maxRecDepth 100000 in
theorem reads6_1 (N p g qa : Nat) (bs : List Nat) (w : World) (h : RdIs w p g bs false) (ho : OctN N bs) (hN : N ≤ 1000000) (hg : g < w.heap.size) (ha : w.heap[qa]? = some (.cells #[.pointer none] 23 (0, 0))) (hpa : qa ≠ p) (hga : g ≠ qa) :
  Calls Tryz.prog 44 #[.pointer (some ⟨p, 0, none⟩), .pointer (some ⟨qa, 0, none⟩)] w fun e w' =>
   (∃ xs rest tp ta, dTab bs = some (xs, rest) ∧ e = .returned (.tuple #[]) ∧ RdIs w' p g rest false ∧ w'.heap[qa]? = some (.cells #[.pointer (some ⟨tp, 0, none⟩)] 23 (0, 0)) ∧ TabIs w w' tp ta xs ∧ w.heap.size ≤ tp ∧ Moves [p, qa] w w') ∨ (dTab bs = none ∧ e = .panicked (stop p) ∧ ∃ bs', RdIs w' p g bs' true ∧ Moves [p] w w') := by
 have hT := tabTake_w N p g bs w h ho hg hN
 have la := lt_of_block ha
 cases hd : dTab bs with
 | none =>
  have HD : Hid (dTab bs = none) := hd
  clear hd
  go_enter Tryz.func44, Tryz.ntmps44
  go_wp2_with (go_at_call 45; refine hT.mono ?_; intro e2 w2 hTT; obtain ⟨rfl, bs', hr2, m2⟩ : e2 = .panicked (stop p) ∧ ∃ bs', RdIs w2 p g bs' true ∧ Moves [p] w w2 := (by rcases hTT with ⟨_, _, _, _, h1, _⟩ | ⟨_, h2⟩; (rw [HD.out] at h1; simp at h1); exact h2))
  exact ⟨rfl, .inr ⟨trivial, rfl, bs', hr2, m2⟩⟩
 | some z =>
  obtain ⟨xs, rest⟩ := z
  have HD : Hid (dTab bs = some (xs, rest)) := hd
  clear hd
  go_enter Tryz.func44, Tryz.ntmps44
  go_wp2_with (go_at_call 45; refine hT.mono ?_; intro e2 w2 hTT; obtain ⟨tp, ta, rfl, hT2, htp, hr2, m2⟩ : ∃ tp ta, e2 = .returned (.pointer (some ⟨tp, 0, none⟩)) ∧ TabIs w w2 tp ta xs ∧ w.heap.size ≤ tp ∧ RdIs w2 p g rest false ∧ Moves [p] w w2 := (by rcases hTT with ⟨xs', rest', tp, ta, h1, h2⟩ | ⟨h1, _⟩; (rw [HD.out] at h1; simp only [Option.some.injEq, Prod.mk.injEq] at h1; obtain ⟨rfl, rfl⟩ := h1; exact ⟨tp, ta, h2⟩); (rw [HD.out] at h1; simp at h1)); have a2 := m2.at ha (by simpa using hpa); obtain ⟨x0, x1⟩ := one_cell a2)
  go_end0
  have ms : Moves [qa] w2 (w2.setCell ⟨qa, 0, none⟩ (.pointer (some ⟨tp, 0, none⟩))) := moves_set _ _ _ _
  refine .inl ⟨xs, rest, tp, ta, rfl, rfl, hr2.moves ms (by simpa using Ne.symm hpa) (by simpa using hga), set_one a2 _, hT2.moves ms (by simp; omega) (fun k hk => ?_) (Stay.set a2 (by decide) _), htp, (m2.mono (by simp)).then (ms.mono (by simp))⟩
  obtain ⟨v, _, rfl, hG⟩ := hT2
  have := hG.1 k hk
  simp
  omega

set_option maxRecDepth 100000 in
theorem read6_w (N g qa : Nat) (v : Value) (bs : List Nat) (w : World) (hv : IsB w g v bs) (ho : OctN N bs) (hN : N ≤ 1000000) (hg : g < w.heap.size) (ha : w.heap[qa]? = some (.cells #[.pointer none] 23 (0, 0))) (hga : g ≠ qa) :
  Calls Tryz.prog 43 #[v, .func (.func 44) #[] #[.pointer (some ⟨qa, 0, none⟩)]] w fun e w' =>
   (∃ xs rest tp ta W', dTab bs = some (xs, rest) ∧ e = .returned (.bool ((rest.length : Int) == 0)) ∧ w'.heap[qa]? = some (.cells #[.pointer (some ⟨tp, 0, none⟩)] 23 (0, 0)) ∧ TabIs W' w' tp ta xs ∧ Moves [qa] w w') ∨ (dTab bs = none ∧ e = .returned (.bool false) ∧ Moves [] w w') := by
 have la := lt_of_block ha
 refine (read_any 44 #[.pointer (some ⟨qa, 0, none⟩)] v g bs w hv (by omega) (fun rest w2 => ∃ xs tp ta W', dTab bs = some (xs, rest) ∧ (∃ c, w2.heap[w.heap.size]? = some (.cells c 136 (0, 0))) ∧ w2.heap[qa]? = some (.cells #[.pointer (some ⟨tp, 0, none⟩)] 23 (0, 0)) ∧ TabIs W' w2 tp ta xs ∧ w.heap.size < W'.heap.size ∧ W'.heap.size ≤ tp ∧ Moves [qa] w w2) (fun _ w2 => dTab bs = none ∧ Moves [] w w2) (fun _ _ => rfl) ?_).mono ?_
 ·intro w1 hbg hm
  have hlt1 : w.heap.size < w1.heap.size := hbg.1.ltp
  refine (reads6_1 N w.heap.size g qa bs w1 hbg.1 ho hN (Nat.lt_of_lt_of_le hg hm.size) (hm.at ha (by simp)) (by omega) hga).mono ?_
  rintro _ w2 (⟨xs, rest, tp, ta, hd, rfl, hr, hb, hT, htp, m⟩ | ⟨hd, rfl, bs', hr, m⟩)
  ·refine .inl ⟨rfl, rest, ⟨hr, m.at hbg.2 (by simp; omega)⟩, xs, tp, ta, w1, hd, hr.block, hb, hT, hlt1, htp, ?_⟩
   exact (hm.mono (by simp)).trans m (fun x hx => by
     simp at hx
     rcases hx with rfl | rfl
     ·exact .inr (Nat.le_refl _)
     ·exact .inl (by simp))
  ·exact .inr ⟨rfl, bs', ⟨hr, m.at hbg.2 (by simp)⟩, hd, hm.trans m (fun x hx => .inr (by simp at hx; omega))⟩
 ·rintro _ w' (⟨rest, rfl, w2, ⟨xs, tp, ta, W', hd, ⟨c, hc⟩, hb, hT, h1, h2, m⟩, m2⟩ | ⟨rfl, bs', w2, ⟨hd, m⟩, m2⟩)
  ·exact .inl ⟨xs, rest, tp, ta, W', hd, rfl, m2.at hb (by simp; omega), hT.movesP m2 h1 h2 hc, m.trans m2 (fun x hx => .inr (by simp at hx; omega))⟩
  ·exact .inr ⟨hd, rfl, m.trans m2 (fun x hx => .inr (by simp at hx; omega))⟩
theorem TabIs.movesN {W w w3 w4 : World} {tp : Nat} {ta : Option Nat} {xs : List Pnam} {c : Array Value} (h : TabIs W w tp ta xs) (ma : Moves [] w w3) (m : Moves [w.heap.size] w3 w4) (hb : w3.heap[w.heap.size]? = some (.cells c 93 (0, 0))) : TabIs W w4 tp ta xs := by
 have h3 := h.moves0 ma
 have hl := h.ltp
 refine h3.moves m (by simp; omega) (fun k hk => ?_) (stayQ m hb (by decide))
 obtain ⟨v, _, rfl, hG⟩ := h
 obtain ⟨cur, hc⟩ := hG.blk hk
 have := lt_of_block hc
 simp
 omega

set_option maxRecDepth 100000 in
set_option maxHeartbeats 4000000 in
theorem reads6_w (N : Nat) (hN : N ≤ 1000000) (v : Value) (g : Nat) (bs : List Nat) (w : World) (hv0 : IsB w g v bs) (ho : OctN N bs) (hpos : 0 < w.heap.size) :
  Calls Tryz.prog 18 #[v] w fun e w' => e = .returned (.bool true) ∧ Moves [] w w' := by
 obtain ⟨ad, len, cap, rfl, _⟩ := id hv0
 obtain ⟨g1, hg1, hv1⟩ := isB_in hv0 hpos
 have hm0 : Moves [] w (w.alloc (.cells #[.pointer none] 23)) := (Moves.refl _ _).alloc _
 have b0 := heap_alloc_new w (.cells #[.pointer none] 23)
 replace hv1 := hv1.moves hm0 (by simp)
 have hsz : (w.alloc (.cells #[.pointer none] 23)).heap.size = w.heap.size + 1 := by simp
 have hR := read6_w N g1 w.heap.size _ bs _ hv1 ho hN (by rw [hsz]; omega) b0 (by omega)
 cases hd : dTab bs with
 | none =>
  have HD : Hid (dTab bs = none) := hd
  clear hd
  go_enter Tryz.func18, Tryz.ntmps18
  go_wp2_with fail
  generalize (w.alloc (.cells #[.pointer none] 23)) = W1 at *
  refine hR.mono ?_
  intro e2 w2 hT
  obtain ⟨rfl, m2⟩ : e2 = .returned (.bool false) ∧ Moves [] W1 w2 := by
   rcases hT with ⟨_, _, _, _, _, h1, _⟩ | ⟨_, h1, h2⟩
   ·rw [HD.out] at h1; simp at h1
   ·exact ⟨h1, h2⟩
  have hs2 := m2.size
  have hv2 := hv1.moves m2 (by simp)
  have r3 := rf_new hv2 (by omega)
  have ma : Moves [] w2 (w2.alloc (.cells #[.slice ad len cap, .bool false] 93)) := (Moves.refl _ _).alloc _
  have hT3 := nTake_w N hN _ g1 bs _ r3 ho (by have := ma.size; omega)
  go_wp2_with (first | (go_at_call 46; refine hT3.mono ?_; intro e4 w4 hTT; obtain ⟨rfl, hr4, m4⟩ : e4 = .returned (.slice none 0 0) ∧ RfIs w4 w2.heap.size g1 [] true ∧ Moves [w2.heap.size] (w2.alloc (.cells #[.slice ad len cap, .bool false] 93)) w4 := (by rcases hTT with ⟨_, _, _, _, _, h1, _⟩ | ⟨_, h2⟩; (rw [HD.out] at h1; simp at h1); exact h2)) | (go_at_call 47; refine (rfWhole_w _ g1 [] true _ hr4).mono ?_; rintro _ _ ⟨rfl, rfl⟩))
  go_ret
  exact ⟨rfl, ((hm0.then m2).then ma).trans m4 (fun x hx => .inr (by simp at hx; have := hm0.size; omega))⟩
 | some z =>
  obtain ⟨xs, rest⟩ := z
  have HD : Hid (dTab bs = some (xs, rest)) := hd
  have HI : Hid (InvN xs) := dTab_yes hd ho
  clear hd
  cases hr : ((rest.length : Int) == 0) with
  | true =>
   go_enter Tryz.func18, Tryz.ntmps18
   go_wp2_with fail
   generalize (w.alloc (.cells #[.pointer none] 23)) = W1 at *
   refine hR.mono ?_
   intro e2 w2 hT
   obtain ⟨tp, ta, W', rfl, hb2, hT2, m2⟩ : ∃ tp ta W', e2 = .returned (.bool true) ∧ w2.heap[w.heap.size]? = some (.cells #[.pointer (some ⟨tp, 0, none⟩)] 23 (0, 0)) ∧ TabIs W' w2 tp ta xs ∧ Moves [w.heap.size] W1 w2 := by
    rcases hT with ⟨xs', rest', tp, ta, W', h1, h2⟩ | ⟨h1, _⟩
    ·rw [HD.out] at h1
     simp only [Option.some.injEq, Prod.mk.injEq] at h1
     obtain ⟨rfl, rfl⟩ := h1
     rw [hr] at h2
     exact ⟨tp, ta, W', h2⟩
    ·rw [HD.out] at h1; simp at h1
   have hs2 := m2.size
   have hv2 := hv1.moves m2 (by simp; omega)
   have r3 := rf_new hv2 (by omega)
   have ma : Moves [] w2 (w2.alloc (.cells #[.slice ad len cap, .bool false] 93)) := (Moves.refl _ _).alloc _
   have hT3 := nTake_w N hN _ g1 bs _ r3 ho (by have := ma.size; omega)
   have HT2 : Hid (TabIs W' w2 tp ta xs) := hT2
   have hlb := lt_of_block hb2
   obtain ⟨cr, hcr⟩ := r3.block
   clear hT2
   go_wp2_with (first | (go_at_call 46; refine hT3.mono ?_; intro e4 w4 hTT; obtain ⟨ad4, n4, cap4, rfl, hN4, hr4, m4⟩ : ∃ ad' n' cap', e4 = .returned (.slice ad' n' cap') ∧ NamsAt w4 (.slice ad' n' cap') xs ∧ RfIs w4 w2.heap.size g1 rest false ∧ Moves [w2.heap.size] (w2.alloc (.cells #[.slice ad len cap, .bool false] 93)) w4 := (by rcases hTT with ⟨xs', rest', ad', n', cap', h1, h2⟩ | ⟨h1, _⟩; (rw [HD.out] at h1; simp only [Option.some.injEq, Prod.mk.injEq] at h1; obtain ⟨rfl, rfl⟩ := h1; exact ⟨ad', n', cap', h2⟩); (rw [HD.out] at h1; simp at h1)); have q4 := m4.at (ma.at hb2 (by simp)) (by simp; omega); obtain ⟨z0, z1⟩ := one_cell q4; have hT4 := HT2.out.movesN ma m4 hcr; have htl := tells6_w W' w4 tp ta xs _ ⟨#[]⟩ ⟨#[]⟩ 20 hT4 hN4 HI.out; clear hT4 hN4) | (go_at_call 47; refine (rfWhole_w _ g1 rest false _ hr4).mono ?_; rintro _ _ ⟨rfl, rfl⟩; rw [hr]) | (go_at_call 10; refine htl.mono ?_; rintro _ w6 ⟨rfl, m6⟩))
   go_ret
   exact ⟨rfl, (((hm0.trans m2 (fun x hx => .inr (by simp at hx; omega))).then ma).trans m4 (fun x hx => .inr (by simp at hx; have := hm0.size; omega))).then m6⟩
  | false =>
   go_enter Tryz.func18, Tryz.ntmps18
   go_wp2_with fail
   generalize (w.alloc (.cells #[.pointer none] 23)) = W1 at *
   refine hR.mono ?_
   intro e2 w2 hT
   obtain ⟨tp, ta, W', rfl, hb2, hT2, m2⟩ : ∃ tp ta W', e2 = .returned (.bool false) ∧ w2.heap[w.heap.size]? = some (.cells #[.pointer (some ⟨tp, 0, none⟩)] 23 (0, 0)) ∧ TabIs W' w2 tp ta xs ∧ Moves [w.heap.size] W1 w2 := by
    rcases hT with ⟨xs', rest', tp, ta, W', h1, h2⟩ | ⟨h1, _⟩
    ·rw [HD.out] at h1
     simp only [Option.some.injEq, Prod.mk.injEq] at h1
     obtain ⟨rfl, rfl⟩ := h1
     rw [hr] at h2
     exact ⟨tp, ta, W', h2⟩
    ·rw [HD.out] at h1; simp at h1
   have hs2 := m2.size
   have hv2 := hv1.moves m2 (by simp; omega)
   have r3 := rf_new hv2 (by omega)
   have ma : Moves [] w2 (w2.alloc (.cells #[.slice ad len cap, .bool false] 93)) := (Moves.refl _ _).alloc _
   have hT3 := nTake_w N hN _ g1 bs _ r3 ho (by have := ma.size; omega)
   go_wp2_with (first | (go_at_call 46; refine hT3.mono ?_; intro e4 w4 hTT; obtain ⟨ad4, n4, cap4, rfl, _, hr4, m4⟩ : ∃ ad' n' cap', e4 = .returned (.slice ad' n' cap') ∧ NamsAt w4 (.slice ad' n' cap') xs ∧ RfIs w4 w2.heap.size g1 rest false ∧ Moves [w2.heap.size] (w2.alloc (.cells #[.slice ad len cap, .bool false] 93)) w4 := (by rcases hTT with ⟨xs', rest', ad', n', cap', h1, h2⟩ | ⟨h1, _⟩; (rw [HD.out] at h1; simp only [Option.some.injEq, Prod.mk.injEq] at h1; obtain ⟨rfl, rfl⟩ := h1; exact ⟨ad', n', cap', h2⟩); (rw [HD.out] at h1; simp at h1))) | (go_at_call 47; refine (rfWhole_w _ g1 rest false _ hr4).mono ?_; rintro _ _ ⟨rfl, rfl⟩; rw [hr]))
   go_ret
   exact ⟨rfl, ((hm0.trans m2 (fun x hx => .inr (by simp at hx; omega))).then ma).trans m4 (fun x hx => .inr (by simp at hx; have := hm0.size; omega))⟩
end Go.Proofs.YtcngllcifcpbkaaGreat
