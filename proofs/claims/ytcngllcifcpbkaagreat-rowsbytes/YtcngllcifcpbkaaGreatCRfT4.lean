/- ours -/
import Derived.Test.YtcngllcifcpbkaaGreatCTkR4
import Derived.Test.YtcngllcifcpbkaaGreatCRfBad
import Derived.Test.YtcngllcifcpbkaaGreatCBaseW
namespace Go.Proofs.YtcngllcifcpbkaaGreat
open Go.RowKit

theorem RfIs.block {w : World} {q g : Nat} {bs : List Nat} {fl : Bool} (h : RfIs w q g bs fl) : ∃ c, w.heap[q]? = some (.cells c 93 (0, 0)) := by
 obtain ⟨v, h, _⟩ := h
 exact ⟨_, h⟩
theorem RfIs.flag {w : World} {q g : Nat} {bs : List Nat} {fl : Bool} (h : RfIs w q g bs fl) : w.cell? ⟨q, 1, none⟩ = some (.bool fl) := by
 obtain ⟨v, h, _⟩ := h
 exact (two_cells h).2.1

theorem rfByte_any (N : Nat) (hN : N ≤ 1099511627776) (q g : Nat) (bs : List Nat) (bad : Bool) (w : World) (h : RfIs w q g bs bad) (ho : OctN N bs) :
  Calls Tryz.prog 118 #[.pointer (some ⟨q, 0, none⟩)] w fun e w' => ∃ (c : Nat) (b' : List Nat) (bad' : Bool), e = .returned (.int .u8 (c : Int)) ∧ c < 256 ∧ OctN N b' ∧ RfIs w' q g b' bad' ∧ Moves [q] w w' ∧ ((bad = false ∧ 1 ≤ bs.length ∧ c = val (bs.take 1) ∧ b' = bs.drop 1 ∧ bad' = false) ∨ ((bad = true ∨ ¬ 1 ≤ bs.length) ∧ c = 0 ∧ b' = [] ∧ bad' = true)) := by
 by_cases hc : bad = false ∧ 1 ≤ bs.length
 ·obtain ⟨rfl, h1⟩ := hc
  have hv := val_lt ho.2 1
  refine (rfByte_w q g bs w h h1 (Nat.le_trans ho.1 hN)).mono ?_
  rintro _ w' ⟨rfl, hr, m⟩
  exact ⟨_, _, _, rfl, hv, ho.drop 1, hr, m, .inl ⟨rfl, h1, rfl, rfl, rfl⟩⟩
 ·have hn : bad = true ∨ ¬ 1 ≤ bs.length := by cases bad <;> simp_all
  refine (rfByte_fail_w q g bs bad w h (by rcases hn with h | h; exact .inl h; exact .inr (by omega))).mono ?_
  rintro _ w' ⟨rfl, hr, m⟩
  exact ⟨0, [], true, rfl, by omega, ⟨by simp, by simp⟩, hr, m, .inr ⟨hn, rfl, rfl, rfl⟩⟩
theorem rfText_any (N : Nat) (hN : N ≤ 1099511627776) (q g : Nat) (bs : List Nat) (w : World) (h : RfIs w q g bs false) (ho : OctN N bs) :
  Calls Tryz.prog 85 #[.pointer (some ⟨q, 0, none⟩), .int .i64 16] w fun e w' => ∃ (tx : List Nat) (v : Value) (b' : List Nat) (bad' : Bool), e = .returned v ∧ Own w' v tx ∧ (∀ z ∈ tx, z < 256) ∧ OctN N b' ∧ RfIs w' q g b' bad' ∧ Moves [q] w w' ∧ ((dText 16 bs = some (tx, b') ∧ bad' = false) ∨ (dText 16 bs = none ∧ b' = [] ∧ bad' = true)) := by
 cases hd : dText 16 bs with
 | none =>
  refine (rfText_fail_t q g bs 16 w h (Nat.le_trans ho.1 hN) ho.2 (dText_no hd)).mono ?_
  rintro _ w' ⟨rfl, hr, m⟩
  exact ⟨[], _, [], true, rfl, Own.nil _, by simp, ⟨by simp, by simp⟩, hr, m, .inr ⟨rfl, rfl, rfl⟩⟩
 | some z =>
  obtain ⟨tx, b'⟩ := z
  obtain ⟨h1, h2, h3⟩ := dText_yes hd
  refine (rfText_w q g bs 16 w h (Nat.le_trans ho.1 hN) ho.2 h1).mono ?_
  rintro _ w' ⟨v, rfl, hO, hr, m, _⟩
  rw [h2] at hO
  rw [h3] at hr
  exact ⟨tx, v, b', false, rfl, hO, (dText_text hd ho).1, dText_rest hd ho, hr, m, .inl ⟨rfl, rfl⟩⟩
theorem rfLong_any (N : Nat) (hN : N ≤ 1099511627776) (q g : Nat) (bs : List Nat) (w : World) (h : RfIs w q g bs false) (ho : OctN N bs) :
  Calls Tryz.prog 119 #[.pointer (some ⟨q, 0, none⟩)] w fun e w' => ∃ (t : Nat) (b' : List Nat) (bad' : Bool), e = .returned (.int .u64 (t : Int)) ∧ t < 18446744073709551616 ∧ OctN N b' ∧ RfIs w' q g b' bad' ∧ Moves [q] w w' ∧ ((8 ≤ bs.length ∧ t = val (bs.take 8) ∧ b' = bs.drop 8 ∧ bad' = false) ∨ (¬ 8 ≤ bs.length ∧ b' = [] ∧ bad' = true)) := by
 by_cases h8 : 8 ≤ bs.length
 ·have hv := val_lt ho.2 8
  refine (rfLong_w q g bs w h h8 (Nat.le_trans ho.1 hN) ho.2).mono ?_
  rintro _ w' ⟨rfl, hr, m⟩
  exact ⟨_, _, _, rfl, by omega, ho.drop 8, hr, m, .inl ⟨h8, rfl, rfl, rfl⟩⟩
 ·refine (rfLong_fail_v q g bs false w h (.inr (by omega)) (Nat.le_trans ho.1 hN) ho.2).mono ?_
  rintro _ w' ⟨rfl, hr, m⟩
  exact ⟨_, [], true, rfl, longJunk_lt ho.2 false, ⟨by simp, by simp⟩, hr, m, .inr ⟨h8, rfl, rfl⟩⟩

structure RT (w wr : World) (q g : Nat) (lv : Value) (l : List Pcol) (b : List Nat) (bad : Bool) : Prop where
 moves : Moves [q] w wr
 res : wr.heap[w.heap.size]? = some (.cells #[.slice none 0 0] 52 (0, 0))
 out : wr.heap[w.heap.size + 1]? = some (.cells #[lv] 52 (0, 0))
 grow : GrowC w wr lv l
 rd : RfIs wr q g b bad
theorem RT.movesQ {w wr w' : World} {q g : Nat} {lv : Value} {l : List Pcol} {b b' : List Nat} {bad bad' : Bool} (h : RT w wr q g lv l b bad) (m : Moves [q] wr w') (hq : q < w.heap.size) (hr : RfIs w' q g b' bad') : RT w w' q g lv l b' bad' := by
 obtain ⟨c, hc⟩ := h.rd.block
 exact ⟨h.moves.then m, m.at h.res (by simp; omega), m.at h.out (by simp; omega), h.grow.movesP m hq hc (by decide) (by decide), hr⟩
theorem RT.pushed {w wr w6 w8 : World} {q g : Nat} {ad4 ad8 : Option Addr} {n4 cap4 n8 cap8 : Nat} {l : List Pcol} {x : Pcol} {b : List Nat} {bad : Bool} (h : RT w wr q g (.slice ad4 n4 cap4) l b bad) (hq : q < w.heap.size) (hg : g < w.heap.size) (m6 : Moves [] wr w6) (m8 : Moves (Value.slice ad4 n4 cap4).ownBlock.toList w6 w8) (hG8 : GrowC w w8 (.slice ad8 n8 cap8) (l ++ [x])) :
  w8.heap[w.heap.size + 1]? = some (.cells #[.slice ad4 n4 cap4] 52 (0, 0)) ∧ RT w (w8.setCell ⟨w.heap.size + 1, 0, none⟩ (.slice ad8 n8 cap8)) q g (.slice ad8 n8 cap8) (l ++ [x]) b bad := by
 have hnb : w.heap.size + 1 ∉ (Value.slice ad4 n4 cap4).ownBlock.toList := Grow.neT h.grow h.out (by decide)
 have hnr : w.heap.size ∉ (Value.slice ad4 n4 cap4).ownBlock.toList := Grow.neT h.grow h.res (by decide)
 have h8 := m8.at (m6.at h.out (by simp)) hnb
 have hst : Stay (fun t => t = 5 ∨ t = 126) w8 (w8.setCell ⟨w.heap.size + 1, 0, none⟩ (.slice ad8 n8 cap8)) := Stay.set h8 (by decide) _
 refine ⟨h8, ?_, ?_, set_one h8 _, hG8.moves (moves_set _ _ _ _) ?_ hst, ?_⟩
 ·refine Moves.setCell ?_ (.inr (by show w.heap.size ≤ w.heap.size + 1; omega)) _
  exact (h.moves.then (m6.mono (by simp))).trans m8 (fun k hk => .inr (h.grow.1 k (by cases hq : (Value.slice ad4 n4 cap4).ownBlock <;> simp_all)))
 ·exact (moves_set _ _ _ _).at (m8.at (m6.at h.res (by simp)) hnr) (by simp)
 ·intro k hk hx
  simp at hx
  subst hx
  exact (Grow.neT hG8 h8 (by decide)) (by rw [hk]; simp)
 ·exact ((h.rd.moves m6 (by simp) (by simp)).moves m8 (Grow.notP h.grow hq) (Grow.notP h.grow hg)).moves (moves_set _ _ _ _) (by simp; omega) (by simp; omega)

structure RC (wb wr : World) (q g : Nat) (nm : ByteArray) (vv : Value) (vl : List Pver) (b : List Nat) (bad : Bool) : Prop where
 moves : Moves [q] wb wr
 box : wr.heap[wb.heap.size]? = some (.cells #[.string nm, vv] 124 (0, 0))
 vers : GrowV wb wr vv vl
 rd : RfIs wr q g b bad
theorem RC.movesQ {w wr w' : World} {q g : Nat} {vv : Value} {nm : ByteArray} {vl : List Pver} {b b' : List Nat} {bad bad' : Bool} (h : RC w wr q g nm vv vl b bad) (m : Moves [q] wr w') (hq : q < w.heap.size) (hr : RfIs w' q g b' bad') : RC w w' q g nm vv vl b' bad' := by
 obtain ⟨c, hc⟩ := h.rd.block
 exact ⟨h.moves.then m, m.at h.box (by simp; omega), h.vers.movesP m hq hc (by decide), hr⟩
theorem RC.grown {w wr w6 w8 : World} {q g : Nat} {ad4 ad8 : Option Addr} {n4 cap4 n8 cap8 : Nat} {nm : ByteArray} {vl : List Pver} {x : Pver} {b : List Nat} {bad : Bool} (h : RC w wr q g nm (.slice ad4 n4 cap4) vl b bad) (hq : q < w.heap.size) (hg : g < w.heap.size) (m6 : Moves [] wr w6) (m8 : Moves (Value.slice ad4 n4 cap4).ownBlock.toList w6 w8) (hG8 : GrowV w w8 (.slice ad8 n8 cap8) (vl ++ [x])) :
  w8.heap[w.heap.size]? = some (.cells #[.string nm, .slice ad4 n4 cap4] 124 (0, 0)) ∧ RC w (w8.setCell ⟨w.heap.size, 1, none⟩ (.slice ad8 n8 cap8)) q g nm (.slice ad8 n8 cap8) (vl ++ [x]) b bad := by
 have hnb : w.heap.size ∉ (Value.slice ad4 n4 cap4).ownBlock.toList := Grow.neT h.vers h.box (by decide)
 have h8 := m8.at (m6.at h.box (by simp)) hnb
 have hst : Stay (· = 5) w8 (w8.setCell ⟨w.heap.size, 1, none⟩ (.slice ad8 n8 cap8)) := Stay.set h8 (by decide) _
 refine ⟨h8, ?_, heap_set (i := 1) h8 _, hG8.moves (moves_set _ _ _ _) ?_ hst, ?_⟩
 ·refine Moves.setCell ?_ (.inr (Nat.le_refl _)) _
  exact (h.moves.then (m6.mono (by simp))).trans m8 (fun k hk => .inr (h.vers.1 k (by cases hq : (Value.slice ad4 n4 cap4).ownBlock <;> simp_all)))
 ·intro k hk hx
  simp at hx
  subst hx
  exact (Grow.neT hG8 h8 (by decide)) (by rw [hk]; simp)
 ·exact ((h.rd.moves m6 (by simp) (by simp)).moves m8 (Grow.notP h.vers hq) (Grow.notP h.vers hg)).moves (moves_set _ _ _ _) (by simp; omega) (by simp; omega)

def RCNext (N : Nat) (wb w' : World) (q g : Nat) (nm : ByteArray) (vl : List Pver) (tv : Nat) (b : List Nat) (bad : Bool) : Prop :=
 ∃ ad n cap, ∃ (pv : Pv) (b8 : List Nat) (bad8 : Bool), RC wb w' q g nm (.slice ad n cap) (vl ++ [⟨wrap64 (tv : Int), pv⟩]) b8 bad8 ∧ OctN N b8 ∧ ((bad = false ∧ dVal b = some (pv, b8) ∧ bad8 = false) ∨ ((bad = true ∨ dVal b = none) ∧ b8 = [] ∧ bad8 = true))

def RTook (w w' : World) (q g : Nat) (bs : List Nat) (e : Ending) : Prop :=
 (∃ R rest ad n cap, dGood tMax bs = some (R, rest) ∧ e = .returned (.agg #[.slice ad n cap]) ∧ GrowC w w' (.slice ad n cap) R ∧ RfIs w' q g rest false ∧ Moves [q] w w') ∨ (dGood tMax bs = none ∧ e = .returned (.agg #[.slice none 0 0]) ∧ RfIs w' q g [] true ∧ Moves [q] w w')

set_option maxRecDepth 100000 in
set_option maxHeartbeats 8000000 in
theorem refTake_w (N : Nat) (hN : N ≤ 1099511627776) (q g : Nat) (bs : List Nat) (w : World) (h : RfIs w q g bs false) (ho : OctN N bs) (hg : g < w.heap.size) :
  Calls Tryz.prog 86 #[.pointer (some ⟨q, 0, none⟩)] w fun e w' => RTook w w' q g bs e := by
 have hq := h.ltq
 have m0 : Moves [] w ((w.alloc (.cells #[.slice none 0 0] 52)).alloc (.cells #[.slice none 0 0] 52)) := ((Moves.refl _ _).alloc _).alloc _
 have hr0 := h.moves m0 (by simp) (by simp)
 obtain ⟨q0, qb0, _⟩ := boxes (w := w) (A := #[.slice none 0 0]) (B := #[.slice none 0 0]) (t := 52) (u := 52) (Moves.refl [] _)
 have hT0 : RT w ((w.alloc (.cells #[.slice none 0 0] 52)).alloc (.cells #[.slice none 0 0] 52)) q g (.slice none 0 0) [] bs false := ⟨m0.mono (by simp), q0, qb0, GrowC.nil _ _, hr0⟩
 clear h
 go_enter Tryz.func86, Tryz.ntmps86
 go_wp2_with (go_at_call 118; refine (rfByte_any N hN _ g bs false _ hr0 ho).mono ?_; rintro _ w3 ⟨cnt, b1, bad1, rfl, hcn, ho1, hr3, m3, hst⟩; have hT3 := hT0.movesQ m3 hq hr3; have HST : Hid ((false = false ∧ 1 ≤ bs.length ∧ cnt = val (bs.take 1) ∧ b1 = bs.drop 1 ∧ bad1 = false) ∨ ((false = true ∨ ¬ 1 ≤ bs.length) ∧ cnt = 0 ∧ b1 = [] ∧ bad1 = true)) := hst; clear hst)
 have HS : Hid ((bad1 = false ∧ dRow tMax bs = iter (dCol tMax) cnt b1) ∨ (bad1 = true ∧ b1 = [] ∧ cnt = 0 ∧ dRow tMax bs = none)) := by
  rcases HST.out with ⟨_, h1, h2, h3, h4⟩ | ⟨h1, h2, h3, h4⟩
  ·exact .inl ⟨h4, by rw [dRow_of h1, h2, h3]⟩
  ·exact .inr ⟨h4, h3, h2, dRow_no (by rcases h1 with h | h; simp at h; exact h)⟩
 have hcn' : (cnt : Int) < 256 := by omega
 clear HST hr0 m0 q0 qb0 hT0 m3 hr3
 go_loopw [4] (fun i wr => ∃ (j : Nat) (l : List Pcol) (lv : Value) (b : List Nat) (bad : Bool), j ≤ cnt ∧ i = .int .i64 ((cnt - j : Nat) : Int) ∧ RT w wr q g lv l b bad ∧ OctN N b ∧ l.length ≤ j ∧ ((bad = false ∧ bad1 = false ∧ iter (dCol tMax) j b1 = some (l, b)) ∨ (bad = true ∧ b = [] ∧ dRow tMax bs = none))) (fun i _ => (intOf i).toNat)
 case atStart =>
  refine ⟨0, [], _, b1, bad1, Nat.zero_le _, rfl, hT3, ho1, Nat.zero_le _, ?_⟩
  rcases HS.out with ⟨h1, _⟩ | ⟨h1, h2, _, h4⟩
  ·exact .inl ⟨h1, h1, rfl⟩
  ·exact .inr ⟨h1, h2, h4⟩
 case round =>
  obtain ⟨j, l, lv, b2, bad, hj, rfl, hT, ho2, hll, hst⟩ := hrel
  clear hT3
  obtain ⟨ad4, n4, cap4, rfl, hn4⟩ := hT.grow.open
  have hbc := hT.rd.flag
  have HT : Hid (RT w wr q g (.slice ad4 n4 cap4) l b2 bad) := hT
  obtain ⟨k0, k1⟩ := one_cell hT.out
  obtain ⟨s0, s1⟩ := one_cell hT.res
  cases bad with
  | true =>
   have HNO : Hid (dGood tMax bs = none) := by
    rcases hst with ⟨h, _⟩ | ⟨_, _, h⟩
    ·simp at h
    ·exact dGood_none h
   have hb2 : b2 = [] := by
    rcases hst with ⟨h, _⟩ | ⟨_, h, _⟩
    ·simp at h
    ·exact h
   subst hb2
   clear hst
   by_cases hlt : j < cnt
   ·have hk3 : (0 : Int) < ((cnt - j : Nat) : Int) := by omega
    go_wp2_with (go_at_call 84; refine (rfFail_w _ g _ _ _ HT.out.rd).mono ?_; rintro _ w5 ⟨rfl, hr5, m5⟩; have q5 := m5.at HT.out.res (by simp; omega); obtain ⟨t0, t1⟩ := one_cell q5)
    try simp only [Exit.inBlock, Exit.then]
    exact bodyPost_ret (ret_row rfl _ _ _ _ rfl (set_one q5 _)) rfl (.inr ⟨HNO.out, rfl, hr5.moves0 (moves_set _ _ _ _) (by simp; omega), (HT.out.moves.then m5).setCell (.inr (Nat.le_refl _)) _⟩)
   ·have hk3 : ¬ (0 : Int) < ((cnt - j : Nat) : Int) := by omega
    go_wp2_with (go_at_call 84; refine (rfFail_w _ g _ _ _ HT.out.rd).mono ?_; rintro _ w5 ⟨rfl, hr5, m5⟩; have q5 := m5.at HT.out.res (by simp; omega); obtain ⟨t0, t1⟩ := one_cell q5)
    try simp only [Exit.inBlock, Exit.then]
    exact bodyPost_ret (ret_row rfl _ _ _ _ rfl (set_one q5 _)) rfl (.inr ⟨HNO.out, rfl, hr5.moves0 (moves_set _ _ _ _) (by simp; omega), (HT.out.moves.then m5).setCell (.inr (Nat.le_refl _)) _⟩)
  | false =>
   have hit : iter (dCol tMax) j b1 = some (l, b2) := by
    rcases hst with ⟨_, _, h⟩ | ⟨h, _⟩
    ·exact h
    ·simp at h
   have hb1f : bad1 = false := by
    rcases hst with ⟨_, h, _⟩ | ⟨h, _⟩
    ·exact h
    ·simp at h
   have HROW : Hid (dRow tMax bs = iter (dCol tMax) cnt b1) := by
    rcases HS.out with ⟨_, h⟩ | ⟨h, _⟩
    ·exact h
    ·rw [hb1f] at h; simp at h
   have HIT : Hid (iter (dCol tMax) j b1 = some (l, b2)) := hit
   clear hst hit
   by_cases hlt : j < cnt
   ·have hk3 : (0 : Int) < ((cnt - j : Nat) : Int) := by omega
    have hgr : g < wr.heap.size := Nat.lt_of_lt_of_le hg hT.moves.size
    have hqr : q < wr.heap.size := Nat.lt_of_lt_of_le hq hT.moves.size
    go_wp2_with (first | (go_at_call 85; refine (rfText_any N hN _ g b2 _ HT.out.rd ho2).mono ?_; rintro _ wb ⟨tx, vt, b3, bad3, rfl, hOt, hotx, ho3, hr3, m3, hst3⟩; have hstr := run_str hOt.isB hotx; have HST3 : Hid ((dText 16 b2 = some (tx, b3) ∧ bad3 = false) ∨ (dText 16 b2 = none ∧ b3 = [] ∧ bad3 = true)) := hst3; clear hst3) | (go_at_call 118; refine (rfByte_any N hN _ g b3 bad3 _ (hr3.moves ((Moves.refl [] _).alloc _) (by simp) (by simp)) ho3).mono ?_; rintro _ w4 ⟨cn2, b4, bad4, rfl, hcn2, ho4, hr4, m4, hst4⟩; have HST4 : Hid ((bad3 = false ∧ 1 ≤ b3.length ∧ cn2 = val (b3.take 1) ∧ b4 = b3.drop 1 ∧ bad4 = false) ∨ ((bad3 = true ∨ ¬ 1 ≤ b3.length) ∧ cn2 = 0 ∧ b4 = [] ∧ bad4 = true)) := hst4; clear hst4))
    have hTb := HT.out.movesQ m3 hq hr3
    have hgb : g < wb.heap.size := Nat.lt_of_lt_of_le hgr m3.size
    have hqb : q < wb.heap.size := Nat.lt_of_lt_of_le hqr m3.size
    have ma : Moves [] wb (wb.alloc (.cells #[.string (strOf tx), .slice none 0 0] 124)) := (Moves.refl _ _).alloc _
    have hC4 : RC wb w4 q g (strOf tx) (.slice none 0 0) [] b4 bad4 := ⟨(ma.mono (by simp)).then m4, m4.at (heap_alloc_new _ _) (by simp; omega), GrowV.nil _ _, hr4⟩
    have HSC : Hid ((bad4 = false ∧ dText 16 b2 = some (tx, b3) ∧ 1 ≤ b3.length ∧ cn2 = val (b3.take 1) ∧ b4 = b3.drop 1) ∨ (bad4 = true ∧ b4 = [] ∧ dCol tMax b2 = none)) := by
     rcases HST4.out with ⟨h1, h2, h3, h4, h5⟩ | ⟨h1, _, h3, h4⟩
     ·rcases HST3.out with ⟨h6, _⟩ | ⟨_, _, h6⟩
      ·exact .inl ⟨h5, h6, h2, h3, h4⟩
      ·rw [h1] at h6; simp at h6
     ·refine .inr ⟨h4, h3, ?_⟩
      rcases HST3.out with ⟨h6, h7⟩ | ⟨h6, _⟩
      ·exact dCol_no2 h6 (by rcases h1 with h | h; rw [h7] at h; simp at h; exact h)
      ·exact dCol_no1 h6
    have hcn2' : (cn2 : Int) < 256 := by omega
    have HTb : Hid (RT w wb q g (.slice ad4 n4 cap4) l b3 bad3) := hTb
    clear HST3 HST4 hOt hotx hstr hr3 m3 hr4 m4 ma hTb hT hbc k0 k1 s0 s1
    go_loopw [6] (fun i wq => ∃ (j2 : Nat) (vl : List Pver) (vv : Value) (b : List Nat) (bad : Bool), j2 ≤ cn2 ∧ i = .int .i64 ((cn2 - j2 : Nat) : Int) ∧ RC wb wq q g (strOf tx) vv vl b bad ∧ OctN N b ∧ vl.length ≤ j2 ∧ ((bad = false ∧ bad4 = false ∧ iter (dVer tMax) j2 b4 = some (vl, b)) ∨ (bad = true ∧ b = [] ∧ dCol tMax b2 = none))) (fun i _ => (intOf i).toNat)
    case atStart =>
     refine ⟨0, [], _, b4, bad4, Nat.zero_le _, rfl, hC4, ho4, Nat.zero_le _, ?_⟩
     rcases HSC.out with ⟨h1, _⟩ | ⟨h1, h2, h3⟩
     ·exact .inl ⟨h1, h1, rfl⟩
     ·exact .inr ⟨h1, h2, h3⟩
    case round =>
     obtain ⟨j2, vl, vv, b5, bad5, hj2, rfl, hC, ho5, hvl, hst5⟩ := hrel
     clear hC4
     obtain ⟨ad6, n6, cap6, rfl, hn6⟩ := hC.vers.open
     have hbc := hC.rd.flag
     have HCC : Hid (RC wb wr q g (strOf tx) (.slice ad6 n6 cap6) vl b5 bad5) := hC
     obtain ⟨d0, d1⟩ := pair_cells hC.box
     have HS5 : Hid ((bad5 = false ∧ bad4 = false ∧ iter (dVer tMax) j2 b4 = some (vl, b5)) ∨ (bad5 = true ∧ b5 = [] ∧ dCol tMax b2 = none)) := hst5
     clear hst5
     by_cases hgo : j2 < cn2 ∧ bad5 = false
     ·obtain ⟨hlt2, rfl⟩ := hgo
      have hk4 : (0 : Int) < ((cn2 - j2 : Nat) : Int) := by omega
      have hit2 : bad4 = false ∧ iter (dVer tMax) j2 b4 = some (vl, b5) := by
       rcases HS5.out with ⟨_, h1, h2⟩ | ⟨h, _⟩
       ·exact ⟨h1, h2⟩
       ·simp at h
      have HIT2 : Hid (bad4 = false ∧ iter (dVer tMax) j2 b4 = some (vl, b5)) := hit2
      clear hit2 HS5
      have hsz : wb.heap.size ≤ wr.heap.size := hC.moves.size
      go_wp2_with (first | (go_at_call 119; refine (rfLong_any N hN _ g b5 _ HCC.out.rd ho5).mono ?_; rintro _ w6 ⟨tv, b6, bad6, rfl, htv, ho6, hr6, m6, hst6⟩; have HC6 : Hid (RC wb w6 q g (strOf tx) (.slice ad6 n6 cap6) vl b6 bad6) := HCC.out.movesQ m6 hqb hr6; have HST6 : Hid ((8 ≤ b5.length ∧ tv = val (b5.take 8) ∧ b6 = b5.drop 8 ∧ bad6 = false) ∨ (¬ 8 ≤ b5.length ∧ b6 = [] ∧ bad6 = true)) := hst6; clear hst6) | (go_at_call 84; refine (rfFail_w _ g _ _ _ hr6).mono ?_; rintro _ w7 ⟨rfl, hr7, m7⟩; have HC7 : Hid (RC wb w7 q g (strOf tx) (.slice ad6 n6 cap6) vl [] true) := HC6.out.movesQ m7 hqb hr7))
      ·have hgt : ¬ tMax tv = true := by
        have : (1099511627776 : Int) < (tv : Int) := by assumption
        unfold tMax; simp; omega
       have HST7 : Hid (dCol tMax b2 = none ∧ (true = true → ([] : List Nat) = [])) := by
        refine ⟨?_, fun _ => rfl⟩
        rcases HSC.out with ⟨_, h1, h2, h3, h4⟩ | ⟨h, _⟩
        ·refine dCol_no3 h1 ?_
         rw [← h3, ← h4]
         refine iter_none (iter_stop HIT2.out.2 ?_) (by omega)
         rcases HST6.out with ⟨_, e, _⟩ | ⟨e, _⟩
         ·exact dVer_no2 (by rw [← e]; simpa using hgt)
         ·exact dVer_no1 e
        ·rw [HIT2.out.1] at h; simp at h
       have ho7 : OctN N ([] : List Nat) := ⟨by simp, by simp⟩
       have hbf : (true : Bool) = true → ([] : List Nat) = [] := fun _ => rfl
       have hq1 := (pair_cells HC7.out.box).2
       clear hgt hC hbc d0 d1 m7 hr7 hr6 m6
       have hbd : vl.length + [(⟨wrap64 (tv : Int), ⟨0, [], 0⟩⟩ : Pver)].length ≤ 1048576 := by simp; omega
       have hwt : IntKind.i64.wrap (tv : Int) = wrap64 (tv : Int) := IntWalk.i64_left _
       refine wp_some [46, 47, 48, 49, 50, 51, 52, 53, 54, 55] (fun _ w' => RCNext N wb w' q g (strOf tx) vl tv [] true) ?_ ?_
       ·skip
        refine wp_region_noPanic ?_
        refine region_peel (S := (fun w' => w'.cell? ⟨wb.heap.size, 1, none⟩ = some (.slice ad6 n6 cap6))) (pre := #[⟨some 46, .fieldAddr 124 (.tmp 5) 1, 0, "ref.go:167", #[], none⟩, ⟨some 47, .load 122 (.tmp 46), 122, "ref.go:167", #[⟨0, .data⟩], none⟩, ⟨some 48, .move (.tmp 7), 129, "ref.go:167", #[], none⟩, ⟨some 49, .convert 129 2 (.tmp 48), 2, "ref.go:167", #[⟨2, .data⟩], none⟩, ⟨some 50, .move (.tmp 0), 91, "ref.go:167", #[], none⟩, ⟨some 51, .call ⟨.value (.func 120), #[.tmp 50], #[91]⟩, 99, "ref.go:167", #[⟨4, .data⟩], none⟩, ⟨some 52, .build 126 #[(0, .tmp 49), (1, .tmp 51)], 126, "ref.go:167", #[⟨3, .data⟩, ⟨5, .data⟩], none⟩, ⟨some 53, .buildSlice 122 1 #[(0, .tmp 52)], 122, "ref.go:167", #[⟨6, .data⟩], none⟩, ⟨some 54, .call ⟨.builtin .append, #[.tmp 47, .tmp 53], #[122, 122]⟩, 122, "ref.go:167", #[⟨1, .data⟩, ⟨7, .data⟩, ⟨5, .chain⟩], none⟩, ⟨some 55, .fieldAddr 124 (.tmp 5) 1, 0, "ref.go:167", #[⟨0, .phase⟩, ⟨1, .phase⟩, ⟨2, .phase⟩, ⟨3, .phase⟩, ⟨4, .phase⟩, ⟨5, .phase⟩, ⟨6, .phase⟩, ⟨7, .phase⟩, ⟨8, .phase⟩], none⟩]) (o := ⟨none, .store 122 (.tmp 55) (.tmp 54), 0, "ref.go:167", #[⟨9, .data⟩, ⟨8, .data⟩, ⟨8, .chain⟩, ⟨0, .phase⟩, ⟨1, .phase⟩, ⟨2, .phase⟩, ⟨3, .phase⟩, ⟨4, .phase⟩, ⟨5, .phase⟩, ⟨6, .phase⟩, ⟨7, .phase⟩, ⟨8, .phase⟩], none⟩) (by kernel_rfl) (by kernel_rfl) (by kernel_rfl) ?_ (fun hHeld => ?_)
        ·first | exact hq1 | exact k8 | exact k9 | exact k10
        refine wpT 0 ⟨some 46, .fieldAddr 124 (.tmp 5) 1, 0, "ref.go:167", #[], none⟩ ?_
        refine wpT 1 ⟨some 47, .load 122 (.tmp 46), 122, "ref.go:167", #[⟨0, .data⟩], none⟩ ?_
        refine wpT 2 ⟨some 48, .move (.tmp 7), 129, "ref.go:167", #[], none⟩ ?_
        refine wpT 3 ⟨some 49, .convert 129 2 (.tmp 48), 2, "ref.go:167", #[⟨2, .data⟩], none⟩ ?_
        refine wpT 4 ⟨some 50, .move (.tmp 0), 91, "ref.go:167", #[], none⟩ ?_
        refine wpR 5 ⟨some 51, .call ⟨.value (.func 120), #[.tmp 50], #[91]⟩, 99, "ref.go:167", #[⟨4, .data⟩], none⟩ (fun K hK => ?_)
        go_simp
        (go_at_call 120; refine (rGet_any N hN _ g [] true _ (HC7.out.rd.moves (Moves.refl [] _).drew (by simp) (by simp)) ho7 hbf).mono ?_; rintro _ w8 ⟨pv, ad8, n8, cap8, rfl, hVC8, m8', hst8⟩)
        have m8 := ((Moves.refl [q] w7).drew).then m8'
        obtain ⟨b8, bad8, hr8, ho8, hB8⟩ : ∃ b8 bad8, RfIs w8 q g b8 bad8 ∧ OctN N b8 ∧ ((true = false ∧ dVal [] = some (pv, b8) ∧ bad8 = false) ∨ ((true = true ∨ dVal [] = none) ∧ b8 = [] ∧ bad8 = true)) := by
         rcases hst8 with ⟨h1, rest, h2, h3⟩ | ⟨h1, h2⟩
         ·exact ⟨rest, false, h3, dVal_rest h2 ho7, .inl ⟨h1, h2, rfl⟩⟩
         ·exact ⟨[], true, h2, ⟨by simp, by simp⟩, .inr ⟨h1, rfl, rfl⟩⟩
        have HC8 := HC7.out.movesQ m8 hqb hr8
        have k8 := (pair_cells HC8.box).2
        refine hK.out _ _ ?_ (fun hHeld => ?_)
        ·first | exact hq1 | exact k8 | exact k9 | exact k10
        clear hK K
        refine wpT 6 ⟨some 52, .build 126 #[(0, .tmp 49), (1, .tmp 51)], 126, "ref.go:167", #[⟨3, .data⟩, ⟨5, .data⟩], none⟩ ?_
        refine wpR 7 ⟨some 53, .buildSlice 122 1 #[(0, .tmp 52)], 122, "ref.go:167", #[⟨6, .data⟩], none⟩ (fun K hK => ?_)
        go_simp
        have k9 := ((Moves.refl [] w8).alloc (.cells #[.int .i64 (wrap64 (tv : Int)), .int .i64 pv.kind, .slice ad8 n8 cap8, .float .f64 pv.n] 126)).cell k8
        refine hK.out _ _ ?_ (fun hHeld => ?_)
        ·first | exact hq1 | exact k8 | exact k9 | exact k10
        clear hK K
        refine wpR 8 ⟨some 54, .call ⟨.builtin .append, #[.tmp 47, .tmp 53], #[122, 122]⟩, 122, "ref.go:167", #[⟨1, .data⟩, ⟨7, .data⟩, ⟨5, .chain⟩], none⟩ (fun K hK => ?_)
        refine growV_stepS (.tmp 47) (.tmp 53) rfl _ _ vl [⟨wrap64 (tv : Int), pv⟩] rfl rfl (by rfl) (HC8.vers.moves0 ((Moves.refl _ _).alloc _)) (vers_new w8 _ _ _ _ ⟨wrap64 (tv : Int), pv⟩ ⟨_, rfl, hVC8⟩) (by have := HC8.moves.size; simp; omega) hbd ?_
        intro v10 w10 hG10 m10 s10 l10
        have hsl := hG10.open
        obtain ⟨ad10, n10, cap10, rfl, hn10⟩ := hsl
        obtain ⟨F0, F1⟩ := HC8.grown hqb hgb ((Moves.refl [] w8).alloc _) m10 hG10
        have k10 : w10.cell? ⟨wb.heap.size, 1, none⟩ = some (.slice ad6 n6 cap6) := (pair_cells F0).2
        have fz10 : w10.frozen? ⟨wb.heap.size, 1, none⟩ = false := by simp [World.frozen?, F0]
        refine hK.out _ _ ?_ (fun hHeld => ?_)
        ·first | exact hq1 | exact k8 | exact k9 | exact k10
        clear hK K
        try simp only [Act.put, sp1, sp2, sp3]
        refine wpT 9 ⟨some 55, .fieldAddr 124 (.tmp 5) 1, 0, "ref.go:167", #[⟨0, .phase⟩, ⟨1, .phase⟩, ⟨2, .phase⟩, ⟨3, .phase⟩, ⟨4, .phase⟩, ⟨5, .phase⟩, ⟨6, .phase⟩, ⟨7, .phase⟩, ⟨8, .phase⟩], none⟩ ?_
        refine wpAnyH_done (by kernel_rfl) ?_ _
        unfold PeelQ
        refine wpOp_of_wp rfl rfl ?_
        go_simp
        exact NoPanic.normal ⟨rfl, by kernel_rfl, ⟨_, _, _, pv, b8, bad8, F1, ho8, hB8⟩⟩
       ·intro u w9 hH
        obtain ⟨ad9, n9, cap9, pv, b8, bad8, hC9, ho8, hB8⟩ := hH
        simp only [List.foldl_cons, List.foldl_nil, List.setIfInBounds_toArray, List.set_cons_zero, List.set_cons_succ]
        generalize u 46 = u46
        generalize u 47 = u47
        generalize u 48 = u48
        generalize u 49 = u49
        generalize u 50 = u50
        generalize u 51 = u51
        generalize u 52 = u52
        generalize u 53 = u53
        generalize u 54 = u54
        generalize u 55 = u55
        go_wp2_with fail
        go_roundw
        case rel =>
         refine ⟨j2 + 1, _, _, b8, bad8, by omega, by rw [show ((cn2 - (j2 + 1) : Nat) : Int) = ((cn2 - j2 : Nat) : Int) - 1 by omega], hC9, ho8, by simp; omega, ?_⟩
         rcases hB8 with ⟨h, _⟩ | ⟨_, h2, h3⟩
         ·simp at h
         ·exact .inr ⟨h3, h2, HST7.out.1⟩
        case measure => simp [intOf]; omega
      ·have hle : tMax tv = true := by
        have : (tv : Int) ≤ 1099511627776 := by assumption
        unfold tMax; simp; omega
       have hbf : bad6 = true → b6 = [] := by
        rcases HST6.out with ⟨_, _, _, e⟩ | ⟨_, e, _⟩
        ·intro h; rw [h] at e; simp at e
        ·exact fun _ => e
       have hq1 := (pair_cells HC6.out.box).2
       have HLE : Hid (tMax tv = true) := hle
       clear hle hC hbc d0 d1 m6 hr6
       have hbd : vl.length + [(⟨wrap64 (tv : Int), ⟨0, [], 0⟩⟩ : Pver)].length ≤ 1048576 := by simp; omega
       have hwt : IntKind.i64.wrap (tv : Int) = wrap64 (tv : Int) := IntWalk.i64_left _
       refine wp_some [46, 47, 48, 49, 50, 51, 52, 53, 54, 55] (fun _ w' => RCNext N wb w' q g (strOf tx) vl tv b6 bad6) ?_ ?_
       ·skip
        refine wp_region_noPanic ?_
        refine region_peel (S := (fun w' => w'.cell? ⟨wb.heap.size, 1, none⟩ = some (.slice ad6 n6 cap6))) (pre := #[⟨some 46, .fieldAddr 124 (.tmp 5) 1, 0, "ref.go:167", #[], none⟩, ⟨some 47, .load 122 (.tmp 46), 122, "ref.go:167", #[⟨0, .data⟩], none⟩, ⟨some 48, .move (.tmp 7), 129, "ref.go:167", #[], none⟩, ⟨some 49, .convert 129 2 (.tmp 48), 2, "ref.go:167", #[⟨2, .data⟩], none⟩, ⟨some 50, .move (.tmp 0), 91, "ref.go:167", #[], none⟩, ⟨some 51, .call ⟨.value (.func 120), #[.tmp 50], #[91]⟩, 99, "ref.go:167", #[⟨4, .data⟩], none⟩, ⟨some 52, .build 126 #[(0, .tmp 49), (1, .tmp 51)], 126, "ref.go:167", #[⟨3, .data⟩, ⟨5, .data⟩], none⟩, ⟨some 53, .buildSlice 122 1 #[(0, .tmp 52)], 122, "ref.go:167", #[⟨6, .data⟩], none⟩, ⟨some 54, .call ⟨.builtin .append, #[.tmp 47, .tmp 53], #[122, 122]⟩, 122, "ref.go:167", #[⟨1, .data⟩, ⟨7, .data⟩, ⟨5, .chain⟩], none⟩, ⟨some 55, .fieldAddr 124 (.tmp 5) 1, 0, "ref.go:167", #[⟨0, .phase⟩, ⟨1, .phase⟩, ⟨2, .phase⟩, ⟨3, .phase⟩, ⟨4, .phase⟩, ⟨5, .phase⟩, ⟨6, .phase⟩, ⟨7, .phase⟩, ⟨8, .phase⟩], none⟩]) (o := ⟨none, .store 122 (.tmp 55) (.tmp 54), 0, "ref.go:167", #[⟨9, .data⟩, ⟨8, .data⟩, ⟨8, .chain⟩, ⟨0, .phase⟩, ⟨1, .phase⟩, ⟨2, .phase⟩, ⟨3, .phase⟩, ⟨4, .phase⟩, ⟨5, .phase⟩, ⟨6, .phase⟩, ⟨7, .phase⟩, ⟨8, .phase⟩], none⟩) (by kernel_rfl) (by kernel_rfl) (by kernel_rfl) ?_ (fun hHeld => ?_)
        ·first | exact hq1 | exact k8 | exact k9 | exact k10
        refine wpT 0 ⟨some 46, .fieldAddr 124 (.tmp 5) 1, 0, "ref.go:167", #[], none⟩ ?_
        refine wpT 1 ⟨some 47, .load 122 (.tmp 46), 122, "ref.go:167", #[⟨0, .data⟩], none⟩ ?_
        refine wpT 2 ⟨some 48, .move (.tmp 7), 129, "ref.go:167", #[], none⟩ ?_
        refine wpT 3 ⟨some 49, .convert 129 2 (.tmp 48), 2, "ref.go:167", #[⟨2, .data⟩], none⟩ ?_
        refine wpT 4 ⟨some 50, .move (.tmp 0), 91, "ref.go:167", #[], none⟩ ?_
        refine wpR 5 ⟨some 51, .call ⟨.value (.func 120), #[.tmp 50], #[91]⟩, 99, "ref.go:167", #[⟨4, .data⟩], none⟩ (fun K hK => ?_)
        go_simp
        (go_at_call 120; refine (rGet_any N hN _ g b6 bad6 _ (HC6.out.rd.moves (Moves.refl [] _).drew (by simp) (by simp)) ho6 hbf).mono ?_; rintro _ w8 ⟨pv, ad8, n8, cap8, rfl, hVC8, m8', hst8⟩)
        have m8 := ((Moves.refl [q] w6).drew).then m8'
        obtain ⟨b8, bad8, hr8, ho8, hB8⟩ : ∃ b8 bad8, RfIs w8 q g b8 bad8 ∧ OctN N b8 ∧ ((bad6 = false ∧ dVal b6 = some (pv, b8) ∧ bad8 = false) ∨ ((bad6 = true ∨ dVal b6 = none) ∧ b8 = [] ∧ bad8 = true)) := by
         rcases hst8 with ⟨h1, rest, h2, h3⟩ | ⟨h1, h2⟩
         ·exact ⟨rest, false, h3, dVal_rest h2 ho6, .inl ⟨h1, h2, rfl⟩⟩
         ·exact ⟨[], true, h2, ⟨by simp, by simp⟩, .inr ⟨h1, rfl, rfl⟩⟩
        have HC8 := HC6.out.movesQ m8 hqb hr8
        have k8 := (pair_cells HC8.box).2
        refine hK.out _ _ ?_ (fun hHeld => ?_)
        ·first | exact hq1 | exact k8 | exact k9 | exact k10
        clear hK K
        refine wpT 6 ⟨some 52, .build 126 #[(0, .tmp 49), (1, .tmp 51)], 126, "ref.go:167", #[⟨3, .data⟩, ⟨5, .data⟩], none⟩ ?_
        refine wpR 7 ⟨some 53, .buildSlice 122 1 #[(0, .tmp 52)], 122, "ref.go:167", #[⟨6, .data⟩], none⟩ (fun K hK => ?_)
        go_simp
        have k9 := ((Moves.refl [] w8).alloc (.cells #[.int .i64 (wrap64 (tv : Int)), .int .i64 pv.kind, .slice ad8 n8 cap8, .float .f64 pv.n] 126)).cell k8
        refine hK.out _ _ ?_ (fun hHeld => ?_)
        ·first | exact hq1 | exact k8 | exact k9 | exact k10
        clear hK K
        refine wpR 8 ⟨some 54, .call ⟨.builtin .append, #[.tmp 47, .tmp 53], #[122, 122]⟩, 122, "ref.go:167", #[⟨1, .data⟩, ⟨7, .data⟩, ⟨5, .chain⟩], none⟩ (fun K hK => ?_)
        refine growV_stepS (.tmp 47) (.tmp 53) rfl _ _ vl [⟨wrap64 (tv : Int), pv⟩] rfl rfl (by rfl) (HC8.vers.moves0 ((Moves.refl _ _).alloc _)) (vers_new w8 _ _ _ _ ⟨wrap64 (tv : Int), pv⟩ ⟨_, rfl, hVC8⟩) (by have := HC8.moves.size; simp; omega) hbd ?_
        intro v10 w10 hG10 m10 s10 l10
        have hsl := hG10.open
        obtain ⟨ad10, n10, cap10, rfl, hn10⟩ := hsl
        obtain ⟨F0, F1⟩ := HC8.grown hqb hgb ((Moves.refl [] w8).alloc _) m10 hG10
        have k10 : w10.cell? ⟨wb.heap.size, 1, none⟩ = some (.slice ad6 n6 cap6) := (pair_cells F0).2
        have fz10 : w10.frozen? ⟨wb.heap.size, 1, none⟩ = false := by simp [World.frozen?, F0]
        refine hK.out _ _ ?_ (fun hHeld => ?_)
        ·first | exact hq1 | exact k8 | exact k9 | exact k10
        clear hK K
        try simp only [Act.put, sp1, sp2, sp3]
        refine wpT 9 ⟨some 55, .fieldAddr 124 (.tmp 5) 1, 0, "ref.go:167", #[⟨0, .phase⟩, ⟨1, .phase⟩, ⟨2, .phase⟩, ⟨3, .phase⟩, ⟨4, .phase⟩, ⟨5, .phase⟩, ⟨6, .phase⟩, ⟨7, .phase⟩, ⟨8, .phase⟩], none⟩ ?_
        refine wpAnyH_done (by kernel_rfl) ?_ _
        unfold PeelQ
        refine wpOp_of_wp rfl rfl ?_
        go_simp
        exact NoPanic.normal ⟨rfl, by kernel_rfl, ⟨_, _, _, pv, b8, bad8, F1, ho8, hB8⟩⟩
       ·intro u w9 hH
        obtain ⟨ad9, n9, cap9, pv, b8, bad8, hC9, ho8, hB8⟩ := hH
        simp only [List.foldl_cons, List.foldl_nil, List.setIfInBounds_toArray, List.set_cons_zero, List.set_cons_succ]
        generalize u 46 = u46
        generalize u 47 = u47
        generalize u 48 = u48
        generalize u 49 = u49
        generalize u 50 = u50
        generalize u 51 = u51
        generalize u 52 = u52
        generalize u 53 = u53
        generalize u 54 = u54
        generalize u 55 = u55
        go_wp2_with fail
        go_roundw
        case rel =>
         refine ⟨j2 + 1, _, _, b8, bad8, by omega, by rw [show ((cn2 - (j2 + 1) : Nat) : Int) = ((cn2 - j2 : Nat) : Int) - 1 by omega], hC9, ho8, by simp; omega, ?_⟩
         rcases HST6.out with ⟨e1, e2, e3, e4⟩ | ⟨e1, e2, e3⟩
         ·have ht1 : tMax (val (b5.take 8)) = true := by rw [← e2]; exact HLE.out
          rcases hB8 with ⟨h1, h2, h3⟩ | ⟨h1, h2, h3⟩
          ·refine .inl ⟨h3, HIT2.out.1, iter_step HIT2.out.2 ?_⟩
           rw [e3] at h2
           rw [e2]
           exact dVer_of e1 ht1 h2
          ·refine .inr ⟨h3, h2, ?_⟩
           have hdn : dVal (b5.drop 8) = none := by
            rcases h1 with h | h
            ·rw [e4] at h; simp at h
            ·rw [← e3]; exact h
           rcases HSC.out with ⟨_, c1, c2, c3, c4⟩ | ⟨h, _⟩
           ·refine dCol_no3 c1 ?_
            rw [← c3, ← c4]
            exact iter_none (iter_stop HIT2.out.2 (dVer_no3 hdn)) (by omega)
           ·rw [HIT2.out.1] at h; simp at h
         ·rcases hB8 with ⟨h1, _⟩ | ⟨_, h2, h3⟩
          ·rw [e3] at h1; simp at h1
          ·refine .inr ⟨h3, h2, ?_⟩
           rcases HSC.out with ⟨_, c1, c2, c3, c4⟩ | ⟨h, _⟩
           ·refine dCol_no3 c1 ?_
            rw [← c3, ← c4]
            exact iter_none (iter_stop HIT2.out.2 (dVer_no1 e1)) (by omega)
           ·rw [HIT2.out.1] at h; simp at h
        case measure => simp [intOf]; omega
     ·have hx : (j2 < cn2 ∧ bad5 = true) ∨ ¬ j2 < cn2 := by
       by_cases e : j2 < cn2
       ·cases hb : bad5 with
        | true => exact .inl ⟨e, rfl⟩
        | false => exact absurd ⟨e, hb⟩ hgo
       ·exact .inr e
      obtain ⟨x, hxn⟩ : ∃ x : Pcol, (⟨strOf tx, vl⟩ : Pcol) = x := ⟨_, rfl⟩
      have hT6 := HTb.out.movesQ hC.moves hq hC.rd
      obtain ⟨k0, k1⟩ := one_cell hT6.out
      have hcn0 := cols_new wr (.string (strOf tx)) _ x ⟨_, by rw [← hxn], by rw [← hxn]; exact hC.vers.at⟩
      have hG6 := hT6.grow.moves0 ((Moves.refl [] wr).alloc (.cells #[.string (strOf tx), .slice ad6 n6 cap6] 124))
      have hbd : l.length + [x].length ≤ 1048576 := by simp; omega
      have hszW : w.heap.size ≤ (wr.alloc (.cells #[.string (strOf tx), .slice ad6 n6 cap6] 124)).heap.size := by have := hT6.moves.size; simp; omega
      have HFIN : Hid ((bad5 = false ∧ bad1 = false ∧ iter (dCol tMax) (j + 1) b1 = some (l ++ [x], b5)) ∨ (bad5 = true ∧ b5 = [] ∧ dRow tMax bs = none)) := by
       rcases HS5.out with ⟨h1, h2, h3⟩ | ⟨h1, h2, h3⟩
       ·refine .inl ⟨h1, hb1f, iter_step HIT.out ?_⟩
        rcases HSC.out with ⟨_, e1, e2, e3, e4⟩ | ⟨h, _⟩
        ·have hj3 : j2 = cn2 := by
          rcases hx with ⟨_, h⟩ | h
          ·rw [h1] at h; simp at h
          ·omega
         rw [← hxn]
         exact dCol_of e1 e2 (by rw [← e3, ← e4, ← hj3]; exact h3)
        ·rw [h2] at h; simp at h
       ·exact .inr ⟨h1, h2, by rw [HROW.out]; exact iter_none (iter_stop HIT.out h3) (by omega)⟩
      have HT6 : Hid (RT w wr q g (.slice ad4 n4 cap4) l b5 bad5) := hT6
      clear hxn HS5 hC hT6 HTb
      rcases hx with ⟨hlt2, hb5⟩ | hge
      ·subst hb5
       have hk4 : (0 : Int) < ((cn2 - j2 : Nat) : Int) := by omega
       go_wp2_with (at_builtin; refine growC_appendS (.tmp 57) (.tmp 59) rfl _ _ l [x] rfl rfl (by rfl) hG6 hcn0 hszW hbd ?_; intro v8 w8 hG8 m8 s8 l8; have hsl := hG8.open; obtain ⟨ad8, n8, cap8, rfl, hn8⟩ := hsl; obtain ⟨F0, F1⟩ := HT6.out.pushed hq hg ((Moves.refl [] wr).alloc _) m8 hG8; obtain ⟨z0, z1⟩ := one_cell F0)
       go_roundw
       case rel => exact ⟨j + 1, l ++ [x], _, b5, _, by omega, by rw [show ((cnt - (j + 1) : Nat) : Int) = ((cnt - j : Nat) : Int) - 1 by omega], F1, ho5, by simp; omega, HFIN.out⟩
       case measure => simp [intOf]; omega
      ·have hk4 : ¬ (0 : Int) < ((cn2 - j2 : Nat) : Int) := by omega
       go_wp2_with (at_builtin; refine growC_appendS (.tmp 57) (.tmp 59) rfl _ _ l [x] rfl rfl (by rfl) hG6 hcn0 hszW hbd ?_; intro v8 w8 hG8 m8 s8 l8; have hsl := hG8.open; obtain ⟨ad8, n8, cap8, rfl, hn8⟩ := hsl; obtain ⟨F0, F1⟩ := HT6.out.pushed hq hg ((Moves.refl [] wr).alloc _) m8 hG8; obtain ⟨z0, z1⟩ := one_cell F0)
       go_roundw
       case rel => exact ⟨j + 1, l ++ [x], _, b5, _, by omega, by rw [show ((cnt - (j + 1) : Nat) : Int) = ((cnt - j : Nat) : Int) - 1 by omega], F1, ho5, by simp; omega, HFIN.out⟩
       case measure => simp [intOf]; omega
   ·have hk3 : ¬ (0 : Int) < ((cnt - j : Nat) : Int) := by omega
    obtain rfl : j = cnt := by omega
    have HRW : Hid (dRow tMax bs = some (l, b2)) := by unfold Hid; rw [HROW.out, HIT.out]
    have hRA : RowAt wr (.agg #[.slice ad4 n4 cap4]) l := ⟨_, rfl, hT.grow.at⟩
    have hR := refRight_w wr wr _ l hRA (Moves.refl _ _)
    cases hpr : pright l with
    | false =>
     have HNO : Hid (dGood tMax bs = none) := dGood_bad HRW.out hpr
     rw [hpr] at hR
     clear hpr
     go_wp2_with (first | (go_at_call 58; refine hR.mono ?_; rintro _ w4 ⟨rfl, m4⟩) | (go_at_call 84; refine (rfFail_w _ g _ _ _ (HT.out.rd.moves m4 (by simp) (by simp))).mono ?_; rintro _ w5 ⟨rfl, hr5, m5⟩; have q5 := m5.at (m4.at HT.out.res (by simp)) (by simp; omega); obtain ⟨t0, t1⟩ := one_cell q5))
     try simp only [Exit.inBlock, Exit.then]
     exact bodyPost_ret (ret_row rfl _ _ _ _ rfl (set_one q5 _)) rfl (.inr ⟨HNO.out, rfl, hr5.moves0 (moves_set _ _ _ _) (by simp; omega), ((HT.out.moves.then (m4.mono (by simp))).then m5).setCell (.inr (Nat.le_refl _)) _⟩)
    | true =>
     have HYES : Hid (dGood tMax bs = some (l, b2)) := dGood_of HRW.out hpr
     rw [hpr] at hR
     clear hpr
     go_wp2_with (go_at_call 58; refine hR.mono ?_; rintro _ w5 ⟨rfl, m5⟩; have q5 := m5.at HT.out.res (by simp); obtain ⟨t0, t1⟩ := one_cell q5; have hb5 := m5.at HT.out.out (by simp); obtain ⟨v0, v1⟩ := one_cell hb5)
     try simp only [Exit.inBlock, Exit.then]
     have s2 : Moves [w.heap.size] w5 (w5.setCell ⟨w.heap.size, 0, none⟩ (.slice ad4 n4 cap4)) := moves_set _ _ _ _
     have HG5 := HT.out.grow.moves0 m5
     have sst : Stay (fun t => t = 5 ∨ t = 126) w5 (w5.setCell ⟨w.heap.size, 0, none⟩ (.slice ad4 n4 cap4)) := Stay.set q5 (by decide) _
     refine bodyPost_ret (ret_row rfl _ _ _ _ rfl (set_one q5 _)) rfl (.inl ⟨l, b2, ad4, n4, cap4, HYES.out, rfl, HG5.moves s2 ?_ sst, (HT.out.rd.moves m5 (by simp) (by simp)).moves s2 (by simp; omega) (by simp; omega), (HT.out.moves.then (m5.mono (by simp))).trans s2 (fun k hk => .inr (by simp at hk; omega))⟩)
     intro k hk hx
     simp at hx
     subst hx
     exact (Grow.neT HG5 q5 (by decide)) (by rw [hk]; simp)
end Go.Proofs.YtcngllcifcpbkaaGreat
