/- ours -/
import Derived.Test.YtcngllcifcpbkaaGreatCTT6
import Derived.Test.YtcngllcifcpbkaaGreatCRfT4
namespace Go.Proofs.YtcngllcifcpbkaaGreat
open Go.RowKit

set_option maxRecDepth 100000 in
set_option maxHeartbeats 2000000 in
theorem refTake_bad (q g : Nat) (w : World) (h : RfIs w q g [] true) :
  Calls Tryz.prog 86 #[.pointer (some ⟨q, 0, none⟩)] w fun e w' => e = .returned (.agg #[.slice none 0 0]) ∧ RfIs w' q g [] true ∧ Moves [q] w w' := by
 have hq := h.ltq
 have m0 : Moves [] w ((w.alloc (.cells #[.slice none 0 0] 52)).alloc (.cells #[.slice none 0 0] 52)) := ((Moves.refl _ _).alloc _).alloc _
 have hr0 := h.moves m0 (by simp) (by simp)
 obtain ⟨q0, qb0, _⟩ := boxes (w := w) (A := #[.slice none 0 0]) (B := #[.slice none 0 0]) (t := 52) (u := 52) (Moves.refl [] _)
 have hT0 : RT w ((w.alloc (.cells #[.slice none 0 0] 52)).alloc (.cells #[.slice none 0 0] 52)) q g (.slice none 0 0) [] [] true := ⟨m0.mono (by simp), q0, qb0, GrowC.nil _ _, hr0⟩
 clear h
 go_enter Tryz.func86, Tryz.ntmps86
 go_wp2_with (go_at_call 118; refine (rfByte_fail_w _ g [] true _ hr0 (.inl rfl)).mono ?_; rintro _ w3 ⟨rfl, hr3, m3⟩; have hT3 := hT0.movesQ m3 hq hr3)
 go_loopw [4] (fun i wr => i = .int .i64 0 ∧ RT w wr q g (.slice none 0 0) [] [] true) (fun _ _ => 0)
 case atStart => exact ⟨rfl, hT3⟩
 case round =>
  obtain ⟨rfl, hT⟩ := hrel
  have hbc := hT.rd.flag
  have HT : Hid (RT w wr q g (.slice none 0 0) [] [] true) := hT
  obtain ⟨k0, k1⟩ := one_cell hT.out
  obtain ⟨s0, s1⟩ := one_cell hT.res
  clear hT hT3
  go_wp2_with (go_at_call 84; refine (rfFail_w _ g _ _ _ HT.out.rd).mono ?_; rintro _ w5 ⟨rfl, hr5, m5⟩; have q5 := m5.at HT.out.res (by simp; omega); obtain ⟨t0, t1⟩ := one_cell q5)
  try simp only [Exit.inBlock, Exit.then]
  exact bodyPost_ret (ret_row rfl _ _ _ _ rfl (set_one q5 _)) rfl ⟨rfl, hr5.moves0 (moves_set _ _ _ _) (by simp; omega), (HT.out.moves.then m5).setCell (.inr (Nat.le_refl _)) _⟩
theorem stayQ {T : TypeId → Prop} {w w' : World} {q : Nat} {c : Array Value} (m : Moves [q] w w') (hb : w.heap[q]? = some (.cells c 93 (0, 0))) (hT : ¬ T 93) : Stay T w w' := Stay.ofMovesS m (fun k hk c' t fz hc => by
 simp at hk
 subst hk
 rw [hb] at hc
 simp at hc
 obtain ⟨_, rfl, _⟩ := hc
 exact hT)
theorem GrowN.movesQ {W w w' : World} {q : Nat} {v : Value} {xs : List Pnam} {c : Array Value} (h : GrowN W w v xs) (m : Moves [q] w w') (hq : q < W.heap.size) (hb : w.heap[q]? = some (.cells c 93 (0, 0))) : GrowN W w' v xs :=
 h.moves m (fun k hk => by have := h.1 k hk; simp; omega) (stayQ m hb (by decide))
theorem ColsAt.movesQ {w w' : World} {q : Nat} {v : Value} {R : List Pcol} {c : Array Value} (h : ColsAt w v R) (m : Moves [q] w w') (hb : w.heap[q]? = some (.cells c 93 (0, 0))) : ColsAt w' v R :=
 h.stayX (T := fun t => t = 5 ∨ t = 126 ∨ t = 124) (stayQ m hb (by decide)) (.inl rfl) (.inr (.inl rfl)) (.inr (.inr rfl))
theorem rt_fin {w w5 w7 w8 : World} {q g : Nat} {v : Value} {xs : List Pnam} {b : List Nat} {bad : Bool} (M : Moves [q] w w5) (hG : GrowN w w5 v xs) (hr : RfIs w5 q g b bad) (ma : Moves [] w5 w7) (m8 : Moves v.ownBlock.toList w7 w8) (hq : q < w.heap.size) (hg : g < w.heap.size) : Moves [q] w w8 ∧ RfIs w8 q g b bad :=
 ⟨(M.then (ma.mono (by simp))).trans m8 (fun k hk => .inr (hG.1 k (Option.mem_toList.1 hk))), (hr.moves ma (by simp) (by simp)).moves m8 (Grow.notP hG hq) (Grow.notP hG hg)⟩
theorem RTook_ok {w w' : World} {q g : Nat} {bs rest : List Nat} {R : List Pcol} {e : Ending} (h : RTook w w' q g bs e) (hd : dGood tMax bs = some (R, rest)) : ∃ ad n cap, e = .returned (.agg #[.slice ad n cap]) ∧ GrowC w w' (.slice ad n cap) R ∧ RfIs w' q g rest false ∧ Moves [q] w w' := by
 rcases h with ⟨c', rest', ad, n, cap, h1, h2⟩ | ⟨h1, _⟩
 ·rw [hd] at h1
  simp only [Option.some.injEq, Prod.mk.injEq] at h1
  obtain ⟨rfl, rfl⟩ := h1
  exact ⟨ad, n, cap, h2⟩
 ·rw [hd] at h1; simp at h1
theorem RTook_no {w w' : World} {q g : Nat} {bs : List Nat} {e : Ending} (h : RTook w w' q g bs e) (hd : dGood tMax bs = none) : e = .returned (.agg #[.slice none 0 0]) ∧ RfIs w' q g [] true ∧ Moves [q] w w' := by
 rcases h with ⟨c', rest', ad, n, cap, h1, h2⟩ | ⟨_, h2⟩
 ·rw [hd] at h1; simp at h1
 ·exact h2
theorem strOf_nil : pname (strOf []) = false := by decide
theorem nextOk_name {xs : List Pnam} {x : Pnam} (h : pname x.name = false) : nextOk xs x = false := by unfold nextOk; rw [h]; simp
theorem nextOk_row {xs : List Pnam} {x : Pnam} (h : x.r = []) : nextOk xs x = false := by unfold nextOk; rw [h]; simp

def RTookT (w w' : World) (q g : Nat) (bs : List Nat) (e : Ending) : Prop :=
 (∃ xs rest ad n cap, dTab bs = some (xs, rest) ∧ e = .returned (.slice ad n cap) ∧ NamsAt w' (.slice ad n cap) xs ∧ RfIs w' q g rest false ∧ Moves [q] w w') ∨ (dTab bs = none ∧ e = .returned (.slice none 0 0) ∧ RfIs w' q g [] true ∧ Moves [q] w w')

set_option maxRecDepth 100000 in
set_option maxHeartbeats 16000000 in
theorem nTake_w (N : Nat) (hN : N ≤ 1000000) (q g : Nat) (bs : List Nat) (w : World) (h : RfIs w q g bs false) (ho : OctN N bs) (hg : g < w.heap.size) :
  Calls Tryz.prog 46 #[.pointer (some ⟨q, 0, none⟩)] w fun e w' => RTookT w w' q g bs e := by
 have hq := h.ltq
 by_cases h4 : 4 ≤ bs.length
 ·have hv := val_lt ho.2 4
  obtain ⟨cnt, hcnt⟩ : ∃ cnt, val (bs.take 4) = cnt := ⟨_, rfl⟩
  obtain ⟨b1, hb1⟩ : ∃ b1, Hid (bs.drop 4 = b1) := ⟨_, rfl⟩
  have ho1 : OctN N b1 := by rw [← hb1.out]; exact ho.drop 4
  have hnum := rfNum_w q g bs w h h4 (by have := ho.1; omega) ho.2
  rw [hcnt, hb1.out] at hnum
  rw [hcnt] at hv
  have hc32 : cnt < 4294967296 := hv
  have hwc : IntKind.i64.wrap (cnt : Int) = (cnt : Int) := by rw [IntKind.wrap_i64]; omega
  by_cases h32 : cnt ≤ 32
  ·have hle : ¬ (32 : Int) < cnt := by omega
   have HTAB : Hid (dTab bs = dTabs cnt b1) := by unfold Hid; rw [dTab_of h4 (by omega), hcnt, hb1.out]
   clear hcnt hv
   go_enter Tryz.func46, Tryz.ntmps46
   go_wp2_with (go_at_call 83; refine hnum.mono ?_; rintro _ w3 ⟨rfl, hr3, m3⟩)
   go_loopw [4, 5] (fun vo vi wr => ∃ (i : Nat) (bad : Bool) (b : List Nat) (xs : List Pnam) (lv : Value), i ≤ cnt ∧ (vo = lv ∧ vi = .int .i64 (i : Nat)) ∧ Moves [q] w wr ∧ RfIs wr q g b bad ∧ GrowN w wr lv xs ∧ xs.length = i ∧ ((bad = false ∧ dTabs i b1 = some (xs, b)) ∨ (bad = true ∧ b = [] ∧ dTab bs = none))) (fun _ vi _ => cnt - (intOf vi).toNat)
   case atStart => exact ⟨0, false, b1, [], _, Nat.zero_le _, ⟨rfl, rfl⟩, m3, hr3, GrowN.nil _ _, rfl, .inl ⟨rfl, rfl⟩⟩
   case round =>
    obtain ⟨i, bad, b, xs, lv, hi, ⟨rfl, rfl⟩, M4, hr4, hG4, hlx, hst⟩ := hrel
    clear hr3 m3 hnum
    obtain ⟨ad4, n4, cap4, rfl, hn4, _⟩ := hG4.open
    have hfl := hr4.flag
    have HLX : Hid (xs.length = i) := hlx
    have hbd : ∀ x : Pnam, xs.length + [x].length ≤ 1048576 := fun x => by simp; omega
    clear hlx
    rcases hst with ⟨rfl, hit⟩ | ⟨rfl, rfl, hno⟩
    ·obtain ⟨_, _, ho2⟩ := dTabs_inv hit ho1 (by omega)
     have hbl : b.length ≤ 1099511627776 := by have := ho2.1; omega
     have HIT : Hid (dTabs i b1 = some (xs, b)) := hit
     clear hit
     by_cases hlt : i < cnt
     ·have hi3 : (i : Int) < cnt := by omega
      have hgr : g < wr.heap.size := Nat.lt_of_lt_of_le hg M4.size
      cases hdt : dText 16 b with
      | none =>
       have hok := dText_no hdt
       have HNO : Hid (dTab bs = none) := by unfold Hid; rw [HTAB.out]; exact dTabs_none (dTabs_stop1 HIT.out (dNam_no1 hdt)) (by omega)
       clear hdt
       go_wp2_with (first | (go_at_call 85; refine (rfText_fail_t _ g b 16 _ hr4 hbl ho2.2 hok).mono ?_; rintro _ w2 ⟨rfl, hr2, m2⟩; have hstr := run_str (isB_nil w2 0) (by simp); have bx2 := heap_alloc_new w2 (.cells #[.string (strOf []), .slice none 0 0] 68); have ma2 := (Moves.refl [] w2).alloc (.cells #[.string (strOf []), .slice none 0 0] 68)) | (go_at_call 86; refine (refTake_bad _ g _ (hr2.moves ma2 (by simp) (by simp))).mono ?_; rintro _ w3 ⟨rfl, hr3, m3⟩; have bx3 := m3.at bx2 (by have := M4.size; have := m2.size; simp; omega); obtain ⟨d0, d1, d2, d3⟩ := pair_frozen bx3))
       obtain ⟨pb, hpb⟩ : ∃ pb, w2.heap.size = pb := ⟨_, rfl⟩
       rw [hpb] at bx3 d0 d1 d2 d3 ⊢
       obtain ⟨wA, hwA⟩ : ∃ wA, w3.setCell ⟨pb, 1, none⟩ (.slice none 0 0) = wA := ⟨_, rfl⟩
       obtain ⟨s, hs⟩ : ∃ s, strOf [] = s := ⟨_, rfl⟩
       obtain ⟨R, hR⟩ : ∃ R0 : List Pcol, [] = R0 := ⟨_, rfl⟩
       have hms : Moves [pb] w3 wA := by rw [← hwA]; exact moves_set _ _ _ _
       have BX : wA.heap[pb]? = some (.cells #[.string s, .slice none 0 0] 68 (0, 0)) := by rw [← hwA, ← hs]; exact heap_set (i := 1) bx3 _
       have hstA : Stay (· ≠ 68) w3 wA := by rw [← hwA]; exact Stay.set bx3 (by simp) _
       have hpq : wr.heap.size ≤ pb := by rw [← hpb]; exact m2.size
       have hqp : q < pb := by have := M4.size; omega
       have hgp : g < pb := by have := M4.size; omega
       have M43 : Moves [q] wr w3 := (m2.then (ma2.mono (by simp))).then m3
       have CA : ColsAt wA (.slice none 0 0) R := by rw [← hR]; exact ColsAt.nil _
       have RDA : RfIs wA q g [] true := hr3.moves0 hms (by simp; omega)
       have GA : GrowN w wA (.slice ad4 n4 cap4) xs := by
        have h3 := hG4.movesQ M43 hq hr4.block.choose_spec
        refine h3.moves hms (fun k hk hx => ?_) (hstA.weak (by rintro t (rfl | rfl | rfl) <;> decide))
        obtain ⟨cur, hc⟩ := hG4.blk hk
        have := lt_of_block hc
        simp at hx
        omega
       have MA : Moves [q] w wA := (M4.then M43).trans hms (fun k hk => .inr (by have := M4.size; simp at hk; omega))
       obtain ⟨e0, e1⟩ := pair_cells BX
       rw [hwA, hs]
       obtain ⟨a5, n5, c5, h5⟩ : ∃ (a5 : Option Addr) (n5 c5 : Nat), Value.slice none 0 0 = .slice a5 n5 c5 := ⟨_, _, _, rfl⟩
       have hn5 : Hid (n5 = R.length) := by simp at h5; show n5 = R.length; rw [← hR, ← h5.2.1]; rfl
       rw [h5] at BX CA e1
       have BXD : wA.drew.heap[pb]? = some (.cells #[.string s, .slice a5 n5 c5] 68 (0, 0)) := BX
       have RDD := RDA.moves (Moves.refl [] wA).drew (by simp) (by simp)
       have GAD := GA.moves0 (Moves.refl [] wA).drew
       have CAD := CA.moves (Moves.refl [] wA).drew
       have MAD : Moves [q] w wA.drew := MA.then ((Moves.refl [] wA).drew.mono (by simp))
       obtain ⟨j0, j1⟩ := pair_cells BXD
       have hnm := fun w1 => refName_w s w1
       replace hbd := hbd ⟨s, R⟩
       clear bx3 d0 d1 d2 d3 bx2 hms hstA hwA hstr M43 hpb m2 ma2 m3 hr2 hr3 hr4 hG4 M4 hfl hgr BX RDA GA CA MA
       have hpn : pname s = false := by rw [← hs]; exact strOf_nil
       simp only [hpn] at hnm
       clear hpn hs hR h5
       refine wp_region_noPanic ?_
       refine wp_region_held_drew (S := (fun w' => w'.cell? ⟨pb, 0, none⟩ = some (.string s) ∧ w'.cell? ⟨pb, 1, none⟩ = some (.slice a5 n5 c5))) (by kernel_rfl) ?_ (fun hHeld => ?_)
       ·first | (go_keep; done) | exact ⟨e0, e1⟩
       refine wpT 0 ⟨some 33, .fieldAddr 68 (.tmp 6) 0, 0, "ref.go:104", #[], none⟩ ?_
       refine wpT 1 ⟨some 34, .load 9 (.tmp 33), 9, "ref.go:104", #[⟨0, .data⟩], none⟩ ?_
       refine wpR 2 ⟨some 35, .call ⟨.value (.func 57), #[.tmp 34], #[9]⟩, 4, "ref.go:104", #[⟨1, .data⟩], none⟩ (fun K hK => ?_)
       go_simp
       (go_at_call 57; refine (hnm _).mono ?_; rintro _ _ ⟨rfl, rfl⟩)
       refine hK.out _ _ ?_ (fun hHeld => ?_)
       ·exact ⟨e0, e1⟩
       clear hK K
       try simp only [Act.put, sp1, sp2, sp3]
       refine wpT 3 ⟨some 36, .unOp .not 4 (.tmp 35), 4, "ref.go:104", #[⟨2, .data⟩], none⟩ ?_
       refine wpT 4 ⟨some 37, .move (.tmp 36), 4, "ref.go:104", #[⟨3, .data⟩, ⟨2, .chain⟩], none⟩ ?_
       refine wpU 5 ⟨some 38, .fieldAddr 68 (.tmp 6) 1, 0, "ref.go:104", #[⟨4, .guard⟩], some (4, false)⟩ ?_
       refine wpU 6 ⟨some 39, .fieldAddr 52 (.tmp 38) 0, 0, "ref.go:104", #[⟨5, .data⟩, ⟨4, .guard⟩], some (4, false)⟩ ?_
       refine wpU 7 ⟨some 40, .load 50 (.tmp 39), 50, "ref.go:104", #[⟨6, .data⟩, ⟨4, .guard⟩], some (4, false)⟩ ?_
       refine wpU 8 ⟨some 41, .call ⟨.builtin .len, #[.tmp 40], #[50]⟩, 3, "ref.go:104", #[⟨7, .data⟩, ⟨4, .guard⟩], some (4, false)⟩ ?_
       refine wpU 9 ⟨some 42, .binOp .eql 3 (.tmp 41) (.const (.int .i64 0)) 3, 4, "ref.go:104", #[⟨8, .data⟩, ⟨4, .guard⟩], some (4, false)⟩ ?_
       refine wpT 10 ⟨some 43, .pick (.tmp 37) (.const (.bool true)) (.tmp 42), 4, "ref.go:104", #[⟨4, .data⟩, ⟨9, .data⟩], none⟩ ?_
       refine wpT 11 ⟨some 44, .move (.tmp 43), 4, "ref.go:104", #[⟨10, .data⟩, ⟨4, .chain⟩], none⟩ ?_
       refine wpU 12 ⟨some 45, .move (.tmp 5), 3, "ref.go:104", #[⟨11, .guard⟩], some (11, false)⟩ ?_
       refine wpU 13 ⟨some 46, .binOp .gtr 3 (.tmp 45) (.const (.int .i64 0)) 3, 4, "ref.go:104", #[⟨12, .data⟩, ⟨11, .guard⟩], some (11, false)⟩ ?_
       refine wpU 14 ⟨some 47, .move (.tmp 46), 4, "ref.go:104", #[⟨13, .data⟩, ⟨11, .chain⟩, ⟨11, .guard⟩], some (11, false)⟩ ?_
       refine wpU 15 ⟨some 48, .move (.tmp 4), 24, "ref.go:104", #[⟨14, .guard⟩], some (14, true)⟩ ?_
       refine wpU 16 ⟨some 49, .move (.tmp 5), 3, "ref.go:104", #[⟨14, .guard⟩], some (14, true)⟩ ?_
       refine wpU 17 ⟨some 50, .binOp .sub 3 (.tmp 49) (.const (.int .i64 1)) 3, 3, "ref.go:104", #[⟨16, .data⟩, ⟨14, .guard⟩], some (14, true)⟩ ?_
       refine wpU 18 ⟨some 51, .indexAddr 24 (.tmp 48) (.tmp 50), 0, "ref.go:104", #[⟨15, .data⟩, ⟨17, .data⟩, ⟨14, .guard⟩], some (14, true)⟩ ?_
       refine wpU 19 ⟨some 52, .fieldAddr 68 (.tmp 51) 0, 0, "ref.go:104", #[⟨18, .data⟩, ⟨14, .guard⟩], some (14, true)⟩ ?_
       refine wpU 20 ⟨some 53, .load 9 (.tmp 52), 9, "ref.go:104", #[⟨19, .data⟩, ⟨14, .guard⟩], some (14, true)⟩ ?_
       refine wpU 21 ⟨some 54, .fieldAddr 68 (.tmp 6) 0, 0, "ref.go:104", #[⟨14, .guard⟩], some (14, true)⟩ ?_
       refine wpU 22 ⟨some 55, .load 9 (.tmp 54), 9, "ref.go:104", #[⟨21, .data⟩, ⟨14, .guard⟩], some (14, true)⟩ ?_
       refine wpU 23 ⟨some 56, .binOp .geq 9 (.tmp 53) (.tmp 55) 9, 4, "ref.go:104", #[⟨20, .data⟩, ⟨22, .data⟩, ⟨14, .guard⟩], some (14, true)⟩ ?_
       refine wpU 24 ⟨some 57, .pick (.tmp 47) (.tmp 56) (.const (.bool false)), 4, "ref.go:104", #[⟨14, .data⟩, ⟨23, .data⟩, ⟨11, .guard⟩], some (11, false)⟩ ?_
       refine wpT 25 ⟨some 58, .pick (.tmp 44) (.const (.bool true)) (.tmp 57), 4, "ref.go:104", #[⟨11, .data⟩, ⟨24, .data⟩], none⟩ ?_
       refine wpAnyH_done (by kernel_rfl) ?_ _
       refine NoPanic.normal ?_
       have M5 := MAD
       go_wp2_with (first | (go_at_call 84; refine (rfFail_w _ g _ _ _ RDD).mono ?_; rintro _ w5 ⟨rfl, hr5, m5⟩; have GA5 := GAD.movesQ m5 hq RDD.block.choose_spec; have BX5 := m5.at BXD (by simp; omega); have CA5 := CAD.movesQ m5 RDD.block.choose_spec; obtain ⟨j0, j1⟩ := pair_cells BX5) | (at_builtin; refine growN_append (W := w) (.tmp 61) (.tmp 63) rfl _ _ xs [⟨s, R⟩] rfl rfl rfl (GA5.moves0 ((Moves.refl [] _).alloc _)) (nams_new w5 _ _ ⟨s, R⟩ ⟨_, rfl, CA5⟩) (Nat.le_trans (MAD.then m5).size ((Moves.refl [] _).alloc _).size) hbd ?_; intro v8 w8 hG8 m8 s8 l8; have hsl := hG8.open; obtain ⟨ad8, n8, cap8, rfl, _, _⟩ := hsl))
       have F := rt_fin (MAD.then m5) GA5 hr5 ((Moves.refl [] w5).alloc _) m8 hq hg
       go_roundw
       case rel => exact ⟨i + 1, true, [], xs ++ [⟨s, R⟩], _, by omega, ⟨rfl, by go_num⟩, F.1, F.2, hG8, (by rw [List.length_append, List.length_singleton, HLX.out]), .inr ⟨rfl, rfl, HNO.out⟩⟩
       case measure => simp [intOf]; omega
      | some qq =>
       obtain ⟨tx, b3⟩ := qq
       obtain ⟨hok, htx, hb3⟩ := dText_yes hdt
       have hotx := (dText_text hdt ho2).1
       have ho3 := dText_rest hdt ho2
       have HTX : Hid ((b.drop 4).take (val (b.take 4)) = tx) := htx
       have HB3 : Hid ((b.drop 4).drop (val (b.take 4)) = b3) := hb3
       clear htx hb3
       cases hdg : dGood tAny b3 with
       | none =>
        have HNO : Hid (dTab bs = none) := by unfold Hid; rw [HTAB.out]; exact dTabs_none (dTabs_stop1 HIT.out (dNam_no2 hdt hdg)) (by omega)
        have hdm : dGood tMax b3 = none := by rw [← dGood_eq ho3]; exact hdg
        clear hdt hdg
        go_wp2_with (first | (go_at_call 85; refine (rfText_w _ g b 16 _ hr4 hbl ho2.2 hok).mono ?_; rintro _ w2 ⟨v2, rfl, hO2, hr2, m2, f2⟩; rw [HTX.out] at hO2; rw [HB3.out] at hr2; have hstr := run_str hO2.isB hotx; have bx2 := heap_alloc_new w2 (.cells #[.string (strOf tx), .slice none 0 0] 68); have ma2 := (Moves.refl [] w2).alloc (.cells #[.string (strOf tx), .slice none 0 0] 68)) | (go_at_call 86; refine (refTake_w N (by omega) _ g b3 _ (hr2.moves ma2 (by simp) (by simp)) ho3 (Nat.lt_of_lt_of_le (Nat.lt_of_lt_of_le hgr m2.size) ma2.size)).mono ?_; intro e5 w3 hT; obtain ⟨rfl, hr3, m3⟩ := RTook_no hT hdm; have bx3 := m3.at bx2 (by have := M4.size; have := m2.size; simp; omega); obtain ⟨d0, d1, d2, d3⟩ := pair_frozen bx3))
        obtain ⟨pb, hpb⟩ : ∃ pb, w2.heap.size = pb := ⟨_, rfl⟩
        rw [hpb] at bx3 d0 d1 d2 d3 ⊢
        obtain ⟨wA, hwA⟩ : ∃ wA, w3.setCell ⟨pb, 1, none⟩ (.slice none 0 0) = wA := ⟨_, rfl⟩
        obtain ⟨s, hs⟩ : ∃ s, strOf tx = s := ⟨_, rfl⟩
        obtain ⟨R, hR⟩ : ∃ R0 : List Pcol, [] = R0 := ⟨_, rfl⟩
        have hms : Moves [pb] w3 wA := by rw [← hwA]; exact moves_set _ _ _ _
        have BX : wA.heap[pb]? = some (.cells #[.string s, .slice none 0 0] 68 (0, 0)) := by rw [← hwA, ← hs]; exact heap_set (i := 1) bx3 _
        have hstA : Stay (· ≠ 68) w3 wA := by rw [← hwA]; exact Stay.set bx3 (by simp) _
        have hpq : wr.heap.size ≤ pb := by rw [← hpb]; exact m2.size
        have hqp : q < pb := by have := M4.size; omega
        have hgp : g < pb := by have := M4.size; omega
        have M43 : Moves [q] wr w3 := (m2.then (ma2.mono (by simp))).then m3
        have CA : ColsAt wA (.slice none 0 0) R := by rw [← hR]; exact ColsAt.nil _
        have RDA : RfIs wA q g [] true := hr3.moves0 hms (by simp; omega)
        have GA : GrowN w wA (.slice ad4 n4 cap4) xs := by
         have h3 := hG4.movesQ M43 hq hr4.block.choose_spec
         refine h3.moves hms (fun k hk hx => ?_) (hstA.weak (by rintro t (rfl | rfl | rfl) <;> decide))
         obtain ⟨cur, hc⟩ := hG4.blk hk
         have := lt_of_block hc
         simp at hx
         omega
        have MA : Moves [q] w wA := (M4.then M43).trans hms (fun k hk => .inr (by have := M4.size; simp at hk; omega))
        obtain ⟨e0, e1⟩ := pair_cells BX
        rw [hwA, hs]
        obtain ⟨a5, n5, c5, h5⟩ : ∃ (a5 : Option Addr) (n5 c5 : Nat), Value.slice none 0 0 = .slice a5 n5 c5 := ⟨_, _, _, rfl⟩
        have hn5 : Hid (n5 = R.length) := by simp at h5; show n5 = R.length; rw [← hR, ← h5.2.1]; rfl
        rw [h5] at BX CA e1
        have BXD : wA.drew.heap[pb]? = some (.cells #[.string s, .slice a5 n5 c5] 68 (0, 0)) := BX
        have RDD := RDA.moves (Moves.refl [] wA).drew (by simp) (by simp)
        have GAD := GA.moves0 (Moves.refl [] wA).drew
        have CAD := CA.moves (Moves.refl [] wA).drew
        have MAD : Moves [q] w wA.drew := MA.then ((Moves.refl [] wA).drew.mono (by simp))
        obtain ⟨j0, j1⟩ := pair_cells BXD
        have hnm := fun w1 => refName_w s w1
        replace hbd := hbd ⟨s, R⟩
        clear bx3 d0 d1 d2 d3 bx2 hms hstA hwA hstr M43 hpb m2 ma2 m3 hr2 hr3 hr4 hG4 M4 hfl hgr BX RDA GA CA MA hT hO2 f2
        cases hpn : pname s with
        | false =>
         simp only [hpn] at hnm
         clear hpn hs hR h5
         refine wp_region_noPanic ?_
         refine wp_region_held_drew (S := (fun w' => w'.cell? ⟨pb, 0, none⟩ = some (.string s) ∧ w'.cell? ⟨pb, 1, none⟩ = some (.slice a5 n5 c5))) (by kernel_rfl) ?_ (fun hHeld => ?_)
         ·first | (go_keep; done) | exact ⟨e0, e1⟩
         refine wpT 0 ⟨some 33, .fieldAddr 68 (.tmp 6) 0, 0, "ref.go:104", #[], none⟩ ?_
         refine wpT 1 ⟨some 34, .load 9 (.tmp 33), 9, "ref.go:104", #[⟨0, .data⟩], none⟩ ?_
         refine wpR 2 ⟨some 35, .call ⟨.value (.func 57), #[.tmp 34], #[9]⟩, 4, "ref.go:104", #[⟨1, .data⟩], none⟩ (fun K hK => ?_)
         go_simp
         (go_at_call 57; refine (hnm _).mono ?_; rintro _ _ ⟨rfl, rfl⟩)
         refine hK.out _ _ ?_ (fun hHeld => ?_)
         ·exact ⟨e0, e1⟩
         clear hK K
         try simp only [Act.put, sp1, sp2, sp3]
         refine wpT 3 ⟨some 36, .unOp .not 4 (.tmp 35), 4, "ref.go:104", #[⟨2, .data⟩], none⟩ ?_
         refine wpT 4 ⟨some 37, .move (.tmp 36), 4, "ref.go:104", #[⟨3, .data⟩, ⟨2, .chain⟩], none⟩ ?_
         refine wpU 5 ⟨some 38, .fieldAddr 68 (.tmp 6) 1, 0, "ref.go:104", #[⟨4, .guard⟩], some (4, false)⟩ ?_
         refine wpU 6 ⟨some 39, .fieldAddr 52 (.tmp 38) 0, 0, "ref.go:104", #[⟨5, .data⟩, ⟨4, .guard⟩], some (4, false)⟩ ?_
         refine wpU 7 ⟨some 40, .load 50 (.tmp 39), 50, "ref.go:104", #[⟨6, .data⟩, ⟨4, .guard⟩], some (4, false)⟩ ?_
         refine wpU 8 ⟨some 41, .call ⟨.builtin .len, #[.tmp 40], #[50]⟩, 3, "ref.go:104", #[⟨7, .data⟩, ⟨4, .guard⟩], some (4, false)⟩ ?_
         refine wpU 9 ⟨some 42, .binOp .eql 3 (.tmp 41) (.const (.int .i64 0)) 3, 4, "ref.go:104", #[⟨8, .data⟩, ⟨4, .guard⟩], some (4, false)⟩ ?_
         refine wpT 10 ⟨some 43, .pick (.tmp 37) (.const (.bool true)) (.tmp 42), 4, "ref.go:104", #[⟨4, .data⟩, ⟨9, .data⟩], none⟩ ?_
         refine wpT 11 ⟨some 44, .move (.tmp 43), 4, "ref.go:104", #[⟨10, .data⟩, ⟨4, .chain⟩], none⟩ ?_
         refine wpU 12 ⟨some 45, .move (.tmp 5), 3, "ref.go:104", #[⟨11, .guard⟩], some (11, false)⟩ ?_
         refine wpU 13 ⟨some 46, .binOp .gtr 3 (.tmp 45) (.const (.int .i64 0)) 3, 4, "ref.go:104", #[⟨12, .data⟩, ⟨11, .guard⟩], some (11, false)⟩ ?_
         refine wpU 14 ⟨some 47, .move (.tmp 46), 4, "ref.go:104", #[⟨13, .data⟩, ⟨11, .chain⟩, ⟨11, .guard⟩], some (11, false)⟩ ?_
         refine wpU 15 ⟨some 48, .move (.tmp 4), 24, "ref.go:104", #[⟨14, .guard⟩], some (14, true)⟩ ?_
         refine wpU 16 ⟨some 49, .move (.tmp 5), 3, "ref.go:104", #[⟨14, .guard⟩], some (14, true)⟩ ?_
         refine wpU 17 ⟨some 50, .binOp .sub 3 (.tmp 49) (.const (.int .i64 1)) 3, 3, "ref.go:104", #[⟨16, .data⟩, ⟨14, .guard⟩], some (14, true)⟩ ?_
         refine wpU 18 ⟨some 51, .indexAddr 24 (.tmp 48) (.tmp 50), 0, "ref.go:104", #[⟨15, .data⟩, ⟨17, .data⟩, ⟨14, .guard⟩], some (14, true)⟩ ?_
         refine wpU 19 ⟨some 52, .fieldAddr 68 (.tmp 51) 0, 0, "ref.go:104", #[⟨18, .data⟩, ⟨14, .guard⟩], some (14, true)⟩ ?_
         refine wpU 20 ⟨some 53, .load 9 (.tmp 52), 9, "ref.go:104", #[⟨19, .data⟩, ⟨14, .guard⟩], some (14, true)⟩ ?_
         refine wpU 21 ⟨some 54, .fieldAddr 68 (.tmp 6) 0, 0, "ref.go:104", #[⟨14, .guard⟩], some (14, true)⟩ ?_
         refine wpU 22 ⟨some 55, .load 9 (.tmp 54), 9, "ref.go:104", #[⟨21, .data⟩, ⟨14, .guard⟩], some (14, true)⟩ ?_
         refine wpU 23 ⟨some 56, .binOp .geq 9 (.tmp 53) (.tmp 55) 9, 4, "ref.go:104", #[⟨20, .data⟩, ⟨22, .data⟩, ⟨14, .guard⟩], some (14, true)⟩ ?_
         refine wpU 24 ⟨some 57, .pick (.tmp 47) (.tmp 56) (.const (.bool false)), 4, "ref.go:104", #[⟨14, .data⟩, ⟨23, .data⟩, ⟨11, .guard⟩], some (11, false)⟩ ?_
         refine wpT 25 ⟨some 58, .pick (.tmp 44) (.const (.bool true)) (.tmp 57), 4, "ref.go:104", #[⟨11, .data⟩, ⟨24, .data⟩], none⟩ ?_
         refine wpAnyH_done (by kernel_rfl) ?_ _
         refine NoPanic.normal ?_
         have M5 := MAD
         go_wp2_with (first | (go_at_call 84; refine (rfFail_w _ g _ _ _ RDD).mono ?_; rintro _ w5 ⟨rfl, hr5, m5⟩; have GA5 := GAD.movesQ m5 hq RDD.block.choose_spec; have BX5 := m5.at BXD (by simp; omega); have CA5 := CAD.movesQ m5 RDD.block.choose_spec; obtain ⟨j0, j1⟩ := pair_cells BX5) | (at_builtin; refine growN_append (W := w) (.tmp 61) (.tmp 63) rfl _ _ xs [⟨s, R⟩] rfl rfl rfl (GA5.moves0 ((Moves.refl [] _).alloc _)) (nams_new w5 _ _ ⟨s, R⟩ ⟨_, rfl, CA5⟩) (Nat.le_trans (MAD.then m5).size ((Moves.refl [] _).alloc _).size) hbd ?_; intro v8 w8 hG8 m8 s8 l8; have hsl := hG8.open; obtain ⟨ad8, n8, cap8, rfl, _, _⟩ := hsl))
         have F := rt_fin (MAD.then m5) GA5 hr5 ((Moves.refl [] w5).alloc _) m8 hq hg
         go_roundw
         case rel => exact ⟨i + 1, true, [], xs ++ [⟨s, R⟩], _, by omega, ⟨rfl, by go_num⟩, F.1, F.2, hG8, (by rw [List.length_append, List.length_singleton, HLX.out]), .inr ⟨rfl, rfl, HNO.out⟩⟩
         case measure => simp [intOf]; omega
        | true =>
         simp only [hpn] at hnm
         have hz5 : n5 = 0 := by simp at h5; exact h5.2.1.symm
         subst hz5
         clear hpn hs hR h5
         refine wp_region_noPanic ?_
         refine wp_region_held_drew (S := (fun w' => w'.cell? ⟨pb, 0, none⟩ = some (.string s) ∧ w'.cell? ⟨pb, 1, none⟩ = some (.slice a5 0 c5))) (by kernel_rfl) ?_ (fun hHeld => ?_)
         ·first | (go_keep; done) | exact ⟨e0, e1⟩
         refine wpT 0 ⟨some 33, .fieldAddr 68 (.tmp 6) 0, 0, "ref.go:104", #[], none⟩ ?_
         refine wpT 1 ⟨some 34, .load 9 (.tmp 33), 9, "ref.go:104", #[⟨0, .data⟩], none⟩ ?_
         refine wpR 2 ⟨some 35, .call ⟨.value (.func 57), #[.tmp 34], #[9]⟩, 4, "ref.go:104", #[⟨1, .data⟩], none⟩ (fun K hK => ?_)
         go_simp
         (go_at_call 57; refine (hnm _).mono ?_; rintro _ _ ⟨rfl, rfl⟩)
         refine hK.out _ _ ?_ (fun hHeld => ?_)
         ·exact ⟨e0, e1⟩
         clear hK K
         try simp only [Act.put, sp1, sp2, sp3]
         refine wpT 3 ⟨some 36, .unOp .not 4 (.tmp 35), 4, "ref.go:104", #[⟨2, .data⟩], none⟩ ?_
         refine wpT 4 ⟨some 37, .move (.tmp 36), 4, "ref.go:104", #[⟨3, .data⟩, ⟨2, .chain⟩], none⟩ ?_
         refine wpT 5 ⟨some 38, .fieldAddr 68 (.tmp 6) 1, 0, "ref.go:104", #[⟨4, .guard⟩], some (4, false)⟩ ?_
         refine wpT 6 ⟨some 39, .fieldAddr 52 (.tmp 38) 0, 0, "ref.go:104", #[⟨5, .data⟩, ⟨4, .guard⟩], some (4, false)⟩ ?_
         refine wpT 7 ⟨some 40, .load 50 (.tmp 39), 50, "ref.go:104", #[⟨6, .data⟩, ⟨4, .guard⟩], some (4, false)⟩ ?_
         refine wpT 8 ⟨some 41, .call ⟨.builtin .len, #[.tmp 40], #[50]⟩, 3, "ref.go:104", #[⟨7, .data⟩, ⟨4, .guard⟩], some (4, false)⟩ ?_
         refine wpT 9 ⟨some 42, .binOp .eql 3 (.tmp 41) (.const (.int .i64 0)) 3, 4, "ref.go:104", #[⟨8, .data⟩, ⟨4, .guard⟩], some (4, false)⟩ ?_
         refine wpT 10 ⟨some 43, .pick (.tmp 37) (.const (.bool true)) (.tmp 42), 4, "ref.go:104", #[⟨4, .data⟩, ⟨9, .data⟩], none⟩ ?_
         refine wpT 11 ⟨some 44, .move (.tmp 43), 4, "ref.go:104", #[⟨10, .data⟩, ⟨4, .chain⟩], none⟩ ?_
         refine wpU 12 ⟨some 45, .move (.tmp 5), 3, "ref.go:104", #[⟨11, .guard⟩], some (11, false)⟩ ?_
         refine wpU 13 ⟨some 46, .binOp .gtr 3 (.tmp 45) (.const (.int .i64 0)) 3, 4, "ref.go:104", #[⟨12, .data⟩, ⟨11, .guard⟩], some (11, false)⟩ ?_
         refine wpU 14 ⟨some 47, .move (.tmp 46), 4, "ref.go:104", #[⟨13, .data⟩, ⟨11, .chain⟩, ⟨11, .guard⟩], some (11, false)⟩ ?_
         refine wpU 15 ⟨some 48, .move (.tmp 4), 24, "ref.go:104", #[⟨14, .guard⟩], some (14, true)⟩ ?_
         refine wpU 16 ⟨some 49, .move (.tmp 5), 3, "ref.go:104", #[⟨14, .guard⟩], some (14, true)⟩ ?_
         refine wpU 17 ⟨some 50, .binOp .sub 3 (.tmp 49) (.const (.int .i64 1)) 3, 3, "ref.go:104", #[⟨16, .data⟩, ⟨14, .guard⟩], some (14, true)⟩ ?_
         refine wpU 18 ⟨some 51, .indexAddr 24 (.tmp 48) (.tmp 50), 0, "ref.go:104", #[⟨15, .data⟩, ⟨17, .data⟩, ⟨14, .guard⟩], some (14, true)⟩ ?_
         refine wpU 19 ⟨some 52, .fieldAddr 68 (.tmp 51) 0, 0, "ref.go:104", #[⟨18, .data⟩, ⟨14, .guard⟩], some (14, true)⟩ ?_
         refine wpU 20 ⟨some 53, .load 9 (.tmp 52), 9, "ref.go:104", #[⟨19, .data⟩, ⟨14, .guard⟩], some (14, true)⟩ ?_
         refine wpU 21 ⟨some 54, .fieldAddr 68 (.tmp 6) 0, 0, "ref.go:104", #[⟨14, .guard⟩], some (14, true)⟩ ?_
         refine wpU 22 ⟨some 55, .load 9 (.tmp 54), 9, "ref.go:104", #[⟨21, .data⟩, ⟨14, .guard⟩], some (14, true)⟩ ?_
         refine wpU 23 ⟨some 56, .binOp .geq 9 (.tmp 53) (.tmp 55) 9, 4, "ref.go:104", #[⟨20, .data⟩, ⟨22, .data⟩, ⟨14, .guard⟩], some (14, true)⟩ ?_
         refine wpU 24 ⟨some 57, .pick (.tmp 47) (.tmp 56) (.const (.bool false)), 4, "ref.go:104", #[⟨14, .data⟩, ⟨23, .data⟩, ⟨11, .guard⟩], some (11, false)⟩ ?_
         refine wpT 25 ⟨some 58, .pick (.tmp 44) (.const (.bool true)) (.tmp 57), 4, "ref.go:104", #[⟨11, .data⟩, ⟨24, .data⟩], none⟩ ?_
         refine wpAnyH_done (by kernel_rfl) ?_ _
         refine NoPanic.normal ?_
         have M5 := MAD
         go_wp2_with (first | (go_at_call 84; refine (rfFail_w _ g _ _ _ RDD).mono ?_; rintro _ w5 ⟨rfl, hr5, m5⟩; have GA5 := GAD.movesQ m5 hq RDD.block.choose_spec; have BX5 := m5.at BXD (by simp; omega); have CA5 := CAD.movesQ m5 RDD.block.choose_spec; obtain ⟨j0, j1⟩ := pair_cells BX5) | (at_builtin; refine growN_append (W := w) (.tmp 61) (.tmp 63) rfl _ _ xs [⟨s, R⟩] rfl rfl rfl (GA5.moves0 ((Moves.refl [] _).alloc _)) (nams_new w5 _ _ ⟨s, R⟩ ⟨_, rfl, CA5⟩) (Nat.le_trans (MAD.then m5).size ((Moves.refl [] _).alloc _).size) hbd ?_; intro v8 w8 hG8 m8 s8 l8; have hsl := hG8.open; obtain ⟨ad8, n8, cap8, rfl, _, _⟩ := hsl))
         have F := rt_fin (MAD.then m5) GA5 hr5 ((Moves.refl [] w5).alloc _) m8 hq hg
         go_roundw
         case rel => exact ⟨i + 1, true, [], xs ++ [⟨s, R⟩], _, by omega, ⟨rfl, by go_num⟩, F.1, F.2, hG8, (by rw [List.length_append, List.length_singleton, HLX.out]), .inr ⟨rfl, rfl, HNO.out⟩⟩
         case measure => simp [intOf]; omega
       | some q2 =>
        obtain ⟨R1, b4⟩ := q2
        have HDN : Hid (dNam b = some (⟨strOf tx, R1⟩, b4)) := dNam_of hdt hdg
        have hdm : dGood tMax b3 = some (R1, b4) := by rw [← dGood_eq ho3]; exact hdg
        clear hdt hdg
        go_wp2_with (first | (go_at_call 85; refine (rfText_w _ g b 16 _ hr4 hbl ho2.2 hok).mono ?_; rintro _ w2 ⟨v2, rfl, hO2, hr2, m2, f2⟩; rw [HTX.out] at hO2; rw [HB3.out] at hr2; have hstr := run_str hO2.isB hotx; have bx2 := heap_alloc_new w2 (.cells #[.string (strOf tx), .slice none 0 0] 68); have ma2 := (Moves.refl [] w2).alloc (.cells #[.string (strOf tx), .slice none 0 0] 68)) | (go_at_call 86; refine (refTake_w N (by omega) _ g b3 _ (hr2.moves ma2 (by simp) (by simp)) ho3 (Nat.lt_of_lt_of_le (Nat.lt_of_lt_of_le hgr m2.size) ma2.size)).mono ?_; intro e5 w3 hT; obtain ⟨ad5, n5, cap5, rfl, hG5, hr3, m3⟩ := RTook_ok hT hdm; have bx3 := m3.at bx2 (by have := M4.size; have := m2.size; simp; omega); obtain ⟨d0, d1, d2, d3⟩ := pair_frozen bx3))
        obtain ⟨pb, hpb⟩ : ∃ pb, w2.heap.size = pb := ⟨_, rfl⟩
        rw [hpb] at bx3 d0 d1 d2 d3 ⊢
        obtain ⟨wA, hwA⟩ : ∃ wA, w3.setCell ⟨pb, 1, none⟩ (.slice ad5 n5 cap5) = wA := ⟨_, rfl⟩
        obtain ⟨s, hs⟩ : ∃ s, strOf tx = s := ⟨_, rfl⟩
        obtain ⟨R, hR⟩ : ∃ R0 : List Pcol, R1 = R0 := ⟨_, rfl⟩
        have hms : Moves [pb] w3 wA := by rw [← hwA]; exact moves_set _ _ _ _
        have BX : wA.heap[pb]? = some (.cells #[.string s, .slice ad5 n5 cap5] 68 (0, 0)) := by rw [← hwA, ← hs]; exact heap_set (i := 1) bx3 _
        have hstA : Stay (· ≠ 68) w3 wA := by rw [← hwA]; exact Stay.set bx3 (by simp) _
        have hpq : wr.heap.size ≤ pb := by rw [← hpb]; exact m2.size
        have hqp : q < pb := by have := M4.size; omega
        have hgp : g < pb := by have := M4.size; omega
        have M43 : Moves [q] wr w3 := (m2.then (ma2.mono (by simp))).then m3
        have CA : ColsAt wA (.slice ad5 n5 cap5) R := by rw [← hR]; exact hG5.at.stayX hstA (by decide) (by decide) (by decide)
        have RDA : RfIs wA q g b4 false := hr3.moves hms (by simp; omega) (by simp; omega)
        have GA : GrowN w wA (.slice ad4 n4 cap4) xs := by
         have h3 := hG4.movesQ M43 hq hr4.block.choose_spec
         refine h3.moves hms (fun k hk hx => ?_) (hstA.weak (by rintro t (rfl | rfl | rfl) <;> decide))
         obtain ⟨cur, hc⟩ := hG4.blk hk
         have := lt_of_block hc
         simp at hx
         omega
        have MA : Moves [q] w wA := (M4.then M43).trans hms (fun k hk => .inr (by have := M4.size; simp at hk; omega))
        obtain ⟨e0, e1⟩ := pair_cells BX
        rw [hwA, hs]
        obtain ⟨a5, ha5⟩ : ∃ a5, ad5 = a5 := ⟨_, rfl⟩
        obtain ⟨c5, hc5⟩ : ∃ c5, cap5 = c5 := ⟨_, rfl⟩
        rw [ha5, hc5] at BX CA e1
        have hn5 : Hid (n5 = R.length) := by obtain ⟨_, _, e, _⟩ := CA.slice; simp at e; exact e.2.1
        have BXD : wA.drew.heap[pb]? = some (.cells #[.string s, .slice a5 n5 c5] 68 (0, 0)) := BX
        have RDD := RDA.moves (Moves.refl [] wA).drew (by simp) (by simp)
        have GAD := GA.moves0 (Moves.refl [] wA).drew
        have CAD := CA.moves (Moves.refl [] wA).drew
        have MAD : Moves [q] w wA.drew := MA.then ((Moves.refl [] wA).drew.mono (by simp))
        obtain ⟨j0, j1⟩ := pair_cells BXD
        have hnm := fun w1 => refName_w s w1
        replace hbd := hbd ⟨s, R⟩
        clear bx3 d0 d1 d2 d3 bx2 hms hstA hwA hstr M43 hpb m2 ma2 m3 hr2 hr3 hr4 hG4 M4 hfl hgr BX RDA GA CA MA hT hO2 f2 hG5 ha5 hc5
        rw [hs, hR] at HDN
        have HNO2 : Hid (nextOk xs ⟨s, R⟩ = false → dTab bs = none) := fun hk => by rw [HTAB.out]; exact dTabs_none (dTabs_stop2 HIT.out HDN.out hk) (by omega)
        have HOK2 : Hid (nextOk xs ⟨s, R⟩ = true → dTabs (i + 1) b1 = some (xs ++ [⟨s, R⟩], b4)) := fun hk => dTabs_step HIT.out HDN.out hk
        clear hs hR
        cases hpn : pname s with
        | false =>
         have HNO : Hid (dTab bs = none) := HNO2.out (nextOk_name hpn)
         simp only [hpn] at hnm
         clear hpn
         refine wp_region_noPanic ?_
         refine wp_region_held_drew (S := (fun w' => w'.cell? ⟨pb, 0, none⟩ = some (.string s) ∧ w'.cell? ⟨pb, 1, none⟩ = some (.slice a5 n5 c5))) (by kernel_rfl) ?_ (fun hHeld => ?_)
         ·first | (go_keep; done) | exact ⟨e0, e1⟩
         refine wpT 0 ⟨some 33, .fieldAddr 68 (.tmp 6) 0, 0, "ref.go:104", #[], none⟩ ?_
         refine wpT 1 ⟨some 34, .load 9 (.tmp 33), 9, "ref.go:104", #[⟨0, .data⟩], none⟩ ?_
         refine wpR 2 ⟨some 35, .call ⟨.value (.func 57), #[.tmp 34], #[9]⟩, 4, "ref.go:104", #[⟨1, .data⟩], none⟩ (fun K hK => ?_)
         go_simp
         (go_at_call 57; refine (hnm _).mono ?_; rintro _ _ ⟨rfl, rfl⟩)
         refine hK.out _ _ ?_ (fun hHeld => ?_)
         ·exact ⟨e0, e1⟩
         clear hK K
         try simp only [Act.put, sp1, sp2, sp3]
         refine wpT 3 ⟨some 36, .unOp .not 4 (.tmp 35), 4, "ref.go:104", #[⟨2, .data⟩], none⟩ ?_
         refine wpT 4 ⟨some 37, .move (.tmp 36), 4, "ref.go:104", #[⟨3, .data⟩, ⟨2, .chain⟩], none⟩ ?_
         refine wpU 5 ⟨some 38, .fieldAddr 68 (.tmp 6) 1, 0, "ref.go:104", #[⟨4, .guard⟩], some (4, false)⟩ ?_
         refine wpU 6 ⟨some 39, .fieldAddr 52 (.tmp 38) 0, 0, "ref.go:104", #[⟨5, .data⟩, ⟨4, .guard⟩], some (4, false)⟩ ?_
         refine wpU 7 ⟨some 40, .load 50 (.tmp 39), 50, "ref.go:104", #[⟨6, .data⟩, ⟨4, .guard⟩], some (4, false)⟩ ?_
         refine wpU 8 ⟨some 41, .call ⟨.builtin .len, #[.tmp 40], #[50]⟩, 3, "ref.go:104", #[⟨7, .data⟩, ⟨4, .guard⟩], some (4, false)⟩ ?_
         refine wpU 9 ⟨some 42, .binOp .eql 3 (.tmp 41) (.const (.int .i64 0)) 3, 4, "ref.go:104", #[⟨8, .data⟩, ⟨4, .guard⟩], some (4, false)⟩ ?_
         refine wpT 10 ⟨some 43, .pick (.tmp 37) (.const (.bool true)) (.tmp 42), 4, "ref.go:104", #[⟨4, .data⟩, ⟨9, .data⟩], none⟩ ?_
         refine wpT 11 ⟨some 44, .move (.tmp 43), 4, "ref.go:104", #[⟨10, .data⟩, ⟨4, .chain⟩], none⟩ ?_
         refine wpU 12 ⟨some 45, .move (.tmp 5), 3, "ref.go:104", #[⟨11, .guard⟩], some (11, false)⟩ ?_
         refine wpU 13 ⟨some 46, .binOp .gtr 3 (.tmp 45) (.const (.int .i64 0)) 3, 4, "ref.go:104", #[⟨12, .data⟩, ⟨11, .guard⟩], some (11, false)⟩ ?_
         refine wpU 14 ⟨some 47, .move (.tmp 46), 4, "ref.go:104", #[⟨13, .data⟩, ⟨11, .chain⟩, ⟨11, .guard⟩], some (11, false)⟩ ?_
         refine wpU 15 ⟨some 48, .move (.tmp 4), 24, "ref.go:104", #[⟨14, .guard⟩], some (14, true)⟩ ?_
         refine wpU 16 ⟨some 49, .move (.tmp 5), 3, "ref.go:104", #[⟨14, .guard⟩], some (14, true)⟩ ?_
         refine wpU 17 ⟨some 50, .binOp .sub 3 (.tmp 49) (.const (.int .i64 1)) 3, 3, "ref.go:104", #[⟨16, .data⟩, ⟨14, .guard⟩], some (14, true)⟩ ?_
         refine wpU 18 ⟨some 51, .indexAddr 24 (.tmp 48) (.tmp 50), 0, "ref.go:104", #[⟨15, .data⟩, ⟨17, .data⟩, ⟨14, .guard⟩], some (14, true)⟩ ?_
         refine wpU 19 ⟨some 52, .fieldAddr 68 (.tmp 51) 0, 0, "ref.go:104", #[⟨18, .data⟩, ⟨14, .guard⟩], some (14, true)⟩ ?_
         refine wpU 20 ⟨some 53, .load 9 (.tmp 52), 9, "ref.go:104", #[⟨19, .data⟩, ⟨14, .guard⟩], some (14, true)⟩ ?_
         refine wpU 21 ⟨some 54, .fieldAddr 68 (.tmp 6) 0, 0, "ref.go:104", #[⟨14, .guard⟩], some (14, true)⟩ ?_
         refine wpU 22 ⟨some 55, .load 9 (.tmp 54), 9, "ref.go:104", #[⟨21, .data⟩, ⟨14, .guard⟩], some (14, true)⟩ ?_
         refine wpU 23 ⟨some 56, .binOp .geq 9 (.tmp 53) (.tmp 55) 9, 4, "ref.go:104", #[⟨20, .data⟩, ⟨22, .data⟩, ⟨14, .guard⟩], some (14, true)⟩ ?_
         refine wpU 24 ⟨some 57, .pick (.tmp 47) (.tmp 56) (.const (.bool false)), 4, "ref.go:104", #[⟨14, .data⟩, ⟨23, .data⟩, ⟨11, .guard⟩], some (11, false)⟩ ?_
         refine wpT 25 ⟨some 58, .pick (.tmp 44) (.const (.bool true)) (.tmp 57), 4, "ref.go:104", #[⟨11, .data⟩, ⟨24, .data⟩], none⟩ ?_
         refine wpAnyH_done (by kernel_rfl) ?_ _
         refine NoPanic.normal ?_
         have M5 := MAD
         go_wp2_with (first | (go_at_call 84; refine (rfFail_w _ g _ _ _ RDD).mono ?_; rintro _ w5 ⟨rfl, hr5, m5⟩; have GA5 := GAD.movesQ m5 hq RDD.block.choose_spec; have BX5 := m5.at BXD (by simp; omega); have CA5 := CAD.movesQ m5 RDD.block.choose_spec; obtain ⟨j0, j1⟩ := pair_cells BX5) | (at_builtin; refine growN_append (W := w) (.tmp 61) (.tmp 63) rfl _ _ xs [⟨s, R⟩] rfl rfl rfl (GA5.moves0 ((Moves.refl [] _).alloc _)) (nams_new w5 _ _ ⟨s, R⟩ ⟨_, rfl, CA5⟩) (Nat.le_trans (MAD.then m5).size ((Moves.refl [] _).alloc _).size) hbd ?_; intro v8 w8 hG8 m8 s8 l8; have hsl := hG8.open; obtain ⟨ad8, n8, cap8, rfl, _, _⟩ := hsl))
         have F := rt_fin (MAD.then m5) GA5 hr5 ((Moves.refl [] w5).alloc _) m8 hq hg
         go_roundw
         case rel => exact ⟨i + 1, true, [], xs ++ [⟨s, R⟩], _, by omega, ⟨rfl, by go_num⟩, F.1, F.2, hG8, (by rw [List.length_append, List.length_singleton, HLX.out]), .inr ⟨rfl, rfl, HNO.out⟩⟩
         case measure => simp [intOf]; omega
        | true =>
         simp only [hpn] at hnm
         by_cases hz : n5 = 0
         ·have hRn : R = [] := List.eq_nil_of_length_eq_zero (by rw [← hn5.out]; exact hz)
          have HNO : Hid (dTab bs = none) := HNO2.out (nextOk_row hRn)
          subst hz
          clear hpn hRn
          refine wp_region_noPanic ?_
          refine wp_region_held_drew (S := (fun w' => w'.cell? ⟨pb, 0, none⟩ = some (.string s) ∧ w'.cell? ⟨pb, 1, none⟩ = some (.slice a5 0 c5))) (by kernel_rfl) ?_ (fun hHeld => ?_)
          ·first | (go_keep; done) | exact ⟨e0, e1⟩
          refine wpT 0 ⟨some 33, .fieldAddr 68 (.tmp 6) 0, 0, "ref.go:104", #[], none⟩ ?_
          refine wpT 1 ⟨some 34, .load 9 (.tmp 33), 9, "ref.go:104", #[⟨0, .data⟩], none⟩ ?_
          refine wpR 2 ⟨some 35, .call ⟨.value (.func 57), #[.tmp 34], #[9]⟩, 4, "ref.go:104", #[⟨1, .data⟩], none⟩ (fun K hK => ?_)
          go_simp
          (go_at_call 57; refine (hnm _).mono ?_; rintro _ _ ⟨rfl, rfl⟩)
          refine hK.out _ _ ?_ (fun hHeld => ?_)
          ·exact ⟨e0, e1⟩
          clear hK K
          try simp only [Act.put, sp1, sp2, sp3]
          refine wpT 3 ⟨some 36, .unOp .not 4 (.tmp 35), 4, "ref.go:104", #[⟨2, .data⟩], none⟩ ?_
          refine wpT 4 ⟨some 37, .move (.tmp 36), 4, "ref.go:104", #[⟨3, .data⟩, ⟨2, .chain⟩], none⟩ ?_
          refine wpT 5 ⟨some 38, .fieldAddr 68 (.tmp 6) 1, 0, "ref.go:104", #[⟨4, .guard⟩], some (4, false)⟩ ?_
          refine wpT 6 ⟨some 39, .fieldAddr 52 (.tmp 38) 0, 0, "ref.go:104", #[⟨5, .data⟩, ⟨4, .guard⟩], some (4, false)⟩ ?_
          refine wpT 7 ⟨some 40, .load 50 (.tmp 39), 50, "ref.go:104", #[⟨6, .data⟩, ⟨4, .guard⟩], some (4, false)⟩ ?_
          refine wpT 8 ⟨some 41, .call ⟨.builtin .len, #[.tmp 40], #[50]⟩, 3, "ref.go:104", #[⟨7, .data⟩, ⟨4, .guard⟩], some (4, false)⟩ ?_
          refine wpT 9 ⟨some 42, .binOp .eql 3 (.tmp 41) (.const (.int .i64 0)) 3, 4, "ref.go:104", #[⟨8, .data⟩, ⟨4, .guard⟩], some (4, false)⟩ ?_
          refine wpT 10 ⟨some 43, .pick (.tmp 37) (.const (.bool true)) (.tmp 42), 4, "ref.go:104", #[⟨4, .data⟩, ⟨9, .data⟩], none⟩ ?_
          refine wpT 11 ⟨some 44, .move (.tmp 43), 4, "ref.go:104", #[⟨10, .data⟩, ⟨4, .chain⟩], none⟩ ?_
          refine wpU 12 ⟨some 45, .move (.tmp 5), 3, "ref.go:104", #[⟨11, .guard⟩], some (11, false)⟩ ?_
          refine wpU 13 ⟨some 46, .binOp .gtr 3 (.tmp 45) (.const (.int .i64 0)) 3, 4, "ref.go:104", #[⟨12, .data⟩, ⟨11, .guard⟩], some (11, false)⟩ ?_
          refine wpU 14 ⟨some 47, .move (.tmp 46), 4, "ref.go:104", #[⟨13, .data⟩, ⟨11, .chain⟩, ⟨11, .guard⟩], some (11, false)⟩ ?_
          refine wpU 15 ⟨some 48, .move (.tmp 4), 24, "ref.go:104", #[⟨14, .guard⟩], some (14, true)⟩ ?_
          refine wpU 16 ⟨some 49, .move (.tmp 5), 3, "ref.go:104", #[⟨14, .guard⟩], some (14, true)⟩ ?_
          refine wpU 17 ⟨some 50, .binOp .sub 3 (.tmp 49) (.const (.int .i64 1)) 3, 3, "ref.go:104", #[⟨16, .data⟩, ⟨14, .guard⟩], some (14, true)⟩ ?_
          refine wpU 18 ⟨some 51, .indexAddr 24 (.tmp 48) (.tmp 50), 0, "ref.go:104", #[⟨15, .data⟩, ⟨17, .data⟩, ⟨14, .guard⟩], some (14, true)⟩ ?_
          refine wpU 19 ⟨some 52, .fieldAddr 68 (.tmp 51) 0, 0, "ref.go:104", #[⟨18, .data⟩, ⟨14, .guard⟩], some (14, true)⟩ ?_
          refine wpU 20 ⟨some 53, .load 9 (.tmp 52), 9, "ref.go:104", #[⟨19, .data⟩, ⟨14, .guard⟩], some (14, true)⟩ ?_
          refine wpU 21 ⟨some 54, .fieldAddr 68 (.tmp 6) 0, 0, "ref.go:104", #[⟨14, .guard⟩], some (14, true)⟩ ?_
          refine wpU 22 ⟨some 55, .load 9 (.tmp 54), 9, "ref.go:104", #[⟨21, .data⟩, ⟨14, .guard⟩], some (14, true)⟩ ?_
          refine wpU 23 ⟨some 56, .binOp .geq 9 (.tmp 53) (.tmp 55) 9, 4, "ref.go:104", #[⟨20, .data⟩, ⟨22, .data⟩, ⟨14, .guard⟩], some (14, true)⟩ ?_
          refine wpU 24 ⟨some 57, .pick (.tmp 47) (.tmp 56) (.const (.bool false)), 4, "ref.go:104", #[⟨14, .data⟩, ⟨23, .data⟩, ⟨11, .guard⟩], some (11, false)⟩ ?_
          refine wpT 25 ⟨some 58, .pick (.tmp 44) (.const (.bool true)) (.tmp 57), 4, "ref.go:104", #[⟨11, .data⟩, ⟨24, .data⟩], none⟩ ?_
          refine wpAnyH_done (by kernel_rfl) ?_ _
          refine NoPanic.normal ?_
          have M5 := MAD
          go_wp2_with (first | (go_at_call 84; refine (rfFail_w _ g _ _ _ RDD).mono ?_; rintro _ w5 ⟨rfl, hr5, m5⟩; have GA5 := GAD.movesQ m5 hq RDD.block.choose_spec; have BX5 := m5.at BXD (by simp; omega); have CA5 := CAD.movesQ m5 RDD.block.choose_spec; obtain ⟨j0, j1⟩ := pair_cells BX5) | (at_builtin; refine growN_append (W := w) (.tmp 61) (.tmp 63) rfl _ _ xs [⟨s, R⟩] rfl rfl rfl (GA5.moves0 ((Moves.refl [] _).alloc _)) (nams_new w5 _ _ ⟨s, R⟩ ⟨_, rfl, CA5⟩) (Nat.le_trans (MAD.then m5).size ((Moves.refl [] _).alloc _).size) hbd ?_; intro v8 w8 hG8 m8 s8 l8; have hsl := hG8.open; obtain ⟨ad8, n8, cap8, rfl, _, _⟩ := hsl))
          have F := rt_fin (MAD.then m5) GA5 hr5 ((Moves.refl [] w5).alloc _) m8 hq hg
          go_roundw
          case rel => exact ⟨i + 1, true, [], xs ++ [⟨s, R⟩], _, by omega, ⟨rfl, by go_num⟩, F.1, F.2, hG8, (by rw [List.length_append, List.length_singleton, HLX.out]), .inr ⟨rfl, rfl, HNO.out⟩⟩
          case measure => simp [intOf]; omega
         ·have hRn : R.isEmpty = false := by cases hq2 : R with | nil => exact absurd (by rw [hn5.out, hq2]; rfl) hz | cons _ _ => rfl
          have hz5 : ((n5 : Int) == 0) = false := by simp; omega
          cases hgl : xs.getLast? with
          | none =>
           have hxs : xs = [] := List.getLast?_eq_none_iff.1 hgl
           have HIT2 : Hid (dTabs (i + 1) b1 = some (xs ++ [⟨s, R⟩], b4)) := HOK2.out (by unfold nextOk; rw [hgl]; simp [hpn, hRn])
           have hi0 : i = 0 := by rw [← HLX.out, hxs]; rfl
           subst hi0
           clear hpn hgl hxs hRn hz
           refine wp_region_noPanic ?_
           refine wp_region_held_drew (S := (fun w' => w'.cell? ⟨pb, 0, none⟩ = some (.string s) ∧ w'.cell? ⟨pb, 1, none⟩ = some (.slice a5 n5 c5))) (by kernel_rfl) ?_ (fun hHeld => ?_)
           ·first | (go_keep; done) | exact ⟨e0, e1⟩
           refine wpT 0 ⟨some 33, .fieldAddr 68 (.tmp 6) 0, 0, "ref.go:104", #[], none⟩ ?_
           refine wpT 1 ⟨some 34, .load 9 (.tmp 33), 9, "ref.go:104", #[⟨0, .data⟩], none⟩ ?_
           refine wpR 2 ⟨some 35, .call ⟨.value (.func 57), #[.tmp 34], #[9]⟩, 4, "ref.go:104", #[⟨1, .data⟩], none⟩ (fun K hK => ?_)
           go_simp
           (go_at_call 57; refine (hnm _).mono ?_; rintro _ _ ⟨rfl, rfl⟩)
           refine hK.out _ _ ?_ (fun hHeld => ?_)
           ·exact ⟨e0, e1⟩
           clear hK K
           try simp only [Act.put, sp1, sp2, sp3]
           refine wpT 3 ⟨some 36, .unOp .not 4 (.tmp 35), 4, "ref.go:104", #[⟨2, .data⟩], none⟩ ?_
           refine wpT 4 ⟨some 37, .move (.tmp 36), 4, "ref.go:104", #[⟨3, .data⟩, ⟨2, .chain⟩], none⟩ ?_
           refine wpT 5 ⟨some 38, .fieldAddr 68 (.tmp 6) 1, 0, "ref.go:104", #[⟨4, .guard⟩], some (4, false)⟩ ?_
           refine wpT 6 ⟨some 39, .fieldAddr 52 (.tmp 38) 0, 0, "ref.go:104", #[⟨5, .data⟩, ⟨4, .guard⟩], some (4, false)⟩ ?_
           refine wpT 7 ⟨some 40, .load 50 (.tmp 39), 50, "ref.go:104", #[⟨6, .data⟩, ⟨4, .guard⟩], some (4, false)⟩ ?_
           refine wpT 8 ⟨some 41, .call ⟨.builtin .len, #[.tmp 40], #[50]⟩, 3, "ref.go:104", #[⟨7, .data⟩, ⟨4, .guard⟩], some (4, false)⟩ ?_
           refine wpT 9 ⟨some 42, .binOp .eql 3 (.tmp 41) (.const (.int .i64 0)) 3, 4, "ref.go:104", #[⟨8, .data⟩, ⟨4, .guard⟩], some (4, false)⟩ ?_
           refine wpT 10 ⟨some 43, .pick (.tmp 37) (.const (.bool true)) (.tmp 42), 4, "ref.go:104", #[⟨4, .data⟩, ⟨9, .data⟩], none⟩ ?_
           refine wpT 11 ⟨some 44, .move (.tmp 43), 4, "ref.go:104", #[⟨10, .data⟩, ⟨4, .chain⟩], none⟩ ?_
           refine wpT 12 ⟨some 45, .move (.tmp 5), 3, "ref.go:104", #[⟨11, .guard⟩], some (11, false)⟩ ?_
           refine wpT 13 ⟨some 46, .binOp .gtr 3 (.tmp 45) (.const (.int .i64 0)) 3, 4, "ref.go:104", #[⟨12, .data⟩, ⟨11, .guard⟩], some (11, false)⟩ ?_
           refine wpT 14 ⟨some 47, .move (.tmp 46), 4, "ref.go:104", #[⟨13, .data⟩, ⟨11, .chain⟩, ⟨11, .guard⟩], some (11, false)⟩ ?_
           refine wpU 15 ⟨some 48, .move (.tmp 4), 24, "ref.go:104", #[⟨14, .guard⟩], some (14, true)⟩ ?_
           refine wpU 16 ⟨some 49, .move (.tmp 5), 3, "ref.go:104", #[⟨14, .guard⟩], some (14, true)⟩ ?_
           refine wpU 17 ⟨some 50, .binOp .sub 3 (.tmp 49) (.const (.int .i64 1)) 3, 3, "ref.go:104", #[⟨16, .data⟩, ⟨14, .guard⟩], some (14, true)⟩ ?_
           refine wpU 18 ⟨some 51, .indexAddr 24 (.tmp 48) (.tmp 50), 0, "ref.go:104", #[⟨15, .data⟩, ⟨17, .data⟩, ⟨14, .guard⟩], some (14, true)⟩ ?_
           refine wpU 19 ⟨some 52, .fieldAddr 68 (.tmp 51) 0, 0, "ref.go:104", #[⟨18, .data⟩, ⟨14, .guard⟩], some (14, true)⟩ ?_
           refine wpU 20 ⟨some 53, .load 9 (.tmp 52), 9, "ref.go:104", #[⟨19, .data⟩, ⟨14, .guard⟩], some (14, true)⟩ ?_
           refine wpU 21 ⟨some 54, .fieldAddr 68 (.tmp 6) 0, 0, "ref.go:104", #[⟨14, .guard⟩], some (14, true)⟩ ?_
           refine wpU 22 ⟨some 55, .load 9 (.tmp 54), 9, "ref.go:104", #[⟨21, .data⟩, ⟨14, .guard⟩], some (14, true)⟩ ?_
           refine wpU 23 ⟨some 56, .binOp .geq 9 (.tmp 53) (.tmp 55) 9, 4, "ref.go:104", #[⟨20, .data⟩, ⟨22, .data⟩, ⟨14, .guard⟩], some (14, true)⟩ ?_
           refine wpT 24 ⟨some 57, .pick (.tmp 47) (.tmp 56) (.const (.bool false)), 4, "ref.go:104", #[⟨14, .data⟩, ⟨23, .data⟩, ⟨11, .guard⟩], some (11, false)⟩ ?_
           refine wpT 25 ⟨some 58, .pick (.tmp 44) (.const (.bool true)) (.tmp 57), 4, "ref.go:104", #[⟨11, .data⟩, ⟨24, .data⟩], none⟩ ?_
           refine wpAnyH_done (by kernel_rfl) ?_ _
           refine NoPanic.normal ?_
           go_wp2_with (at_builtin; refine growN_append (W := w) (.tmp 61) (.tmp 63) rfl _ _ xs [⟨s, R⟩] rfl rfl rfl (GAD.moves0 ((Moves.refl [] _).alloc _)) (nams_new wA.drew _ _ ⟨s, R⟩ ⟨_, rfl, CAD⟩) (Nat.le_trans MAD.size ((Moves.refl [] _).alloc _).size) hbd ?_; intro v8 w8 hG8 m8 s8 l8; have hsl := hG8.open; obtain ⟨ad8, n8, cap8, rfl, _, _⟩ := hsl)
           have F := rt_fin MAD GAD RDD ((Moves.refl [] wA.drew).alloc _) m8 hq hg
           go_roundw
           case rel => exact ⟨0 + 1, false, b4, xs ++ [⟨s, R⟩], _, by omega, ⟨rfl, by go_num⟩, F.1, F.2, hG8, (by rw [List.length_append, List.length_singleton, HLX.out]), .inl ⟨rfl, HIT2.out⟩⟩
           case measure => simp [intOf]; omega
          | some y =>
           have hpos : 0 < xs.length := List.length_pos_iff.2 (fun e => by rw [e] at hgl; simp at hgl)
           have hgl2 := hgl
           rw [List.getLast?_eq_getElem?] at hgl2
           obtain ⟨k, hk⟩ : ∃ k, xs.length - 1 = k := ⟨_, rfl⟩
           rw [hk] at hgl2
           obtain ⟨g4, off4, a3, n3, c3, hg4, y0, _, _, _⟩ := GAD.at.at hgl2
           subst hg4
           have y1 : wA.cell? ⟨g4, off4 + k * 2, none⟩ = some (.string y.name) := y0
           have hik : i = k + 1 := by have := HLX.out; omega
           have hi0 : (0 : Int) < i := by omega
           have hi0n : 0 < i := by omega
           have hi0b : decide (0 < i) = true := by simp; omega
           have hkI : (k : Int) < n4 := by have := hn4.out; have := HLX.out; omega
           have hsub : IntKind.i64.wrap ((i : Int) - 1) = (k : Int) := by rw [IntKind.wrap_i64]; omega
           obtain ⟨lt, hlt2⟩ : ∃ lt, Op.bytesLess y.name.toList s.toList = lt := ⟨_, rfl⟩
           have HNX : Hid (nextOk xs ⟨s, R⟩ = lt) := by show nextOk xs ⟨s, R⟩ = lt; unfold nextOk; rw [hgl, ← hlt2]; simp [hpn, hRn]; rfl
           clear hpn hgl hgl2 hpos hk hik y0 hRn hz
           refine wp_region_noPanic ?_
           refine wp_region_held_drew (S := (fun w' => w'.cell? ⟨pb, 0, none⟩ = some (.string s) ∧ w'.cell? ⟨pb, 1, none⟩ = some (.slice a5 n5 c5) ∧ w'.cell? ⟨g4, off4 + k * 2, none⟩ = some (.string y.name))) (by kernel_rfl) ?_ (fun hHeld => ?_)
           ·first | (go_keep; done) | exact ⟨e0, e1, y1⟩
           refine wpT 0 ⟨some 33, .fieldAddr 68 (.tmp 6) 0, 0, "ref.go:104", #[], none⟩ ?_
           refine wpT 1 ⟨some 34, .load 9 (.tmp 33), 9, "ref.go:104", #[⟨0, .data⟩], none⟩ ?_
           refine wpR 2 ⟨some 35, .call ⟨.value (.func 57), #[.tmp 34], #[9]⟩, 4, "ref.go:104", #[⟨1, .data⟩], none⟩ (fun K hK => ?_)
           go_simp
           (go_at_call 57; refine (hnm _).mono ?_; rintro _ _ ⟨rfl, rfl⟩)
           refine hK.out _ _ ?_ (fun hHeld => ?_)
           ·exact ⟨e0, e1, y1⟩
           clear hK K
           try simp only [Act.put, sp1, sp2, sp3]
           refine wpT 3 ⟨some 36, .unOp .not 4 (.tmp 35), 4, "ref.go:104", #[⟨2, .data⟩], none⟩ ?_
           refine wpT 4 ⟨some 37, .move (.tmp 36), 4, "ref.go:104", #[⟨3, .data⟩, ⟨2, .chain⟩], none⟩ ?_
           refine wpT 5 ⟨some 38, .fieldAddr 68 (.tmp 6) 1, 0, "ref.go:104", #[⟨4, .guard⟩], some (4, false)⟩ ?_
           refine wpT 6 ⟨some 39, .fieldAddr 52 (.tmp 38) 0, 0, "ref.go:104", #[⟨5, .data⟩, ⟨4, .guard⟩], some (4, false)⟩ ?_
           refine wpT 7 ⟨some 40, .load 50 (.tmp 39), 50, "ref.go:104", #[⟨6, .data⟩, ⟨4, .guard⟩], some (4, false)⟩ ?_
           refine wpT 8 ⟨some 41, .call ⟨.builtin .len, #[.tmp 40], #[50]⟩, 3, "ref.go:104", #[⟨7, .data⟩, ⟨4, .guard⟩], some (4, false)⟩ ?_
           refine wpT 9 ⟨some 42, .binOp .eql 3 (.tmp 41) (.const (.int .i64 0)) 3, 4, "ref.go:104", #[⟨8, .data⟩, ⟨4, .guard⟩], some (4, false)⟩ ?_
           refine wpT 10 ⟨some 43, .pick (.tmp 37) (.const (.bool true)) (.tmp 42), 4, "ref.go:104", #[⟨4, .data⟩, ⟨9, .data⟩], none⟩ ?_
           refine wpT 11 ⟨some 44, .move (.tmp 43), 4, "ref.go:104", #[⟨10, .data⟩, ⟨4, .chain⟩], none⟩ ?_
           refine wpT 12 ⟨some 45, .move (.tmp 5), 3, "ref.go:104", #[⟨11, .guard⟩], some (11, false)⟩ ?_
           refine wpT 13 ⟨some 46, .binOp .gtr 3 (.tmp 45) (.const (.int .i64 0)) 3, 4, "ref.go:104", #[⟨12, .data⟩, ⟨11, .guard⟩], some (11, false)⟩ ?_
           refine wpT 14 ⟨some 47, .move (.tmp 46), 4, "ref.go:104", #[⟨13, .data⟩, ⟨11, .chain⟩, ⟨11, .guard⟩], some (11, false)⟩ ?_
           refine wpT 15 ⟨some 48, .move (.tmp 4), 24, "ref.go:104", #[⟨14, .guard⟩], some (14, true)⟩ ?_
           refine wpT 16 ⟨some 49, .move (.tmp 5), 3, "ref.go:104", #[⟨14, .guard⟩], some (14, true)⟩ ?_
           refine wpT 17 ⟨some 50, .binOp .sub 3 (.tmp 49) (.const (.int .i64 1)) 3, 3, "ref.go:104", #[⟨16, .data⟩, ⟨14, .guard⟩], some (14, true)⟩ ?_
           refine wpT 18 ⟨some 51, .indexAddr 24 (.tmp 48) (.tmp 50), 0, "ref.go:104", #[⟨15, .data⟩, ⟨17, .data⟩, ⟨14, .guard⟩], some (14, true)⟩ ?_
           refine wpT 19 ⟨some 52, .fieldAddr 68 (.tmp 51) 0, 0, "ref.go:104", #[⟨18, .data⟩, ⟨14, .guard⟩], some (14, true)⟩ ?_
           refine wpT 20 ⟨some 53, .load 9 (.tmp 52), 9, "ref.go:104", #[⟨19, .data⟩, ⟨14, .guard⟩], some (14, true)⟩ ?_
           refine wpT 21 ⟨some 54, .fieldAddr 68 (.tmp 6) 0, 0, "ref.go:104", #[⟨14, .guard⟩], some (14, true)⟩ ?_
           refine wpT 22 ⟨some 55, .load 9 (.tmp 54), 9, "ref.go:104", #[⟨21, .data⟩, ⟨14, .guard⟩], some (14, true)⟩ ?_
           refine wpT 23 ⟨some 56, .binOp .geq 9 (.tmp 53) (.tmp 55) 9, 4, "ref.go:104", #[⟨20, .data⟩, ⟨22, .data⟩, ⟨14, .guard⟩], some (14, true)⟩ ?_
           refine wpT 24 ⟨some 57, .pick (.tmp 47) (.tmp 56) (.const (.bool false)), 4, "ref.go:104", #[⟨14, .data⟩, ⟨23, .data⟩, ⟨11, .guard⟩], some (11, false)⟩ ?_
           refine wpT 25 ⟨some 58, .pick (.tmp 44) (.const (.bool true)) (.tmp 57), 4, "ref.go:104", #[⟨11, .data⟩, ⟨24, .data⟩], none⟩ ?_
           refine wpAnyH_done (by kernel_rfl) ?_ _
           refine NoPanic.normal ?_
           cases lt with
           | false =>
            have HNO : Hid (dTab bs = none) := HNO2.out HNX.out
            have M5 := MAD
            go_wp2_with (first | (go_at_call 84; refine (rfFail_w _ g _ _ _ RDD).mono ?_; rintro _ w5 ⟨rfl, hr5, m5⟩; have GA5 := GAD.movesQ m5 hq RDD.block.choose_spec; have BX5 := m5.at BXD (by simp; omega); have CA5 := CAD.movesQ m5 RDD.block.choose_spec; obtain ⟨j0, j1⟩ := pair_cells BX5) | (at_builtin; refine growN_append (W := w) (.tmp 61) (.tmp 63) rfl _ _ xs [⟨s, R⟩] rfl rfl rfl (GA5.moves0 ((Moves.refl [] _).alloc _)) (nams_new w5 _ _ ⟨s, R⟩ ⟨_, rfl, CA5⟩) (Nat.le_trans (MAD.then m5).size ((Moves.refl [] _).alloc _).size) hbd ?_; intro v8 w8 hG8 m8 s8 l8; have hsl := hG8.open; obtain ⟨ad8, n8, cap8, rfl, _, _⟩ := hsl))
            have F := rt_fin (MAD.then m5) GA5 hr5 ((Moves.refl [] w5).alloc _) m8 hq hg
            go_roundw
            case rel => exact ⟨i + 1, true, [], xs ++ [⟨s, R⟩], _, by omega, ⟨rfl, by go_num⟩, F.1, F.2, hG8, (by rw [List.length_append, List.length_singleton, HLX.out]), .inr ⟨rfl, rfl, HNO.out⟩⟩
            case measure => simp [intOf]; omega
           | true =>
            have HIT2 : Hid (dTabs (i + 1) b1 = some (xs ++ [⟨s, R⟩], b4)) := HOK2.out HNX.out
            go_wp2_with (at_builtin; refine growN_append (W := w) (.tmp 61) (.tmp 63) rfl _ _ xs [⟨s, R⟩] rfl rfl rfl (GAD.moves0 ((Moves.refl [] _).alloc _)) (nams_new wA.drew _ _ ⟨s, R⟩ ⟨_, rfl, CAD⟩) (Nat.le_trans MAD.size ((Moves.refl [] _).alloc _).size) hbd ?_; intro v8 w8 hG8 m8 s8 l8; have hsl := hG8.open; obtain ⟨ad8, n8, cap8, rfl, _, _⟩ := hsl)
            have F := rt_fin MAD GAD RDD ((Moves.refl [] wA.drew).alloc _) m8 hq hg
            go_roundw
            case rel => exact ⟨i + 1, false, b4, xs ++ [⟨s, R⟩], _, by omega, ⟨rfl, by go_num⟩, F.1, F.2, hG8, (by rw [List.length_append, List.length_singleton, HLX.out]), .inl ⟨rfl, HIT2.out⟩⟩
            case measure => simp [intOf]; omega
     ·have hi3 : ¬ (i : Int) < cnt := by omega
      obtain rfl : i = cnt := by omega
      have HY : Hid (dTab bs = some (xs, b)) := by unfold Hid; rw [HTAB.out, HIT.out]
      go_wp2_with fail
      go_ret
      exact .inl ⟨xs, b, _, _, _, HY.out, rfl, hG4.at, hr4, M4⟩
    ·by_cases hlt : i < cnt
     ·have hi3 : (i : Int) < cnt := by omega
      go_wp2_with fail
      go_ret
      exact .inr ⟨hno, rfl, hr4, M4⟩
     ·have hi3 : ¬ (i : Int) < cnt := by omega
      go_wp2_with fail
      go_ret
      exact .inr ⟨hno, rfl, hr4, M4⟩
  ·have hgt : (32 : Int) < cnt := by omega
   have hpos : (0 : Int) < cnt := by omega
   have HNO : Hid (dTab bs = none) := dTab_no (by omega)
   clear hcnt hv
   go_enter Tryz.func46, Tryz.ntmps46
   go_wp2_with (first | (go_at_call 83; refine hnum.mono ?_; rintro _ w3 ⟨rfl, hr3, m3⟩) | (go_at_call 84; refine (rfFail_w _ g _ _ _ hr3).mono ?_; rintro _ w4 ⟨rfl, hr4, m4⟩))
   go_loopw [4, 5] (fun vo vi wr => (vo = .slice none 0 0 ∧ vi = .int .i64 0) ∧ Moves [q] w wr ∧ RfIs wr q g [] true) (fun _ _ _ => 0)
   case atStart => exact ⟨⟨rfl, rfl⟩, m3.then m4, hr4⟩
   case round =>
    obtain ⟨⟨rfl, rfl⟩, M4, hr5⟩ := hrel
    have hfl := hr5.flag
    go_wp2_with fail
    go_ret
    exact .inr ⟨HNO.out, rfl, hr5, M4⟩
 ·have HNO : Hid (dTab bs = none) := dTab_no (by omega)
  have hnum := rfNum_fail_w q g bs false w h (.inr (by omega))
  have hv0 : (val [0, 0, 0, 0] : Int) = 0 := by decide
  rw [hv0] at hnum
  go_enter Tryz.func46, Tryz.ntmps46
  go_wp2_with (go_at_call 83; refine hnum.mono ?_; rintro _ w3 ⟨rfl, hr3, m3⟩)
  go_loopw [4, 5] (fun vo vi wr => (vo = .slice none 0 0 ∧ vi = .int .i64 0) ∧ Moves [q] w wr ∧ RfIs wr q g [] true) (fun _ _ _ => 0)
  case atStart => exact ⟨⟨rfl, rfl⟩, m3, hr3⟩
  case round =>
   obtain ⟨⟨rfl, rfl⟩, M4, hr5⟩ := hrel
   have hfl := hr5.flag
   go_wp2_with fail
   go_ret
   exact .inr ⟨HNO.out, rfl, hr5, M4⟩
end Go.Proofs.YtcngllcifcpbkaaGreat
