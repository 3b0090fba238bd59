/-
  CmdBack's walk.
-/
import Derived.Test.YtcamhlnkcoicpaaGreatCMa8
import Derived.Test.YtcamhlnkcoicpaaGreatCPb8
import Derived.Test.YtcamhlnkcoicpaaGreatCEn8
import Derived.Test.YtcamhlnkcoicpaaGreatCDc8
import Derived.Test.YtcamhlnkcoicpaaGreatCB39
namespace Go.Proofs.YtcamhlnkcoicpaaGreat
open Go.RowKit

theorem stopLD {ops : Array Oper} {rest : List Oper} {op : Oper} {a : Act} {w : World} {Q : Exit → Act → World → Prop} (x : Operand) (_ : op.op = .load 51 x) (h : Hid (wpList Tryz.prog ops Q (op :: rest) a w)) : wpList Tryz.prog ops Q (op :: rest) a w := h.out
theorem Tryz.sizeDr : (Tryz.prog.info? 51).map (·.size) = some 19 := by kernel_rfl
set_option maxRecDepth 100000 in
set_option maxHeartbeats 16000000 in
theorem cmdBack_w (w : World) (xk xa xb xt xg xo : Int) (ki ro hi mo co : Int) (has want t : Bool) (n : Int) (x : Nat) (a0 : Option Addr) (len cap : Nat) (lv : Value) (sad : Option Addr) (sn scap gs : Nat) (bs : List Nat) (cl sq : Int) (bv : Value) (gb : Nat) (bbs : List Nat) (cut : Int)
    (hKA : KArg w (.agg #[.bool t, .int .i64 n, .float .f64 x, .slice a0 len cap])) (hLA : ChArgs w lv) (hS : IsB w gs (.slice sad sn scap) bs) (hz : ∀ z ∈ bs, z < 256) (hB : IsB w gb bv bbs) (hbo : ∀ z ∈ bbs, z < 256) :
    Calls Tryz.prog 4 #[.agg #[.int .i64 xk, .int .i64 xa, .int .i64 xb, .int .i64 xt, .int .i64 xg, .int .i64 xo, .int .i64 ki, .int .i64 ro, .int .i64 hi, .int .i64 mo, .int .i64 co, .bool has, .bool want, .bool t, .int .i64 n, .float .f64 x, .slice a0 len cap, lv, .slice sad sn scap], .int .i64 cl, .int .i64 sq, bv, .int .i64 cut] w fun e w' => e = .returned (.bool true) ∧ Moves [] w w' := by
  have b1 := heap_alloc_new w (.cells #[.int .i64 xk, .int .i64 xa, .int .i64 xb, .int .i64 xt, .int .i64 xg, .int .i64 xo, .int .i64 ki, .int .i64 ro, .int .i64 hi, .int .i64 mo, .int .i64 co, .bool has, .bool want, .bool t, .int .i64 n, .float .f64 x, .slice a0 len cap, lv, .slice sad sn scap] 51)
  obtain ⟨w1, hw1⟩ : ∃ w1, w.alloc (.cells #[.int .i64 xk, .int .i64 xa, .int .i64 xb, .int .i64 xt, .int .i64 xg, .int .i64 xo, .int .i64 ki, .int .i64 ro, .int .i64 hi, .int .i64 mo, .int .i64 co, .bool has, .bool want, .bool t, .int .i64 n, .float .f64 x, .slice a0 len cap, lv, .slice sad sn scap] 51) = w1 := ⟨_, rfl⟩
  have m1 : Moves [] w w1 := by rw [← hw1]; exact (Moves.refl _ _).alloc _
  rw [hw1] at b1
  have hpos : 0 < w1.heap.size := Nat.lt_of_le_of_lt (Nat.zero_le _) (lt_of_block b1)
  have hmk := made8_w w w1 xk xa xb xt xg xo ki ro hi mo co has want t n x a0 len cap lv sad sn scap gs bs hKA hLA hS hz m1
  obtain ⟨bad, bn, bcap, rfl, -⟩ := id hB
  have HBB : Hid (IsB w gb (.slice bad bn bcap) bbs) := hB
  have HBO : Hid (∀ z ∈ bbs, z < 256) := hbo
  have HB1 : Hid _ := b1
  have HM1 : Hid (Moves [] w w1) := m1
  have HP1 : Hid (0 < w1.heap.size) := hpos
  clear b1 m1 hpos hKA hLA hS hz hB hbo
  go_enter Tryz.func4, Tryz.ntmps4
  go_wp2_with (with_reducible refine stopLD _ rfl ?_)
  unfold Hid
  try rw [hw1]
  refine wpList_load_row rfl 51 _ rfl w.heap.size rfl _ _ _ _ HB1.out Tryz.underlying51 rfl Tryz.sizeDr ?_
  go_wp2_with fail
  refine hmk.mono ?_
  rintro _ w2 ⟨cs, C, rfl, hC, hl, m2⟩
  obtain ⟨ca1, cn1, cc1, la1, ln1, lc1, sa1, sn1, sc1, gs1, hcs, -⟩ := id hC
  obtain rfl := Array.toList_inj.1 (show cs.toList = (#[.int .i64 C.kind, .int .i64 C.op.kind, .string C.op.row, .string C.op.hi, .bool C.op.cd.has, .bool C.op.cd.want, .string C.op.cd.col, .int .i64 C.op.cd.v.kind, .slice ca1 cn1 cc1, .float .f64 C.op.cd.v.n, .slice la1 ln1 lc1, .int .i64 C.op.most, .string C.lo, .string C.hi, .int .i64 C.gen, .string C.at', .int .i64 C.to, .int .i64 C.act, .slice sa1 sn1 sc1] : Array Value).toList from hcs)
  have HC : Hid (CmdC w2 (#[.int .i64 C.kind, .int .i64 C.op.kind, .string C.op.row, .string C.op.hi, .bool C.op.cd.has, .bool C.op.cd.want, .string C.op.cd.col, .int .i64 C.op.cd.v.kind, .slice ca1 cn1 cc1, .float .f64 C.op.cd.v.n, .slice la1 ln1 lc1, .int .i64 C.op.most, .string C.lo, .string C.hi, .int .i64 C.gen, .string C.at', .int .i64 C.to, .int .i64 C.act, .slice sa1 sn1 sc1] : Array Value).toList C) := hC
  have HLL : Hid (C.op.l.length ≤ 1000) := hl
  have HM2 : Hid (Moves [] w w2) := HM1.out.then m2
  have HP2 : Hid (0 < w2.heap.size) := Nat.lt_of_lt_of_le HP1.out m2.size
  have z2 := heap_alloc_new w2 (.cells #[.int .i64 0, .int .i64 0, .string ⟨#[]⟩, .string ⟨#[]⟩, .bool false, .bool false, .string ⟨#[]⟩, .int .i64 0, .slice none 0 0, .float .f64 0, .slice none 0 0, .int .i64 0, .string ⟨#[]⟩, .string ⟨#[]⟩, .int .i64 0, .string ⟨#[]⟩, .int .i64 0, .int .i64 0, .slice none 0 0] 36)
  have mz : Moves [] w2 (w2.alloc (.cells #[.int .i64 0, .int .i64 0, .string ⟨#[]⟩, .string ⟨#[]⟩, .bool false, .bool false, .string ⟨#[]⟩, .int .i64 0, .slice none 0 0, .float .f64 0, .slice none 0 0, .int .i64 0, .string ⟨#[]⟩, .string ⟨#[]⟩, .int .i64 0, .string ⟨#[]⟩, .int .i64 0, .int .i64 0, .slice none 0 0] 36)) := (Moves.refl _ _).alloc _
  clear hcs hmk hC hl m2
  go_wp2_with (with_reducible refine stopStore _ _ rfl ?_)
  unfold Hid
  refine wpList_storeCmd rfl _ _ rfl w2.heap.size #[.int .i64 C.kind, .int .i64 C.op.kind, .string C.op.row, .string C.op.hi, .bool C.op.cd.has, .bool C.op.cd.want, .string C.op.cd.col, .int .i64 C.op.cd.v.kind, .slice ca1 cn1 cc1, .float .f64 C.op.cd.v.n, .slice la1 ln1 lc1, .int .i64 C.op.most, .string C.lo, .string C.hi, .int .i64 C.gen, .string C.at', .int .i64 C.to, .int .i64 C.act, .slice sa1 sn1 sc1] rfl rfl z2 rfl rfl (by simp [Value.oneCell']) ?_
  intro w3 h3 m3
  have HM3 : Hid (Moves [] w2 w3) := mz.trans m3 (fun x hx => .inr (by simp at hx; omega))
  have HPOS : Hid (0 < w3.heap.size) := Nat.lt_of_lt_of_le HP2.out HM3.out.size
  obtain ⟨B1, hB1⟩ : ∃ B1, w2.heap.size = B1 := ⟨_, rfl⟩
  rw [hB1] at h3 ⊢
  have H3 : Hid _ := h3
  have hrt := cright_w w2 w3 _ C HC.out HM3.out
  clear z2 mz m3 h3 hB1
  go_wp2_with (with_reducible refine stopLoad _ rfl ?_)
  unfold Hid
  refine wpList_loadCmd rfl _ rfl B1 rfl _ H3.out rfl ?_
  go_wp2_with fail
  refine hrt.mono ?_
  rintro _ w4 ⟨rfl, m4⟩
  have HM4 : Hid (Moves [] w3 w4) := m4
  have H4 : Hid _ := m4.at H3.out (by simp)
  clear hrt m4
  cases hR : rCmd C with
  | true =>
    have hen := cencM_w w2 w4 _ C HC.out (HM3.out.then HM4.out) HP2.out
    rw [hR, if_pos rfl, if_pos rfl] at hen
    obtain ⟨hfit, hoct⟩ := cmdc_fit HC.out
    have HEO1 : Hid (∀ z ∈ encCmd C, z < 256) := encCmd_oct hR hoct
    have HRM : Hid (RelM C (canM C)) := relM_can C hR
    have HDW : Hid (dWholeM (encCmd C) = some (canM C)) := dWholeM_enc hR hfit
    clear hfit hoct hR
    go_wp2_with (with_reducible refine stopLoad _ rfl ?_)
    unfold Hid
    refine wpList_loadCmd rfl _ rfl B1 rfl _ H4.out rfl ?_
    go_wp2_with fail
    refine hen.mono ?_
    rintro _ w5 ⟨ve, rfl, hO, m5⟩
    have hde := cdecM_w (encCmd C).length ve _ (encCmd C) w5 hO.isB ⟨Nat.le_refl _, HEO1.out⟩ (Nat.lt_of_lt_of_le HP2.out ((HM3.out.then HM4.out).then m5).size)
    rw [HDW.out] at hde
    have HM5 : Hid (Moves [] w4 w5) := m5
    have H5 : Hid _ := m5.at H4.out (by simp)
    obtain ⟨vad, vn, vcap, rfl, -⟩ := hO.isB
    clear hen hO m5
    go_wp2_with fail
    refine hde.mono ?_
    rintro _ w6 ⟨ds, rfl, hD, m6⟩
    have hD2 := hD.cmd
    obtain ⟨ca2, cn2, cc2, la2, ln2, lc2, sa2, sn2, sc2, gs2, hds, -⟩ := id hD2
    subst hds
    have HD : Hid (CmdC w6 (#[.int .i64 (canM C).kind, .int .i64 (canM C).op.kind, .string (canM C).op.row, .string (canM C).op.hi, .bool (canM C).op.cd.has, .bool (canM C).op.cd.want, .string (canM C).op.cd.col, .int .i64 (canM C).op.cd.v.kind, .slice ca2 cn2 cc2, .float .f64 (canM C).op.cd.v.n, .slice la2 ln2 lc2, .int .i64 (canM C).op.most, .string (canM C).lo, .string (canM C).hi, .int .i64 (canM C).gen, .string (canM C).at', .int .i64 (canM C).to, .int .i64 (canM C).act, .slice sa2 sn2 sc2] : Array Value).toList (canM C)) := hD2
    have HM6 : Hid (Moves [] w5 w6) := m6
    have H6 : Hid _ := m6.at H5.out (by simp)
    have z6 := heap_alloc_new w6 (.cells #[.int .i64 0, .int .i64 0, .string ⟨#[]⟩, .string ⟨#[]⟩, .bool false, .bool false, .string ⟨#[]⟩, .int .i64 0, .slice none 0 0, .float .f64 0, .slice none 0 0, .int .i64 0, .string ⟨#[]⟩, .string ⟨#[]⟩, .int .i64 0, .string ⟨#[]⟩, .int .i64 0, .int .i64 0, .slice none 0 0] 36)
    have mz6 : Moves [] w6 (w6.alloc (.cells #[.int .i64 0, .int .i64 0, .string ⟨#[]⟩, .string ⟨#[]⟩, .bool false, .bool false, .string ⟨#[]⟩, .int .i64 0, .slice none 0 0, .float .f64 0, .slice none 0 0, .int .i64 0, .string ⟨#[]⟩, .string ⟨#[]⟩, .int .i64 0, .string ⟨#[]⟩, .int .i64 0, .int .i64 0, .slice none 0 0] 36)) := (Moves.refl _ _).alloc _
    clear hde hD hD2 m6
    go_wp2_with (with_reducible refine stopStore _ _ rfl ?_)
    unfold Hid
    refine wpList_storeCmd rfl _ _ rfl w6.heap.size #[.int .i64 (canM C).kind, .int .i64 (canM C).op.kind, .string (canM C).op.row, .string (canM C).op.hi, .bool (canM C).op.cd.has, .bool (canM C).op.cd.want, .string (canM C).op.cd.col, .int .i64 (canM C).op.cd.v.kind, .slice ca2 cn2 cc2, .float .f64 (canM C).op.cd.v.n, .slice la2 ln2 lc2, .int .i64 (canM C).op.most, .string (canM C).lo, .string (canM C).hi, .int .i64 (canM C).gen, .string (canM C).at', .int .i64 (canM C).to, .int .i64 (canM C).act, .slice sa2 sn2 sc2] rfl rfl z6 rfl rfl (by simp [Value.oneCell']) ?_
    intro w7 h7 m7
    have HM7 : Hid (Moves [] w6 w7) := mz6.trans m7 (fun x hx => .inr (by simp at hx; omega))
    obtain ⟨B2, hB2⟩ : ∃ B2, w6.heap.size = B2 := ⟨_, rfl⟩
    rw [hB2] at h7 ⊢
    have H7 : Hid _ := h7
    have H71 : Hid _ := HM7.out.at H6.out (by simp)
    have M37 : Hid (Moves [] w3 w7) := (HM4.out.then HM5.out).then (HM6.out.then HM7.out)
    have hsm := rsameM_w w7 w7 _ _ C (canM C) (HC.out.moves (HM3.out.then M37.out)) (HD.out.moves HM7.out) (Moves.refl _ _) HLL.out HRM.out
    clear z6 mz6 m7 h7 hB2
    go_wp2_with (with_reducible refine stopLoad _ rfl ?_)
    unfold Hid
    refine wpList_wanted (by rfl) ?_
    refine wpList_loadCmd rfl _ rfl B1 rfl _ H71.out rfl ?_
    go_wp2_with (with_reducible refine stopLoad _ rfl ?_)
    unfold Hid
    refine wpList_wanted (by rfl) ?_
    refine wpList_loadCmd rfl _ rfl B2 rfl _ H7.out rfl ?_
    go_wp2_with fail
    refine hsm.mono ?_
    rintro _ w8 ⟨rfl, m8⟩
    have M38 : Hid (Moves [] w3 w8) := M37.out.then m8
    have HPOS8 : Hid _ := HPOS.out
    clear hsm m8
    go_wp2_with fail
    refine (withinM_w cl 0 255 (by omega) (by omega) (by omega) _).mono ?_
    rintro _ _ ⟨r1, hr1, rfl, rfl⟩
    obtain ⟨k, rfl⟩ : ∃ t : Nat, r1 = (t : Int) := ⟨r1.toNat, by omega⟩
    go_wp2_with fail
    refine (withinM_w sq 0 1073741824 (by omega) (by omega) (by omega) _).mono ?_
    rintro _ _ ⟨r2, hr2, rfl, rfl⟩
    obtain ⟨s, rfl⟩ : ∃ t : Nat, r2 = (t : Int) := ⟨r2.toNat, by omega⟩
    have hk : k ≤ 255 := by omega
    have hs : s < 4294967296 := by omega
    clear hr1 hr2
    go_wp2_with fail
    refine (cut_w _ gb bbs 60 _ rfl _ (HBB.out.moves ((HM2.out.then HM3.out).then M38.out) (by simp))).mono ?_
    rintro _ _ ⟨vc, rfl, hvc, rfl⟩
    have HO60 : Hid (∀ z ∈ bbs.take 60, z < 256) := fun z hz => HBO.out z (List.mem_of_mem_take hz)
    have HL60 : Hid ((bbs.take 60).length ≤ 1048576) := by unfold Hid; rw [List.length_take]; omega
    have HVC0 : Hid (IsB w8 gb vc (bbs.take 60)) := hvc
    have hpw : 0 < (w8).heap.size := Nat.lt_of_lt_of_le HPOS.out M38.out.size
    have hwr := wrap_w w8 w8 k s vc gb (bbs.take 60) hvc (Moves.refl _ _) hk hs HL60.out hpw
    obtain ⟨cad, cn, ccap, rfl, -⟩ := id hvc
    clear hvc
    go_wp2_with fail
    refine hwr.mono ?_
    rintro _ wx ⟨v18, rfl, hO, mx⟩
    have HEO : Hid (∀ z ∈ encW k s (bbs.take 60), z < 256) := encW_oct hk HO60.out
    have hun := unwrap_w (encW k s (bbs.take 60)).length v18 _ (encW k s (bbs.take 60)) wx hO.isB ⟨Nat.le_refl _, HEO.out⟩ (Nat.lt_of_lt_of_le hpw mx.size)
    rw [dWrapW_enc hs HL60.out] at hun
    have HBX : Hid (IsB wx _ v18 (encW k s (bbs.take 60))) := hO.isB
    obtain ⟨adE, L, capE, rfl, hLE, hcE, hnE, -⟩ := hO.isB
    have HLE : Hid ((encW k s (bbs.take 60)).length = L) := hLE
    have hL0 : 1 ≤ L ∧ L ≤ 1000000 := by have := encW_len k s (bbs.take 60); rw [List.length_take] at this; omega
    have HMX : Hid (Moves [] w8 wx) := mx
    clear hwr hO mx hLE
    go_wp2_with fail
    refine hun.mono ?_
    rintro _ wy ⟨vz, rfl, hOz, my⟩
    have HMY : Hid (Moves [] wx wy) := my
    have cz := run_str hOz.isB HO60.out
    have cb := run_str ((HVC0.out.moves HMX.out (by simp)).moves my (by simp)) HO60.out
    obtain ⟨z60, HZ60⟩ : ∃ z, Hid (strOf (bbs.take 60) = z) := ⟨_, rfl⟩
    rw [HZ60.out] at cz cb
    obtain ⟨zad, zn, zcap, rfl, -⟩ := hOz.isB
    have hLn : ¬ (L : Int) = 0 := by omega
    clear hun hOz my
    go_wp2_with fail
    refine (withinM_w cut 0 ((L : Int) - 1) (by omega) (by omega) (by omega) _).mono ?_
    rintro _ _ ⟨z, hz, rfl, rfl⟩
    obtain ⟨z, rfl⟩ : ∃ t : Nat, z = (t : Int) := ⟨z.toNat, by omega⟩
    have hzL : z < L := by omega
    have hzL' : (z : Int) ≤ (L : Int) := by omega
    have hzc : (z : Int) ≤ (capE : Int) := by omega
    have hBt := isB_take (HBX.out.moves HMY.out (by simp)) z (by omega)
    have hut := unwrap_w (encW k s (bbs.take 60)).length _ _ ((encW k s (bbs.take 60)).take z) wy hBt ⟨by rw [List.length_take]; omega, fun b hb => HEO.out b (List.mem_of_mem_take hb)⟩ (Nat.lt_of_lt_of_le hpw (HMX.out.then HMY.out).size)
    rw [dWrapW_cut hs HL60.out (by rw [HLE.out]; exact hzL)] at hut
    clear hBt cz cb hz
    go_wp2_with fail
    refine hut.mono ?_
    rintro _ wt ⟨rfl, mt⟩
    have HWT : Hid (Moves [] w8 wt) := (HMX.out.then HMY.out).then mt
    have HMT : Hid (Moves [] w wt) := ((HM2.out.then HM3.out).then M38.out).then HWT.out
    have HVC : Hid (IsB wt gb (.slice cad cn ccap) (bbs.take 60)) := HVC0.out.moves HWT.out (by simp)
    have HPT : Hid (0 < wt.heap.size) := Nat.lt_of_lt_of_le hpw HWT.out.size
    obtain ⟨zE, HZE⟩ : ∃ z, Hid (strOf (encW k s (bbs.take 60)) = z) := ⟨_, rfl⟩
    have hcvE : ∀ w', Moves [] wt w' → (convert 23 9 (.slice adE L capE)).run Tryz.prog w' = .ok (.string zE) w' := by
      intro w' m'
      rw [← HZE.out]
      exact run_str (HBX.out.moves (HMY.out.then (mt.then m')) (by simp)) HEO.out
    have mW : Moves [] wt wt.drew := (Moves.refl _ _).drew
    clear hut hpw mt
    go_wp2_with fail
    refine wp_region_noPanic ?_
    refine wp_region_held_drew (S := (fun w' => Moves [] wt w' ∧ (convert 23 9 (.slice adE L capE)).run Tryz.prog w' = .ok (.string zE) w')) (by kernel_rfl) ?_ (fun hHeld => ?_)
    · first | (go_keep; done) | exact ⟨mW, hcvE _ mW⟩
    refine wpAnyH_take (i := 0) (oi := { dst := some 107, op := Op.move (Operand.tmp 26), type := 4, pos := "law.go:204", after := #[], guard := none }) (v := ?_) rfl (by kernel_rfl) (by kernel_rfl) (by kernel_rfl) (fun _ _ _ h => h) (Or.inl ⟨by rfl, ?_⟩) (by assumption) ?_
    rotate_left
    · (intro w hSw; (try dsimp only at hSw); go_simp; try (with_reducible rfl))
    try simp only [Act.put, List.setIfInBounds_toArray, List.set_cons_zero, List.set_cons_succ]
    refine wpAnyH_take (i := 1) (oi := { dst := some 108, op := Op.unOp UnOp.not 4 (Operand.tmp 107), type := 4, pos := "law.go:204", after := #[{ on := 0, ground := Ground.data }], guard := none }) (v := ?_) rfl (by kernel_rfl) (by kernel_rfl) (by kernel_rfl) (fun _ _ _ h => h) (Or.inl ⟨by rfl, ?_⟩) (by assumption) ?_
    rotate_left
    · (intro w hSw; (try dsimp only at hSw); go_simp; try (with_reducible rfl))
    try simp only [Act.put, List.setIfInBounds_toArray, List.set_cons_zero, List.set_cons_succ]
    refine wpAnyH_take (i := 2) (oi := { dst := some 109, op := Op.move (Operand.tmp 108), type := 4, pos := "law.go:204", after := #[{ on := 1, ground := Ground.data }], guard := none }) (v := ?_) rfl (by kernel_rfl) (by kernel_rfl) (by kernel_rfl) (fun _ _ _ h => h) (Or.inl ⟨by rfl, ?_⟩) (by assumption) ?_
    rotate_left
    · (intro w hSw; (try dsimp only at hSw); go_simp; try (with_reducible rfl))
    try simp only [Act.put, List.setIfInBounds_toArray, List.set_cons_zero, List.set_cons_succ]
    refine wpAnyH_take (i := 3) (oi := { dst := some 110, op := Op.move (Operand.tmp 18), type := 23, pos := "law.go:204", after := #[{ on := 2, ground := Ground.guard }], guard := some (2, true) }) (v := ?_) rfl (by kernel_rfl) (by kernel_rfl) (by kernel_rfl) (fun _ _ _ h => h) (Or.inl ⟨by rfl, ?_⟩) (by assumption) ?_
    rotate_left
    · (intro w hSw; (try dsimp only at hSw); go_simp; try (with_reducible rfl))
    try simp only [Act.put, List.setIfInBounds_toArray, List.set_cons_zero, List.set_cons_succ]
    refine wpAnyH_take (i := 4) (oi := { dst := some 111, op := Op.convert 23 9 (Operand.tmp 110), type := 9, pos := "law.go:204", after := #[{ on := 3, ground := Ground.data }, { on := 2, ground := Ground.guard }], guard := some (2, true) }) (v := ?_) rfl (by kernel_rfl) (by kernel_rfl) (by kernel_rfl) (fun _ _ _ h => h) (Or.inl ⟨by rfl, ?_⟩) (by assumption) ?_
    rotate_left
    · (intro w hSw; (try dsimp only at hSw); go_simp; try (with_reducible rfl))
    try simp only [Act.put, List.setIfInBounds_toArray, List.set_cons_zero, List.set_cons_succ]
    refine wpAnyH_take (i := 5) (oi := { dst := some 112, op := Op.move (Operand.tmp 16), type := 3, pos := "law.go:204", after := #[{ on := 2, ground := Ground.guard }], guard := some (2, true) }) (v := ?_) rfl (by kernel_rfl) (by kernel_rfl) (by kernel_rfl) (fun _ _ _ h => h) (Or.inl ⟨by rfl, ?_⟩) (by assumption) ?_
    rotate_left
    · (intro w hSw; (try dsimp only at hSw); go_simp; try (with_reducible rfl))
    try simp only [Act.put, List.setIfInBounds_toArray, List.set_cons_zero, List.set_cons_succ]
    refine wpAnyH_take (i := 6) (oi := { dst := some 113, op := Op.move (Operand.tmp 17), type := 3, pos := "law.go:204", after := #[{ on := 2, ground := Ground.guard }], guard := some (2, true) }) (v := ?_) rfl (by kernel_rfl) (by kernel_rfl) (by kernel_rfl) (fun _ _ _ h => h) (Or.inl ⟨by rfl, ?_⟩) (by assumption) ?_
    rotate_left
    · (intro w hSw; (try dsimp only at hSw); go_simp; try (with_reducible rfl))
    try simp only [Act.put, List.setIfInBounds_toArray, List.set_cons_zero, List.set_cons_succ]
    refine wpAnyH_take (i := 7) (oi := { dst := some 114, op := Op.move (Operand.tmp 3), type := 23, pos := "law.go:204", after := #[{ on := 2, ground := Ground.guard }], guard := some (2, true) }) (v := ?_) rfl (by kernel_rfl) (by kernel_rfl) (by kernel_rfl) (fun _ _ _ h => h) (Or.inl ⟨by rfl, ?_⟩) (by assumption) ?_
    rotate_left
    · (intro w hSw; (try dsimp only at hSw); go_simp; try (with_reducible rfl))
    try simp only [Act.put, List.setIfInBounds_toArray, List.set_cons_zero, List.set_cons_succ]
    refine wpAnyH_ready (rs := [8]) (by kernel_rfl) (by simp) ?_
    refine AllReadyH.cons (o := { dst := some 115, op := Op.call { callee := Callee.value (Operand.func 23), args := #[Operand.tmp 112, Operand.tmp 113, Operand.tmp 114], argTypes := #[3, 3, 23] }, type := 23, pos := "law.go:204", after := #[{ on := 5, ground := Ground.data }, { on := 6, ground := Ground.data }, { on := 7, ground := Ground.data }, { on := 2, ground := Ground.chain }, { on := 2, ground := Ground.guard }], guard := some (2, true) }) rfl (fun K hK => ?_) AllReadyH.nil
    go_simp
    go_at_call 23
    refine (refWrap_w wt _ k s _ gb (bbs.take 60) HVC.out mW hk hs HL60.out).mono ?_
    rintro _ wr ⟨vr, rfl, hOr, mr⟩
    have HOR : Hid (Own wr vr (encW k s (bbs.take 60))) := hOr
    clear hOr
    replace mW := mW.then mr
    refine hK.out _ _ ?_ (fun hHeld => ?_)
    · exact ⟨mW, hcvE _ mW⟩
    clear hK K
    try simp only [Act.put, List.setIfInBounds_toArray, List.set_cons_zero, List.set_cons_succ]
    refine wpAnyH_ready (rs := [9]) (by kernel_rfl) (by simp) ?_
    refine AllReadyH.cons (o := { dst := some 116, op := Op.convert 23 9 (Operand.tmp 115), type := 9, pos := "law.go:204", after := #[{ on := 8, ground := Ground.data }, { on := 2, ground := Ground.guard }], guard := some (2, true) }) rfl (fun K hK => ?_) AllReadyH.nil
    have hcv := run_str HOR.out.isB HEO.out
    rw [HZE.out] at hcv
    go_simp
    refine hK.out _ _ ?_ (fun hHeld => ?_)
    · exact ⟨mW, hcvE _ mW⟩
    clear hK K
    refine wpAnyH_take (i := 10) (oi := { dst := some 117, op := Op.binOp BinOp.eql 9 (Operand.tmp 111) (Operand.tmp 116) 9, type := 4, pos := "law.go:204", after := #[{ on := 4, ground := Ground.data }, { on := 9, ground := Ground.data }, { on := 2, ground := Ground.guard }], guard := some (2, true) }) (v := ?_) rfl (by kernel_rfl) (by kernel_rfl) (by kernel_rfl) (fun _ _ _ h => h) (Or.inl ⟨by rfl, ?_⟩) (by assumption) ?_
    rotate_left
    · (intro w hSw; (try dsimp only at hSw); go_simp; try (with_reducible rfl))
    try simp only [Act.put, List.setIfInBounds_toArray, List.set_cons_zero, List.set_cons_succ]
    refine wpAnyH_take (i := 11) (oi := { dst := some 118, op := Op.pick (Operand.tmp 109) (Operand.tmp 117) (Operand.const (Value.bool false)), type := 4, pos := "law.go:204", after := #[{ on := 2, ground := Ground.data }, { on := 10, ground := Ground.data }], guard := none }) (v := ?_) rfl (by kernel_rfl) (by kernel_rfl) (by kernel_rfl) (fun _ _ _ h => h) (Or.inl ⟨by rfl, ?_⟩) (by assumption) ?_
    rotate_left
    · (intro w hSw; (try dsimp only at hSw); go_simp; try (with_reducible rfl))
    try simp only [Act.put, List.setIfInBounds_toArray, List.set_cons_zero, List.set_cons_succ]
    refine wpAnyH_take (i := 12) (oi := { dst := some 119, op := Op.move (Operand.tmp 118), type := 4, pos := "law.go:204", after := #[{ on := 11, ground := Ground.data }, { on := 8, ground := Ground.chain }], guard := none }) (v := ?_) rfl (by kernel_rfl) (by kernel_rfl) (by kernel_rfl) (fun _ _ _ h => h) (Or.inl ⟨by rfl, ?_⟩) (by assumption) ?_
    rotate_left
    · (intro w hSw; (try dsimp only at hSw); go_simp; try (with_reducible rfl))
    try simp only [Act.put, List.setIfInBounds_toArray, List.set_cons_zero, List.set_cons_succ]
    refine wpAnyH_ready (rs := [13]) (by kernel_rfl) (by simp) ?_
    refine AllReadyH.cons (o := { dst := some 120, op := Op.call { callee := Callee.value (Operand.func 13), args := #[], argTypes := #[] }, type := 4, pos := "law.go:204", after := #[{ on := 12, ground := Ground.chain }, { on := 12, ground := Ground.guard }], guard := some (12, true) }) rfl (fun K hK => ?_) AllReadyH.nil
    go_simp
    go_at_call 13
    refine (known8_w _ (Nat.lt_of_lt_of_le HPT.out mW.size)).mono ?_
    rintro _ wk ⟨rfl, mk⟩
    replace mW := mW.then mk
    refine hK.out _ _ ?_ (fun hHeld => ?_)
    · exact ⟨mW, hcvE _ mW⟩
    clear hK K
    try simp only [Act.put, List.setIfInBounds_toArray, List.set_cons_zero, List.set_cons_succ]
    refine wpAnyH_take (i := 14) (oi := { dst := some 121, op := Op.pick (Operand.tmp 119) (Operand.tmp 120) (Operand.const (Value.bool false)), type := 4, pos := "law.go:204", after := #[{ on := 12, ground := Ground.data }, { on := 13, ground := Ground.data }], guard := none }) (v := ?_) rfl (by kernel_rfl) (by kernel_rfl) (by kernel_rfl) (fun _ _ _ h => h) (Or.inl ⟨by rfl, ?_⟩) (by assumption) ?_
    rotate_left
    · (intro w hSw; (try dsimp only at hSw); go_simp; try (with_reducible rfl))
    try simp only [Act.put, List.setIfInBounds_toArray, List.set_cons_zero, List.set_cons_succ]
    refine wpAnyH_take (i := 15) (oi := { dst := some 10, op := Op.assign (Operand.tmp 121), type := 4, pos := "law.go:204", after := #[{ on := 14, ground := Ground.data }, { on := 13, ground := Ground.chain }, { on := 0, ground := Ground.phase }, { on := 1, ground := Ground.phase }, { on := 2, ground := Ground.phase }, { on := 3, ground := Ground.phase }, { on := 4, ground := Ground.phase }, { on := 5, ground := Ground.phase }, { on := 6, ground := Ground.phase }, { on := 7, ground := Ground.phase }, { on := 8, ground := Ground.phase }, { on := 9, ground := Ground.phase }, { on := 10, ground := Ground.phase }, { on := 11, ground := Ground.phase }, { on := 12, ground := Ground.phase }, { on := 13, ground := Ground.phase }, { on := 14, ground := Ground.phase }], guard := none }) (v := ?_) rfl (by kernel_rfl) (by kernel_rfl) (by kernel_rfl) (fun _ _ _ h => h) (Or.inl ⟨by rfl, ?_⟩) (by assumption) ?_
    rotate_left
    · (intro w hSw; (try dsimp only at hSw); go_simp; try (with_reducible rfl))
    try simp only [Act.put, List.setIfInBounds_toArray, List.set_cons_zero, List.set_cons_succ]
    refine wpAnyH_done (by kernel_rfl) ?_ _
    refine NoPanic.normal ?_
    go_wp2_with fail
    go_ret
    exact ⟨rfl, HMT.out.then mW⟩
  | false =>
    have M34 : Hid (Moves [] w3 w4) := HM4.out
    clear hR
    go_wp2_with fail
    refine (withinM_w cl 0 255 (by omega) (by omega) (by omega) _).mono ?_
    rintro _ _ ⟨r1, hr1, rfl, rfl⟩
    obtain ⟨k, rfl⟩ : ∃ t : Nat, r1 = (t : Int) := ⟨r1.toNat, by omega⟩
    go_wp2_with fail
    refine (withinM_w sq 0 1073741824 (by omega) (by omega) (by omega) _).mono ?_
    rintro _ _ ⟨r2, hr2, rfl, rfl⟩
    obtain ⟨s, rfl⟩ : ∃ t : Nat, r2 = (t : Int) := ⟨r2.toNat, by omega⟩
    have hk : k ≤ 255 := by omega
    have hs : s < 4294967296 := by omega
    clear hr1 hr2
    go_wp2_with fail
    refine (cut_w _ gb bbs 60 _ rfl _ (HBB.out.moves ((HM2.out.then HM3.out).then M34.out) (by simp))).mono ?_
    rintro _ _ ⟨vc, rfl, hvc, rfl⟩
    have HO60 : Hid (∀ z ∈ bbs.take 60, z < 256) := fun z hz => HBO.out z (List.mem_of_mem_take hz)
    have HL60 : Hid ((bbs.take 60).length ≤ 1048576) := by unfold Hid; rw [List.length_take]; omega
    have HVC0 : Hid (IsB w4 gb vc (bbs.take 60)) := hvc
    have hpw : 0 < (w4).heap.size := Nat.lt_of_lt_of_le HPOS.out M34.out.size
    have hwr := wrap_w w4 w4 k s vc gb (bbs.take 60) hvc (Moves.refl _ _) hk hs HL60.out hpw
    obtain ⟨cad, cn, ccap, rfl, -⟩ := id hvc
    clear hvc
    go_wp2_with fail
    refine hwr.mono ?_
    rintro _ wx ⟨v18, rfl, hO, mx⟩
    have HEO : Hid (∀ z ∈ encW k s (bbs.take 60), z < 256) := encW_oct hk HO60.out
    have hun := unwrap_w (encW k s (bbs.take 60)).length v18 _ (encW k s (bbs.take 60)) wx hO.isB ⟨Nat.le_refl _, HEO.out⟩ (Nat.lt_of_lt_of_le hpw mx.size)
    rw [dWrapW_enc hs HL60.out] at hun
    have HBX : Hid (IsB wx _ v18 (encW k s (bbs.take 60))) := hO.isB
    obtain ⟨adE, L, capE, rfl, hLE, hcE, hnE, -⟩ := hO.isB
    have HLE : Hid ((encW k s (bbs.take 60)).length = L) := hLE
    have hL0 : 1 ≤ L ∧ L ≤ 1000000 := by have := encW_len k s (bbs.take 60); rw [List.length_take] at this; omega
    have HMX : Hid (Moves [] w4 wx) := mx
    clear hwr hO mx hLE
    go_wp2_with fail
    refine hun.mono ?_
    rintro _ wy ⟨vz, rfl, hOz, my⟩
    have HMY : Hid (Moves [] wx wy) := my
    have cz := run_str hOz.isB HO60.out
    have cb := run_str ((HVC0.out.moves HMX.out (by simp)).moves my (by simp)) HO60.out
    obtain ⟨z60, HZ60⟩ : ∃ z, Hid (strOf (bbs.take 60) = z) := ⟨_, rfl⟩
    rw [HZ60.out] at cz cb
    obtain ⟨zad, zn, zcap, rfl, -⟩ := hOz.isB
    have hLn : ¬ (L : Int) = 0 := by omega
    clear hun hOz my
    go_wp2_with fail
    refine (withinM_w cut 0 ((L : Int) - 1) (by omega) (by omega) (by omega) _).mono ?_
    rintro _ _ ⟨z, hz, rfl, rfl⟩
    obtain ⟨z, rfl⟩ : ∃ t : Nat, z = (t : Int) := ⟨z.toNat, by omega⟩
    have hzL : z < L := by omega
    have hzL' : (z : Int) ≤ (L : Int) := by omega
    have hzc : (z : Int) ≤ (capE : Int) := by omega
    have hBt := isB_take (HBX.out.moves HMY.out (by simp)) z (by omega)
    have hut := unwrap_w (encW k s (bbs.take 60)).length _ _ ((encW k s (bbs.take 60)).take z) wy hBt ⟨by rw [List.length_take]; omega, fun b hb => HEO.out b (List.mem_of_mem_take hb)⟩ (Nat.lt_of_lt_of_le hpw (HMX.out.then HMY.out).size)
    rw [dWrapW_cut hs HL60.out (by rw [HLE.out]; exact hzL)] at hut
    clear hBt cz cb hz
    go_wp2_with fail
    refine hut.mono ?_
    rintro _ wt ⟨rfl, mt⟩
    have HWT : Hid (Moves [] w4 wt) := (HMX.out.then HMY.out).then mt
    have HMT : Hid (Moves [] w wt) := ((HM2.out.then HM3.out).then M34.out).then HWT.out
    have HVC : Hid (IsB wt gb (.slice cad cn ccap) (bbs.take 60)) := HVC0.out.moves HWT.out (by simp)
    have HPT : Hid (0 < wt.heap.size) := Nat.lt_of_lt_of_le hpw HWT.out.size
    obtain ⟨zE, HZE⟩ : ∃ z, Hid (strOf (encW k s (bbs.take 60)) = z) := ⟨_, rfl⟩
    have hcvE : ∀ w', Moves [] wt w' → (convert 23 9 (.slice adE L capE)).run Tryz.prog w' = .ok (.string zE) w' := by
      intro w' m'
      rw [← HZE.out]
      exact run_str (HBX.out.moves (HMY.out.then (mt.then m')) (by simp)) HEO.out
    have mW : Moves [] wt wt.drew := (Moves.refl _ _).drew
    clear hut hpw mt
    go_wp2_with fail
    refine wp_region_noPanic ?_
    refine wp_region_held_drew (S := (fun w' => Moves [] wt w' ∧ (convert 23 9 (.slice adE L capE)).run Tryz.prog w' = .ok (.string zE) w')) (by kernel_rfl) ?_ (fun hHeld => ?_)
    · first | (go_keep; done) | exact ⟨mW, hcvE _ mW⟩
    refine wpAnyH_take (i := 0) (oi := { dst := some 107, op := Op.move (Operand.tmp 26), type := 4, pos := "law.go:204", after := #[], guard := none }) (v := ?_) rfl (by kernel_rfl) (by kernel_rfl) (by kernel_rfl) (fun _ _ _ h => h) (Or.inl ⟨by rfl, ?_⟩) (by assumption) ?_
    rotate_left
    · (intro w hSw; (try dsimp only at hSw); go_simp; try (with_reducible rfl))
    try simp only [Act.put, List.setIfInBounds_toArray, List.set_cons_zero, List.set_cons_succ]
    refine wpAnyH_take (i := 1) (oi := { dst := some 108, op := Op.unOp UnOp.not 4 (Operand.tmp 107), type := 4, pos := "law.go:204", after := #[{ on := 0, ground := Ground.data }], guard := none }) (v := ?_) rfl (by kernel_rfl) (by kernel_rfl) (by kernel_rfl) (fun _ _ _ h => h) (Or.inl ⟨by rfl, ?_⟩) (by assumption) ?_
    rotate_left
    · (intro w hSw; (try dsimp only at hSw); go_simp; try (with_reducible rfl))
    try simp only [Act.put, List.setIfInBounds_toArray, List.set_cons_zero, List.set_cons_succ]
    refine wpAnyH_take (i := 2) (oi := { dst := some 109, op := Op.move (Operand.tmp 108), type := 4, pos := "law.go:204", after := #[{ on := 1, ground := Ground.data }], guard := none }) (v := ?_) rfl (by kernel_rfl) (by kernel_rfl) (by kernel_rfl) (fun _ _ _ h => h) (Or.inl ⟨by rfl, ?_⟩) (by assumption) ?_
    rotate_left
    · (intro w hSw; (try dsimp only at hSw); go_simp; try (with_reducible rfl))
    try simp only [Act.put, List.setIfInBounds_toArray, List.set_cons_zero, List.set_cons_succ]
    refine wpAnyH_take (i := 3) (oi := { dst := some 110, op := Op.move (Operand.tmp 18), type := 23, pos := "law.go:204", after := #[{ on := 2, ground := Ground.guard }], guard := some (2, true) }) (v := ?_) rfl (by kernel_rfl) (by kernel_rfl) (by kernel_rfl) (fun _ _ _ h => h) (Or.inl ⟨by rfl, ?_⟩) (by assumption) ?_
    rotate_left
    · (intro w hSw; (try dsimp only at hSw); go_simp; try (with_reducible rfl))
    try simp only [Act.put, List.setIfInBounds_toArray, List.set_cons_zero, List.set_cons_succ]
    refine wpAnyH_take (i := 4) (oi := { dst := some 111, op := Op.convert 23 9 (Operand.tmp 110), type := 9, pos := "law.go:204", after := #[{ on := 3, ground := Ground.data }, { on := 2, ground := Ground.guard }], guard := some (2, true) }) (v := ?_) rfl (by kernel_rfl) (by kernel_rfl) (by kernel_rfl) (fun _ _ _ h => h) (Or.inl ⟨by rfl, ?_⟩) (by assumption) ?_
    rotate_left
    · (intro w hSw; (try dsimp only at hSw); go_simp; try (with_reducible rfl))
    try simp only [Act.put, List.setIfInBounds_toArray, List.set_cons_zero, List.set_cons_succ]
    refine wpAnyH_take (i := 5) (oi := { dst := some 112, op := Op.move (Operand.tmp 16), type := 3, pos := "law.go:204", after := #[{ on := 2, ground := Ground.guard }], guard := some (2, true) }) (v := ?_) rfl (by kernel_rfl) (by kernel_rfl) (by kernel_rfl) (fun _ _ _ h => h) (Or.inl ⟨by rfl, ?_⟩) (by assumption) ?_
    rotate_left
    · (intro w hSw; (try dsimp only at hSw); go_simp; try (with_reducible rfl))
    try simp only [Act.put, List.setIfInBounds_toArray, List.set_cons_zero, List.set_cons_succ]
    refine wpAnyH_take (i := 6) (oi := { dst := some 113, op := Op.move (Operand.tmp 17), type := 3, pos := "law.go:204", after := #[{ on := 2, ground := Ground.guard }], guard := some (2, true) }) (v := ?_) rfl (by kernel_rfl) (by kernel_rfl) (by kernel_rfl) (fun _ _ _ h => h) (Or.inl ⟨by rfl, ?_⟩) (by assumption) ?_
    rotate_left
    · (intro w hSw; (try dsimp only at hSw); go_simp; try (with_reducible rfl))
    try simp only [Act.put, List.setIfInBounds_toArray, List.set_cons_zero, List.set_cons_succ]
    refine wpAnyH_take (i := 7) (oi := { dst := some 114, op := Op.move (Operand.tmp 3), type := 23, pos := "law.go:204", after := #[{ on := 2, ground := Ground.guard }], guard := some (2, true) }) (v := ?_) rfl (by kernel_rfl) (by kernel_rfl) (by kernel_rfl) (fun _ _ _ h => h) (Or.inl ⟨by rfl, ?_⟩) (by assumption) ?_
    rotate_left
    · (intro w hSw; (try dsimp only at hSw); go_simp; try (with_reducible rfl))
    try simp only [Act.put, List.setIfInBounds_toArray, List.set_cons_zero, List.set_cons_succ]
    refine wpAnyH_ready (rs := [8]) (by kernel_rfl) (by simp) ?_
    refine AllReadyH.cons (o := { dst := some 115, op := Op.call { callee := Callee.value (Operand.func 23), args := #[Operand.tmp 112, Operand.tmp 113, Operand.tmp 114], argTypes := #[3, 3, 23] }, type := 23, pos := "law.go:204", after := #[{ on := 5, ground := Ground.data }, { on := 6, ground := Ground.data }, { on := 7, ground := Ground.data }, { on := 2, ground := Ground.chain }, { on := 2, ground := Ground.guard }], guard := some (2, true) }) rfl (fun K hK => ?_) AllReadyH.nil
    go_simp
    go_at_call 23
    refine (refWrap_w wt _ k s _ gb (bbs.take 60) HVC.out mW hk hs HL60.out).mono ?_
    rintro _ wr ⟨vr, rfl, hOr, mr⟩
    have HOR : Hid (Own wr vr (encW k s (bbs.take 60))) := hOr
    clear hOr
    replace mW := mW.then mr
    refine hK.out _ _ ?_ (fun hHeld => ?_)
    · exact ⟨mW, hcvE _ mW⟩
    clear hK K
    try simp only [Act.put, List.setIfInBounds_toArray, List.set_cons_zero, List.set_cons_succ]
    refine wpAnyH_ready (rs := [9]) (by kernel_rfl) (by simp) ?_
    refine AllReadyH.cons (o := { dst := some 116, op := Op.convert 23 9 (Operand.tmp 115), type := 9, pos := "law.go:204", after := #[{ on := 8, ground := Ground.data }, { on := 2, ground := Ground.guard }], guard := some (2, true) }) rfl (fun K hK => ?_) AllReadyH.nil
    have hcv := run_str HOR.out.isB HEO.out
    rw [HZE.out] at hcv
    go_simp
    refine hK.out _ _ ?_ (fun hHeld => ?_)
    · exact ⟨mW, hcvE _ mW⟩
    clear hK K
    refine wpAnyH_take (i := 10) (oi := { dst := some 117, op := Op.binOp BinOp.eql 9 (Operand.tmp 111) (Operand.tmp 116) 9, type := 4, pos := "law.go:204", after := #[{ on := 4, ground := Ground.data }, { on := 9, ground := Ground.data }, { on := 2, ground := Ground.guard }], guard := some (2, true) }) (v := ?_) rfl (by kernel_rfl) (by kernel_rfl) (by kernel_rfl) (fun _ _ _ h => h) (Or.inl ⟨by rfl, ?_⟩) (by assumption) ?_
    rotate_left
    · (intro w hSw; (try dsimp only at hSw); go_simp; try (with_reducible rfl))
    try simp only [Act.put, List.setIfInBounds_toArray, List.set_cons_zero, List.set_cons_succ]
    refine wpAnyH_take (i := 11) (oi := { dst := some 118, op := Op.pick (Operand.tmp 109) (Operand.tmp 117) (Operand.const (Value.bool false)), type := 4, pos := "law.go:204", after := #[{ on := 2, ground := Ground.data }, { on := 10, ground := Ground.data }], guard := none }) (v := ?_) rfl (by kernel_rfl) (by kernel_rfl) (by kernel_rfl) (fun _ _ _ h => h) (Or.inl ⟨by rfl, ?_⟩) (by assumption) ?_
    rotate_left
    · (intro w hSw; (try dsimp only at hSw); go_simp; try (with_reducible rfl))
    try simp only [Act.put, List.setIfInBounds_toArray, List.set_cons_zero, List.set_cons_succ]
    refine wpAnyH_take (i := 12) (oi := { dst := some 119, op := Op.move (Operand.tmp 118), type := 4, pos := "law.go:204", after := #[{ on := 11, ground := Ground.data }, { on := 8, ground := Ground.chain }], guard := none }) (v := ?_) rfl (by kernel_rfl) (by kernel_rfl) (by kernel_rfl) (fun _ _ _ h => h) (Or.inl ⟨by rfl, ?_⟩) (by assumption) ?_
    rotate_left
    · (intro w hSw; (try dsimp only at hSw); go_simp; try (with_reducible rfl))
    try simp only [Act.put, List.setIfInBounds_toArray, List.set_cons_zero, List.set_cons_succ]
    refine wpAnyH_ready (rs := [13]) (by kernel_rfl) (by simp) ?_
    refine AllReadyH.cons (o := { dst := some 120, op := Op.call { callee := Callee.value (Operand.func 13), args := #[], argTypes := #[] }, type := 4, pos := "law.go:204", after := #[{ on := 12, ground := Ground.chain }, { on := 12, ground := Ground.guard }], guard := some (12, true) }) rfl (fun K hK => ?_) AllReadyH.nil
    go_simp
    go_at_call 13
    refine (known8_w _ (Nat.lt_of_lt_of_le HPT.out mW.size)).mono ?_
    rintro _ wk ⟨rfl, mk⟩
    replace mW := mW.then mk
    refine hK.out _ _ ?_ (fun hHeld => ?_)
    · exact ⟨mW, hcvE _ mW⟩
    clear hK K
    try simp only [Act.put, List.setIfInBounds_toArray, List.set_cons_zero, List.set_cons_succ]
    refine wpAnyH_take (i := 14) (oi := { dst := some 121, op := Op.pick (Operand.tmp 119) (Operand.tmp 120) (Operand.const (Value.bool false)), type := 4, pos := "law.go:204", after := #[{ on := 12, ground := Ground.data }, { on := 13, ground := Ground.data }], guard := none }) (v := ?_) rfl (by kernel_rfl) (by kernel_rfl) (by kernel_rfl) (fun _ _ _ h => h) (Or.inl ⟨by rfl, ?_⟩) (by assumption) ?_
    rotate_left
    · (intro w hSw; (try dsimp only at hSw); go_simp; try (with_reducible rfl))
    try simp only [Act.put, List.setIfInBounds_toArray, List.set_cons_zero, List.set_cons_succ]
    refine wpAnyH_take (i := 15) (oi := { dst := some 10, op := Op.assign (Operand.tmp 121), type := 4, pos := "law.go:204", after := #[{ on := 14, ground := Ground.data }, { on := 13, ground := Ground.chain }, { on := 0, ground := Ground.phase }, { on := 1, ground := Ground.phase }, { on := 2, ground := Ground.phase }, { on := 3, ground := Ground.phase }, { on := 4, ground := Ground.phase }, { on := 5, ground := Ground.phase }, { on := 6, ground := Ground.phase }, { on := 7, ground := Ground.phase }, { on := 8, ground := Ground.phase }, { on := 9, ground := Ground.phase }, { on := 10, ground := Ground.phase }, { on := 11, ground := Ground.phase }, { on := 12, ground := Ground.phase }, { on := 13, ground := Ground.phase }, { on := 14, ground := Ground.phase }], guard := none }) (v := ?_) rfl (by kernel_rfl) (by kernel_rfl) (by kernel_rfl) (fun _ _ _ h => h) (Or.inl ⟨by rfl, ?_⟩) (by assumption) ?_
    rotate_left
    · (intro w hSw; (try dsimp only at hSw); go_simp; try (with_reducible rfl))
    try simp only [Act.put, List.setIfInBounds_toArray, List.set_cons_zero, List.set_cons_succ]
    refine wpAnyH_done (by kernel_rfl) ?_ _
    refine NoPanic.normal ?_
    go_wp2_with fail
    go_ret
    exact ⟨rfl, HMT.out.then mW⟩
end Go.Proofs.YtcamhlnkcoicpaaGreat
