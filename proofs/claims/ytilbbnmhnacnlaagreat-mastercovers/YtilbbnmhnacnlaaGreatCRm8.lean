/- ours -/
import Derived.Test.YtilbbnmhnacnlaaGreatCB53
import Derived.Test.YtilbbnmhnacnlaaGreatCB36
namespace Go.Proofs.YtilbbnmhnacnlaaGreat
open Go.RowKit

theorem stopD {ops : Array Oper} {rest : List Oper} {op : Oper} {a : Act} {w : World} {Q : Exit → Act → World → Prop} (x : Operand) (_ : op.op = .load 44 x) (h : Hid (wpList Tryz.prog ops Q (op :: rest) a w)) : wpList Tryz.prog ops Q (op :: rest) a w := h.out
theorem Tryz.size44 : (Tryz.prog.info? 44).map (·.size) = some 28 := by kernel_rfl
theorem wpList_loadDrawAt {ops : Array Oper} {rest : List Oper} {op : Oper} {a : Act} {w : World} {Q : Exit → Act → World → Prop} (hgd : op.guard = none) (x : Operand) (ho : op.op = .load 44 x) (b k : Nat) (hx : a.eval x = .pointer (some ⟨b, k, none⟩)) (cs : List Value) (hc : w.rangeAt b k cs) (hn : cs.length = 28)
    (h : wpList Tryz.prog ops Q rest (a.put op.dst (.agg cs.toArray)) w) : wpList Tryz.prog ops Q (op :: rest) a w :=
  wpList_plain hgd fun _ hK => by
    have := run_loadVar_mid (P := Tryz.prog) w b k 44 cs _ hc Tryz.underlying44 rfl (by rw [hn]; exact Tryz.size44)
    unfold Oper.wp execOp
    simp only [ho, hx, Instr.loadAt, Instr.sureAddr, Sem.run_bind, Sem.run_pure, Result.andThen_ok, this]
    exact hK _ _ h
theorem rangeAt_moves {w w' : World} {b o : Nat} {cs : List Value} (h : w.rangeAt b o cs) (m : Moves [] w w') : w'.rangeAt b o cs := fun j v hj => m.cell (h j v hj)
structure CovSt (w wr : World) (p q c : Nat) (a : Option Nat) (r : Nat) (S : Pms) (i : Nat) : Prop where
  bo : Both w wr p q c a r S
  ok : OkM S
  gr : S.grps = 3
  ca : (ofT S.ca 1).s ≤ i
  la : S.last ≤ (i : Int) + 1
  mv : Moves [] w wr
set_option maxRecDepth 100000 in
set_option maxHeartbeats 16000000 in
theorem masterCovers_w (v0 : Value) (w : World) (h0 : DrArgs w v0) : Calls Tryz.prog 3 #[v0] w fun e w' => e = .returned (.bool true) ∧ Moves [] w w' := by
  obtain ⟨ad, n, cap, rfl, hD⟩ := h0
  have HD : Hid _ := hD
  clear hD
  go_enter Tryz.func3, Tryz.ntmps3
  go_wp2_with fail
  refine (mnew_w 3 (by omega) (by omega) w).mono ?_
  rintro _ w3 ⟨p, q, c, rfl, hI, m3⟩
  go_wp2_with fail
  refine (rmNew_w w3 3).mono ?_
  rintro _ w4 ⟨r, rfl, hRm, hr, m4⟩
  have hnp := nilPtr p
  have HG0 : Hid (CovSt w w4 p q c none r (m0 3) 0) := ⟨Both.start hI m4 hRm hr m3.size, m0_ok 3 (by omega) (by omega), rfl, by show (0 : Int) ≤ 0; omega, by show (1 : Int) ≤ 0 + 1; omega, m3.then m4⟩
  clear hI m3 hRm hr m4
  go_wp2_with fail
  go_loopw [5, 6] (fun vt vi wr => ∃ (i : Nat) (a : Option Nat) (S : Pms), i ≤ n ∧ i ≤ 60 ∧ vt = .int .i64 S.last ∧ vi = .int .i64 (i : Nat) ∧ Hid (CovSt w wr p q c a r S i)) (fun _ vi _ => 60 - (intOf vi).toNat)
  case atStart => exact ⟨0, none, m0 3, Nat.zero_le _, by omega, rfl, rfl, HG0.out⟩
  case round =>
    obtain ⟨i, a, S, hin, hi60, rfl, rfl, HG⟩ := hrel
    by_cases hlt : i < n ∧ i < 60
    · obtain ⟨hl1, hl2⟩ := hlt
      have hk1 : (i : Int) < n := by omega
      have hk2 : (i : Int) < 60 := by omega
      obtain ⟨bD, offD, d0, d1, d2, d3, d4, d5, d6, d7, d8, C0, ca0, cn0, cc0, la0, ln0, lc0, sa0, sn0, sc0, rfl, hrg⟩ := HD.out i hl1
      obtain ⟨i1, hi1⟩ : ∃ i1, i + 1 = i1 := ⟨_, rfl⟩
      have hwi : IntKind.i64.wrap ((i : Int) + 1) = (i1 : Int) := by rw [IntKind.wrap_i64]; omega
      have HI1 : Hid (i + 1 = i1 ∧ i < 60 ∧ i < n) := ⟨hi1, hl2, hl1⟩
      have HRG : Hid _ := rangeAt_moves hrg HG.out.mv
      have hcmd := cmd12_w wr r S HG.out.bo.rm d0 d1 d2 d3 d4 d5 d6 d7 d8 C0 ca0 cn0 cc0 la0 ln0 lc0 sa0 sn0 sc0 ⟨_, _, _, _, _, _, _, _, _, rfl⟩
      clear hrg hi1 hl1 hl2
      go_wp2_with (with_reducible refine stopD _ rfl ?_)
      unfold Hid
      refine wpList_loadDrawAt rfl _ rfl bD (offD + i * 28) rfl _ HRG.out rfl ?_
      unfold drawL
      go_wp2_with fail
      refine hcmd.mono ?_
      rintro _ w5 ⟨cs, C, rfl, hC, m5⟩
      obtain ⟨ca, cn, cc, la, ln, lc, sa, sn, sc, hcs⟩ := hC
      obtain rfl := Array.toList_inj.1 (show cs.toList = (#[.int .i64 C.kind, .int .i64 C.op.kind, .string C.op.row, .string C.op.hi, .bool C.op.cd.has, .bool C.op.cd.want, .string C.op.cd.col, .int .i64 C.op.cd.v.kind, .slice ca cn cc, .float .f64 C.op.cd.v.n, .slice la ln lc, .int .i64 C.op.most, .string C.lo, .string C.hi, .int .i64 C.gen, .string C.at', .int .i64 C.to, .int .i64 C.act, .slice sa sn sc] : Array Value).toList from hcs)
      clear hcs hcmd
      have z5 := heap_alloc_new w5 (.cells #[.int .i64 0, .int .i64 0, .string ⟨#[]⟩, .string ⟨#[]⟩, .bool false, .bool false, .string ⟨#[]⟩, .int .i64 0, .slice none 0 0, .float .f64 0, .slice none 0 0, .int .i64 0, .string ⟨#[]⟩, .string ⟨#[]⟩, .int .i64 0, .string ⟨#[]⟩, .int .i64 0, .int .i64 0, .slice none 0 0] 39)
      have mz5 : Moves [] w5 (w5.alloc (.cells #[.int .i64 0, .int .i64 0, .string ⟨#[]⟩, .string ⟨#[]⟩, .bool false, .bool false, .string ⟨#[]⟩, .int .i64 0, .slice none 0 0, .float .f64 0, .slice none 0 0, .int .i64 0, .string ⟨#[]⟩, .string ⟨#[]⟩, .int .i64 0, .string ⟨#[]⟩, .int .i64 0, .int .i64 0, .slice none 0 0] 39)) := (Moves.refl _ _).alloc _
      go_wp2_with (with_reducible refine stopStore _ _ rfl ?_)
      unfold Hid
      refine wpList_storeCmd rfl _ _ rfl w5.heap.size #[.int .i64 C.kind, .int .i64 C.op.kind, .string C.op.row, .string C.op.hi, .bool C.op.cd.has, .bool C.op.cd.want, .string C.op.cd.col, .int .i64 C.op.cd.v.kind, .slice ca cn cc, .float .f64 C.op.cd.v.n, .slice la ln lc, .int .i64 C.op.most, .string C.lo, .string C.hi, .int .i64 C.gen, .string C.at', .int .i64 C.to, .int .i64 C.act, .slice sa sn sc] rfl rfl z5 rfl rfl (by simp [Value.oneCell']) ?_
      intro w6 h6 m6
      have M6 : Moves [] w5 w6 := mz5.trans m6 (fun x hx => .inr (by simp at hx; omega))
      clear z5 mz5 m6
      have HM6 : Hid (Moves [] wr w6) := m5.then M6
      have HB6 : Hid (Both w w6 p q c a r S) := HG.out.bo.moves0 HM6.out
      have hno : w5.heap.size ∉ p :: q :: c :: a.toList := (HG.out.bo.is.moves0 m5).notin (Nat.le_refl _)
      have hrlt : r < w5.heap.size := (HG.out.bo.rm.moves0 m5).lt
      obtain ⟨B7, hB7⟩ : ∃ B7, w5.heap.size = B7 := ⟨_, rfl⟩
      rw [hB7] at h6 hno hrlt ⊢
      have HN7 : Hid (B7 ∉ p :: q :: c :: a.toList ∧ r < B7) := ⟨hno, hrlt⟩
      have HR6 : Hid (r < w6.heap.size) := by have := M6.size; unfold Hid; omega
      have H6 : Hid _ := h6
      have hca : (ofT S.ca 1).s < (i1 : Int) := by have := HG.out.ca; have := HI1.out; omega
      have hcov := cov1 S HG.out.ok 1 (i1 : Int) C hca (by have := HI1.out; omega) (by omega) (by omega) (by have := HI1.out; omega)
      have hrd := rmdo_w w6 r S HB6.out.rm HG.out.ok (by have := HG.out.la; have := HI1.out; omega) (i1 : Int) C ca cn cc la ln lc sa sn sc (look_fresh hca (by have := HI1.out; omega)) (by have := HI1.out; omega)
      have hpd : ∀ w7, Moves [r] w6 w7 → Calls Tryz.prog 10 #[.pointer (some ⟨p, 0, none⟩), .int .i64 1, .int .i64 (i1 : Int), .agg #[.int .i64 C.kind, .int .i64 C.op.kind, .string C.op.row, .string C.op.hi, .bool C.op.cd.has, .bool C.op.cd.want, .string C.op.cd.col, .int .i64 C.op.cd.v.kind, .slice ca cn cc, .float .f64 C.op.cd.v.n, .slice la ln lc, .int .i64 C.op.most, .string C.lo, .string C.hi, .int .i64 C.gen, .string C.at', .int .i64 C.to, .int .i64 C.act, .slice sa sn sc]] w7 fun e w' => ∃ cs a', e = .returned (.agg cs.toArray) ∧ AnsC w' cs (mDo S 1 (i1 : Int) C).1 ∧ MrG w w7 p q c a S w' a' (mDo S 1 (i1 : Int) C).2 := by
        intro w7 m7
        exact mdoAny_w w w7 p q c a S (HB6.out.ref m7).1 HG.out.ok (by have := (HG.out.mv.then HM6.out).size; have := m7.size; omega) 1 (i1 : Int) C ca cn cc la ln lc sa sn sc ⟨_, _, _, _, _, _, _, _, _, rfl⟩
      obtain ⟨R, hR⟩ : ∃ R, mDo S 1 (i1 : Int) C = R := ⟨_, rfl⟩
      rw [hR] at hcov hrd hpd
      have HCOV : Hid (Cov1 S 1 (i1 : Int) C R) := hcov
      have HGR : Hid (R.2.grps = 3) := by unfold Hid; rw [hcov.grps]; exact HG.out.gr
      have HLS : Hid (S.last ≤ (i : Int) + 1) := HG.out.la
      have HMW6 : Hid (Moves [] w w6) := HG.out.mv.then HM6.out
      have HYA : Hid (∀ k, a = some k → w.heap.size ≤ k) := HB6.out.ha
      have HYR : Hid (w.heap.size ≤ r) := HB6.out.hr
      clear hR hcov hca hno hrlt hB7 m5 M6 h6 HG HM6
      go_wp2_with (with_reducible refine stopLoad _ rfl ?_)
      unfold Hid
      refine wpList_loadCmd rfl _ rfl B7 rfl _ H6.out rfl ?_
      go_wp2_with fail
      refine hrd.mono ?_
      rintro _ w7 ⟨A0, rfl, -, hRm7, m7⟩
      have HRM7 : Hid (RmIs w7 r R.2) := hRm7
      have HM7 : Hid (Moves [r] w6 w7) := m7
      have H7 : Hid _ := m7.at H6.out (by have := HN7.out.2; simp; omega)
      have hp7 := hpd w7 m7
      clear hrd hpd hRm7 m7
      unfold ansV
      go_wp2_with (with_reducible refine stopLoad _ rfl ?_)
      unfold Hid
      refine wpList_loadCmd rfl _ rfl B7 rfl _ H7.out rfl ?_
      go_wp2_with fail
      refine hp7.mono ?_
      rintro _ w8 ⟨cs, a2, rfl, hA, hG⟩
      have HLc : Hid (cs.length = 11 ∧ ∀ u ∈ cs, u.oneCell' = true) := hA.len
      have HAC : Hid (AnsC w8 cs R.1) := hA
      have HGc : Hid (MrG w w7 p q c a S w8 a2 R.2) := hG
      clear hp7 hA hG hwi
      go_wp2_with (with_reducible refine stopA _ _ rfl ?_)
      unfold Hid
      have hz := heap_alloc_new w8 (.cells #[.int .i64 0, .slice none 0 0, .string ⟨#[]⟩, .string ⟨#[]⟩, .int .i64 0, .int .i64 0, .int .i64 0, .int .i64 0, .int .i64 0, .string ⟨#[]⟩, .slice none 0 0] 48)
      have mz : Moves [] w8 (w8.alloc (.cells #[.int .i64 0, .slice none 0 0, .string ⟨#[]⟩, .string ⟨#[]⟩, .int .i64 0, .int .i64 0, .int .i64 0, .int .i64 0, .int .i64 0, .string ⟨#[]⟩, .slice none 0 0] 48)) := (Moves.refl _ _).alloc _
      refine wpList_storeAns rfl _ _ rfl w8.heap.size cs rfl rfl HLc.out.1 HLc.out.2 hz rfl ?_
      intro w9 hh mm
      have Mw9 : Moves [] w8 w9 := mz.trans mm (fun x hx => .inr (by simp at hx; omega))
      clear hz mz mm
      have HB8 : Hid (Both w w8 p q c a2 r R.2) := HB6.out.step HM7.out HRM7.out HGc.out (by have := HR6.out; have := HM7.out.size; omega)
      have HB9 : Hid (Both w w9 p q c a2 r R.2) := HB8.out.moves0 Mw9
      have HMV9 : Hid (Moves [] w w9) := (HGc.out.old (HMW6.out.trans HM7.out (fun x hx => .inr (by simp at hx; subst hx; exact HYR.out))) HYA.out).then Mw9
      have HBC : Hid (BoxB w9 B7 #[.int .i64 C.kind, .int .i64 C.op.kind, .string C.op.row, .string C.op.hi, .bool C.op.cd.has, .bool C.op.cd.want, .string C.op.cd.col, .int .i64 C.op.cd.v.kind, .slice ca cn cc, .float .f64 C.op.cd.v.n, .slice la ln lc, .int .i64 C.op.most, .string C.lo, .string C.hi, .int .i64 C.gen, .string C.at', .int .i64 C.to, .int .i64 C.act, .slice sa sn sc] 39 p q c a2) := (BoxB.step (⟨H7.out, HN7.out.1⟩ : BoxB w7 B7 #[.int .i64 C.kind, .int .i64 C.op.kind, .string C.op.row, .string C.op.hi, .bool C.op.cd.has, .bool C.op.cd.want, .string C.op.cd.col, .int .i64 C.op.cd.v.kind, .slice ca cn cc, .float .f64 C.op.cd.v.n, .slice la ln lc, .int .i64 C.op.most, .string C.lo, .string C.hi, .int .i64 C.gen, .string C.at', .int .i64 C.to, .int .i64 C.act, .slice sa sn sc] 39 p q c a) HGc.out).moves0 Mw9
      obtain ⟨BA, hBA⟩ : ∃ BA, w8.heap.size = BA := ⟨_, rfl⟩
      rw [hBA] at hh ⊢
      obtain ⟨e1, e2, e3, e4, e5, e6, e7, rfl, -⟩ := HAC.out
      obtain ⟨u0, -, -, -, -, u5, -⟩ := eleven_cells hh
      have HC19 : Hid _ := c19 HBC.out.at'
      have y0 := HC19.out.1
      have y17 : w9.cell? ⟨B7, 17, none⟩ = some (.int .i64 C.act) := by have := HBC.out.at'; simp [World.cell?, this]
      clear HAC Mw9 HB8 HBC HGc HM7 HRM7 H7 H6 HB6 HMW6 HYA HYR HN7 HR6 hBA HLc hh HC19
      by_cases hz : C.kind = 8
      · have hz' : (C.kind == 8) = true := beq_iff_eq.2 hz
        by_cases ha : C.act = 0
        · have ha' : (C.act == 0) = true := beq_iff_eq.2 ha
          have HT : Hid (S.last = R.2.last) := (HCOV.out.old (fun h => h.2.1 ha)).symm
          have HLA1 : Hid (R.2.last ≤ (i1 : Int) + 1) := by have := HT.out; have := HLS.out; have := HI1.out; unfold Hid; omega
          clear u0 u5
          go_wp2_with fail
          refine (mall_w w w9 p q c a2 R.2 HB9.out.is HCOV.out.ok).mono ?_
          rintro _ wA ⟨vA, rfl, hO, hF, mA⟩
          have HMA : Hid (Moves [] w9 wA) := mA
          obtain ⟨gA, hTA, -⟩ := hO.ex hF
          obtain ⟨adA, nA, capA, rfl, hnA, hcA, HLA⟩ := hTA.open
          have hA16 : nA ≤ 16 := by have := hnA.out; have := HCOV.out.ok.few; omega
          clear hO hF mA hTA
          go_wp2_with fail
          go_loopw [9, 64] (fun vu vi wx => ∃ (k : Nat) (vo : Value), k ≤ nA ∧ vo = vu ∧ vi = .int .i64 (k : Nat) ∧ Moves [] wA wx ∧ OwnS wx vo ((R.2.xs.take k).map Ptb.sp) ∧ Fresh wA vo) (fun _ vi _ => nA - (intOf vi).toNat)
          case atStart => exact ⟨0, _, Nat.zero_le _, rfl, rfl, Moves.refl _ _, OwnS.nil _, Fresh.nil _⟩
          case round =>
            obtain ⟨k, vo, hkn, rfl, rfl, mr, hO, hF⟩ := hrel
            obtain ⟨wx, hwx⟩ : ∃ wx, wx = wr := ⟨_, rfl⟩
            subst hwx
            have HO : Hid (OwnS wx vo ((R.2.xs.take k).map Ptb.sp)) := hO
            by_cases hk : k < nA
            · have hk3 : (k : Int) < nA := by omega
              obtain ⟨x, hx⟩ : ∃ x, R.2.xs[k]? = some x := ⟨_, List.getElem?_eq_getElem (by have := hnA.out; omega)⟩
              obtain ⟨off, rfl, y0, y1, y2, y3⟩ := HLA.out.at hx
              replace y0 := mr.cell y0
              replace y1 := mr.cell y1
              replace y2 := mr.cell y2
              replace y3 := mr.cell y3
              have hin := HCOV.out.ok.ins x (List.mem_of_getElem? hx)
              have hg1 : 1 ≤ x.g := hin.1.1
              have hg3 : x.g ≤ 3 := by have := hin.1.2; have := HGR.out; omega
              have hn1 : x.n ≤ S.last := by have := hin.2; have := HT.out; omega
              have HX : Hid (R.2.xs[k]? = some x) := hx
              have t0 := heap_alloc_new wx (.cells #[.string x.lo, .string x.hi, .int .i64 x.g, .int .i64 x.n] 54)
              have mA : Moves [] wx (wx.alloc (.cells #[.string x.lo, .string x.hi, .int .i64 x.g, .int .i64 x.n] 54)) := (Moves.refl _ _).alloc _
              have mB : Moves [] wx ((wx.alloc (.cells #[.string x.lo, .string x.hi, .int .i64 x.g, .int .i64 x.n] 54)).alloc (.cells #[.string x.lo, .string x.hi] 37)) := mA.alloc _
              have mC : Moves [] (wx.alloc (.cells #[.string x.lo, .string x.hi, .int .i64 x.g, .int .i64 x.n] 54)) ((wx.alloc (.cells #[.string x.lo, .string x.hi, .int .i64 x.g, .int .i64 x.n] 54)).alloc (.cells #[.string x.lo, .string x.hi] 37)) := (Moves.refl _ _).alloc _
              replace t0 := mC.at t0 (by simp)
              have hnb : wx.heap.size ∉ vo.ownBlock.toList := fun h => by have := hO.lt (Option.mem_toList.1 h); omega
              have HTB : Hid (∀ w1, Moves vo.ownBlock.toList ((wx.alloc (.cells #[.string x.lo, .string x.hi, .int .i64 x.g, .int .i64 x.n] 54)).alloc (.cells #[.string x.lo, .string x.hi] 37)) w1 → w1.cell? ⟨wx.heap.size, 1, none⟩ = some (.string x.hi) ∧ w1.cell? ⟨wx.heap.size, 2, none⟩ = some (.int .i64 x.g) ∧ w1.cell? ⟨wx.heap.size, 3, none⟩ = some (.int .i64 x.n)) := by
                intro w1 m1
                have := m1.at t0 hnb
                simp [World.cell?, this]
              have hO2 : Hid (OwnS ((wx.alloc (.cells #[.string x.lo, .string x.hi, .int .i64 x.g, .int .i64 x.n] 54)).alloc (.cells #[.string x.lo, .string x.hi] 37)) vo ((R.2.xs.take k).map Ptb.sp)) := hO.moves mB (by simp)
              have hsp : Hid (SpsAt ((wx.alloc (.cells #[.string x.lo, .string x.hi, .int .i64 x.g, .int .i64 x.n] 54)).alloc (.cells #[.string x.lo, .string x.hi] 37)) (some ⟨(wx.alloc (.cells #[.string x.lo, .string x.hi, .int .i64 x.g, .int .i64 x.n] 54)).heap.size, 0, none⟩) [x.sp]) := SpsAt.block (xs := [x.sp]) (heap_alloc_new _ _)
              rw [World.size_alloc] at hsp
              clear hx hO hin t0 hnb mA mC
              go_wp2_with (refine spans_append _ _ rfl _ _ _ _ ((R.2.xs.take k).map Ptb.sp) [x.sp] rfl rfl rfl hO2.out hsp.out rfl (by simp) (by have := hnA.out; simp; omega) ?_; intro v' w1 hO1 m1 hla; obtain ⟨ad', n', cap', rfl, hn'⟩ := hO1.open; obtain ⟨-, f2, f3⟩ := HTB.out w1 m1)
              go_roundw
              case rel =>
                refine ⟨k + 1, _, by omega, rfl, by go_num, fresh_trans (mr.then mB) hF m1, ?_, lain_fresh hF (mr.then mB).size hla⟩
                rw [List.take_add_one, HX.out]
                simpa using hO1
              case measure => simp [intOf]; omega
            · obtain rfl : k = nA := by omega
              have hk3 : ¬ (k : Int) < k := by omega
              have e : R.2.xs.take k = R.2.xs := List.take_of_length_le (by have := hnA.out; omega)
              rw [e] at HO
              obtain ⟨ad', cap', rfl, -, -, hS⟩ := HO.out.at
              have hlen : (R.2.xs.map Ptb.sp).length = k := by rw [List.length_map]; exact hnA.out.symm
              rw [hlen]
              have hcov := rfCover7_w wx ad' k cap' _ hS hlen.symm (by omega)
              rw [HCOV.out.ok.cov] at hcov
              clear hS e hlen
              go_wp2_with fail
              refine hcov.mono ?_
              rintro _ wz ⟨rfl, mz⟩
              have h16 : ¬ (16 : Int) < (k : Int) := by omega
              have hwi : IntKind.i64.wrap ((i : Int) + 1) = (i1 : Int) := by rw [IntKind.wrap_i64]; have := HI1.out; omega
              have HF9 : Hid (Moves [] w9 wz) := (HMA.out.then mr).then mz
              have HTT : Hid (Value.int .i64 S.last = .int .i64 R.2.last) := by unfold Hid; rw [HT.out]
              clear hcov
              go_wp2_with fail
              go_roundw
              case rel => exact ⟨i1, a2, R.2, by have := HI1.out; omega, by have := HI1.out; omega, HTT.out, by go_num, ⟨HB9.out.moves0 HF9.out, HCOV.out.ok, HGR.out, HCOV.out.ca, HLA1.out, HMV9.out.then HF9.out⟩⟩
              case measure => simp [intOf]; have := HI1.out; omega
        · have ha' : (C.act == 0) = false := beq_eq_false_iff_ne.2 ha
          by_cases hc : R.1.code = 0
          · have hc' : (R.1.code == 0) = true := beq_iff_eq.2 hc
            have hnew := HCOV.out.new hz ha hc
            have HT : Hid (R.1.gen = R.2.last) := by unfold Hid; rw [hnew.1, hnew.2]
            have hgt : ¬ R.1.gen ≤ S.last := by rw [hnew.1]; omega
            have HLA1 : Hid (R.2.last ≤ (i1 : Int) + 1) := by have := HLS.out; have := HI1.out; unfold Hid; rw [hnew.2]; omega
            clear hnew
            go_wp2_with fail
            refine (mall_w w w9 p q c a2 R.2 HB9.out.is HCOV.out.ok).mono ?_
            rintro _ wA ⟨vA, rfl, hO, hF, mA⟩
            have HMA : Hid (Moves [] w9 wA) := mA
            obtain ⟨gA, hTA, -⟩ := hO.ex hF
            obtain ⟨adA, nA, capA, rfl, hnA, hcA, HLA⟩ := hTA.open
            have hA16 : nA ≤ 16 := by have := hnA.out; have := HCOV.out.ok.few; omega
            clear hO hF mA hTA
            go_wp2_with fail
            go_loopw [9, 64] (fun vu vi wx => ∃ (k : Nat) (vo : Value), k ≤ nA ∧ vo = vu ∧ vi = .int .i64 (k : Nat) ∧ Moves [] wA wx ∧ OwnS wx vo ((R.2.xs.take k).map Ptb.sp) ∧ Fresh wA vo) (fun _ vi _ => nA - (intOf vi).toNat)
            case atStart => exact ⟨0, _, Nat.zero_le _, rfl, rfl, Moves.refl _ _, OwnS.nil _, Fresh.nil _⟩
            case round =>
              obtain ⟨k, vo, hkn, rfl, rfl, mr, hO, hF⟩ := hrel
              obtain ⟨wx, hwx⟩ : ∃ wx, wx = wr := ⟨_, rfl⟩
              subst hwx
              have HO : Hid (OwnS wx vo ((R.2.xs.take k).map Ptb.sp)) := hO
              by_cases hk : k < nA
              · have hk3 : (k : Int) < nA := by omega
                obtain ⟨x, hx⟩ : ∃ x, R.2.xs[k]? = some x := ⟨_, List.getElem?_eq_getElem (by have := hnA.out; omega)⟩
                obtain ⟨off, rfl, y0, y1, y2, y3⟩ := HLA.out.at hx
                replace y0 := mr.cell y0
                replace y1 := mr.cell y1
                replace y2 := mr.cell y2
                replace y3 := mr.cell y3
                have hin := HCOV.out.ok.ins x (List.mem_of_getElem? hx)
                have hg1 : 1 ≤ x.g := hin.1.1
                have hg3 : x.g ≤ 3 := by have := hin.1.2; have := HGR.out; omega
                have hn1 : x.n ≤ R.1.gen := by have := hin.2; have := HT.out; omega
                have HX : Hid (R.2.xs[k]? = some x) := hx
                have t0 := heap_alloc_new wx (.cells #[.string x.lo, .string x.hi, .int .i64 x.g, .int .i64 x.n] 54)
                have mA : Moves [] wx (wx.alloc (.cells #[.string x.lo, .string x.hi, .int .i64 x.g, .int .i64 x.n] 54)) := (Moves.refl _ _).alloc _
                have mB : Moves [] wx ((wx.alloc (.cells #[.string x.lo, .string x.hi, .int .i64 x.g, .int .i64 x.n] 54)).alloc (.cells #[.string x.lo, .string x.hi] 37)) := mA.alloc _
                have mC : Moves [] (wx.alloc (.cells #[.string x.lo, .string x.hi, .int .i64 x.g, .int .i64 x.n] 54)) ((wx.alloc (.cells #[.string x.lo, .string x.hi, .int .i64 x.g, .int .i64 x.n] 54)).alloc (.cells #[.string x.lo, .string x.hi] 37)) := (Moves.refl _ _).alloc _
                replace t0 := mC.at t0 (by simp)
                have hnb : wx.heap.size ∉ vo.ownBlock.toList := fun h => by have := hO.lt (Option.mem_toList.1 h); omega
                have HTB : Hid (∀ w1, Moves vo.ownBlock.toList ((wx.alloc (.cells #[.string x.lo, .string x.hi, .int .i64 x.g, .int .i64 x.n] 54)).alloc (.cells #[.string x.lo, .string x.hi] 37)) w1 → w1.cell? ⟨wx.heap.size, 1, none⟩ = some (.string x.hi) ∧ w1.cell? ⟨wx.heap.size, 2, none⟩ = some (.int .i64 x.g) ∧ w1.cell? ⟨wx.heap.size, 3, none⟩ = some (.int .i64 x.n)) := by
                  intro w1 m1
                  have := m1.at t0 hnb
                  simp [World.cell?, this]
                have hO2 : Hid (OwnS ((wx.alloc (.cells #[.string x.lo, .string x.hi, .int .i64 x.g, .int .i64 x.n] 54)).alloc (.cells #[.string x.lo, .string x.hi] 37)) vo ((R.2.xs.take k).map Ptb.sp)) := hO.moves mB (by simp)
                have hsp : Hid (SpsAt ((wx.alloc (.cells #[.string x.lo, .string x.hi, .int .i64 x.g, .int .i64 x.n] 54)).alloc (.cells #[.string x.lo, .string x.hi] 37)) (some ⟨(wx.alloc (.cells #[.string x.lo, .string x.hi, .int .i64 x.g, .int .i64 x.n] 54)).heap.size, 0, none⟩) [x.sp]) := SpsAt.block (xs := [x.sp]) (heap_alloc_new _ _)
                rw [World.size_alloc] at hsp
                clear hx hO hin t0 hnb mA mC
                go_wp2_with (refine spans_append _ _ rfl _ _ _ _ ((R.2.xs.take k).map Ptb.sp) [x.sp] rfl rfl rfl hO2.out hsp.out rfl (by simp) (by have := hnA.out; simp; omega) ?_; intro v' w1 hO1 m1 hla; obtain ⟨ad', n', cap', rfl, hn'⟩ := hO1.open; obtain ⟨-, f2, f3⟩ := HTB.out w1 m1)
                go_roundw
                case rel =>
                  refine ⟨k + 1, _, by omega, rfl, by go_num, fresh_trans (mr.then mB) hF m1, ?_, lain_fresh hF (mr.then mB).size hla⟩
                  rw [List.take_add_one, HX.out]
                  simpa using hO1
                case measure => simp [intOf]; omega
              · obtain rfl : k = nA := by omega
                have hk3 : ¬ (k : Int) < k := by omega
                have e : R.2.xs.take k = R.2.xs := List.take_of_length_le (by have := hnA.out; omega)
                rw [e] at HO
                obtain ⟨ad', cap', rfl, -, -, hS⟩ := HO.out.at
                have hlen : (R.2.xs.map Ptb.sp).length = k := by rw [List.length_map]; exact hnA.out.symm
                rw [hlen]
                have hcov := rfCover7_w wx ad' k cap' _ hS hlen.symm (by omega)
                rw [HCOV.out.ok.cov] at hcov
                clear hS e hlen
                go_wp2_with fail
                refine hcov.mono ?_
                rintro _ wz ⟨rfl, mz⟩
                have h16 : ¬ (16 : Int) < (k : Int) := by omega
                have hwi : IntKind.i64.wrap ((i : Int) + 1) = (i1 : Int) := by rw [IntKind.wrap_i64]; have := HI1.out; omega
                have HF9 : Hid (Moves [] w9 wz) := (HMA.out.then mr).then mz
                have HTT : Hid (Value.int .i64 R.1.gen = .int .i64 R.2.last) := by unfold Hid; rw [HT.out]
                clear hcov
                go_wp2_with fail
                go_roundw
                case rel => exact ⟨i1, a2, R.2, by have := HI1.out; omega, by have := HI1.out; omega, HTT.out, by go_num, ⟨HB9.out.moves0 HF9.out, HCOV.out.ok, HGR.out, HCOV.out.ca, HLA1.out, HMV9.out.then HF9.out⟩⟩
                case measure => simp [intOf]; have := HI1.out; omega
          · have hc' : (R.1.code == 0) = false := beq_eq_false_iff_ne.2 hc
            have HT : Hid (S.last = R.2.last) := (HCOV.out.old (fun h => hc h.2.2)).symm
            have HLA1 : Hid (R.2.last ≤ (i1 : Int) + 1) := by have := HT.out; have := HLS.out; have := HI1.out; unfold Hid; omega
            clear u5
            go_wp2_with fail
            refine (mall_w w w9 p q c a2 R.2 HB9.out.is HCOV.out.ok).mono ?_
            rintro _ wA ⟨vA, rfl, hO, hF, mA⟩
            have HMA : Hid (Moves [] w9 wA) := mA
            obtain ⟨gA, hTA, -⟩ := hO.ex hF
            obtain ⟨adA, nA, capA, rfl, hnA, hcA, HLA⟩ := hTA.open
            have hA16 : nA ≤ 16 := by have := hnA.out; have := HCOV.out.ok.few; omega
            clear hO hF mA hTA
            go_wp2_with fail
            go_loopw [9, 64] (fun vu vi wx => ∃ (k : Nat) (vo : Value), k ≤ nA ∧ vo = vu ∧ vi = .int .i64 (k : Nat) ∧ Moves [] wA wx ∧ OwnS wx vo ((R.2.xs.take k).map Ptb.sp) ∧ Fresh wA vo) (fun _ vi _ => nA - (intOf vi).toNat)
            case atStart => exact ⟨0, _, Nat.zero_le _, rfl, rfl, Moves.refl _ _, OwnS.nil _, Fresh.nil _⟩
            case round =>
              obtain ⟨k, vo, hkn, rfl, rfl, mr, hO, hF⟩ := hrel
              obtain ⟨wx, hwx⟩ : ∃ wx, wx = wr := ⟨_, rfl⟩
              subst hwx
              have HO : Hid (OwnS wx vo ((R.2.xs.take k).map Ptb.sp)) := hO
              by_cases hk : k < nA
              · have hk3 : (k : Int) < nA := by omega
                obtain ⟨x, hx⟩ : ∃ x, R.2.xs[k]? = some x := ⟨_, List.getElem?_eq_getElem (by have := hnA.out; omega)⟩
                obtain ⟨off, rfl, y0, y1, y2, y3⟩ := HLA.out.at hx
                replace y0 := mr.cell y0
                replace y1 := mr.cell y1
                replace y2 := mr.cell y2
                replace y3 := mr.cell y3
                have hin := HCOV.out.ok.ins x (List.mem_of_getElem? hx)
                have hg1 : 1 ≤ x.g := hin.1.1
                have hg3 : x.g ≤ 3 := by have := hin.1.2; have := HGR.out; omega
                have hn1 : x.n ≤ S.last := by have := hin.2; have := HT.out; omega
                have HX : Hid (R.2.xs[k]? = some x) := hx
                have t0 := heap_alloc_new wx (.cells #[.string x.lo, .string x.hi, .int .i64 x.g, .int .i64 x.n] 54)
                have mA : Moves [] wx (wx.alloc (.cells #[.string x.lo, .string x.hi, .int .i64 x.g, .int .i64 x.n] 54)) := (Moves.refl _ _).alloc _
                have mB : Moves [] wx ((wx.alloc (.cells #[.string x.lo, .string x.hi, .int .i64 x.g, .int .i64 x.n] 54)).alloc (.cells #[.string x.lo, .string x.hi] 37)) := mA.alloc _
                have mC : Moves [] (wx.alloc (.cells #[.string x.lo, .string x.hi, .int .i64 x.g, .int .i64 x.n] 54)) ((wx.alloc (.cells #[.string x.lo, .string x.hi, .int .i64 x.g, .int .i64 x.n] 54)).alloc (.cells #[.string x.lo, .string x.hi] 37)) := (Moves.refl _ _).alloc _
                replace t0 := mC.at t0 (by simp)
                have hnb : wx.heap.size ∉ vo.ownBlock.toList := fun h => by have := hO.lt (Option.mem_toList.1 h); omega
                have HTB : Hid (∀ w1, Moves vo.ownBlock.toList ((wx.alloc (.cells #[.string x.lo, .string x.hi, .int .i64 x.g, .int .i64 x.n] 54)).alloc (.cells #[.string x.lo, .string x.hi] 37)) w1 → w1.cell? ⟨wx.heap.size, 1, none⟩ = some (.string x.hi) ∧ w1.cell? ⟨wx.heap.size, 2, none⟩ = some (.int .i64 x.g) ∧ w1.cell? ⟨wx.heap.size, 3, none⟩ = some (.int .i64 x.n)) := by
                  intro w1 m1
                  have := m1.at t0 hnb
                  simp [World.cell?, this]
                have hO2 : Hid (OwnS ((wx.alloc (.cells #[.string x.lo, .string x.hi, .int .i64 x.g, .int .i64 x.n] 54)).alloc (.cells #[.string x.lo, .string x.hi] 37)) vo ((R.2.xs.take k).map Ptb.sp)) := hO.moves mB (by simp)
                have hsp : Hid (SpsAt ((wx.alloc (.cells #[.string x.lo, .string x.hi, .int .i64 x.g, .int .i64 x.n] 54)).alloc (.cells #[.string x.lo, .string x.hi] 37)) (some ⟨(wx.alloc (.cells #[.string x.lo, .string x.hi, .int .i64 x.g, .int .i64 x.n] 54)).heap.size, 0, none⟩) [x.sp]) := SpsAt.block (xs := [x.sp]) (heap_alloc_new _ _)
                rw [World.size_alloc] at hsp
                clear hx hO hin t0 hnb mA mC
                go_wp2_with (refine spans_append _ _ rfl _ _ _ _ ((R.2.xs.take k).map Ptb.sp) [x.sp] rfl rfl rfl hO2.out hsp.out rfl (by simp) (by have := hnA.out; simp; omega) ?_; intro v' w1 hO1 m1 hla; obtain ⟨ad', n', cap', rfl, hn'⟩ := hO1.open; obtain ⟨-, f2, f3⟩ := HTB.out w1 m1)
                go_roundw
                case rel =>
                  refine ⟨k + 1, _, by omega, rfl, by go_num, fresh_trans (mr.then mB) hF m1, ?_, lain_fresh hF (mr.then mB).size hla⟩
                  rw [List.take_add_one, HX.out]
                  simpa using hO1
                case measure => simp [intOf]; omega
              · obtain rfl : k = nA := by omega
                have hk3 : ¬ (k : Int) < k := by omega
                have e : R.2.xs.take k = R.2.xs := List.take_of_length_le (by have := hnA.out; omega)
                rw [e] at HO
                obtain ⟨ad', cap', rfl, -, -, hS⟩ := HO.out.at
                have hlen : (R.2.xs.map Ptb.sp).length = k := by rw [List.length_map]; exact hnA.out.symm
                rw [hlen]
                have hcov := rfCover7_w wx ad' k cap' _ hS hlen.symm (by omega)
                rw [HCOV.out.ok.cov] at hcov
                clear hS e hlen
                go_wp2_with fail
                refine hcov.mono ?_
                rintro _ wz ⟨rfl, mz⟩
                have h16 : ¬ (16 : Int) < (k : Int) := by omega
                have hwi : IntKind.i64.wrap ((i : Int) + 1) = (i1 : Int) := by rw [IntKind.wrap_i64]; have := HI1.out; omega
                have HF9 : Hid (Moves [] w9 wz) := (HMA.out.then mr).then mz
                have HTT : Hid (Value.int .i64 S.last = .int .i64 R.2.last) := by unfold Hid; rw [HT.out]
                clear hcov
                go_wp2_with fail
                go_roundw
                case rel => exact ⟨i1, a2, R.2, by have := HI1.out; omega, by have := HI1.out; omega, HTT.out, by go_num, ⟨HB9.out.moves0 HF9.out, HCOV.out.ok, HGR.out, HCOV.out.ca, HLA1.out, HMV9.out.then HF9.out⟩⟩
                case measure => simp [intOf]; have := HI1.out; omega
      · have hz' : (C.kind == 8) = false := beq_eq_false_iff_ne.2 hz
        have HT : Hid (S.last = R.2.last) := (HCOV.out.old (fun h => hz h.1)).symm
        have HLA1 : Hid (R.2.last ≤ (i1 : Int) + 1) := by have := HT.out; have := HLS.out; have := HI1.out; unfold Hid; omega
        clear u0 u5 y17
        go_wp2_with fail
        refine (mall_w w w9 p q c a2 R.2 HB9.out.is HCOV.out.ok).mono ?_
        rintro _ wA ⟨vA, rfl, hO, hF, mA⟩
        have HMA : Hid (Moves [] w9 wA) := mA
        obtain ⟨gA, hTA, -⟩ := hO.ex hF
        obtain ⟨adA, nA, capA, rfl, hnA, hcA, HLA⟩ := hTA.open
        have hA16 : nA ≤ 16 := by have := hnA.out; have := HCOV.out.ok.few; omega
        clear hO hF mA hTA
        go_wp2_with fail
        go_loopw [9, 64] (fun vu vi wx => ∃ (k : Nat) (vo : Value), k ≤ nA ∧ vo = vu ∧ vi = .int .i64 (k : Nat) ∧ Moves [] wA wx ∧ OwnS wx vo ((R.2.xs.take k).map Ptb.sp) ∧ Fresh wA vo) (fun _ vi _ => nA - (intOf vi).toNat)
        case atStart => exact ⟨0, _, Nat.zero_le _, rfl, rfl, Moves.refl _ _, OwnS.nil _, Fresh.nil _⟩
        case round =>
          obtain ⟨k, vo, hkn, rfl, rfl, mr, hO, hF⟩ := hrel
          obtain ⟨wx, hwx⟩ : ∃ wx, wx = wr := ⟨_, rfl⟩
          subst hwx
          have HO : Hid (OwnS wx vo ((R.2.xs.take k).map Ptb.sp)) := hO
          by_cases hk : k < nA
          · have hk3 : (k : Int) < nA := by omega
            obtain ⟨x, hx⟩ : ∃ x, R.2.xs[k]? = some x := ⟨_, List.getElem?_eq_getElem (by have := hnA.out; omega)⟩
            obtain ⟨off, rfl, y0, y1, y2, y3⟩ := HLA.out.at hx
            replace y0 := mr.cell y0
            replace y1 := mr.cell y1
            replace y2 := mr.cell y2
            replace y3 := mr.cell y3
            have hin := HCOV.out.ok.ins x (List.mem_of_getElem? hx)
            have hg1 : 1 ≤ x.g := hin.1.1
            have hg3 : x.g ≤ 3 := by have := hin.1.2; have := HGR.out; omega
            have hn1 : x.n ≤ S.last := by have := hin.2; have := HT.out; omega
            have HX : Hid (R.2.xs[k]? = some x) := hx
            have t0 := heap_alloc_new wx (.cells #[.string x.lo, .string x.hi, .int .i64 x.g, .int .i64 x.n] 54)
            have mA : Moves [] wx (wx.alloc (.cells #[.string x.lo, .string x.hi, .int .i64 x.g, .int .i64 x.n] 54)) := (Moves.refl _ _).alloc _
            have mB : Moves [] wx ((wx.alloc (.cells #[.string x.lo, .string x.hi, .int .i64 x.g, .int .i64 x.n] 54)).alloc (.cells #[.string x.lo, .string x.hi] 37)) := mA.alloc _
            have mC : Moves [] (wx.alloc (.cells #[.string x.lo, .string x.hi, .int .i64 x.g, .int .i64 x.n] 54)) ((wx.alloc (.cells #[.string x.lo, .string x.hi, .int .i64 x.g, .int .i64 x.n] 54)).alloc (.cells #[.string x.lo, .string x.hi] 37)) := (Moves.refl _ _).alloc _
            replace t0 := mC.at t0 (by simp)
            have hnb : wx.heap.size ∉ vo.ownBlock.toList := fun h => by have := hO.lt (Option.mem_toList.1 h); omega
            have HTB : Hid (∀ w1, Moves vo.ownBlock.toList ((wx.alloc (.cells #[.string x.lo, .string x.hi, .int .i64 x.g, .int .i64 x.n] 54)).alloc (.cells #[.string x.lo, .string x.hi] 37)) w1 → w1.cell? ⟨wx.heap.size, 1, none⟩ = some (.string x.hi) ∧ w1.cell? ⟨wx.heap.size, 2, none⟩ = some (.int .i64 x.g) ∧ w1.cell? ⟨wx.heap.size, 3, none⟩ = some (.int .i64 x.n)) := by
              intro w1 m1
              have := m1.at t0 hnb
              simp [World.cell?, this]
            have hO2 : Hid (OwnS ((wx.alloc (.cells #[.string x.lo, .string x.hi, .int .i64 x.g, .int .i64 x.n] 54)).alloc (.cells #[.string x.lo, .string x.hi] 37)) vo ((R.2.xs.take k).map Ptb.sp)) := hO.moves mB (by simp)
            have hsp : Hid (SpsAt ((wx.alloc (.cells #[.string x.lo, .string x.hi, .int .i64 x.g, .int .i64 x.n] 54)).alloc (.cells #[.string x.lo, .string x.hi] 37)) (some ⟨(wx.alloc (.cells #[.string x.lo, .string x.hi, .int .i64 x.g, .int .i64 x.n] 54)).heap.size, 0, none⟩) [x.sp]) := SpsAt.block (xs := [x.sp]) (heap_alloc_new _ _)
            rw [World.size_alloc] at hsp
            clear hx hO hin t0 hnb mA mC
            go_wp2_with (refine spans_append _ _ rfl _ _ _ _ ((R.2.xs.take k).map Ptb.sp) [x.sp] rfl rfl rfl hO2.out hsp.out rfl (by simp) (by have := hnA.out; simp; omega) ?_; intro v' w1 hO1 m1 hla; obtain ⟨ad', n', cap', rfl, hn'⟩ := hO1.open; obtain ⟨-, f2, f3⟩ := HTB.out w1 m1)
            go_roundw
            case rel =>
              refine ⟨k + 1, _, by omega, rfl, by go_num, fresh_trans (mr.then mB) hF m1, ?_, lain_fresh hF (mr.then mB).size hla⟩
              rw [List.take_add_one, HX.out]
              simpa using hO1
            case measure => simp [intOf]; omega
          · obtain rfl : k = nA := by omega
            have hk3 : ¬ (k : Int) < k := by omega
            have e : R.2.xs.take k = R.2.xs := List.take_of_length_le (by have := hnA.out; omega)
            rw [e] at HO
            obtain ⟨ad', cap', rfl, -, -, hS⟩ := HO.out.at
            have hlen : (R.2.xs.map Ptb.sp).length = k := by rw [List.length_map]; exact hnA.out.symm
            rw [hlen]
            have hcov := rfCover7_w wx ad' k cap' _ hS hlen.symm (by omega)
            rw [HCOV.out.ok.cov] at hcov
            clear hS e hlen
            go_wp2_with fail
            refine hcov.mono ?_
            rintro _ wz ⟨rfl, mz⟩
            have h16 : ¬ (16 : Int) < (k : Int) := by omega
            have hwi : IntKind.i64.wrap ((i : Int) + 1) = (i1 : Int) := by rw [IntKind.wrap_i64]; have := HI1.out; omega
            have HF9 : Hid (Moves [] w9 wz) := (HMA.out.then mr).then mz
            have HTT : Hid (Value.int .i64 S.last = .int .i64 R.2.last) := by unfold Hid; rw [HT.out]
            clear hcov
            go_wp2_with fail
            go_roundw
            case rel => exact ⟨i1, a2, R.2, by have := HI1.out; omega, by have := HI1.out; omega, HTT.out, by go_num, ⟨HB9.out.moves0 HF9.out, HCOV.out.ok, HGR.out, HCOV.out.ca, HLA1.out, HMV9.out.then HF9.out⟩⟩
            case measure => simp [intOf]; have := HI1.out; omega
    · clear HD
      have HMV : Hid (Moves [] w wr) := HG.out.mv
      clear HG
      by_cases hl1 : i < n
      · have hk1 : (i : Int) < n := by omega
        have hk2 : ¬ (i : Int) < 60 := by omega
        clear hlt
        go_wp2_with fail
        refine (known12_w wr).mono ?_
        rintro _ wo ⟨rfl, mo⟩
        go_wp2_with fail
        go_ret
        exact ⟨rfl, HMV.out.then mo⟩
      · have hk1 : ¬ (i : Int) < n := by omega
        clear hlt
        go_wp2_with fail
        refine (known12_w wr).mono ?_
        rintro _ wo ⟨rfl, mo⟩
        go_wp2_with fail
        go_ret
        exact ⟨rfl, HMV.out.then mo⟩
end Go.Proofs.YtilbbnmhnacnlaaGreat
