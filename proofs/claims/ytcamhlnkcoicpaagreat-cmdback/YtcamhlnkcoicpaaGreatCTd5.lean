/-
  change.TakeCond of any bytes.
-/
import Derived.Test.YtcamhlnkcoicpaaGreatCTc5
namespace Go.Proofs.YtcamhlnkcoicpaaGreat
open Go.RowKit

/-- A condition, as plain data. -/
structure Pcd where
  has : Bool
  want : Bool
  col : ByteArray
  v : Pv
def cdz : Pcd := ⟨false, false, ⟨#[]⟩, pz⟩
def cdGuard (c : Pcd) (bs : List Nat) : Option (Pcd × List Nat) := if pname c.col then some (c, bs) else none
def dCdK (k : Nat) : List Nat → Option (Pcd × List Nat) :=
  if k = 0 then fun bs => some (cdz, bs)
  else if k = 1 then pbn (dText 16) fun tx => cdGuard ⟨true, false, strOf tx, pz⟩
  else if k = 2 then pbn (dText 16) fun tx => pbn dVal fun v => cdGuard ⟨true, true, strOf tx, v⟩
  else fun _ => none
theorem dCdK0 {k : Nat} (h : k = 0) : dCdK k = fun bs => some (cdz, bs) := by unfold dCdK; rw [if_pos h]
theorem dCdK1 {k : Nat} (h : k = 1) : dCdK k = pbn (dText 16) fun tx => cdGuard ⟨true, false, strOf tx, pz⟩ := by unfold dCdK; rw [if_neg (by omega), if_pos h]
theorem dCdK2 {k : Nat} (h : k = 2) : dCdK k = pbn (dText 16) fun tx => pbn dVal fun v => cdGuard ⟨true, true, strOf tx, v⟩ := by unfold dCdK; rw [if_neg (by omega), if_neg (by omega), if_pos h]
theorem dCdK3 {k : Nat} (h : 3 ≤ k) : dCdK k = fun _ => none := by unfold dCdK; rw [if_neg (by omega), if_neg (by omega), if_neg (by omega)]
theorem cdGuard_yes {c : Pcd} (h : pname c.col = true) (bs : List Nat) : cdGuard c bs = some (c, bs) := if_pos h
theorem cdGuard_no {c : Pcd} (h : pname c.col = false) (bs : List Nat) : cdGuard c bs = none := by unfold cdGuard; rw [h]; rfl
/-- What change.TakeCond reads. -/
def dCd : List Nat → Option (Pcd × List Nat) := pbn (dNum 1) dCdK
/-- A condition in memory of one's own. -/
def CdD (w : World) (c : List Value) (x : Pcd) : Prop := ∃ a n cap, c = [.bool x.has, .bool x.want, .string x.col, .int .i64 x.v.kind, .slice a n cap, .float .f64 x.v.n] ∧ VC w [.int .i64 x.v.kind, .slice a n cap, .float .f64 x.v.n] x.v
def TookD (w0 : World) (r g : Nat) (o : Option (Pcd × List Nat)) (e : Ending) (w' : World) : Prop := match o with
  | some (p, rest) => ∃ c, e = .returned (.agg c.toArray) ∧ CdD w' c p ∧ RdIs w' r g rest false ∧ Moves [r] w0 w'
  | none => e = .panicked (stop r) ∧ (∃ bs', RdIs w' r g bs' true) ∧ Moves [r] w0 w'
theorem Tryz.size30 : (Tryz.prog.info? 30).map (·.size) = some 6 := by kernel_rfl
theorem ret_cond {fn : Func} {p : Tmp} (h : fn.results = #[.cell p 30]) (tmps : Array Value) (w : World) (g : Nat) (x0 x1 x2 x3 x4 x5 : Value) (hp : tmps.getD p undef = .pointer (some ⟨g, 0, none⟩)) (hg : w.heap[g]? = some (.cells #[x0, x1, x2, x3, x4, x5] 30 (0, 0))) :
    (results fn tmps).run Tryz.prog w = .ok (.agg #[x0, x1, x2, x3, x4, x5]) w :=
  results_cell_row h tmps w g 30 _ (0, 0) _ hp hg Tryz.underlying30 rfl Tryz.size30

set_option maxRecDepth 100000 in
set_option maxHeartbeats 32000000 in
theorem cdTake_w (N r g : Nat) (bs : List Nat) (w : World) (h : RdIs w r g bs false) (ho : OctN N bs) (hg : g < w.heap.size) :
    Calls Tryz.prog 145 #[.pointer (some ⟨r, 0, none⟩)] w fun e w' => TookD w r g (dCd bs) e w' := by
  have T0 := ((TkB.start h ho hg).new #[.bool false, .bool false, .string ⟨#[]⟩, .int .i64 0, .slice none 0 0, .float .f64 0] 30).new #[.bool false, .bool false, .string ⟨#[]⟩, .int .i64 0, .slice none 0 0, .float .f64 0] 30
  obtain ⟨R, hR⟩ : ∃ R, w.heap.size = R := ⟨_, rfl⟩
  have hsz : (w.alloc (.cells #[.bool false, .bool false, .string ⟨#[]⟩, .int .i64 0, .slice none 0 0, .float .f64 0] 30)).heap.size = R + 1 := by rw [← hR]; simp
  rw [hR, hsz] at T0
  have hpe : ∀ w1 : World, (binOp .eql 110 (.pointer (some ⟨r, 0, none⟩)) (.pointer none)).run Tryz.prog w1 = .ok (.bool false) w1 := by intro w1; kernel_rfl
  have hc := rbyteD_w N r g bs _ T0.rd ho
  have D0 : Hid (dCd bs = pbn (dNum 1) dCdK bs) := rfl
  have HT0 : Hid (TkB N w ((w.alloc (.cells #[.bool false, .bool false, .string ⟨#[]⟩, .int .i64 0, .slice none 0 0, .float .f64 0] 30)).alloc (.cells #[.bool false, .bool false, .string ⟨#[]⟩, .int .i64 0, .slice none 0 0, .float .f64 0] 30)) r g bs [(R, #[.bool false, .bool false, .string ⟨#[]⟩, .int .i64 0, .slice none 0 0, .float .f64 0], 30), (R + 1, #[.bool false, .bool false, .string ⟨#[]⟩, .int .i64 0, .slice none 0 0, .float .f64 0], 30)]) := T0
  clear T0
  go_enter Tryz.func145, Tryz.ntmps145
  go_wp2_with fail
  cases e1 : dNum 1 bs with
  | none =>
    rw [e1] at hc
    refine hc.mono ?_
    rintro _ w1 ⟨rfl, hr1, m1⟩
    refine ⟨rfl, ?_⟩
    show TookD w r g (dCd bs) _ _
    rw [D0.out, pbn_none e1]
    exact ⟨rfl, ⟨_, hr1⟩, HT0.out.mv.then m1⟩
  | some pr =>
    obtain ⟨k, b1⟩ := pr
    rw [e1] at hc
    obtain ⟨ho1, hk⟩ := dNum_oct e1 ho
    have D1 : Hid (dCd bs = dCdK k b1) := D0.out.trans (pbn_some e1)
    refine hc.mono ?_
    rintro _ w1 ⟨rfl, hr1, m1⟩
    obtain ⟨B, hB⟩ : ∃ B, R + 1 = B := ⟨_, rfl⟩
    rw [hB] at HT0 ⊢
    have HT1 : Hid (TkB N w w1 r g b1 [(R, #[.bool false, .bool false, .string ⟨#[]⟩, .int .i64 0, .slice none 0 0, .float .f64 0], 30), (B, #[.bool false, .bool false, .string ⟨#[]⟩, .int .i64 0, .slice none 0 0, .float .f64 0], 30)]) := HT0.out.read hr1 m1 ho1
    clear hc hr1 m1 HT0 D0 e1 hsz
    obtain ⟨y0, y1, y2, y3, y4, y5, z0, z1, z2, z3, z4, z5⟩ := six_frozen (HT1.out.at 1 rfl)
    by_cases hK0 : k = 0
    · have hK := hK0
      have D2 := D1.out
      rw [dCdK0 hK] at D2
      have HD2 : Hid (dCd bs = _) := D2
      clear D2 D1
      obtain rfl : k = 0 := hK
      obtain ⟨q0, q1, q2, q3, q4, q5, t0, t1, t2, t3, t4, t5⟩ := six_frozen (HT1.out.at 0 rfl)
      go_wp2_with fail
      have so := stored6n (HT1.out.at 0 rfl) (.bool false) (.bool false) (.string ⟨#[]⟩) (.int .i64 0) (.slice none 0 0) (.float .f64 0)
      have T10 := HT1.out.set 0 rfl so.2 so.1
      refine bodyPost_ret (ret_cond rfl _ _ _ _ _ _ _ _ _ rfl so.1) rfl ?_
      show TookD w r g (dCd bs) _ _
      rw [HD2.out]
      exact ⟨_, rfl, ⟨_, _, _, rfl, vc_pz _⟩, T10.rd, T10.mv⟩
    · by_cases hK1 : k = 1
      · have hK := hK1
        have D2 := D1.out
        rw [dCdK1 hK] at D2
        have HD2 : Hid (dCd bs = _) := D2
        clear D2 D1
        obtain rfl : k = 1 := hK
        have hc := chTakeCol_w N r g b1 w1 HT1.out.rd HT1.out.oct
        go_wp2_with fail
        cases e3 : dText 16 b1 with
        | none =>
          rw [e3] at hc
          refine hc.mono ?_
          rintro _ w3 ⟨rfl, hr3, m3⟩
          refine ⟨rfl, ?_⟩
          show TookD w r g (dCd bs) _ _
          rw [HD2.out, pbn_none e3]
          exact ⟨rfl, ⟨_, hr3⟩, HT1.out.mv.then m3⟩
        | some pr =>
          obtain ⟨tx, b3⟩ := pr
          rw [e3] at hc
          obtain ⟨z, hz⟩ : ∃ z, strOf tx = z := ⟨_, rfl⟩
          have D3 := HD2.out.trans (pbn_some e3)
          simp only [hz] at D3
          dsimp only at hc
          rw [hz] at hc
          refine hc.mono ?_
          rintro _ w3 ⟨rfl, hr3, m3⟩
          have HD3 : Hid (dCd bs = _) := D3
          have T3 := HT1.out.read hr3 m3 (dText_rest e3 HT1.out.oct)
          clear y0 y1 y2 y3 y4 y5 z0 z1 z2 z3 z4 z5
          obtain ⟨y0, y1, y2, y3, y4, y5, z0, z1, z2, z3, z4, z5⟩ := six_frozen (T3.at 1 rfl)
          have so := stored6n (T3.at 1 rfl) (.bool true) (.bool false) (.string z) (.int .i64 0) (.slice none 0 0) (.float .f64 0)
          have T4 := T3.set 1 rfl so.2 so.1
          obtain ⟨v4, hv4⟩ : ∃ v4, ((((((w3).setCell ⟨B, 0, none⟩ (.bool true)).setCell ⟨B, 1, none⟩ (.bool false)).setCell ⟨B, 2, none⟩ (.string z)).setCell ⟨B, 3, none⟩ (.int .i64 0)).setCell ⟨B, 4, none⟩ (.slice none 0 0)).setCell ⟨B, 5, none⟩ (.float .f64 0) = v4 := ⟨_, rfl⟩
          rw [hv4] at T4
          have HT4 : Hid (TkB N w v4 r g b3 [(R, #[.bool false, .bool false, .string ⟨#[]⟩, .int .i64 0, .slice none 0 0, .float .f64 0], 30), (B, #[.bool true, .bool false, .string z, .int .i64 0, .slice none 0 0, .float .f64 0], 30)]) := T4
          have Y := six_frozen (T4.at 1 rfl)
          clear hc hr3 m3 T3 T4 D3 HT1 HD2 e3 so
          obtain ⟨p0, p1, p2, p3, p4, p5, u0, u1, u2, u3, u4, u5⟩ := Y
          generalize hpn : pname z = pn
          go_wp2_with fail
          clear hv4 p0 p1 p2 p3 p4 p5 u0 u1 u2 u3 u4 u5
          refine (name_w _ _).mono ?_
          rintro _ _ ⟨rfl, rfl⟩
          rw [hpn]
          cases pn with
          | true =>
            have hD9 : dCd bs = some (⟨true, false, z, pz⟩, b3) := by rw [HD3.out]; exact cdGuard_yes hpn _
            have HD9 : Hid (dCd bs = some (⟨true, false, z, pz⟩, b3)) := hD9
            clear hD9
            obtain ⟨q0, q1, q2, q3, q4, q5, t0, t1, t2, t3, t4, t5⟩ := six_frozen (HT4.out.at 0 rfl)
            clear y0 y1 y2 y3 y4 y5 z0 z1 z2 z3 z4 z5
            obtain ⟨y0, y1, y2, y3, y4, y5, z0, z1, z2, z3, z4, z5⟩ := six_frozen (HT4.out.at 1 rfl)
            go_wp2_with fail
            have so := stored6n (HT4.out.at 0 rfl) (.bool true) (.bool false) (.string z) (.int .i64 0) (.slice none 0 0) (.float .f64 0)
            have T10 := HT4.out.set 0 rfl so.2 so.1
            refine bodyPost_ret (ret_cond rfl _ _ _ _ _ _ _ _ _ rfl so.1) rfl ?_
            show TookD w r g (dCd bs) _ _
            rw [HD9.out]
            exact ⟨_, rfl, ⟨_, _, _, rfl, vc_pz _⟩, T10.rd, T10.mv⟩
          | false =>
            have HD9 : Hid (dCd bs = none) := by unfold Hid; rw [HD3.out]; exact cdGuard_no hpn _
            go_wp2_with fail
            refine (rfail_w r g _ _ HT4.out.rd).mono ?_
            rintro _ w10 ⟨rfl, hr, m⟩
            refine ⟨rfl, ?_⟩
            show TookD w r g (dCd bs) _ _
            rw [HD9.out]
            exact ⟨rfl, ⟨_, hr⟩, HT4.out.mv.then m⟩
      · by_cases hK2 : k = 2
        · have hK := hK2
          have D2 := D1.out
          rw [dCdK2 hK] at D2
          have HD2 : Hid (dCd bs = _) := D2
          clear D2 D1
          obtain rfl : k = 2 := hK
          have hc := chTakeCol_w N r g b1 w1 HT1.out.rd HT1.out.oct
          go_wp2_with fail
          cases e3 : dText 16 b1 with
          | none =>
            rw [e3] at hc
            refine hc.mono ?_
            rintro _ w3 ⟨rfl, hr3, m3⟩
            refine ⟨rfl, ?_⟩
            show TookD w r g (dCd bs) _ _
            rw [HD2.out, pbn_none e3]
            exact ⟨rfl, ⟨_, hr3⟩, HT1.out.mv.then m3⟩
          | some pr =>
            obtain ⟨tx, b3⟩ := pr
            rw [e3] at hc
            obtain ⟨z, hz⟩ : ∃ z, strOf tx = z := ⟨_, rfl⟩
            have D3 := HD2.out.trans (pbn_some e3)
            simp only [hz] at D3
            dsimp only at hc
            rw [hz] at hc
            refine hc.mono ?_
            rintro _ w3 ⟨rfl, hr3, m3⟩
            have HD3 : Hid (dCd bs = _) := D3
            have T3 := HT1.out.read hr3 m3 (dText_rest e3 HT1.out.oct)
            clear y0 y1 y2 y3 y4 y5 z0 z1 z2 z3 z4 z5
            obtain ⟨y0, y1, y2, y3, y4, y5, z0, z1, z2, z3, z4, z5⟩ := six_frozen (T3.at 1 rfl)
            have so := stored6n (T3.at 1 rfl) (.bool true) (.bool true) (.string z) (.int .i64 0) (.slice none 0 0) (.float .f64 0)
            have T4 := T3.set 1 rfl so.2 so.1
            obtain ⟨v4, hv4⟩ : ∃ v4, ((((((w3).setCell ⟨B, 0, none⟩ (.bool true)).setCell ⟨B, 1, none⟩ (.bool true)).setCell ⟨B, 2, none⟩ (.string z)).setCell ⟨B, 3, none⟩ (.int .i64 0)).setCell ⟨B, 4, none⟩ (.slice none 0 0)).setCell ⟨B, 5, none⟩ (.float .f64 0) = v4 := ⟨_, rfl⟩
            rw [hv4] at T4
            have HT4 : Hid (TkB N w v4 r g b3 [(R, #[.bool false, .bool false, .string ⟨#[]⟩, .int .i64 0, .slice none 0 0, .float .f64 0], 30), (B, #[.bool true, .bool true, .string z, .int .i64 0, .slice none 0 0, .float .f64 0], 30)]) := T4
            have Y := six_frozen (T4.at 1 rfl)
            clear hc hr3 m3 T3 T4 D3 HT1 HD2 e3 so
            obtain ⟨p0, p1, p2, p3, p4, p5, u0, u1, u2, u3, u4, u5⟩ := Y
            generalize hpn : pname z = pn
            have hc := vgetD_w N r g b3 v4 HT4.out.rd HT4.out.oct
            go_wp2_with fail
            clear hv4 p0 p1 p2 p3 p4 p5 u0 u1 u2 u3 u4 u5
            cases e7 : dVal b3 with
            | none =>
              rw [e7] at hc
              refine hc.mono ?_
              rintro _ w7 ⟨rfl, hr7, m7⟩
              refine ⟨rfl, ?_⟩
              show TookD w r g (dCd bs) _ _
              rw [HD3.out, pbn_none e7]
              exact ⟨rfl, hr7, HT4.out.mv.then m7⟩
            | some pr =>
              obtain ⟨pv, b7⟩ := pr
              rw [e7] at hc
              have D7 := HD3.out.trans (pbn_some e7)
              refine hc.mono ?_
              rintro _ w7 ⟨va, vn, vcap, rfl, hvc, hr7, m7⟩
              have HD7 : Hid (dCd bs = _) := D7
              have T7 := HT4.out.read hr7 m7 (dVal_rest e7 HT4.out.oct)
              clear y0 y1 y2 y3 y4 y5 z0 z1 z2 z3 z4 z5
              obtain ⟨y0, y1, y2, y3, y4, y5, z0, z1, z2, z3, z4, z5⟩ := six_frozen (T7.at 1 rfl)
              have so := stored3n (T7.at 1 rfl) (.int .i64 pv.kind) (.slice va vn vcap) (.float .f64 pv.n)
              have T8 := T7.set 1 rfl so.2 so.1
              have hvc8 := hvc.box so.2 (T7.at 1 rfl) (by decide)
              obtain ⟨v8, hv8⟩ : ∃ v8, ((w7.setCell ⟨B, 3, none⟩ (.int .i64 pv.kind)).setCell ⟨B, 4, none⟩ (.slice va vn vcap)).setCell ⟨B, 5, none⟩ (.float .f64 pv.n) = v8 := ⟨_, rfl⟩
              rw [hv8] at T8 hvc8
              have HT8 : Hid (TkB N w v8 r g b7 [(R, #[.bool false, .bool false, .string ⟨#[]⟩, .int .i64 0, .slice none 0 0, .float .f64 0], 30), (B, #[.bool true, .bool true, .string z, .int .i64 pv.kind, .slice va vn vcap, .float .f64 pv.n], 30)]) := T8
              have HV8 : Hid (VC v8 [.int .i64 pv.kind, .slice va vn vcap, .float .f64 pv.n] pv) := hvc8
              have Y := six_frozen (T8.at 1 rfl)
              clear hc hr7 m7 T7 T8 D7 HT4 HD3 e7 so hvc hvc8
              obtain ⟨p0, p1, p2, p3, p4, p5, u0, u1, u2, u3, u4, u5⟩ := Y
              go_wp2_with fail
              clear hv8 p0 p1 p2 p3 p4 p5 u0 u1 u2 u3 u4 u5
              refine (name_w _ _).mono ?_
              rintro _ _ ⟨rfl, rfl⟩
              rw [hpn]
              cases pn with
              | true =>
                have hD9 : dCd bs = some (⟨true, true, z, pv⟩, b7) := by rw [HD7.out]; exact cdGuard_yes hpn _
                have HD9 : Hid (dCd bs = some (⟨true, true, z, pv⟩, b7)) := hD9
                clear hD9
                obtain ⟨q0, q1, q2, q3, q4, q5, t0, t1, t2, t3, t4, t5⟩ := six_frozen (HT8.out.at 0 rfl)
                clear y0 y1 y2 y3 y4 y5 z0 z1 z2 z3 z4 z5
                obtain ⟨y0, y1, y2, y3, y4, y5, z0, z1, z2, z3, z4, z5⟩ := six_frozen (HT8.out.at 1 rfl)
                go_wp2_with fail
                have so := stored6n (HT8.out.at 0 rfl) (.bool true) (.bool true) (.string z) (.int .i64 pv.kind) (.slice va vn vcap) (.float .f64 pv.n)
                have T10 := HT8.out.set 0 rfl so.2 so.1
                refine bodyPost_ret (ret_cond rfl _ _ _ _ _ _ _ _ _ rfl so.1) rfl ?_
                show TookD w r g (dCd bs) _ _
                rw [HD9.out]
                exact ⟨_, rfl, ⟨_, _, _, rfl, HV8.out.box so.2 (HT8.out.at 0 rfl) (by decide)⟩, T10.rd, T10.mv⟩
              | false =>
                have HD9 : Hid (dCd bs = none) := by unfold Hid; rw [HD7.out]; exact cdGuard_no hpn _
                go_wp2_with fail
                refine (rfail_w r g _ _ HT8.out.rd).mono ?_
                rintro _ w10 ⟨rfl, hr, m⟩
                refine ⟨rfl, ?_⟩
                show TookD w r g (dCd bs) _ _
                rw [HD9.out]
                exact ⟨rfl, ⟨_, hr⟩, HT8.out.mv.then m⟩
        · have hK : 3 ≤ k := by omega
          have D2 := D1.out
          rw [dCdK3 hK] at D2
          have HD2 : Hid (dCd bs = _) := D2
          clear D2 D1
          have n1 : ((k : Int) == 1) = false := beq_eq_false_iff_ne.2 (by omega)
          have n2 : ((k : Int) == 2) = false := beq_eq_false_iff_ne.2 (by omega)
          have n3 : (2 : Int) < (k : Int) := by omega
          go_wp2_with fail
          refine (rfail_w r g _ _ HT1.out.rd).mono ?_
          rintro _ w10 ⟨rfl, hr, m⟩
          refine ⟨rfl, ?_⟩
          show TookD w r g (dCd bs) _ _
          rw [HD2.out]
          exact ⟨rfl, ⟨_, hr⟩, HT1.out.mv.then m⟩
end Go.Proofs.YtcamhlnkcoicpaaGreat
