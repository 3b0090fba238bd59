/-
  change.Take of any bytes.
-/
import Derived.Test.YtcamhlnkcoicpaaGreatCBx0
import Derived.Test.YtcamhlnkcoicpaaGreatCKeep5
import Derived.Test.YtcamhlnkcoicpaaGreatCB21
import Derived.Test.YtcamhlnkcoicpaaGreatCB23
namespace Go.Proofs.YtcamhlnkcoicpaaGreat
open Go.RowKit

set_option maxRecDepth 100000 in
theorem chTakeCol_w (N r g : Nat) (bs : List Nat) (w : World) (h : RdIs w r g bs false) (ho : OctN N bs) :
    Calls Tryz.prog 164 #[.pointer (some ⟨r, 0, none⟩)] w fun e w' => match dText 16 bs with
      | some (tx, rest) => e = .returned (.string (strOf tx)) ∧ RdIs w' r g rest false ∧ Moves [r] w w'
      | none => e = .panicked (stop r) ∧ RdIs w' r g bs true ∧ Moves [r] w w' := by
  cases hd : dText 16 bs with
  | some pr =>
    obtain ⟨tx, rest⟩ := pr
    obtain ⟨h1, h2, h3⟩ := dText_yes hd
    have hR := rtextr_w r g bs 16 w h ho.2 h1
    rw [h2, h3] at hR
    have hz := (dText_text hd ho).1
    clear h1 h2 h3 hd
    dsimp only
    obtain ⟨z, hzz⟩ : ∃ z, strOf tx = z := ⟨_, rfl⟩
    rw [hzz]
    go_enter Tryz.func164, Tryz.ntmps164
    go_wp2_with fail
    refine hR.mono ?_
    rintro _ w2 ⟨v, rfl, hO, hr, m, _⟩
    have hrun := run_str hO.isB hz
    rw [hzz] at hrun
    go_wp2_with fail
    go_ret
    exact ⟨rfl, hr, m⟩
  | none =>
    have hR := rtextr_fail_w r g bs 16 w h ho.2 (dText_no hd)
    go_enter Tryz.func164, Tryz.ntmps164
    go_wp2_with fail
    refine hR.mono ?_
    rintro _ w2 ⟨rfl, hr, m⟩
    exact ⟨rfl, rfl, hr, m⟩

def pz : Pv := ⟨0, [], 0⟩
def i64of (n : Nat) : Int := IntKind.i64.wrap (n : Int)
def chgGuard (c : Pchg) (bs : List Nat) : Option (Pchg × List Nat) := if cRight c = 0 then some (c, bs) else none
def dChgK (k : Nat) : List Nat → Option (Pchg × List Nat) :=
  if k = 4 then chgGuard ⟨(k : Int), ⟨#[]⟩, 0, pz⟩
  else if k = 3 then pbn (dText 16) fun tx => chgGuard ⟨(k : Int), strOf tx, 0, pz⟩
  else if k = 2 then pbn (dText 16) fun tx => pbn (dNum 8) fun t => chgGuard ⟨(k : Int), strOf tx, i64of t, pz⟩
  else if k = 1 ∨ k = 5 then pbn (dText 16) fun tx => pbn (dNum 8) fun t => pbn dVal fun v => chgGuard ⟨(k : Int), strOf tx, i64of t, v⟩
  else fun _ => none
theorem dChgK4 {k : Nat} (h : k = 4) : dChgK k = chgGuard ⟨(k : Int), ⟨#[]⟩, 0, pz⟩ := by unfold dChgK; rw [if_pos h]
theorem dChgK3 {k : Nat} (h : k = 3) : dChgK k = pbn (dText 16) fun tx => chgGuard ⟨(k : Int), strOf tx, 0, pz⟩ := by unfold dChgK; rw [if_neg (by omega), if_pos h]
theorem dChgK2 {k : Nat} (h : k = 2) : dChgK k = pbn (dText 16) fun tx => pbn (dNum 8) fun t => chgGuard ⟨(k : Int), strOf tx, i64of t, pz⟩ := by unfold dChgK; rw [if_neg (by omega), if_neg (by omega), if_pos h]
theorem dChgK15 {k : Nat} (h : k = 1 ∨ k = 5) : dChgK k = pbn (dText 16) fun tx => pbn (dNum 8) fun t => pbn dVal fun v => chgGuard ⟨(k : Int), strOf tx, i64of t, v⟩ := by unfold dChgK; rw [if_neg (by omega), if_neg (by omega), if_neg (by omega), if_pos h]
theorem dChgK0 {k : Nat} (h : ¬ (1 ≤ k ∧ k ≤ 5)) : dChgK k = fun _ => none := by unfold dChgK; rw [if_neg (by omega), if_neg (by omega), if_neg (by omega), if_neg (by omega)]
theorem chgGuard_yes {c : Pchg} (h : cRight c = 0) (bs : List Nat) : chgGuard c bs = some (c, bs) := if_pos h
theorem chgGuard_no {c : Pchg} (h : ¬ cRight c = 0) (bs : List Nat) : chgGuard c bs = none := if_neg h
/-- What change.Take reads. -/
def dChg : List Nat → Option (Pchg × List Nat) := pbn (dNum 1) dChgK
/-- A change in memory of one's own. -/
def ChgD (w : World) (c : List Value) (x : Pchg) : Prop := ∃ a n cap, c = [.int .i64 x.kind, .string x.col, .int .i64 x.t, .int .i64 x.v.kind, .slice a n cap, .float .f64 x.v.n] ∧ VC w [.int .i64 x.v.kind, .slice a n cap, .float .f64 x.v.n] x.v
def TookCh (w0 : World) (r g : Nat) (o : Option (Pchg × List Nat)) (e : Ending) (w' : World) : Prop := match o with
  | some (p, rest) => ∃ c, e = .returned (.agg c.toArray) ∧ ChgD w' c p ∧ RdIs w' r g rest false ∧ Moves [r] w0 w'
  | none => e = .panicked (stop r) ∧ (∃ bs', RdIs w' r g bs' true) ∧ Moves [r] w0 w'
theorem vc_pz (w : World) : VC w [.int .i64 pz.kind, .slice none 0 0, .float .f64 pz.n] pz := ⟨none, 0, 0, 0, rfl, isB_nil _ _, fits_zero, by simp [pz], by simp [pz], .inl rfl⟩
theorem stored6n {w : World} {p : Nat} {a0 a1 a2 a3 a4 a5 : Value} {t : TypeId} (hp : w.heap[p]? = some (.cells #[a0, a1, a2, a3, a4, a5] t (0, 0))) (x0 x1 x2 x3 x4 x5 : Value) :
    ((((((w.setCell ⟨p, 0, none⟩ (x0)).setCell ⟨p, 1, none⟩ (x1)).setCell ⟨p, 2, none⟩ (x2)).setCell ⟨p, 3, none⟩ (x3)).setCell ⟨p, 4, none⟩ (x4)).setCell ⟨p, 5, none⟩ (x5)).heap[p]? = some (.cells #[x0, x1, x2, x3, x4, x5] t (0, 0)) ∧ Moves [p] w ((((((w.setCell ⟨p, 0, none⟩ (x0)).setCell ⟨p, 1, none⟩ (x1)).setCell ⟨p, 2, none⟩ (x2)).setCell ⟨p, 3, none⟩ (x3)).setCell ⟨p, 4, none⟩ (x4)).setCell ⟨p, 5, none⟩ (x5)) :=
  ⟨heap_set (i := 5) (heap_set (i := 4) (heap_set (i := 3) (heap_set (i := 2) (heap_set (i := 1) (heap_set (i := 0) hp x0) x1) x2) x3) x4) x5, (((((moves_set _ _ _ _).then (moves_set _ _ _ _)).then (moves_set _ _ _ _)).then (moves_set _ _ _ _)).then (moves_set _ _ _ _)).then (moves_set _ _ _ _)⟩
theorem stored3n {w : World} {p : Nat} {a0 a1 a2 a3 a4 a5 : Value} {t : TypeId} (hp : w.heap[p]? = some (.cells #[a0, a1, a2, a3, a4, a5] t (0, 0))) (x3 x4 x5 : Value) :
    (((w.setCell ⟨p, 3, none⟩ (x3)).setCell ⟨p, 4, none⟩ (x4)).setCell ⟨p, 5, none⟩ (x5)).heap[p]? = some (.cells #[a0, a1, a2, x3, x4, x5] t (0, 0)) ∧ Moves [p] w (((w.setCell ⟨p, 3, none⟩ (x3)).setCell ⟨p, 4, none⟩ (x4)).setCell ⟨p, 5, none⟩ (x5)) :=
  ⟨heap_set (i := 5) (heap_set (i := 4) (heap_set (i := 3) hp x3) x4) x5, ((moves_set _ _ _ _).then (moves_set _ _ _ _)).then (moves_set _ _ _ _)⟩

set_option maxRecDepth 100000 in
set_option maxHeartbeats 32000000 in
theorem chgTake_w (N r g : Nat) (bs : List Nat) (w : World) (h : RdIs w r g bs false) (ho : OctN N bs) (hg : g < w.heap.size) :
    Calls Tryz.prog 146 #[.pointer (some ⟨r, 0, none⟩)] w fun e w' => TookCh w r g (dChg bs) e w' := by
  have T0 := (TkB.start h ho hg).new #[.int .i64 0, .string ⟨#[]⟩, .int .i64 0, .int .i64 0, .slice none 0 0, .float .f64 0] 27
  obtain ⟨R, hR⟩ : ∃ R, w.heap.size = R := ⟨_, rfl⟩
  rw [hR] at T0
  have hpe : ∀ w1 : World, (binOp .eql 110 (.pointer (some ⟨r, 0, none⟩)) (.pointer none)).run Tryz.prog w1 = .ok (.bool false) w1 := by intro w1; kernel_rfl
  have hc := rbyteD_w N r g bs _ T0.rd ho
  have D0 : Hid (dChg bs = pbn (dNum 1) dChgK bs) := rfl
  have HT0 : Hid _ := T0
  clear T0
  go_enter Tryz.func146, Tryz.ntmps146
  go_wp2_with fail
  cases e1 : dNum 1 bs with
  | none =>
    rw [e1] at hc
    refine hc.mono ?_
    rintro _ w1 ⟨rfl, hr1, m1⟩
    refine ⟨rfl, ?_⟩
    show TookCh w r g (dChg bs) _ _
    rw [D0.out, pbn_none e1]
    exact ⟨rfl, ⟨_, hr1⟩, HT0.out.mv.then m1⟩
  | some pr =>
    obtain ⟨k, b1⟩ := pr
    rw [e1] at hc
    obtain ⟨ho1, hk⟩ := dNum_oct e1 ho
    have D1 : Hid (dChg bs = dChgK k b1) := D0.out.trans (pbn_some e1)
    refine hc.mono ?_
    rintro _ w1 ⟨rfl, hr1, m1⟩
    have wc : IntKind.i64.wrap (k : Int) = (k : Int) := by rw [IntWalk.i64_in _ (by omega)]
    have T1 := (HT0.out.read hr1 m1 ho1).new #[.int .i64 (k : Int), .string ⟨#[]⟩, .int .i64 0, .int .i64 0, .slice none 0 0, .float .f64 0] 27
    obtain ⟨B, hB⟩ : ∃ B, w1.heap.size = B := ⟨_, rfl⟩
    rw [hB] at T1
    have hb1 := T1.at 1 rfl
    have HT1 : Hid (TkB N w (w1.alloc (.cells #[.int .i64 (k : Int), .string ⟨#[]⟩, .int .i64 0, .int .i64 0, .slice none 0 0, .float .f64 0] 27)) r g b1 [(R, #[.int .i64 0, .string ⟨#[]⟩, .int .i64 0, .int .i64 0, .slice none 0 0, .float .f64 0], 27), (B, #[.int .i64 (k : Int), .string ⟨#[]⟩, .int .i64 0, .int .i64 0, .slice none 0 0, .float .f64 0], 27)]) := T1
    clear T1 hc hr1 m1 HT0 D0 e1 hb1
    go_wp2_with fail
    try rw [hB]
    obtain ⟨v1, hv1⟩ : ∃ v1, w1.alloc (.cells #[.int .i64 (k : Int), .string ⟨#[]⟩, .int .i64 0, .int .i64 0, .slice none 0 0, .float .f64 0] 27) = v1 := ⟨_, rfl⟩
    rw [hv1] at HT1 ⊢
    obtain ⟨y0, y1, y2, y3, y4, y5, z0, z1, z2, z3, z4, z5⟩ := six_frozen (HT1.out.at 1 rfl)
    by_cases hK4 : k = 4
    · have hK := hK4
      have hq := asks_w (k : Int) false false false true v1 (.inl ⟨by omega, rfl, rfl, rfl, rfl⟩)
      refine hq.mono ?_
      rintro _ w2 ⟨rfl, m2⟩
      have T2 := (HT1.out.moves m2).new #[.bool false, .bool false, .bool false] 189
      obtain ⟨P, hP⟩ : ∃ P, w2.heap.size = P := ⟨_, rfl⟩
      rw [hP] at T2
      have HT2 : Hid (TkB N w (w2.alloc (.cells #[.bool false, .bool false, .bool false] 189)) r g b1 [(R, #[.int .i64 0, .string ⟨#[]⟩, .int .i64 0, .int .i64 0, .slice none 0 0, .float .f64 0], 27), (B, #[.int .i64 (k : Int), .string ⟨#[]⟩, .int .i64 0, .int .i64 0, .slice none 0 0, .float .f64 0], 27), (P, #[.bool false, .bool false, .bool false], 189)]) := T2
      clear y0 y1 y2 y3 y4 y5 z0 z1 z2 z3 z4 z5
      obtain ⟨y0, y1, y2, y3, y4, y5, z0, z1, z2, z3, z4, z5⟩ := six_frozen (T2.at 1 rfl)
      clear hq m2 T2 HT1 hv1
      have D2 := D1.out
      rw [dChgK4 hK] at D2
      have HD2 : Hid (dChg bs = _) := D2
      clear D2 D1
      clear hK hK4
      obtain ⟨E, hE⟩ : ∃ E, cRight ⟨(k : Int), ⟨#[]⟩, 0, pz⟩ = E := ⟨_, rfl⟩
      have hq : Calls Tryz.prog 119 #[.agg #[.int .i64 (k : Int), .string ⟨#[]⟩, .int .i64 0, .int .i64 0, .slice none 0 0, .float .f64 0]] (w2.alloc (.cells #[.bool false, .bool false, .bool false] 189)) fun e w' => e = .returned (.int .i64 E) ∧ Moves [] (w2.alloc (.cells #[.bool false, .bool false, .bool false] 189)) w' := by
        rw [← hE]
        exact cRight_w (w2.alloc (.cells #[.bool false, .bool false, .bool false] 189)) (w2.alloc (.cells #[.bool false, .bool false, .bool false] 189)) ⟨(k : Int), ⟨#[]⟩, 0, pz⟩ none 0 0 (VC.va (vc_pz (w2.alloc (.cells #[.bool false, .bool false, .bool false] 189)))) (Moves.refl _ _)
      have hD9 : Hid (dChg bs = chgGuard ⟨(k : Int), ⟨#[]⟩, 0, pz⟩ b1) := HD2.out
      have HE : Hid (cRight ⟨(k : Int), ⟨#[]⟩, 0, pz⟩ = E) := hE
      clear hE HD2
      go_wp2_with fail
      refine hq.mono ?_
      rintro _ w9 ⟨rfl, m9⟩
      have HT9 : Hid (TkB N w w9 r g b1 [(R, #[.int .i64 0, .string ⟨#[]⟩, .int .i64 0, .int .i64 0, .slice none 0 0, .float .f64 0], 27), (B, #[.int .i64 (k : Int), .string ⟨#[]⟩, .int .i64 0, .int .i64 0, .slice none 0 0, .float .f64 0], 27), (P, #[.bool false, .bool false, .bool false], 189)]) := HT2.out.moves m9
      clear hq m9 y0 y1 y2 y3 y4 y5 z0 z1 z2 z3 z4 z5
      by_cases hE0 : E = 0
      · subst hE0
        obtain ⟨y0, y1, y2, y3, y4, y5, z0, z1, z2, z3, z4, z5⟩ := six_frozen (HT9.out.at 1 rfl)
        obtain ⟨q0, q1, q2, q3, q4, q5, t0, t1, t2, t3, t4, t5⟩ := six_frozen (HT9.out.at 0 rfl)
        go_wp2_with fail
        have so := stored6n (HT9.out.at 0 rfl) (.int .i64 (k : Int)) (.string ⟨#[]⟩) (.int .i64 0) (.int .i64 0) (.slice none 0 0) (.float .f64 0)
        have T10 := HT9.out.set 0 rfl so.2 so.1
        refine bodyPost_ret (ret_chg rfl _ _ _ _ _ _ _ _ _ rfl so.1) rfl ?_
        show TookCh w r g (dChg bs) _ _
        rw [hD9.out, chgGuard_yes HE.out]
        exact ⟨_, rfl, ⟨_, _, _, rfl, vc_pz _⟩, T10.rd, T10.mv⟩
      · go_wp2_with fail
        refine (rfail_w r g _ _ HT9.out.rd).mono ?_
        rintro _ w10 ⟨rfl, hr, m⟩
        refine ⟨rfl, ?_⟩
        show TookCh w r g (dChg bs) _ _
        rw [hD9.out, chgGuard_no (by rw [HE.out]; exact hE0)]
        exact ⟨rfl, ⟨_, hr⟩, HT9.out.mv.then m⟩
    · by_cases hK3 : k = 3
      · have hK := hK3
        have hq := asks_w (k : Int) true false false true v1 (.inr (.inl ⟨by omega, rfl, rfl, rfl, rfl⟩))
        refine hq.mono ?_
        rintro _ w2 ⟨rfl, m2⟩
        have T2 := (HT1.out.moves m2).new #[.bool true, .bool false, .bool false] 189
        obtain ⟨P, hP⟩ : ∃ P, w2.heap.size = P := ⟨_, rfl⟩
        rw [hP] at T2
        have HT2 : Hid (TkB N w (w2.alloc (.cells #[.bool true, .bool false, .bool false] 189)) r g b1 [(R, #[.int .i64 0, .string ⟨#[]⟩, .int .i64 0, .int .i64 0, .slice none 0 0, .float .f64 0], 27), (B, #[.int .i64 (k : Int), .string ⟨#[]⟩, .int .i64 0, .int .i64 0, .slice none 0 0, .float .f64 0], 27), (P, #[.bool true, .bool false, .bool false], 189)]) := T2
        clear y0 y1 y2 y3 y4 y5 z0 z1 z2 z3 z4 z5
        obtain ⟨y0, y1, y2, y3, y4, y5, z0, z1, z2, z3, z4, z5⟩ := six_frozen (T2.at 1 rfl)
        clear hq m2 T2 HT1 hv1
        have D2 := D1.out
        rw [dChgK3 hK] at D2
        have HD2 : Hid (dChg bs = _) := D2
        clear D2 D1
        clear hK hK3
        have hc := chTakeCol_w N r g b1 (w2.alloc (.cells #[.bool true, .bool false, .bool false] 189)) HT2.out.rd HT2.out.oct
        go_wp2_with fail
        cases e3 : dText 16 b1 with
        | none =>
          rw [e3] at hc
          refine hc.mono ?_
          rintro _ w3 ⟨rfl, hr3, m3⟩
          refine ⟨rfl, ?_⟩
          show TookCh w r g (dChg bs) _ _
          rw [HD2.out, pbn_none e3]
          exact ⟨rfl, ⟨_, hr3⟩, HT2.out.mv.then m3⟩
        | some pr =>
          obtain ⟨tx, b3⟩ := pr
          rw [e3] at hc
          obtain ⟨z, hz⟩ : ∃ z, strOf tx = z := ⟨_, rfl⟩
          have D3 := HD2.out.trans (pbn_some e3)
          simp only [hz] at D3
          dsimp only at hc
          rw [hz] at hc
          refine hc.mono ?_
          rintro _ w3 ⟨rfl, hr3, m3⟩
          have HD3 : Hid (dChg bs = _) := D3
          have T3 := HT2.out.read hr3 m3 (dText_rest e3 HT2.out.oct)
          clear y0 y1 y2 y3 y4 y5 z0 z1 z2 z3 z4 z5
          obtain ⟨x0, x1, x2⟩ := three_c (T3.at 2 rfl)
          obtain ⟨y0, y1, y2, y3, y4, y5, z0, z1, z2, z3, z4, z5⟩ := six_frozen (T3.at 1 rfl)
          have T4 := T3.set 1 rfl (moves_set w3 B 1 (.string z)) (heap_set (i := 1) (T3.at 1 rfl) (.string z))
          obtain ⟨v4, hv4⟩ : ∃ v4, w3.setCell ⟨B, 1, none⟩ (.string z) = v4 := ⟨_, rfl⟩
          rw [hv4] at T4
          have HT4 : Hid (TkB N w v4 r g b3 [(R, #[.int .i64 0, .string ⟨#[]⟩, .int .i64 0, .int .i64 0, .slice none 0 0, .float .f64 0], 27), (B, #[.int .i64 (k : Int), .string z, .int .i64 0, .int .i64 0, .slice none 0 0, .float .f64 0], 27), (P, #[.bool true, .bool false, .bool false], 189)]) := T4
          have q0 := three_c (T4.at 2 rfl)
          have Y := six_frozen (T4.at 1 rfl)
          clear hc hr3 m3 T3 T4 D3 HT2 HD2 e3
          obtain ⟨q0, q1, q2⟩ := q0
          obtain ⟨p0, p1, p2, p3, p4, p5, u0, u1, u2, u3, u4, u5⟩ := Y
          go_wp2_with fail
          clear q0 q1 q2 hv4 p0 p1 p2 p3 p4 p5 u0 u1 u2 u3 u4 u5
          clear x0 x1 x2 y0 y1 y2 y3 y4 y5 z0 z1 z2 z3 z4 z5
          obtain ⟨x0, x1, x2⟩ := three_c (HT4.out.at 2 rfl)
          obtain ⟨y0, y1, y2, y3, y4, y5, z0, z1, z2, z3, z4, z5⟩ := six_frozen (HT4.out.at 1 rfl)
          obtain ⟨E, hE⟩ : ∃ E, cRight ⟨(k : Int), z, 0, pz⟩ = E := ⟨_, rfl⟩
          have hq : Calls Tryz.prog 119 #[.agg #[.int .i64 (k : Int), .string z, .int .i64 0, .int .i64 0, .slice none 0 0, .float .f64 0]] v4 fun e w' => e = .returned (.int .i64 E) ∧ Moves [] v4 w' := by
            rw [← hE]
            exact cRight_w v4 v4 ⟨(k : Int), z, 0, pz⟩ none 0 0 (VC.va (vc_pz v4)) (Moves.refl _ _)
          have hD9 : Hid (dChg bs = chgGuard ⟨(k : Int), z, 0, pz⟩ b3) := HD3.out
          have HE : Hid (cRight ⟨(k : Int), z, 0, pz⟩ = E) := hE
          clear hE HD3
          go_wp2_with fail
          refine hq.mono ?_
          rintro _ w9 ⟨rfl, m9⟩
          have HT9 : Hid (TkB N w w9 r g b3 [(R, #[.int .i64 0, .string ⟨#[]⟩, .int .i64 0, .int .i64 0, .slice none 0 0, .float .f64 0], 27), (B, #[.int .i64 (k : Int), .string z, .int .i64 0, .int .i64 0, .slice none 0 0, .float .f64 0], 27), (P, #[.bool true, .bool false, .bool false], 189)]) := HT4.out.moves m9
          clear hq m9 x0 x1 x2 y0 y1 y2 y3 y4 y5 z0 z1 z2 z3 z4 z5
          by_cases hE0 : E = 0
          · subst hE0
            obtain ⟨y0, y1, y2, y3, y4, y5, z0, z1, z2, z3, z4, z5⟩ := six_frozen (HT9.out.at 1 rfl)
            obtain ⟨q0, q1, q2, q3, q4, q5, t0, t1, t2, t3, t4, t5⟩ := six_frozen (HT9.out.at 0 rfl)
            go_wp2_with fail
            have so := stored6n (HT9.out.at 0 rfl) (.int .i64 (k : Int)) (.string z) (.int .i64 0) (.int .i64 0) (.slice none 0 0) (.float .f64 0)
            have T10 := HT9.out.set 0 rfl so.2 so.1
            refine bodyPost_ret (ret_chg rfl _ _ _ _ _ _ _ _ _ rfl so.1) rfl ?_
            show TookCh w r g (dChg bs) _ _
            rw [hD9.out, chgGuard_yes HE.out]
            exact ⟨_, rfl, ⟨_, _, _, rfl, vc_pz _⟩, T10.rd, T10.mv⟩
          · go_wp2_with fail
            refine (rfail_w r g _ _ HT9.out.rd).mono ?_
            rintro _ w10 ⟨rfl, hr, m⟩
            refine ⟨rfl, ?_⟩
            show TookCh w r g (dChg bs) _ _
            rw [hD9.out, chgGuard_no (by rw [HE.out]; exact hE0)]
            exact ⟨rfl, ⟨_, hr⟩, HT9.out.mv.then m⟩
      · by_cases hK2 : k = 2
        · have hK := hK2
          have hq := asks_w (k : Int) true true false true v1 (.inr (.inr (.inl ⟨by omega, rfl, rfl, rfl, rfl⟩)))
          refine hq.mono ?_
          rintro _ w2 ⟨rfl, m2⟩
          have T2 := (HT1.out.moves m2).new #[.bool true, .bool true, .bool false] 189
          obtain ⟨P, hP⟩ : ∃ P, w2.heap.size = P := ⟨_, rfl⟩
          rw [hP] at T2
          have HT2 : Hid (TkB N w (w2.alloc (.cells #[.bool true, .bool true, .bool false] 189)) r g b1 [(R, #[.int .i64 0, .string ⟨#[]⟩, .int .i64 0, .int .i64 0, .slice none 0 0, .float .f64 0], 27), (B, #[.int .i64 (k : Int), .string ⟨#[]⟩, .int .i64 0, .int .i64 0, .slice none 0 0, .float .f64 0], 27), (P, #[.bool true, .bool true, .bool false], 189)]) := T2
          clear y0 y1 y2 y3 y4 y5 z0 z1 z2 z3 z4 z5
          obtain ⟨y0, y1, y2, y3, y4, y5, z0, z1, z2, z3, z4, z5⟩ := six_frozen (T2.at 1 rfl)
          clear hq m2 T2 HT1 hv1
          have D2 := D1.out
          rw [dChgK2 hK] at D2
          have HD2 : Hid (dChg bs = _) := D2
          clear D2 D1
          clear hK hK2
          have hc := chTakeCol_w N r g b1 (w2.alloc (.cells #[.bool true, .bool true, .bool false] 189)) HT2.out.rd HT2.out.oct
          go_wp2_with fail
          cases e3 : dText 16 b1 with
          | none =>
            rw [e3] at hc
            refine hc.mono ?_
            rintro _ w3 ⟨rfl, hr3, m3⟩
            refine ⟨rfl, ?_⟩
            show TookCh w r g (dChg bs) _ _
            rw [HD2.out, pbn_none e3]
            exact ⟨rfl, ⟨_, hr3⟩, HT2.out.mv.then m3⟩
          | some pr =>
            obtain ⟨tx, b3⟩ := pr
            rw [e3] at hc
            obtain ⟨z, hz⟩ : ∃ z, strOf tx = z := ⟨_, rfl⟩
            have D3 := HD2.out.trans (pbn_some e3)
            simp only [hz] at D3
            dsimp only at hc
            rw [hz] at hc
            refine hc.mono ?_
            rintro _ w3 ⟨rfl, hr3, m3⟩
            have HD3 : Hid (dChg bs = _) := D3
            have T3 := HT2.out.read hr3 m3 (dText_rest e3 HT2.out.oct)
            clear y0 y1 y2 y3 y4 y5 z0 z1 z2 z3 z4 z5
            obtain ⟨x0, x1, x2⟩ := three_c (T3.at 2 rfl)
            obtain ⟨y0, y1, y2, y3, y4, y5, z0, z1, z2, z3, z4, z5⟩ := six_frozen (T3.at 1 rfl)
            have T4 := T3.set 1 rfl (moves_set w3 B 1 (.string z)) (heap_set (i := 1) (T3.at 1 rfl) (.string z))
            obtain ⟨v4, hv4⟩ : ∃ v4, w3.setCell ⟨B, 1, none⟩ (.string z) = v4 := ⟨_, rfl⟩
            rw [hv4] at T4
            have HT4 : Hid (TkB N w v4 r g b3 [(R, #[.int .i64 0, .string ⟨#[]⟩, .int .i64 0, .int .i64 0, .slice none 0 0, .float .f64 0], 27), (B, #[.int .i64 (k : Int), .string z, .int .i64 0, .int .i64 0, .slice none 0 0, .float .f64 0], 27), (P, #[.bool true, .bool true, .bool false], 189)]) := T4
            have q0 := three_c (T4.at 2 rfl)
            have Y := six_frozen (T4.at 1 rfl)
            clear hc hr3 m3 T3 T4 D3 HT2 HD2 e3
            obtain ⟨q0, q1, q2⟩ := q0
            obtain ⟨p0, p1, p2, p3, p4, p5, u0, u1, u2, u3, u4, u5⟩ := Y
            go_wp2_with fail
            clear q0 q1 q2 hv4 p0 p1 p2 p3 p4 p5 u0 u1 u2 u3 u4 u5
            clear x0 x1 x2 y0 y1 y2 y3 y4 y5 z0 z1 z2 z3 z4 z5
            obtain ⟨x0, x1, x2⟩ := three_c (HT4.out.at 2 rfl)
            obtain ⟨y0, y1, y2, y3, y4, y5, z0, z1, z2, z3, z4, z5⟩ := six_frozen (HT4.out.at 1 rfl)
            have hc := rlongD_w N r g b3 v4 HT4.out.rd HT4.out.oct
            go_wp2_with fail
            cases e5 : dNum 8 b3 with
            | none =>
              rw [e5] at hc
              refine hc.mono ?_
              rintro _ w5 ⟨rfl, hr5, m5⟩
              refine ⟨rfl, ?_⟩
              show TookCh w r g (dChg bs) _ _
              rw [HD3.out, pbn_none e5]
              exact ⟨rfl, ⟨_, hr5⟩, HT4.out.mv.then m5⟩
            | some pr =>
              obtain ⟨t, b5⟩ := pr
              rw [e5] at hc
              have D5 := HD3.out.trans (pbn_some e5)
              refine hc.mono ?_
              rintro _ w5 ⟨rfl, hr5, m5⟩
              have wt : IntKind.i64.wrap (t : Int) = i64of t := rfl
              obtain ⟨tt, htt⟩ : ∃ tt, i64of t = tt := ⟨_, rfl⟩
              rw [htt] at wt
              simp only [htt] at D5
              have HD5 : Hid (dChg bs = _) := D5
              have T5 := HT4.out.read hr5 m5 (dNum_oct e5 HT4.out.oct).1
              clear x0 x1 x2 y0 y1 y2 y3 y4 y5 z0 z1 z2 z3 z4 z5
              obtain ⟨x0, x1, x2⟩ := three_c (T5.at 2 rfl)
              obtain ⟨y0, y1, y2, y3, y4, y5, z0, z1, z2, z3, z4, z5⟩ := six_frozen (T5.at 1 rfl)
              have T6 := T5.set 1 rfl (moves_set w5 B 2 (.int .i64 tt)) (heap_set (i := 2) (T5.at 1 rfl) (.int .i64 tt))
              obtain ⟨v6, hv6⟩ : ∃ v6, w5.setCell ⟨B, 2, none⟩ (.int .i64 tt) = v6 := ⟨_, rfl⟩
              rw [hv6] at T6
              have HT6 : Hid (TkB N w v6 r g b5 [(R, #[.int .i64 0, .string ⟨#[]⟩, .int .i64 0, .int .i64 0, .slice none 0 0, .float .f64 0], 27), (B, #[.int .i64 (k : Int), .string z, .int .i64 tt, .int .i64 0, .slice none 0 0, .float .f64 0], 27), (P, #[.bool true, .bool true, .bool false], 189)]) := T6
              have q0 := three_c (T6.at 2 rfl)
              have Y := six_frozen (T6.at 1 rfl)
              clear hc hr5 m5 T5 T6 D5 HT4 HD3 e5
              obtain ⟨q0, q1, q2⟩ := q0
              obtain ⟨p0, p1, p2, p3, p4, p5, u0, u1, u2, u3, u4, u5⟩ := Y
              go_wp2_with fail
              clear q0 q1 q2 hv6 p0 p1 p2 p3 p4 p5 u0 u1 u2 u3 u4 u5
              clear x0 x1 x2 y0 y1 y2 y3 y4 y5 z0 z1 z2 z3 z4 z5
              obtain ⟨x0, x1, x2⟩ := three_c (HT6.out.at 2 rfl)
              obtain ⟨y0, y1, y2, y3, y4, y5, z0, z1, z2, z3, z4, z5⟩ := six_frozen (HT6.out.at 1 rfl)
              obtain ⟨E, hE⟩ : ∃ E, cRight ⟨(k : Int), z, tt, pz⟩ = E := ⟨_, rfl⟩
              have hq : Calls Tryz.prog 119 #[.agg #[.int .i64 (k : Int), .string z, .int .i64 tt, .int .i64 0, .slice none 0 0, .float .f64 0]] v6 fun e w' => e = .returned (.int .i64 E) ∧ Moves [] v6 w' := by
                rw [← hE]
                exact cRight_w v6 v6 ⟨(k : Int), z, tt, pz⟩ none 0 0 (VC.va (vc_pz v6)) (Moves.refl _ _)
              have hD9 : Hid (dChg bs = chgGuard ⟨(k : Int), z, tt, pz⟩ b5) := HD5.out
              have HE : Hid (cRight ⟨(k : Int), z, tt, pz⟩ = E) := hE
              clear hE HD5
              go_wp2_with fail
              refine hq.mono ?_
              rintro _ w9 ⟨rfl, m9⟩
              have HT9 : Hid (TkB N w w9 r g b5 [(R, #[.int .i64 0, .string ⟨#[]⟩, .int .i64 0, .int .i64 0, .slice none 0 0, .float .f64 0], 27), (B, #[.int .i64 (k : Int), .string z, .int .i64 tt, .int .i64 0, .slice none 0 0, .float .f64 0], 27), (P, #[.bool true, .bool true, .bool false], 189)]) := HT6.out.moves m9
              clear hq m9 x0 x1 x2 y0 y1 y2 y3 y4 y5 z0 z1 z2 z3 z4 z5
              by_cases hE0 : E = 0
              · subst hE0
                obtain ⟨y0, y1, y2, y3, y4, y5, z0, z1, z2, z3, z4, z5⟩ := six_frozen (HT9.out.at 1 rfl)
                obtain ⟨q0, q1, q2, q3, q4, q5, t0, t1, t2, t3, t4, t5⟩ := six_frozen (HT9.out.at 0 rfl)
                go_wp2_with fail
                have so := stored6n (HT9.out.at 0 rfl) (.int .i64 (k : Int)) (.string z) (.int .i64 tt) (.int .i64 0) (.slice none 0 0) (.float .f64 0)
                have T10 := HT9.out.set 0 rfl so.2 so.1
                refine bodyPost_ret (ret_chg rfl _ _ _ _ _ _ _ _ _ rfl so.1) rfl ?_
                show TookCh w r g (dChg bs) _ _
                rw [hD9.out, chgGuard_yes HE.out]
                exact ⟨_, rfl, ⟨_, _, _, rfl, vc_pz _⟩, T10.rd, T10.mv⟩
              · go_wp2_with fail
                refine (rfail_w r g _ _ HT9.out.rd).mono ?_
                rintro _ w10 ⟨rfl, hr, m⟩
                refine ⟨rfl, ?_⟩
                show TookCh w r g (dChg bs) _ _
                rw [hD9.out, chgGuard_no (by rw [HE.out]; exact hE0)]
                exact ⟨rfl, ⟨_, hr⟩, HT9.out.mv.then m⟩
        · by_cases hK15 : k = 1 ∨ k = 5
          · have hK := hK15
            have hq := asks_w (k : Int) true true true true v1 (by
              rcases hK with hK | hK
              · exact .inr (.inr (.inr (.inl ⟨by omega, rfl, rfl, rfl, rfl⟩)))
              · exact .inr (.inr (.inr (.inr (.inl ⟨by omega, rfl, rfl, rfl, rfl⟩)))))
            refine hq.mono ?_
            rintro _ w2 ⟨rfl, m2⟩
            have T2 := (HT1.out.moves m2).new #[.bool true, .bool true, .bool true] 189
            obtain ⟨P, hP⟩ : ∃ P, w2.heap.size = P := ⟨_, rfl⟩
            rw [hP] at T2
            have HT2 : Hid (TkB N w (w2.alloc (.cells #[.bool true, .bool true, .bool true] 189)) r g b1 [(R, #[.int .i64 0, .string ⟨#[]⟩, .int .i64 0, .int .i64 0, .slice none 0 0, .float .f64 0], 27), (B, #[.int .i64 (k : Int), .string ⟨#[]⟩, .int .i64 0, .int .i64 0, .slice none 0 0, .float .f64 0], 27), (P, #[.bool true, .bool true, .bool true], 189)]) := T2
            clear y0 y1 y2 y3 y4 y5 z0 z1 z2 z3 z4 z5
            obtain ⟨y0, y1, y2, y3, y4, y5, z0, z1, z2, z3, z4, z5⟩ := six_frozen (T2.at 1 rfl)
            clear hq m2 T2 HT1 hv1
            have D2 := D1.out
            rw [dChgK15 hK] at D2
            have HD2 : Hid (dChg bs = _) := D2
            clear D2 D1
            clear hK hK15
            have hc := chTakeCol_w N r g b1 (w2.alloc (.cells #[.bool true, .bool true, .bool true] 189)) HT2.out.rd HT2.out.oct
            go_wp2_with fail
            cases e3 : dText 16 b1 with
            | none =>
              rw [e3] at hc
              refine hc.mono ?_
              rintro _ w3 ⟨rfl, hr3, m3⟩
              refine ⟨rfl, ?_⟩
              show TookCh w r g (dChg bs) _ _
              rw [HD2.out, pbn_none e3]
              exact ⟨rfl, ⟨_, hr3⟩, HT2.out.mv.then m3⟩
            | some pr =>
              obtain ⟨tx, b3⟩ := pr
              rw [e3] at hc
              obtain ⟨z, hz⟩ : ∃ z, strOf tx = z := ⟨_, rfl⟩
              have D3 := HD2.out.trans (pbn_some e3)
              simp only [hz] at D3
              dsimp only at hc
              rw [hz] at hc
              refine hc.mono ?_
              rintro _ w3 ⟨rfl, hr3, m3⟩
              have HD3 : Hid (dChg bs = _) := D3
              have T3 := HT2.out.read hr3 m3 (dText_rest e3 HT2.out.oct)
              clear y0 y1 y2 y3 y4 y5 z0 z1 z2 z3 z4 z5
              obtain ⟨x0, x1, x2⟩ := three_c (T3.at 2 rfl)
              obtain ⟨y0, y1, y2, y3, y4, y5, z0, z1, z2, z3, z4, z5⟩ := six_frozen (T3.at 1 rfl)
              have T4 := T3.set 1 rfl (moves_set w3 B 1 (.string z)) (heap_set (i := 1) (T3.at 1 rfl) (.string z))
              obtain ⟨v4, hv4⟩ : ∃ v4, w3.setCell ⟨B, 1, none⟩ (.string z) = v4 := ⟨_, rfl⟩
              rw [hv4] at T4
              have HT4 : Hid (TkB N w v4 r g b3 [(R, #[.int .i64 0, .string ⟨#[]⟩, .int .i64 0, .int .i64 0, .slice none 0 0, .float .f64 0], 27), (B, #[.int .i64 (k : Int), .string z, .int .i64 0, .int .i64 0, .slice none 0 0, .float .f64 0], 27), (P, #[.bool true, .bool true, .bool true], 189)]) := T4
              have q0 := three_c (T4.at 2 rfl)
              have Y := six_frozen (T4.at 1 rfl)
              clear hc hr3 m3 T3 T4 D3 HT2 HD2 e3
              obtain ⟨q0, q1, q2⟩ := q0
              obtain ⟨p0, p1, p2, p3, p4, p5, u0, u1, u2, u3, u4, u5⟩ := Y
              go_wp2_with fail
              clear q0 q1 q2 hv4 p0 p1 p2 p3 p4 p5 u0 u1 u2 u3 u4 u5
              clear x0 x1 x2 y0 y1 y2 y3 y4 y5 z0 z1 z2 z3 z4 z5
              obtain ⟨x0, x1, x2⟩ := three_c (HT4.out.at 2 rfl)
              obtain ⟨y0, y1, y2, y3, y4, y5, z0, z1, z2, z3, z4, z5⟩ := six_frozen (HT4.out.at 1 rfl)
              have hc := rlongD_w N r g b3 v4 HT4.out.rd HT4.out.oct
              go_wp2_with fail
              cases e5 : dNum 8 b3 with
              | none =>
                rw [e5] at hc
                refine hc.mono ?_
                rintro _ w5 ⟨rfl, hr5, m5⟩
                refine ⟨rfl, ?_⟩
                show TookCh w r g (dChg bs) _ _
                rw [HD3.out, pbn_none e5]
                exact ⟨rfl, ⟨_, hr5⟩, HT4.out.mv.then m5⟩
              | some pr =>
                obtain ⟨t, b5⟩ := pr
                rw [e5] at hc
                have D5 := HD3.out.trans (pbn_some e5)
                refine hc.mono ?_
                rintro _ w5 ⟨rfl, hr5, m5⟩
                have wt : IntKind.i64.wrap (t : Int) = i64of t := rfl
                obtain ⟨tt, htt⟩ : ∃ tt, i64of t = tt := ⟨_, rfl⟩
                rw [htt] at wt
                simp only [htt] at D5
                have HD5 : Hid (dChg bs = _) := D5
                have T5 := HT4.out.read hr5 m5 (dNum_oct e5 HT4.out.oct).1
                clear x0 x1 x2 y0 y1 y2 y3 y4 y5 z0 z1 z2 z3 z4 z5
                obtain ⟨x0, x1, x2⟩ := three_c (T5.at 2 rfl)
                obtain ⟨y0, y1, y2, y3, y4, y5, z0, z1, z2, z3, z4, z5⟩ := six_frozen (T5.at 1 rfl)
                have T6 := T5.set 1 rfl (moves_set w5 B 2 (.int .i64 tt)) (heap_set (i := 2) (T5.at 1 rfl) (.int .i64 tt))
                obtain ⟨v6, hv6⟩ : ∃ v6, w5.setCell ⟨B, 2, none⟩ (.int .i64 tt) = v6 := ⟨_, rfl⟩
                rw [hv6] at T6
                have HT6 : Hid (TkB N w v6 r g b5 [(R, #[.int .i64 0, .string ⟨#[]⟩, .int .i64 0, .int .i64 0, .slice none 0 0, .float .f64 0], 27), (B, #[.int .i64 (k : Int), .string z, .int .i64 tt, .int .i64 0, .slice none 0 0, .float .f64 0], 27), (P, #[.bool true, .bool true, .bool true], 189)]) := T6
                have q0 := three_c (T6.at 2 rfl)
                have Y := six_frozen (T6.at 1 rfl)
                clear hc hr5 m5 T5 T6 D5 HT4 HD3 e5
                obtain ⟨q0, q1, q2⟩ := q0
                obtain ⟨p0, p1, p2, p3, p4, p5, u0, u1, u2, u3, u4, u5⟩ := Y
                go_wp2_with fail
                clear q0 q1 q2 hv6 p0 p1 p2 p3 p4 p5 u0 u1 u2 u3 u4 u5
                clear x0 x1 x2 y0 y1 y2 y3 y4 y5 z0 z1 z2 z3 z4 z5
                obtain ⟨x0, x1, x2⟩ := three_c (HT6.out.at 2 rfl)
                obtain ⟨y0, y1, y2, y3, y4, y5, z0, z1, z2, z3, z4, z5⟩ := six_frozen (HT6.out.at 1 rfl)
                have hc := vgetD_w N r g b5 v6 HT6.out.rd HT6.out.oct
                go_wp2_with fail
                cases e7 : dVal b5 with
                | none =>
                  rw [e7] at hc
                  refine hc.mono ?_
                  rintro _ w7 ⟨rfl, hr7, m7⟩
                  refine ⟨rfl, ?_⟩
                  show TookCh w r g (dChg bs) _ _
                  rw [HD5.out, pbn_none e7]
                  exact ⟨rfl, hr7, HT6.out.mv.then m7⟩
                | some pr =>
                  obtain ⟨pv, b7⟩ := pr
                  rw [e7] at hc
                  have D7 := HD5.out.trans (pbn_some e7)
                  refine hc.mono ?_
                  rintro _ w7 ⟨va, vn, vcap, rfl, hvc, hr7, m7⟩
                  have HD7 : Hid (dChg bs = _) := D7
                  have T7 := HT6.out.read hr7 m7 (dVal_rest e7 HT6.out.oct)
                  clear x0 x1 x2 y0 y1 y2 y3 y4 y5 z0 z1 z2 z3 z4 z5
                  obtain ⟨x0, x1, x2⟩ := three_c (T7.at 2 rfl)
                  obtain ⟨y0, y1, y2, y3, y4, y5, z0, z1, z2, z3, z4, z5⟩ := six_frozen (T7.at 1 rfl)
                  have so := stored3n (T7.at 1 rfl) (.int .i64 pv.kind) (.slice va vn vcap) (.float .f64 pv.n)
                  have T8 := T7.set 1 rfl so.2 so.1
                  have hvc8 := hvc.box so.2 (T7.at 1 rfl) (by decide)
                  obtain ⟨v8, hv8⟩ : ∃ v8, ((w7.setCell ⟨B, 3, none⟩ (.int .i64 pv.kind)).setCell ⟨B, 4, none⟩ (.slice va vn vcap)).setCell ⟨B, 5, none⟩ (.float .f64 pv.n) = v8 := ⟨_, rfl⟩
                  rw [hv8] at T8 hvc8
                  have HT8 : Hid (TkB N w v8 r g b7 [(R, #[.int .i64 0, .string ⟨#[]⟩, .int .i64 0, .int .i64 0, .slice none 0 0, .float .f64 0], 27), (B, #[.int .i64 (k : Int), .string z, .int .i64 tt, .int .i64 pv.kind, .slice va vn vcap, .float .f64 pv.n], 27), (P, #[.bool true, .bool true, .bool true], 189)]) := T8
                  have HV8 : Hid (VC v8 [.int .i64 pv.kind, .slice va vn vcap, .float .f64 pv.n] pv) := hvc8
                  have Y := six_frozen (T8.at 1 rfl)
                  clear hc hr7 m7 T7 T8 D7 HT6 HD5 e7 so hvc hvc8
                  obtain ⟨p0, p1, p2, p3, p4, p5, u0, u1, u2, u3, u4, u5⟩ := Y
                  go_wp2_with fail
                  clear hv8 p0 p1 p2 p3 p4 p5 u0 u1 u2 u3 u4 u5
                  clear x0 x1 x2 y0 y1 y2 y3 y4 y5 z0 z1 z2 z3 z4 z5
                  obtain ⟨x0, x1, x2⟩ := three_c (HT8.out.at 2 rfl)
                  obtain ⟨y0, y1, y2, y3, y4, y5, z0, z1, z2, z3, z4, z5⟩ := six_frozen (HT8.out.at 1 rfl)
                  obtain ⟨E, hE⟩ : ∃ E, cRight ⟨(k : Int), z, tt, pv⟩ = E := ⟨_, rfl⟩
                  have hq : Calls Tryz.prog 119 #[.agg #[.int .i64 (k : Int), .string z, .int .i64 tt, .int .i64 pv.kind, .slice va vn vcap, .float .f64 pv.n]] v8 fun e w' => e = .returned (.int .i64 E) ∧ Moves [] v8 w' := by
                    rw [← hE]
                    exact cRight_w v8 v8 ⟨(k : Int), z, tt, pv⟩ va vn vcap (VC.va (HV8.out)) (Moves.refl _ _)
                  have hD9 : Hid (dChg bs = chgGuard ⟨(k : Int), z, tt, pv⟩ b7) := HD7.out
                  have HE : Hid (cRight ⟨(k : Int), z, tt, pv⟩ = E) := hE
                  clear hE HD7
                  go_wp2_with fail
                  refine hq.mono ?_
                  rintro _ w9 ⟨rfl, m9⟩
                  have HT9 : Hid (TkB N w w9 r g b7 [(R, #[.int .i64 0, .string ⟨#[]⟩, .int .i64 0, .int .i64 0, .slice none 0 0, .float .f64 0], 27), (B, #[.int .i64 (k : Int), .string z, .int .i64 tt, .int .i64 pv.kind, .slice va vn vcap, .float .f64 pv.n], 27), (P, #[.bool true, .bool true, .bool true], 189)]) := HT8.out.moves m9
                  have HV9 := HV8.out.moves0 m9
                  clear hq m9 x0 x1 x2 y0 y1 y2 y3 y4 y5 z0 z1 z2 z3 z4 z5
                  by_cases hE0 : E = 0
                  · subst hE0
                    obtain ⟨y0, y1, y2, y3, y4, y5, z0, z1, z2, z3, z4, z5⟩ := six_frozen (HT9.out.at 1 rfl)
                    obtain ⟨q0, q1, q2, q3, q4, q5, t0, t1, t2, t3, t4, t5⟩ := six_frozen (HT9.out.at 0 rfl)
                    go_wp2_with fail
                    have so := stored6n (HT9.out.at 0 rfl) (.int .i64 (k : Int)) (.string z) (.int .i64 tt) (.int .i64 pv.kind) (.slice va vn vcap) (.float .f64 pv.n)
                    have T10 := HT9.out.set 0 rfl so.2 so.1
                    refine bodyPost_ret (ret_chg rfl _ _ _ _ _ _ _ _ _ rfl so.1) rfl ?_
                    show TookCh w r g (dChg bs) _ _
                    rw [hD9.out, chgGuard_yes HE.out]
                    exact ⟨_, rfl, ⟨_, _, _, rfl, HV9.box so.2 (HT9.out.at 0 rfl) (by decide)⟩, T10.rd, T10.mv⟩
                  · go_wp2_with fail
                    refine (rfail_w r g _ _ HT9.out.rd).mono ?_
                    rintro _ w10 ⟨rfl, hr, m⟩
                    refine ⟨rfl, ?_⟩
                    show TookCh w r g (dChg bs) _ _
                    rw [hD9.out, chgGuard_no (by rw [HE.out]; exact hE0)]
                    exact ⟨rfl, ⟨_, hr⟩, HT9.out.mv.then m⟩
          · have hK : ¬ (1 ≤ k ∧ k ≤ 5) := by omega
            have hq := asks_w (k : Int) false false false false v1 (.inr (.inr (.inr (.inr (.inr ⟨by omega, rfl, rfl, rfl, rfl⟩)))))
            refine hq.mono ?_
            rintro _ w2 ⟨rfl, m2⟩
            have T2 := (HT1.out.moves m2).new #[.bool false, .bool false, .bool false] 189
            obtain ⟨P, hP⟩ : ∃ P, w2.heap.size = P := ⟨_, rfl⟩
            rw [hP] at T2
            have HT2 : Hid (TkB N w (w2.alloc (.cells #[.bool false, .bool false, .bool false] 189)) r g b1 [(R, #[.int .i64 0, .string ⟨#[]⟩, .int .i64 0, .int .i64 0, .slice none 0 0, .float .f64 0], 27), (B, #[.int .i64 (k : Int), .string ⟨#[]⟩, .int .i64 0, .int .i64 0, .slice none 0 0, .float .f64 0], 27), (P, #[.bool false, .bool false, .bool false], 189)]) := T2
            clear y0 y1 y2 y3 y4 y5 z0 z1 z2 z3 z4 z5
            obtain ⟨y0, y1, y2, y3, y4, y5, z0, z1, z2, z3, z4, z5⟩ := six_frozen (T2.at 1 rfl)
            clear hq m2 T2 HT1 hv1
            have D2 := D1.out
            rw [dChgK0 hK] at D2
            have HD2 : Hid (dChg bs = _) := D2
            clear D2 D1
            have HK0 : Hid (¬ (1 ≤ k ∧ k ≤ 5)) := hK
            clear hK
            obtain ⟨E, hE⟩ : ∃ E, cRight ⟨(k : Int), ⟨#[]⟩, 0, pz⟩ = E := ⟨_, rfl⟩
            have hq : Calls Tryz.prog 119 #[.agg #[.int .i64 (k : Int), .string ⟨#[]⟩, .int .i64 0, .int .i64 0, .slice none 0 0, .float .f64 0]] (w2.alloc (.cells #[.bool false, .bool false, .bool false] 189)) fun e w' => e = .returned (.int .i64 E) ∧ Moves [] (w2.alloc (.cells #[.bool false, .bool false, .bool false] 189)) w' := by
              rw [← hE]
              exact cRight_w (w2.alloc (.cells #[.bool false, .bool false, .bool false] 189)) (w2.alloc (.cells #[.bool false, .bool false, .bool false] 189)) ⟨(k : Int), ⟨#[]⟩, 0, pz⟩ none 0 0 (VC.va (vc_pz (w2.alloc (.cells #[.bool false, .bool false, .bool false] 189)))) (Moves.refl _ _)
            have hD9 : Hid (dChg bs = none) := HD2.out
            have HE : Hid (cRight ⟨(k : Int), ⟨#[]⟩, 0, pz⟩ = E) := hE
            clear hE HD2
            go_wp2_with fail
            refine hq.mono ?_
            rintro _ w9 ⟨rfl, m9⟩
            have HT9 : Hid (TkB N w w9 r g b1 [(R, #[.int .i64 0, .string ⟨#[]⟩, .int .i64 0, .int .i64 0, .slice none 0 0, .float .f64 0], 27), (B, #[.int .i64 (k : Int), .string ⟨#[]⟩, .int .i64 0, .int .i64 0, .slice none 0 0, .float .f64 0], 27), (P, #[.bool false, .bool false, .bool false], 189)]) := HT2.out.moves m9
            clear hq m9 y0 y1 y2 y3 y4 y5 z0 z1 z2 z3 z4 z5
            by_cases hE0 : E = 0
            · subst hE0
              exfalso
              have hK := HK0.out
              have hE := HE.out
              unfold cRight at hE
              rw [if_pos (by simp only; omega)] at hE
              omega
            · go_wp2_with fail
              refine (rfail_w r g _ _ HT9.out.rd).mono ?_
              rintro _ w10 ⟨rfl, hr, m⟩
              refine ⟨rfl, ?_⟩
              show TookCh w r g (dChg bs) _ _
              rw [hD9.out]
              exact ⟨rfl, ⟨_, hr⟩, HT9.out.mv.then m⟩
end Go.Proofs.YtcamhlnkcoicpaaGreat
