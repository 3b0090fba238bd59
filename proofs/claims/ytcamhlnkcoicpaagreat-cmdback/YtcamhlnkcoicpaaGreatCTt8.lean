/-
  cmd.takeTablet, takePlan of any bytes.
-/
import Derived.Test.YtcamhlnkcoicpaaGreatCCr8
namespace Go.Proofs.YtcamhlnkcoicpaaGreat
open Go.RowKit

def dTbl : List Nat → Option ((Psp × Nat) × List Nat) := pbn dSpan fun s => pbn (dNum 4) fun n => fun bs => some ((s, n), bs)
def dPlanK (d : Nat) : List Nat → Option ((Nat × ByteArray × Nat) × List Nat) := if d = 0 then fun bs => some ((0, ⟨#[]⟩, 0), bs) else pbn (dText 16) fun tx => pbn (dNum 1) fun to => fun bs => some ((d, strOf tx, to), bs)
theorem dPlanK0 {d : Nat} (h : d = 0) : dPlanK d = fun bs => some ((0, ⟨#[]⟩, 0), bs) := if_pos h
theorem dPlanK1 {d : Nat} (h : ¬ d = 0) : dPlanK d = pbn (dText 16) fun tx => pbn (dNum 1) fun to => fun bs => some ((d, strOf tx, to), bs) := if_neg h
def dPlan : List Nat → Option ((Nat × ByteArray × Nat) × List Nat) := pbn (dNum 1) dPlanK
/-- What a function that reads into a box leaves. -/
def TookX {α : Type} (w0 : World) (r g P : Nat) (C : α → Array Value) (o : Option (α × List Nat)) (e : Ending) (w' : World) : Prop := match o with
  | some (x, rest) => e = .returned (.tuple #[]) ∧ w'.heap[P]? = some (.cells (C x) 36 (0, 0)) ∧ RdIs w' r g rest false ∧ Moves [r, P] w0 w'
  | none => e = .panicked (stop r) ∧ (∃ bs', RdIs w' r g bs' true) ∧ Moves [r, P] w0 w'
theorem Moves.two1 {w w' : World} {r P : Nat} (m : Moves [r] w w') : Moves [r, P] w w' := m.mono (by simp)
theorem Moves.two2 {w w' : World} {r P : Nat} (m : Moves [P] w w') : Moves [r, P] w w' := m.mono (by simp)

set_option maxRecDepth 100000 in
set_option maxHeartbeats 8000000 in
theorem ctakeTab_w (N r g P : Nat) (bs : List Nat) (w : World) (h : RdIs w r g bs false) (ho : OctN N bs) (hg : g < w.heap.size) (x0 x1 x2 x3 x4 x5 x6 x7 x8 x9 x10 x11 x12 x13 x14 x15 x16 x17 x18 : Value) (hb : w.heap[P]? = some (.cells #[x0, x1, x2, x3, x4, x5, x6, x7, x8, x9, x10, x11, x12, x13, x14, x15, x16, x17, x18] 36 (0, 0))) (hPr : P ≠ r) (hPg : P ≠ g) :
    Calls Tryz.prog 108 #[.pointer (some ⟨r, 0, none⟩), .pointer (some ⟨P, 0, none⟩)] w fun e w' => TookX w r g P (fun (y : Psp × Nat) => #[x0, x1, x2, x3, x4, x5, x6, x7, x8, x9, x10, x11, .string y.1.lo, .string y.1.hi, .int .i64 (y.2 : Int), x15, x16, x17, x18]) (dTbl bs) e w' := by
  have hc := spTakeF_w N r g bs w h ho hg
  have D0 : Hid (dTbl bs = pbn dSpan _ bs) := rfl
  have HB : Hid _ := hb
  clear hb
  go_enter Tryz.func108, Tryz.ntmps108
  go_wp2_with fail
  cases e1 : dSpan bs with
  | none =>
    rw [e1] at hc
    refine hc.mono ?_
    rintro _ w1 ⟨rfl, hr1, m1⟩
    refine ⟨rfl, ?_⟩
    show TookX w r g P _ (dTbl bs) _ _
    rw [D0.out, pbn_none e1]
    exact ⟨rfl, hr1, m1.two1⟩
  | some pr =>
    obtain ⟨⟨lo, hi⟩, b1⟩ := pr
    rw [e1] at hc
    have ho1 := dSpan_rest e1 ho
    have D1 := D0.out.trans (pbn_some e1)
    refine hc.mono ?_
    rintro _ w1 ⟨rfl, hr1, m1⟩
    have hb1 := m1.at HB.out (by simpa using hPr)
    have h12 : (w1.setCell ⟨P, 12, none⟩ (.string lo)).heap[P]? = some (.cells #[x0, x1, x2, x3, x4, x5, x6, x7, x8, x9, x10, x11, .string lo, x13, x14, x15, x16, x17, x18] 36 (0, 0)) := heap_set (i := 12) hb1 _
    have h13 : ((w1.setCell ⟨P, 12, none⟩ (.string lo)).setCell ⟨P, 13, none⟩ (.string hi)).heap[P]? = some (.cells #[x0, x1, x2, x3, x4, x5, x6, x7, x8, x9, x10, x11, .string lo, .string hi, x14, x15, x16, x17, x18] 36 (0, 0)) := heap_set (i := 13) h12 _
    have n2 : Moves [P] w1 ((w1.setCell ⟨P, 12, none⟩ (.string lo)).setCell ⟨P, 13, none⟩ (.string hi)) := (moves_set _ _ _ _).then (moves_set _ _ _ _)
    have hr2 := hr1.moves n2 (by simpa using Ne.symm hPr) (by simpa using Ne.symm hPg)
    have M2 := (m1.two1 (P := P)).then (n2.two2 (r := r))
    have hf := c19z hb1
    have hx := c19 hb1
    have k12 := hx.2.2.2.2.2.2.2.2.2.2.2.2.1
    have k13 := hx.2.2.2.2.2.2.2.2.2.2.2.2.2.1
    have f12 := hf 12
    have f13 := hf 13
    have HD1 : Hid (dTbl bs = _) := D1
    have H13 : Hid _ := h13
    have HM2 : Hid _ := M2
    clear hf hx hc hr1 m1 hb1 h12 h13 n2 D1 D0 HB M2
    have hc := rnumD_w N r g b1 _ hr2 ho1
    go_wp2_with fail
    clear k12 k13 f12 f13
    obtain ⟨v2, hv2⟩ : ∃ v2, (w1.setCell ⟨P, 12, none⟩ (.string lo)).setCell ⟨P, 13, none⟩ (.string hi) = v2 := ⟨_, rfl⟩
    rw [hv2] at H13 HM2 hc ⊢
    cases e2 : dNum 4 b1 with
    | none =>
      rw [e2] at hc
      refine hc.mono ?_
      rintro _ w3 ⟨rfl, hr3, m3⟩
      refine ⟨rfl, ?_⟩
      show TookX w r g P _ (dTbl bs) _ _
      rw [HD1.out, pbn_none e2]
      exact ⟨rfl, ⟨_, hr3⟩, HM2.out.then m3.two1⟩
    | some pr =>
      obtain ⟨n, b2⟩ := pr
      rw [e2] at hc
      have hn := (dNum_oct e2 ho1).2
      have D2 := HD1.out.trans (pbn_some e2)
      refine hc.mono ?_
      rintro _ w3 ⟨rfl, hr3, m3⟩
      have wn : IntKind.i64.wrap (n : Int) = (n : Int) := by rw [IntWalk.i64_in _ (by omega)]
      have hb3 := m3.at H13.out (by simpa using hPr)
      have h14 : (w3.setCell ⟨P, 14, none⟩ (.int .i64 (n : Int))).heap[P]? = some (.cells #[x0, x1, x2, x3, x4, x5, x6, x7, x8, x9, x10, x11, .string lo, .string hi, .int .i64 (n : Int), x15, x16, x17, x18] 36 (0, 0)) := heap_set (i := 14) hb3 _
      have n4 : Moves [P] w3 (w3.setCell ⟨P, 14, none⟩ (.int .i64 (n : Int))) := moves_set _ _ _ _
      have hr4 := hr3.moves n4 (by simpa using Ne.symm hPr) (by simpa using Ne.symm hPg)
      have k14 := (c19 hb3).2.2.2.2.2.2.2.2.2.2.2.2.2.2.1
      have f14 := c19z hb3 14
      have M4 := (HM2.out.then m3.two1).then (n4.two2 (r := r))
      have HD2 : Hid (dTbl bs = _) := D2
      have H14 : Hid _ := h14
      have HM4 : Hid _ := M4
      clear hc hr3 m3 hb3 h14 n4 D2 M4 H13 HM2 HD1
      go_wp2_with fail
      go_end0
      show TookX w r g P _ (dTbl bs) _ _
      rw [HD2.out]
      exact ⟨rfl, H14.out, hr4, HM4.out⟩

set_option maxRecDepth 100000 in
set_option maxHeartbeats 8000000 in
theorem ctakePlan_w (N r g P : Nat) (bs : List Nat) (w : World) (h : RdIs w r g bs false) (ho : OctN N bs) (x0 x1 x2 x3 x4 x5 x6 x7 x8 x9 x10 x11 x12 x13 x14 x15 x16 x17 x18 : Value) (hb : w.heap[P]? = some (.cells #[x0, x1, x2, x3, x4, x5, x6, x7, x8, x9, x10, x11, x12, x13, x14, x15, x16, x17, x18] 36 (0, 0))) (hPr : P ≠ r) (hPg : P ≠ g) (h15 : x15 = .string ⟨#[]⟩) (h16 : x16 = .int .i64 0) :
    Calls Tryz.prog 110 #[.pointer (some ⟨r, 0, none⟩), .pointer (some ⟨P, 0, none⟩)] w fun e w' => TookX w r g P (fun (y : Nat × ByteArray × Nat) => #[x0, x1, x2, x3, x4, x5, x6, x7, x8, x9, x10, x11, x12, x13, x14, .string y.2.1, .int .i64 (y.2.2 : Int), .int .i64 (y.1 : Int), x18]) (dPlan bs) e w' := by
  have hc := rbyteD_w N r g bs w h ho
  have D0 : Hid (dPlan bs = pbn (dNum 1) dPlanK bs) := rfl
  have HB : Hid _ := hb
  clear hb
  go_enter Tryz.func110, Tryz.ntmps110
  go_wp2_with fail
  cases e1 : dNum 1 bs with
  | none =>
    rw [e1] at hc
    refine hc.mono ?_
    rintro _ w1 ⟨rfl, hr1, m1⟩
    refine ⟨rfl, ?_⟩
    show TookX w r g P _ (dPlan bs) _ _
    rw [D0.out, pbn_none e1]
    exact ⟨rfl, ⟨_, hr1⟩, m1.two1⟩
  | some pr =>
    obtain ⟨d, b1⟩ := pr
    rw [e1] at hc
    obtain ⟨ho1, hd⟩ := dNum_oct e1 ho
    have D1 : dPlan bs = dPlanK d b1 := D0.out.trans (pbn_some e1)
    refine hc.mono ?_
    rintro _ w1 ⟨rfl, hr1, m1⟩
    have wn : IntKind.i64.wrap (d : Int) = (d : Int) := by rw [IntWalk.i64_in _ (by omega)]
    have hb1 := m1.at HB.out (by simpa using hPr)
    have h17 : (w1.setCell ⟨P, 17, none⟩ (.int .i64 (d : Int))).heap[P]? = some (.cells #[x0, x1, x2, x3, x4, x5, x6, x7, x8, x9, x10, x11, x12, x13, x14, x15, x16, .int .i64 (d : Int), x18] 36 (0, 0)) := heap_set (i := 17) hb1 _
    have n2 : Moves [P] w1 (w1.setCell ⟨P, 17, none⟩ (.int .i64 (d : Int))) := moves_set _ _ _ _
    have hr2 := hr1.moves n2 (by simpa using Ne.symm hPr) (by simpa using Ne.symm hPg)
    have M2 := (m1.two1 (P := P)).then (n2.two2 (r := r))
    have k17 := (c19 hb1).2.2.2.2.2.2.2.2.2.2.2.2.2.2.2.2.2.1
    have f17 := c19z hb1 17
    obtain ⟨v2, hv2⟩ : ∃ v2, w1.setCell ⟨P, 17, none⟩ (.int .i64 (d : Int)) = v2 := ⟨_, rfl⟩
    rw [hv2] at h17 hr2 M2
    have j17 := (c19 h17).2.2.2.2.2.2.2.2.2.2.2.2.2.2.2.2.2.1
    have H17 : Hid _ := h17
    have HM2 : Hid _ := M2
    clear hc hr1 m1 hb1 h17 n2 D0 HB M2
    by_cases hd0 : d = 0
    · rw [dPlanK0 hd0] at D1
      have HD1 : Hid (dPlan bs = _) := D1
      have hd1 : ((d : Int) != 0) = false := by rw [hd0]; rfl
      have HD0 : Hid (d = 0) := hd0
      clear D1 hd0
      go_wp2_with fail
      go_end0
      show TookX w r g P _ (dPlan bs) _ _
      rw [HD1.out]
      have q := H17.out
      rw [HD0.out, h15, h16] at q
      exact ⟨rfl, q, hr2, HM2.out⟩
    · rw [dPlanK1 hd0] at D1
      have HD1 : Hid (dPlan bs = _) := D1
      have hd1 : ((d : Int) != 0) = true := bne_iff_ne.2 (by omega)
      clear D1 hd0
      have hc := cname_w N r g b1 v2 hr2 ho1
      go_wp2_with fail
      clear k17 f17 hv2 j17
      cases e2 : dText 16 b1 with
      | none =>
        rw [e2] at hc
        refine hc.mono ?_
        rintro _ w3 ⟨rfl, hr3, m3⟩
        refine ⟨rfl, ?_⟩
        show TookX w r g P _ (dPlan bs) _ _
        rw [HD1.out, pbn_none e2]
        exact ⟨rfl, ⟨_, hr3⟩, HM2.out.then m3.two1⟩
      | some pr =>
        obtain ⟨tx, b2⟩ := pr
        rw [e2] at hc
        obtain ⟨z, hz⟩ : ∃ z, strOf tx = z := ⟨_, rfl⟩
        have D2 := HD1.out.trans (pbn_some e2)
        simp only [hz] at D2
        dsimp only at hc
        rw [hz] at hc
        have ho2 := dText_rest e2 ho1
        refine hc.mono ?_
        rintro _ w3 ⟨rfl, hr3, m3⟩
        have hb3 := m3.at H17.out (by simpa using hPr)
        have h15' : (w3.setCell ⟨P, 15, none⟩ (.string z)).heap[P]? = some (.cells #[x0, x1, x2, x3, x4, x5, x6, x7, x8, x9, x10, x11, x12, x13, x14, .string z, x16, .int .i64 (d : Int), x18] 36 (0, 0)) := heap_set (i := 15) hb3 _
        have n4 : Moves [P] w3 (w3.setCell ⟨P, 15, none⟩ (.string z)) := moves_set _ _ _ _
        have hr4 := hr3.moves n4 (by simpa using Ne.symm hPr) (by simpa using Ne.symm hPg)
        have k15 := (c19 hb3).2.2.2.2.2.2.2.2.2.2.2.2.2.2.2.1
        have f15 := c19z hb3 15
        have M4 := (HM2.out.then m3.two1).then (n4.two2 (r := r))
        obtain ⟨v4, hv4⟩ : ∃ v4, w3.setCell ⟨P, 15, none⟩ (.string z) = v4 := ⟨_, rfl⟩
        rw [hv4] at h15' hr4 M4
        have HD2 : Hid (dPlan bs = _) := D2
        have H15 : Hid _ := h15'
        have HM4 : Hid _ := M4
        clear hc hr3 m3 hb3 h15' n4 D2 M4 H17 HM2 HD1
        have hc := rbyteD_w N r g b2 v4 hr4 ho2
        go_wp2_with fail
        clear k15 f15 hv4
        cases e3 : dNum 1 b2 with
        | none =>
          rw [e3] at hc
          refine hc.mono ?_
          rintro _ w5 ⟨rfl, hr5, m5⟩
          refine ⟨rfl, ?_⟩
          show TookX w r g P _ (dPlan bs) _ _
          rw [HD2.out, pbn_none e3]
          exact ⟨rfl, ⟨_, hr5⟩, HM4.out.then m5.two1⟩
        | some pr =>
          obtain ⟨to, b3⟩ := pr
          rw [e3] at hc
          have hto := (dNum_oct e3 ho2).2
          have D3 := HD2.out.trans (pbn_some e3)
          refine hc.mono ?_
          rintro _ w5 ⟨rfl, hr5, m5⟩
          have wt : IntKind.i64.wrap (to : Int) = (to : Int) := by rw [IntWalk.i64_in _ (by omega)]
          have hb5 := m5.at H15.out (by simpa using hPr)
          have h16' : (w5.setCell ⟨P, 16, none⟩ (.int .i64 (to : Int))).heap[P]? = some (.cells #[x0, x1, x2, x3, x4, x5, x6, x7, x8, x9, x10, x11, x12, x13, x14, .string z, .int .i64 (to : Int), .int .i64 (d : Int), x18] 36 (0, 0)) := heap_set (i := 16) hb5 _
          have n6 : Moves [P] w5 (w5.setCell ⟨P, 16, none⟩ (.int .i64 (to : Int))) := moves_set _ _ _ _
          have hr6 := hr5.moves n6 (by simpa using Ne.symm hPr) (by simpa using Ne.symm hPg)
          have k16 := (c19 hb5).2.2.2.2.2.2.2.2.2.2.2.2.2.2.2.2.1
          have f16 := c19z hb5 16
          have M6 := (HM4.out.then m5.two1).then (n6.two2 (r := r))
          have HD3 : Hid (dPlan bs = _) := D3
          have H16 : Hid _ := h16'
          have HM6 : Hid _ := M6
          clear hc hr5 m5 hb5 h16' n6 D3 M6 H15 HM4 HD2
          go_wp2_with fail
          go_end0
          show TookX w r g P _ (dPlan bs) _ _
          rw [HD3.out]
          exact ⟨rfl, H16.out, hr6, HM6.out⟩
end Go.Proofs.YtcamhlnkcoicpaaGreat
