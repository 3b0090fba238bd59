/- ours -/
import Derived.Test.YtfhdodopjgfedaaGreatCB49
namespace Go.Proofs.YtfhdodopjgfedaaGreat
open Go.RowKit

theorem doPlan_w (W w : World) (p q c : Nat) (a : Option Nat) (S : Pms) (h : MrIs W w p q c a S) (ok : OkM S) (hW : W.heap.size ≤ w.heap.size) (cl sq act : Int) (s : ByteArray) (to : Int) (hb : (1 ≤ act ∧ act ≤ 3) ∧ (1 ≤ to ∧ to ≤ 3) ∧ s.size ≤ 16) :
    Calls Tryz.prog 10 #[.pointer (some ⟨p, 0, none⟩), .int .i64 cl, .int .i64 sq, .agg (plV act s to)] w fun e w' => ∃ cs a', e = .returned (.agg cs.toArray) ∧ AnsC w' cs (mPlan S cl sq act s to).1 ∧ MrG W w p q c a S w' a' (mPlan S cl sq act s to).2 :=
  mdoPlan_w W w p q c a S h ok hW cl sq (plC act s to) none 0 0 none 0 0 none 0 0 (plC_c w _ _ _) rfl (plC_r hb.1.1 hb.1.2 hb.2.2 (by omega) (by omega)) (by show 0 ≤ act; omega) (by show act ≤ 3; omega) hb.2.2
theorem doPub_w (W w : World) (p q c : Nat) (a : Option Nat) (S : Pms) (h : MrIs W w p q c a S) (ok : OkM S) (cl sq gen to : Int) (h1 : 1 ≤ gen) (h2 : gen ≤ 1073741824) (h3 : to = 0 ∨ to = -1) :
    Calls Tryz.prog 10 #[.pointer (some ⟨p, 0, none⟩), .int .i64 cl, .int .i64 sq, .agg (pubV gen to)] w fun e w' => e = .returned (.agg (ansV (pTold (mPub S gen to).1.code))) ∧ MrG W w p q c a S w' a (mPub S gen to).2 :=
  mdoPub_w W w p q c a S h ok cl sq (pubC gen to) none 0 0 none 0 0 none 0 0 (pubC_c w _ _) rfl (pubC_r h1 h2 h3) h1
structure Fresh1 (S : Pms) (c q : Int) (R : Pans × Pms) : Prop where
  bare : Bare R.1
  r : rAns R.1 = true
  ok : OkM R.2
  xs : R.2.xs = S.xs
  pe : R.1.code = 0 → R.1.gen = S.last + 1 ∧ R.2.pend = R.1 ∧ R.2.last = R.1.gen
  le : R.1.gen ≤ R.2.last
  ll : S.last ≤ R.2.last
  ca : ofT R.2.ca c = ⟨c, q, strOf (encA R.1)⟩
  ge : 0 ≤ R.1.gen
theorem fresh1 (S : Pms) (ok : OkM S) (c q act : Int) (s : ByteArray) (to : Int) (h : (ofT S.ca c).s < q) (hq : 1 ≤ q) (h0 : 0 ≤ c) (h1 : c ≤ 255) (h2 : q ≤ 1073741824) (hb : (1 ≤ act ∧ act ≤ 3) ∧ (1 ≤ to ∧ to ≤ 3) ∧ s.size ≤ 16) : Fresh1 S c q (mPlan S c q act s to) := by
  have hok := mPlan_ok S ok c q act s to (by omega) (by omega) hb.2.2
  have he := plan_fresh S c q act s to h hq h0 h1 h2 (by omega)
  rw [he] at hok ⊢
  obtain ⟨k1, k2, k3, k4, k5, k6⟩ := mBegin_is S ok act s to hb.1.1 hb.1.2 hb.2.2
  obtain ⟨g1, g2, g3⟩ := begin_gen S ok act s to hb.1.1 hb.1.2 hb.2.2
  refine ⟨k3, k4, hok, k5, fun hc => ?_, g1, g2, ?_, (wi_iff.1 (rAns_iff.1 k4).2.2.2.2.2.2.1).1⟩
  · rcases k6 with ⟨e, _⟩ | ⟨_, e2, e3, e4, _⟩
    · exact absurd hc e
    · exact ⟨e2, e4, by rw [e2]; exact e3⟩
  · show ofT (keepT S.ca ⟨c, q, strOf (encA (mBegin S act s to).1)⟩) c = _
    rw [ofT_keep ok.ri, if_pos ⟨rfl, h⟩]
theorem pub_ok (S : Pms) (ok : OkM S) (to : Int) (hp : S.pend.gen = S.last) : (mPub S S.pend.gen to).1.code = 0 ∧ OkM (mPub S S.pend.gen to).2 ∧ (mPub S S.pend.gen to).2.ca = S.ca ∧ (mPub S S.pend.gen to).2.last = S.last := by
  have l0 := ok.l0
  have hok := (mPub_ok S ok S.pend.gen to (by omega)).1
  refine ⟨?_, hok, ?_, ?_⟩
  all_goals
    unfold mPub
    rw [if_neg (by omega), if_neg (by omega)]
  all_goals rfl
structure OnceSt (w wX : World) (p q c : Nat) (aX : Option Nat) (S : Pms) (A : Pans) (B0 B1 BA : Nat) (csA : Array Value) (d i t d' i' t' : Int) : Prop where
  is : MrIs w wX p q c aX S
  ok : OkM S
  ca : (ofT S.ca 7).s = 1
  le : A.gen ≤ S.last
  b0 : BoxB wX B0 #[.int .i64 d, .int .i64 i, .int .i64 t] 42 p q c aX
  b1 : BoxB wX B1 #[.int .i64 d', .int .i64 i', .int .i64 t'] 42 p q c aX
  ba : BoxB wX BA csA 48 p q c aX
  mv : Moves [] w wX

theorem OnceSt.moves0 {w wX wY : World} {p q c : Nat} {aX : Option Nat} {S : Pms} {A : Pans} {B0 B1 BA : Nat} {csA : Array Value} {d i t d' i' t' : Int} (h : OnceSt w wX p q c aX S A B0 B1 BA csA d i t d' i' t') (m : Moves [] wX wY) : OnceSt w wY p q c aX S A B0 B1 BA csA d i t d' i' t' :=
  ⟨h.is.moves0 m, h.ok, h.ca, h.le, h.b0.moves0 m, h.b1.moves0 m, h.ba.moves0 m, h.mv.then m⟩
structure OnceT (w wX : World) (p q c : Nat) (aX : Option Nat) (S : Pms) (B0 BC : Nat) (cc : Array Value) (va : Value) (xs : List Ptb) (d i t : Int) : Prop where
  is : MrIs w wX p q c aX S
  ok : OkM S
  xx : S.xs = xs
  b0 : BoxB wX B0 #[.int .i64 d, .int .i64 i, .int .i64 t] 42 p q c aX
  bc : BoxB wX BC cc 48 p q c aX
  tab : TabB wX va xs p q c aX
  mv : Moves [] w wX
theorem OnceT.step {w wX wA wB wC : World} {p q c : Nat} {aX aB : Option Nat} {S : Pms} {B0 BC : Nat} {cc : Array Value} {va : Value} {xs : List Ptb} {d i t : Int} (h : OnceT w wX p q c aX S B0 BC cc va xs d i t) (m : Moves [] wX wA) (g : MrG w wA p q c aX S wB aB S) (n : Moves [] wB wC) : OnceT w wC p q c aB S B0 BC cc va xs d i t :=
  ⟨g.is.moves0 n, h.ok, h.xx, ((h.b0.moves0 m).step g).moves0 n, ((h.bc.moves0 m).step g).moves0 n, ((h.tab.moves0 m).step g).moves0 n, (g.old (h.mv.then m) (fun _ hk => h.is.young hk)).then n⟩
theorem OnceT.mk' {w wX wA wB wC : World} {p q c : Nat} {aX aB : Option Nat} {S S3 : Pms} {A : Pans} {B0 B1 BA : Nat} {csA cc : Array Value} {va : Value} {d i t d' i' t' : Int} (h : OnceSt w wX p q c aX S A B0 B1 BA csA d i t d' i' t') (tb : TabB wX va S.xs p q c aX) (m : Moves [] wX wA) (g : MrG w wA p q c aX S wB aB S3) (n : Moves [] wB wC) (hh : wC.heap[wB.heap.size]? = some (.cells cc 48 (0, 0))) (ok : OkM S3) (hx : S3.xs = S.xs) : OnceT w wC p q c aB S3 B0 wB.heap.size cc va S.xs d i t :=
  ⟨g.is.moves0 n, ok, hx, ((h.b0.moves0 m).step g).moves0 n, ⟨hh, g.is.notin (Nat.le_refl _)⟩, ((tb.moves0 m).step g).moves0 n, (g.old (h.mv.then m) (fun _ hk => h.is.young hk)).then n⟩
set_option maxRecDepth 100000 in
set_option maxHeartbeats 16000000 in
theorem masterOnce_w (d i t d' i' t' : Int) (g : Bool) (w : World) : Calls Tryz.prog 4 #[.agg #[.int .i64 d, .int .i64 i, .int .i64 t], .agg #[.int .i64 d', .int .i64 i', .int .i64 t'], .bool g] w fun e w' => e = .returned (.bool true) ∧ Moves [] w w' := by
  obtain ⟨act1, s1, to1, hb1, hkp1⟩ := keepPlan_w d i t
  obtain ⟨act2, s2, to2, hb2, hkp2⟩ := keepPlan_w d' i' t'
  have HB1 : Hid _ := hb1
  have HB2 : Hid _ := hb2
  have a0 := heap_alloc_new w (.cells #[.int .i64 d, .int .i64 i, .int .i64 t] 42)
  obtain ⟨w1, hw1⟩ : ∃ w1, w.alloc (.cells #[.int .i64 d, .int .i64 i, .int .i64 t] 42) = w1 := ⟨_, rfl⟩
  have n1 : Moves [] w w1 := by rw [← hw1]; exact (Moves.refl _ _).alloc _
  rw [hw1] at a0
  have a1 := heap_alloc_new w1 (.cells #[.int .i64 d', .int .i64 i', .int .i64 t'] 42)
  obtain ⟨w2, hw2⟩ : ∃ w2, w1.alloc (.cells #[.int .i64 d', .int .i64 i', .int .i64 t'] 42) = w2 := ⟨_, rfl⟩
  have n2 : Moves [] w1 w2 := by rw [← hw2]; exact (Moves.refl _ _).alloc _
  rw [hw2] at a1
  have b0 := n2.at a0 (by simp)
  have HM2 : Hid (Moves [] w w2) := n1.then n2
  have HB0 : Hid _ := b0
  have HBQ : Hid _ := a1
  have hl0 : w.heap.size < w2.heap.size := lt_of_block b0
  have hl1 : w1.heap.size < w2.heap.size := lt_of_block a1
  have HL : Hid (w.heap.size < w2.heap.size ∧ w1.heap.size < w2.heap.size) := ⟨hl0, hl1⟩
  clear a0 n1 n2 a1 b0 hl0 hl1 hb1 hb2
  go_enter Tryz.func4, Tryz.ntmps4
  go_wp2_with fail
  try rw [hw1]
  try rw [hw2]
  clear hw2
  refine (mnew_w 3 (by omega) (by omega) w2).mono ?_
  rintro _ w3 ⟨p, q, c, rfl, hI, m3⟩
  have hnp := nilPtr p
  have ok0 := m0_ok 3 (by omega) (by omega)
  obtain ⟨B0, hB0⟩ : ∃ B0, w.heap.size = B0 := ⟨_, rfl⟩
  obtain ⟨B1, hB1⟩ : ∃ B1, w1.heap.size = B1 := ⟨_, rfl⟩
  rw [hB0, hB1] at HL
  rw [hB0] at HB0
  rw [hB1] at HBQ
  rw [hB0, hB1]
  have np : ∀ k, k < w2.heap.size → k ∉ p :: q :: c :: (none : Option Nat).toList := by
    intro k hk hm
    have e1 := hI.hp
    have e2 := hI.hq
    have e3 := hI.hc
    simp at hm
    omega
  have HP0 : Hid (BoxB w3 B0 #[.int .i64 d, .int .i64 i, .int .i64 t] 42 p q c none) := ⟨m3.at HB0.out (by simp), np _ HL.out.1⟩
  have HP1 : Hid (BoxB w3 B1 #[.int .i64 d', .int .i64 i', .int .i64 t'] 42 p q c none) := ⟨m3.at HBQ.out (by simp), np _ HL.out.2⟩
  have HV3 : Hid (Moves [] w2 w3) := m3
  have HI3 : Hid (MrIs w2 w3 p q c none (m0 3)) := hI
  have HOK0 : Hid (OkM (m0 3)) := ok0
  clear hw1 HB0 HBQ HL np hI ok0 m3 hB0 hB1
  -- the first plan
  have hF1 := fresh1 (m0 3) HOK0.out 7 1 act1 s1 to1 (by decide) (by omega) (by omega) (by omega) (by omega) HB1.out
  obtain ⟨R, hR⟩ : ∃ R, mPlan (m0 3) 7 1 act1 s1 to1 = R := ⟨_, rfl⟩
  have hd1 : ∀ wA, Moves [] w3 wA → Calls Tryz.prog 10 #[.pointer (some ⟨p, 0, none⟩), .int .i64 7, .int .i64 1, .agg (plV act1 s1 to1)] wA fun e w' => ∃ cs a', e = .returned (.agg cs.toArray) ∧ AnsC w' cs R.1 ∧ MrG w2 wA p q c none (m0 3) w' a' R.2 := by
    intro wA mA
    rw [← hR]
    exact doPlan_w w2 wA p q c none (m0 3) (HI3.out.moves0 mA) HOK0.out (HV3.out.then mA).size 7 1 act1 s1 to1 HB1.out
  rw [hR] at hF1
  have HF1 : Hid (Fresh1 (m0 3) 7 1 R) := hF1
  clear hR hF1
  obtain ⟨x0, x1, x2⟩ : w3.cell? ⟨B0, 0, none⟩ = some (.int .i64 d) ∧ w3.cell? ⟨B0, 1, none⟩ = some (.int .i64 i) ∧ w3.cell? ⟨B0, 2, none⟩ = some (.int .i64 t) := by have hh := HP0.out.at'; simp [World.cell?, hh]
  go_wp2_with fail
  refine (hkp1 _).mono ?_
  rintro _ w4 ⟨rfl, mA⟩
  have hd := hd1 w4 mA
  unfold plV at hd ⊢
  have HM34 : Hid (Moves [] w3 w4) := mA
  clear x0 x1 x2 hd1 mA
  go_wp2_with fail
  refine hd.mono ?_
  rintro _ w5 ⟨cs, a5, rfl, hA, hG⟩
  have hL5 := hA.len
  have HA5 : Hid (AnsC w5 cs R.1) := hA
  have HL5 : Hid (cs.length = 11 ∧ ∀ u ∈ cs, u.oneCell' = true) := hL5
  have HG5 : Hid (MrG w2 w4 p q c none (m0 3) w5 a5 R.2) := hG
  clear hd hA hG hL5
  go_wp2_with (with_reducible refine stopA _ _ rfl ?_)
  unfold Hid
  have hz := heap_alloc_new w5 (.cells #[.int .i64 0, .slice none 0 0, .string ⟨#[]⟩, .string ⟨#[]⟩, .int .i64 0, .int .i64 0, .int .i64 0, .int .i64 0, .int .i64 0, .string ⟨#[]⟩, .slice none 0 0] 48)
  have mz : Moves [] w5 (w5.alloc (.cells #[.int .i64 0, .slice none 0 0, .string ⟨#[]⟩, .string ⟨#[]⟩, .int .i64 0, .int .i64 0, .int .i64 0, .int .i64 0, .int .i64 0, .string ⟨#[]⟩, .slice none 0 0] 48)) := (Moves.refl _ _).alloc _
  refine wpList_storeAns rfl _ _ rfl w5.heap.size cs rfl rfl HL5.out.1 HL5.out.2 hz rfl ?_
  intro w6 hh mm
  have Mw6 : Moves [] w5 w6 := mz.trans mm (fun x hx => .inr (by simp at hx; omega))
  clear hz mz mm
  have HV6 : Hid (Moves [] w2 w6) := (HG5.out.old (HV3.out.then HM34.out) (by simp)).then Mw6
  have HI6 : Hid (MrIs w2 w6 p q c a5 R.2) := HG5.out.is.moves0 Mw6
  have HPA : Hid (BoxB w6 w5.heap.size cs.toArray 48 p q c a5) := ⟨hh, HG5.out.is.notin (Nat.le_refl _)⟩
  have HP06 : Hid (BoxB w6 B0 #[.int .i64 d, .int .i64 i, .int .i64 t] 42 p q c a5) := ((HP0.out.moves0 HM34.out).step HG5.out).moves0 Mw6
  have HP16 : Hid (BoxB w6 B1 #[.int .i64 d', .int .i64 i', .int .i64 t'] 42 p q c a5) := ((HP1.out.moves0 HM34.out).step HG5.out).moves0 Mw6
  clear hh Mw6 HI3 HV3 HP0 HP1 HG5 HM34 HOK0
  obtain ⟨BA, hBA⟩ : ∃ BA, w5.heap.size = BA := ⟨_, rfl⟩
  rw [hBA] at HPA ⊢
  clear hBA
  -- asked again
  have hag := plan_again R.2 7 1 act2 s2 to2 (by have := HB2.out; omega) R.1 HF1.out.bare HF1.out.r (by omega) HF1.out.ca
  have hd1 : ∀ wA, Moves [] w6 wA → Calls Tryz.prog 10 #[.pointer (some ⟨p, 0, none⟩), .int .i64 7, .int .i64 1, .agg (plV act2 s2 to2)] wA fun e w' => ∃ cs a', e = .returned (.agg cs.toArray) ∧ AnsC w' cs R.1 ∧ MrG w2 wA p q c a5 R.2 w' a' R.2 := by
    intro wA mA
    have := doPlan_w w2 wA p q c a5 R.2 (HI6.out.moves0 mA) HF1.out.ok (HV6.out.then mA).size 7 1 act2 s2 to2 HB2.out
    rw [hag] at this
    exact this
  clear hag
  obtain ⟨x0, x1, x2⟩ : w6.cell? ⟨B1, 0, none⟩ = some (.int .i64 d') ∧ w6.cell? ⟨B1, 1, none⟩ = some (.int .i64 i') ∧ w6.cell? ⟨B1, 2, none⟩ = some (.int .i64 t') := by have hh := HP16.out.at'; simp [World.cell?, hh]
  go_wp2_with fail
  refine (hkp2 _).mono ?_
  rintro _ w7 ⟨rfl, mA⟩
  have hd := hd1 w7 mA
  unfold plV at hd ⊢
  have HM67 : Hid (Moves [] w6 w7) := mA
  clear x0 x1 x2 hd1 mA
  go_wp2_with fail
  refine hd.mono ?_
  rintro _ w8 ⟨cb, a8, rfl, hA, hG⟩
  have hL8 := hA.len
  have HA8 : Hid (AnsC w8 cb R.1) := hA
  have HL8 : Hid (cb.length = 11 ∧ ∀ u ∈ cb, u.oneCell' = true) := hL8
  have HG8 : Hid (MrG w2 w7 p q c a5 R.2 w8 a8 R.2) := hG
  clear hd hA hG hL8
  go_wp2_with (with_reducible refine stopA _ _ rfl ?_)
  unfold Hid
  have hz := heap_alloc_new w8 (.cells #[.int .i64 0, .slice none 0 0, .string ⟨#[]⟩, .string ⟨#[]⟩, .int .i64 0, .int .i64 0, .int .i64 0, .int .i64 0, .int .i64 0, .string ⟨#[]⟩, .slice none 0 0] 48)
  have mz : Moves [] w8 (w8.alloc (.cells #[.int .i64 0, .slice none 0 0, .string ⟨#[]⟩, .string ⟨#[]⟩, .int .i64 0, .int .i64 0, .int .i64 0, .int .i64 0, .int .i64 0, .string ⟨#[]⟩, .slice none 0 0] 48)) := (Moves.refl _ _).alloc _
  refine wpList_storeAns rfl _ _ rfl w8.heap.size cb rfl rfl HL8.out.1 HL8.out.2 hz rfl ?_
  intro w9 hh mm
  have Mw9 : Moves [] w8 w9 := mz.trans mm (fun x hx => .inr (by simp at hx; omega))
  clear hz mz mm
  have HV9 : Hid (Moves [] w2 w9) := (HG8.out.old (HV6.out.then HM67.out) (fun _ hk => HI6.out.young hk)).then Mw9
  have HI9 : Hid (MrIs w2 w9 p q c a8 R.2) := HG8.out.is.moves0 Mw9
  have HPA9 : Hid (BoxB w9 BA cs.toArray 48 p q c a8) := ((HPA.out.moves0 HM67.out).step HG8.out).moves0 Mw9
  have HP09 : Hid (BoxB w9 B0 #[.int .i64 d, .int .i64 i, .int .i64 t] 42 p q c a8) := ((HP06.out.moves0 HM67.out).step HG8.out).moves0 Mw9
  have HP19 : Hid (BoxB w9 B1 #[.int .i64 d', .int .i64 i', .int .i64 t'] 42 p q c a8) := ((HP16.out.moves0 HM67.out).step HG8.out).moves0 Mw9
  have HHB : Hid (w9.heap[w8.heap.size]? = some (.cells cb.toArray 48 (0, 0))) := hh
  clear hh Mw9 HI6 HV6 HPA HP06 HP16 HG8 HM67
  obtain ⟨BB, hBB⟩ : ∃ BB, w8.heap.size = BB := ⟨_, rfl⟩
  rw [hBB] at HHB ⊢
  clear hBB
  go_wp2_with (with_reducible refine stopLA _ rfl ?_)
  unfold Hid
  refine wpList_loadAns rfl _ rfl BA rfl cs HPA9.out.at' HL5.out.1 ?_
  go_wp2_with (with_reducible refine stopLA _ rfl ?_)
  unfold Hid
  refine wpList_loadAns rfl _ rfl BB rfl cb HHB.out HL8.out.1 ?_
  go_wp2_with fail
  refine (rsameA_yes w9 cs cb R.1 HF1.out.bare (HA5.out.bare HF1.out.bare) (HA8.out.bare HF1.out.bare)).mono ?_
  rintro _ w10 ⟨rfl, m10⟩
  have HST : Hid (OnceSt w2 w10 p q c a8 R.2 R.1 B0 B1 BA cs.toArray d i t d' i' t') := ⟨HI9.out.moves0 m10, HF1.out.ok, by rw [HF1.out.ca], HF1.out.le, HP09.out.moves0 m10, HP19.out.moves0 m10, HPA9.out.moves0 m10, HV9.out.then m10⟩
  clear HI9 HV9 HPA9 HP09 HP19 HHB HL8 HA8 m10
  obtain ⟨q1, q2, q3, q4, q5, q6, q7, rfl, -⟩ := HA5.out
  have c0 : w10.cell? ⟨BA, 0, none⟩ = some (.int .i64 R.1.code) := (eleven_cells HST.out.ba.at').1
  have c5 : w10.cell? ⟨BA, 5, none⟩ = some (.int .i64 R.1.gen) := (eleven_cells HST.out.ba.at').2.2.2.2.2.1
  clear HA5 HL5
  have hfd : ∀ w1 : World, (Instr.field 48 (.agg (ansV (pTold 0))) 0).run Tryz.prog w1 = .ok (.int .i64 0) w1 := by intro w1; kernel_rfl
  by_cases hc : R.1.code = 0
  · have hpe := HF1.out.pe hc
    have hc' : (R.1.code == 0) = true := beq_iff_eq.2 hc
    cases g with
    | false =>
      have hpb : Calls Tryz.prog 10 #[.pointer (some ⟨p, 0, none⟩), .int .i64 7, .int .i64 2, .agg (pubV R.1.gen 0)] w10 fun e w' => e = .returned (.agg (ansV (pTold 0))) ∧ MrG w2 w10 p q c a8 R.2 w' a8 (mPub R.2 R.1.gen 0).2 := by
        have hpo := pub_ok R.2 HST.out.ok 0 (by rw [hpe.2.1]; exact hpe.2.2.symm)
        rw [hpe.2.1] at hpo
        have := doPub_w w2 w10 p q c a8 R.2 HST.out.is HST.out.ok 7 2 R.1.gen 0 (by rw [hpe.1]; show (1 : Int) ≤ 1 + 1; omega) (by have := HST.out.ok.l1; rw [hpe.2.2] at this; exact this) (.inl rfl)
        rw [hpo.1] at this
        exact this
      have hpo := pub_ok R.2 HST.out.ok 0 (by rw [hpe.2.1]; exact hpe.2.2.symm)
      rw [hpe.2.1] at hpo
      obtain ⟨S2, hS2⟩ : ∃ S2, (mPub R.2 R.1.gen 0).2 = S2 := ⟨_, rfl⟩
      rw [hS2] at hpb hpo
      have HPO : Hid (OkM S2 ∧ S2.ca = R.2.ca ∧ S2.last = R.2.last) := hpo.2
      unfold pubV at hpb
      clear hpo hS2 hpe hc
      go_wp2_with fail
      refine hpb.mono ?_
      rintro _ w11 ⟨rfl, hG⟩
      have HSX : Hid (OnceSt w2 w11 p q c a8 S2 R.1 B0 B1 BA _ d i t d' i' t') := ⟨hG.is, HPO.out.1, by rw [HPO.out.2.1]; exact HST.out.ca, by rw [HPO.out.2.2]; exact HST.out.le, HST.out.b0.step hG, HST.out.b1.step hG, HST.out.ba.step hG, hG.old HST.out.mv (fun _ hk => HST.out.is.young hk)⟩
      clear hpb hG HST c0 c5 HPO
      -- all, and the third plan
      go_wp2_with fail
      refine (mall_w w2 w11 p q c a8 S2 HSX.out.is HSX.out.ok).mono ?_
      rintro _ wa ⟨va, rfl, hO, hF, ma⟩
      have HTB : Hid (TabB wa va S2.xs p q c a8) := ⟨hO, fun k hk => HSX.out.is.notin (hF k hk)⟩
      have HSY : Hid (OnceSt w2 wa p q c a8 S2 R.1 B0 B1 BA _ d i t d' i' t') := HSX.out.moves0 ma
      clear hO hF ma HSX
      have HF3' := fresh1 S2 HSY.out.ok 7 3 act2 s2 to2 (by rw [HSY.out.ca]; omega) (by omega) (by omega) (by omega) (by omega) HB2.out
      obtain ⟨R3, hR3⟩ : ∃ R3, mPlan S2 7 3 act2 s2 to2 = R3 := ⟨_, rfl⟩
      have hd1 : ∀ wA, Moves [] wa wA → Calls Tryz.prog 10 #[.pointer (some ⟨p, 0, none⟩), .int .i64 7, .int .i64 3, .agg (plV act2 s2 to2)] wA fun e w' => ∃ cs a', e = .returned (.agg cs.toArray) ∧ AnsC w' cs R3.1 ∧ MrG w2 wA p q c a8 S2 w' a' R3.2 := by
        intro wA mA
        rw [← hR3]
        exact doPlan_w w2 wA p q c a8 S2 (HSY.out.is.moves0 mA) HSY.out.ok (HSY.out.mv.then mA).size 7 3 act2 s2 to2 HB2.out
      rw [hR3] at HF3'
      have HF3 : Hid (Fresh1 S2 7 3 R3) := HF3'
      clear hR3 HF3'
      obtain ⟨x0, x1, x2⟩ : wa.cell? ⟨B1, 0, none⟩ = some (.int .i64 d') ∧ wa.cell? ⟨B1, 1, none⟩ = some (.int .i64 i') ∧ wa.cell? ⟨B1, 2, none⟩ = some (.int .i64 t') := by have hh := HSY.out.b1.at'; simp [World.cell?, hh]
      go_wp2_with fail
      refine (hkp2 _).mono ?_
      rintro _ wb ⟨rfl, mA⟩
      have hd := hd1 wb mA
      unfold plV at hd ⊢
      have HMb : Hid (Moves [] wa wb) := mA
      clear x0 x1 x2 hd1 mA
      go_wp2_with fail
      refine hd.mono ?_
      rintro _ wc ⟨cc, a3, rfl, hA, hG⟩
      have HLc : Hid (cc.length = 11 ∧ ∀ u ∈ cc, u.oneCell' = true) := hA.len
      have HACc : Hid (AnsC wc cc R3.1) := hA
      have HGc : Hid (MrG w2 wb p q c a8 S2 wc a3 R3.2) := hG
      clear hd hG hA
      go_wp2_with (with_reducible refine stopA _ _ rfl ?_)
      unfold Hid
      have hz := heap_alloc_new wc (.cells #[.int .i64 0, .slice none 0 0, .string ⟨#[]⟩, .string ⟨#[]⟩, .int .i64 0, .int .i64 0, .int .i64 0, .int .i64 0, .int .i64 0, .string ⟨#[]⟩, .slice none 0 0] 48)
      have mz : Moves [] wc (wc.alloc (.cells #[.int .i64 0, .slice none 0 0, .string ⟨#[]⟩, .string ⟨#[]⟩, .int .i64 0, .int .i64 0, .int .i64 0, .int .i64 0, .int .i64 0, .string ⟨#[]⟩, .slice none 0 0] 48)) := (Moves.refl _ _).alloc _
      refine wpList_storeAns rfl _ _ rfl wc.heap.size cc rfl rfl HLc.out.1 HLc.out.2 hz rfl ?_
      intro wx hh mm
      have Mwx : Moves [] wc wx := mz.trans mm (fun x hx => .inr (by simp at hx; omega))
      clear hz mz mm
      have HST2 : Hid (OnceT w2 wx p q c a3 R3.2 B0 wc.heap.size cc.toArray va S2.xs d i t) := OnceT.mk' HSY.out HTB.out HMb.out HGc.out Mwx hh HF3.out.ok HF3.out.xs
      have hba := (((HSY.out.ba.moves0 HMb.out).step HGc.out).moves0 Mwx).at'
      have u5 := (eleven_cells hba).2.2.2.2.2.1
      have hlt : R3.1.code = 0 → ¬ R3.1.gen ≤ R.1.gen := by
        intro hc
        have e1 := (HF3.out.pe hc).1
        have e2 := HSY.out.le
        omega
      have HLT : Hid (R3.1.code = 0 → ¬ R3.1.gen ≤ R.1.gen) := hlt
      clear hh Mwx HGc HMb hba hlt HSY HTB
      obtain ⟨BC, hBC⟩ : ∃ BC, wc.heap.size = BC := ⟨_, rfl⟩
      rw [hBC] at HST2 ⊢
      clear hBC
      have HAC2 : Hid (AnsC wc cc R3.1) := HACc
      obtain ⟨c1, c2, c3, c4, c5, c6, c7, rfl, -⟩ := HACc.out
      clear HACc
      have v0 : wx.cell? ⟨BC, 0, none⟩ = some (.int .i64 R3.1.code) := (eleven_cells HST2.out.bc.at').1
      have v5 : wx.cell? ⟨BC, 5, none⟩ = some (.int .i64 R3.1.gen) := (eleven_cells HST2.out.bc.at').2.2.2.2.2.1
      generalize hxs : S2.xs = xsA at HST2
      clear hxs
      clear HLc
      by_cases h3 : R3.1.code = 0
      · have h3' : (R3.1.code == 0) = true := beq_iff_eq.2 h3
        have h4 : ¬ R3.1.gen ≤ R.1.gen := HLT.out h3
        clear h3
        -- an old number
        obtain ⟨x0, x1, x2⟩ : wx.cell? ⟨B0, 0, none⟩ = some (.int .i64 d) ∧ wx.cell? ⟨B0, 1, none⟩ = some (.int .i64 i) ∧ wx.cell? ⟨B0, 2, none⟩ = some (.int .i64 t) := by have hh := HST2.out.b0.at'; simp [World.cell?, hh]
        go_wp2_with fail
        refine (hkp1 _).mono ?_
        rintro _ wd ⟨rfl, mA⟩
        have hd : Calls Tryz.prog 10 #[.pointer (some ⟨p, 0, none⟩), .int .i64 7, .int .i64 2, .agg (plV act1 s1 to1)] wd fun e w' => ∃ cs a', e = .returned (.agg cs.toArray) ∧ AnsC w' cs (pTold 27) ∧ MrG w2 wd p q c a3 R3.2 w' a' R3.2 := by
          have := doPlan_w w2 wd p q c a3 R3.2 (HST2.out.is.moves0 mA) HST2.out.ok (HST2.out.mv.then mA).size 7 2 act1 s1 to1 HB1.out
          rw [plan_old R3.2 7 2 act1 s1 to1 (by have := HB1.out; omega) (by rw [HF3.out.ca]; show (2 : Int) < 3; omega)] at this
          exact this
        unfold plV at hd ⊢
        have HMd : Hid (Moves [] wx wd) := mA
        clear x0 x1 x2 mA
        go_wp2_with fail
        refine hd.mono ?_
        rintro _ we ⟨cd, a4, rfl, hA, hG⟩
        have HLd : Hid (cd.length = 11 ∧ ∀ u ∈ cd, u.oneCell' = true) := hA.len
        have HGe : Hid (MrG w2 wd p q c a3 R3.2 we a4 R3.2) := hG
        have HAd : Hid (AnsC we cd (pTold 27)) := hA
        clear hd hG hA
        go_wp2_with (with_reducible refine stopA _ _ rfl ?_)
        unfold Hid
        have hz := heap_alloc_new we (.cells #[.int .i64 0, .slice none 0 0, .string ⟨#[]⟩, .string ⟨#[]⟩, .int .i64 0, .int .i64 0, .int .i64 0, .int .i64 0, .int .i64 0, .string ⟨#[]⟩, .slice none 0 0] 48)
        have mz : Moves [] we (we.alloc (.cells #[.int .i64 0, .slice none 0 0, .string ⟨#[]⟩, .string ⟨#[]⟩, .int .i64 0, .int .i64 0, .int .i64 0, .int .i64 0, .int .i64 0, .string ⟨#[]⟩, .slice none 0 0] 48)) := (Moves.refl _ _).alloc _
        refine wpList_storeAns rfl _ _ rfl we.heap.size cd rfl rfl HLd.out.1 HLd.out.2 hz rfl ?_
        intro wf hh mm
        have Mwf : Moves [] we wf := mz.trans mm (fun x hx => .inr (by simp at hx; omega))
        clear hz mz mm
        have HSTf : Hid (OnceT w2 wf p q c a4 R3.2 B0 BC _ va xsA d i t) := (HST2.out.step HMd.out HGe.out Mwf)
        have HBD : Hid (BoxB wf we.heap.size cd.toArray 48 p q c a4) := ⟨hh, HGe.out.is.notin (Nat.le_refl _)⟩
        clear hh Mwf HGe HMd HST2
        obtain ⟨BD, hBD⟩ : ∃ BD, we.heap.size = BD := ⟨_, rfl⟩
        rw [hBD] at HBD ⊢
        clear hBD
        -- and the same again
        obtain ⟨x0, x1, x2⟩ : wf.cell? ⟨B0, 0, none⟩ = some (.int .i64 d) ∧ wf.cell? ⟨B0, 1, none⟩ = some (.int .i64 i) ∧ wf.cell? ⟨B0, 2, none⟩ = some (.int .i64 t) := by have hh := HSTf.out.b0.at'; simp [World.cell?, hh]
        go_wp2_with fail
        refine (hkp1 _).mono ?_
        rintro _ wg ⟨rfl, mA⟩
        have hd : Calls Tryz.prog 10 #[.pointer (some ⟨p, 0, none⟩), .int .i64 7, .int .i64 3, .agg (plV act1 s1 to1)] wg fun e w' => ∃ cs a', e = .returned (.agg cs.toArray) ∧ AnsC w' cs R3.1 ∧ MrG w2 wg p q c a4 R3.2 w' a' R3.2 := by
          have := doPlan_w w2 wg p q c a4 R3.2 (HSTf.out.is.moves0 mA) HSTf.out.ok (HSTf.out.mv.then mA).size 7 3 act1 s1 to1 HB1.out
          rw [plan_again R3.2 7 3 act1 s1 to1 (by have := HB1.out; omega) R3.1 HF3.out.bare HF3.out.r (by omega) HF3.out.ca] at this
          exact this
        unfold plV at hd ⊢
        have HMg : Hid (Moves [] wf wg) := mA
        clear x0 x1 x2 mA
        go_wp2_with fail
        refine hd.mono ?_
        rintro _ wh ⟨ce, a6, rfl, hA, hG⟩
        have HLe : Hid (ce.length = 11 ∧ ∀ u ∈ ce, u.oneCell' = true) := hA.len
        have HGh : Hid (MrG w2 wg p q c a4 R3.2 wh a6 R3.2) := hG
        have HAe : Hid (AnsC wh ce R3.1) := hA
        clear hd hG hA
        go_wp2_with (with_reducible refine stopA _ _ rfl ?_)
        unfold Hid
        have hz := heap_alloc_new wh (.cells #[.int .i64 0, .slice none 0 0, .string ⟨#[]⟩, .string ⟨#[]⟩, .int .i64 0, .int .i64 0, .int .i64 0, .int .i64 0, .int .i64 0, .string ⟨#[]⟩, .slice none 0 0] 48)
        have mz : Moves [] wh (wh.alloc (.cells #[.int .i64 0, .slice none 0 0, .string ⟨#[]⟩, .string ⟨#[]⟩, .int .i64 0, .int .i64 0, .int .i64 0, .int .i64 0, .int .i64 0, .string ⟨#[]⟩, .slice none 0 0] 48)) := (Moves.refl _ _).alloc _
        refine wpList_storeAns rfl _ _ rfl wh.heap.size ce rfl rfl HLe.out.1 HLe.out.2 hz rfl ?_
        intro wk hh mm
        have Mwk : Moves [] wh wk := mz.trans mm (fun x hx => .inr (by simp at hx; omega))
        clear hz mz mm
        have HSTk : Hid (OnceT w2 wk p q c a6 R3.2 B0 BC _ va xsA d i t) := (HSTf.out.step HMg.out HGh.out Mwk)
        have HBDk : Hid (BoxB wk BD cd.toArray 48 p q c a6) := ((HBD.out.moves0 HMg.out).step HGh.out).moves0 Mwk
        have HBE : Hid (wk.heap[wh.heap.size]? = some (.cells ce.toArray 48 (0, 0))) := hh
        clear hh Mwk HGh HMg HSTf HBD
        obtain ⟨BE, hBE⟩ : ∃ BE, wh.heap.size = BE := ⟨_, rfl⟩
        rw [hBE] at HBE ⊢
        clear hBE
        have hs := rsameA_yes wk _ ce R3.1 HF3.out.bare (HAC2.out.bare HF3.out.bare) (HAe.out.bare HF3.out.bare)
        obtain ⟨d1, d2, d3, d4, d5, d6, d7, rfl, -⟩ := HAd.out
        obtain ⟨e1, e2, e3, e4, e5, e6, e7, rfl, -⟩ := HAe.out
        obtain ⟨x0, x1, x2, x3, x4, x5, x6, x7, x8, x9, x10⟩ := eleven_cells HSTk.out.bc.at'
        obtain ⟨y0, y1, y2, y3, y4, y5, y6, y7, y8, y9, y10⟩ := eleven_cells HBE.out
        have z0 : wk.cell? ⟨BD, 0, none⟩ = some (.int .i64 27) := (eleven_cells HBDk.out.at').1
        clear HLd HLe HAd HAe
        go_wp2_with fail
        refine hs.mono ?_
        rintro _ wl ⟨rfl, ml⟩
        clear x0 x1 x2 x3 x4 x5 x6 x7 x8 x9 x10 y0 y1 y2 y3 y4 y5 y6 y7 y8 y9 y10 z0 hs
        have hal := mall_w w2 wl p q c a6 R3.2 (HSTk.out.is.moves0 ml) HSTk.out.ok
        have HML : Hid (Moves [] wk wl) := ml
        clear ml
        go_wp2_with fail
        refine hal.mono ?_
        rintro _ wm ⟨vm, rfl, hO, hF, mm⟩
        obtain ⟨gm, hTm, -⟩ := hO.ex hF
        obtain ⟨ga, hTa⟩ := ((HSTk.out.tab.moves0 HML.out).moves0 mm).tbl
        rw [HSTk.out.xx] at hTm
        have hbs := bookSame_yes wm gm vm ga va xsA hTm hTa (by have := HSTk.out.ok.few; have e := HSTk.out.xx; rw [e] at this; omega)
        have HMM : Hid (Moves [] w2 wm) := (HSTk.out.mv.then HML.out).then mm
        clear hal hO hF mm hTm hTa
        go_wp2_with fail
        refine hbs.mono ?_
        rintro _ wn ⟨rfl, mn⟩
        go_wp2_with fail
        refine (known12_w wn).mono ?_
        rintro _ wo ⟨rfl, mo⟩
        go_wp2_with fail
        go_ret
        exact ⟨rfl, ((HM2.out.then HMM.out).then mn).then mo⟩
      · have h3' : (R3.1.code == 0) = false := beq_eq_false_iff_ne.2 h3
        clear h3
        -- an old number
        obtain ⟨x0, x1, x2⟩ : wx.cell? ⟨B0, 0, none⟩ = some (.int .i64 d) ∧ wx.cell? ⟨B0, 1, none⟩ = some (.int .i64 i) ∧ wx.cell? ⟨B0, 2, none⟩ = some (.int .i64 t) := by have hh := HST2.out.b0.at'; simp [World.cell?, hh]
        go_wp2_with fail
        refine (hkp1 _).mono ?_
        rintro _ wd ⟨rfl, mA⟩
        have hd : Calls Tryz.prog 10 #[.pointer (some ⟨p, 0, none⟩), .int .i64 7, .int .i64 2, .agg (plV act1 s1 to1)] wd fun e w' => ∃ cs a', e = .returned (.agg cs.toArray) ∧ AnsC w' cs (pTold 27) ∧ MrG w2 wd p q c a3 R3.2 w' a' R3.2 := by
          have := doPlan_w w2 wd p q c a3 R3.2 (HST2.out.is.moves0 mA) HST2.out.ok (HST2.out.mv.then mA).size 7 2 act1 s1 to1 HB1.out
          rw [plan_old R3.2 7 2 act1 s1 to1 (by have := HB1.out; omega) (by rw [HF3.out.ca]; show (2 : Int) < 3; omega)] at this
          exact this
        unfold plV at hd ⊢
        have HMd : Hid (Moves [] wx wd) := mA
        clear x0 x1 x2 mA
        go_wp2_with fail
        refine hd.mono ?_
        rintro _ we ⟨cd, a4, rfl, hA, hG⟩
        have HLd : Hid (cd.length = 11 ∧ ∀ u ∈ cd, u.oneCell' = true) := hA.len
        have HGe : Hid (MrG w2 wd p q c a3 R3.2 we a4 R3.2) := hG
        have HAd : Hid (AnsC we cd (pTold 27)) := hA
        clear hd hG hA
        go_wp2_with (with_reducible refine stopA _ _ rfl ?_)
        unfold Hid
        have hz := heap_alloc_new we (.cells #[.int .i64 0, .slice none 0 0, .string ⟨#[]⟩, .string ⟨#[]⟩, .int .i64 0, .int .i64 0, .int .i64 0, .int .i64 0, .int .i64 0, .string ⟨#[]⟩, .slice none 0 0] 48)
        have mz : Moves [] we (we.alloc (.cells #[.int .i64 0, .slice none 0 0, .string ⟨#[]⟩, .string ⟨#[]⟩, .int .i64 0, .int .i64 0, .int .i64 0, .int .i64 0, .int .i64 0, .string ⟨#[]⟩, .slice none 0 0] 48)) := (Moves.refl _ _).alloc _
        refine wpList_storeAns rfl _ _ rfl we.heap.size cd rfl rfl HLd.out.1 HLd.out.2 hz rfl ?_
        intro wf hh mm
        have Mwf : Moves [] we wf := mz.trans mm (fun x hx => .inr (by simp at hx; omega))
        clear hz mz mm
        have HSTf : Hid (OnceT w2 wf p q c a4 R3.2 B0 BC _ va xsA d i t) := (HST2.out.step HMd.out HGe.out Mwf)
        have HBD : Hid (BoxB wf we.heap.size cd.toArray 48 p q c a4) := ⟨hh, HGe.out.is.notin (Nat.le_refl _)⟩
        clear hh Mwf HGe HMd HST2
        obtain ⟨BD, hBD⟩ : ∃ BD, we.heap.size = BD := ⟨_, rfl⟩
        rw [hBD] at HBD ⊢
        clear hBD
        -- and the same again
        obtain ⟨x0, x1, x2⟩ : wf.cell? ⟨B0, 0, none⟩ = some (.int .i64 d) ∧ wf.cell? ⟨B0, 1, none⟩ = some (.int .i64 i) ∧ wf.cell? ⟨B0, 2, none⟩ = some (.int .i64 t) := by have hh := HSTf.out.b0.at'; simp [World.cell?, hh]
        go_wp2_with fail
        refine (hkp1 _).mono ?_
        rintro _ wg ⟨rfl, mA⟩
        have hd : Calls Tryz.prog 10 #[.pointer (some ⟨p, 0, none⟩), .int .i64 7, .int .i64 3, .agg (plV act1 s1 to1)] wg fun e w' => ∃ cs a', e = .returned (.agg cs.toArray) ∧ AnsC w' cs R3.1 ∧ MrG w2 wg p q c a4 R3.2 w' a' R3.2 := by
          have := doPlan_w w2 wg p q c a4 R3.2 (HSTf.out.is.moves0 mA) HSTf.out.ok (HSTf.out.mv.then mA).size 7 3 act1 s1 to1 HB1.out
          rw [plan_again R3.2 7 3 act1 s1 to1 (by have := HB1.out; omega) R3.1 HF3.out.bare HF3.out.r (by omega) HF3.out.ca] at this
          exact this
        unfold plV at hd ⊢
        have HMg : Hid (Moves [] wf wg) := mA
        clear x0 x1 x2 mA
        go_wp2_with fail
        refine hd.mono ?_
        rintro _ wh ⟨ce, a6, rfl, hA, hG⟩
        have HLe : Hid (ce.length = 11 ∧ ∀ u ∈ ce, u.oneCell' = true) := hA.len
        have HGh : Hid (MrG w2 wg p q c a4 R3.2 wh a6 R3.2) := hG
        have HAe : Hid (AnsC wh ce R3.1) := hA
        clear hd hG hA
        go_wp2_with (with_reducible refine stopA _ _ rfl ?_)
        unfold Hid
        have hz := heap_alloc_new wh (.cells #[.int .i64 0, .slice none 0 0, .string ⟨#[]⟩, .string ⟨#[]⟩, .int .i64 0, .int .i64 0, .int .i64 0, .int .i64 0, .int .i64 0, .string ⟨#[]⟩, .slice none 0 0] 48)
        have mz : Moves [] wh (wh.alloc (.cells #[.int .i64 0, .slice none 0 0, .string ⟨#[]⟩, .string ⟨#[]⟩, .int .i64 0, .int .i64 0, .int .i64 0, .int .i64 0, .int .i64 0, .string ⟨#[]⟩, .slice none 0 0] 48)) := (Moves.refl _ _).alloc _
        refine wpList_storeAns rfl _ _ rfl wh.heap.size ce rfl rfl HLe.out.1 HLe.out.2 hz rfl ?_
        intro wk hh mm
        have Mwk : Moves [] wh wk := mz.trans mm (fun x hx => .inr (by simp at hx; omega))
        clear hz mz mm
        have HSTk : Hid (OnceT w2 wk p q c a6 R3.2 B0 BC _ va xsA d i t) := (HSTf.out.step HMg.out HGh.out Mwk)
        have HBDk : Hid (BoxB wk BD cd.toArray 48 p q c a6) := ((HBD.out.moves0 HMg.out).step HGh.out).moves0 Mwk
        have HBE : Hid (wk.heap[wh.heap.size]? = some (.cells ce.toArray 48 (0, 0))) := hh
        clear hh Mwk HGh HMg HSTf HBD
        obtain ⟨BE, hBE⟩ : ∃ BE, wh.heap.size = BE := ⟨_, rfl⟩
        rw [hBE] at HBE ⊢
        clear hBE
        have hs := rsameA_yes wk _ ce R3.1 HF3.out.bare (HAC2.out.bare HF3.out.bare) (HAe.out.bare HF3.out.bare)
        obtain ⟨d1, d2, d3, d4, d5, d6, d7, rfl, -⟩ := HAd.out
        obtain ⟨e1, e2, e3, e4, e5, e6, e7, rfl, -⟩ := HAe.out
        obtain ⟨x0, x1, x2, x3, x4, x5, x6, x7, x8, x9, x10⟩ := eleven_cells HSTk.out.bc.at'
        obtain ⟨y0, y1, y2, y3, y4, y5, y6, y7, y8, y9, y10⟩ := eleven_cells HBE.out
        have z0 : wk.cell? ⟨BD, 0, none⟩ = some (.int .i64 27) := (eleven_cells HBDk.out.at').1
        clear HLd HLe HAd HAe
        go_wp2_with fail
        refine hs.mono ?_
        rintro _ wl ⟨rfl, ml⟩
        clear x0 x1 x2 x3 x4 x5 x6 x7 x8 x9 x10 y0 y1 y2 y3 y4 y5 y6 y7 y8 y9 y10 z0 hs
        have hal := mall_w w2 wl p q c a6 R3.2 (HSTk.out.is.moves0 ml) HSTk.out.ok
        have HML : Hid (Moves [] wk wl) := ml
        clear ml
        go_wp2_with fail
        refine hal.mono ?_
        rintro _ wm ⟨vm, rfl, hO, hF, mm⟩
        obtain ⟨gm, hTm, -⟩ := hO.ex hF
        obtain ⟨ga, hTa⟩ := ((HSTk.out.tab.moves0 HML.out).moves0 mm).tbl
        rw [HSTk.out.xx] at hTm
        have hbs := bookSame_yes wm gm vm ga va xsA hTm hTa (by have := HSTk.out.ok.few; have e := HSTk.out.xx; rw [e] at this; omega)
        have HMM : Hid (Moves [] w2 wm) := (HSTk.out.mv.then HML.out).then mm
        clear hal hO hF mm hTm hTa
        go_wp2_with fail
        refine hbs.mono ?_
        rintro _ wn ⟨rfl, mn⟩
        go_wp2_with fail
        refine (known12_w wn).mono ?_
        rintro _ wo ⟨rfl, mo⟩
        go_wp2_with fail
        go_ret
        exact ⟨rfl, ((HM2.out.then HMM.out).then mn).then mo⟩
    | true =>
      have hpb : Calls Tryz.prog 10 #[.pointer (some ⟨p, 0, none⟩), .int .i64 7, .int .i64 2, .agg (pubV R.1.gen (-1))] w10 fun e w' => e = .returned (.agg (ansV (pTold 0))) ∧ MrG w2 w10 p q c a8 R.2 w' a8 (mPub R.2 R.1.gen (-1)).2 := by
        have hpo := pub_ok R.2 HST.out.ok (-1) (by rw [hpe.2.1]; exact hpe.2.2.symm)
        rw [hpe.2.1] at hpo
        have := doPub_w w2 w10 p q c a8 R.2 HST.out.is HST.out.ok 7 2 R.1.gen (-1) (by rw [hpe.1]; show (1 : Int) ≤ 1 + 1; omega) (by have := HST.out.ok.l1; rw [hpe.2.2] at this; exact this) (.inr rfl)
        rw [hpo.1] at this
        exact this
      have hpo := pub_ok R.2 HST.out.ok (-1) (by rw [hpe.2.1]; exact hpe.2.2.symm)
      rw [hpe.2.1] at hpo
      obtain ⟨S2, hS2⟩ : ∃ S2, (mPub R.2 R.1.gen (-1)).2 = S2 := ⟨_, rfl⟩
      rw [hS2] at hpb hpo
      have HPO : Hid (OkM S2 ∧ S2.ca = R.2.ca ∧ S2.last = R.2.last) := hpo.2
      unfold pubV at hpb
      clear hpo hS2 hpe hc
      go_wp2_with fail
      refine hpb.mono ?_
      rintro _ w11 ⟨rfl, hG⟩
      have HSX : Hid (OnceSt w2 w11 p q c a8 S2 R.1 B0 B1 BA _ d i t d' i' t') := ⟨hG.is, HPO.out.1, by rw [HPO.out.2.1]; exact HST.out.ca, by rw [HPO.out.2.2]; exact HST.out.le, HST.out.b0.step hG, HST.out.b1.step hG, HST.out.ba.step hG, hG.old HST.out.mv (fun _ hk => HST.out.is.young hk)⟩
      clear hpb hG HST c0 c5 HPO
      -- all, and the third plan
      go_wp2_with fail
      refine (mall_w w2 w11 p q c a8 S2 HSX.out.is HSX.out.ok).mono ?_
      rintro _ wa ⟨va, rfl, hO, hF, ma⟩
      have HTB : Hid (TabB wa va S2.xs p q c a8) := ⟨hO, fun k hk => HSX.out.is.notin (hF k hk)⟩
      have HSY : Hid (OnceSt w2 wa p q c a8 S2 R.1 B0 B1 BA _ d i t d' i' t') := HSX.out.moves0 ma
      clear hO hF ma HSX
      have HF3' := fresh1 S2 HSY.out.ok 7 3 act2 s2 to2 (by rw [HSY.out.ca]; omega) (by omega) (by omega) (by omega) (by omega) HB2.out
      obtain ⟨R3, hR3⟩ : ∃ R3, mPlan S2 7 3 act2 s2 to2 = R3 := ⟨_, rfl⟩
      have hd1 : ∀ wA, Moves [] wa wA → Calls Tryz.prog 10 #[.pointer (some ⟨p, 0, none⟩), .int .i64 7, .int .i64 3, .agg (plV act2 s2 to2)] wA fun e w' => ∃ cs a', e = .returned (.agg cs.toArray) ∧ AnsC w' cs R3.1 ∧ MrG w2 wA p q c a8 S2 w' a' R3.2 := by
        intro wA mA
        rw [← hR3]
        exact doPlan_w w2 wA p q c a8 S2 (HSY.out.is.moves0 mA) HSY.out.ok (HSY.out.mv.then mA).size 7 3 act2 s2 to2 HB2.out
      rw [hR3] at HF3'
      have HF3 : Hid (Fresh1 S2 7 3 R3) := HF3'
      clear hR3 HF3'
      obtain ⟨x0, x1, x2⟩ : wa.cell? ⟨B1, 0, none⟩ = some (.int .i64 d') ∧ wa.cell? ⟨B1, 1, none⟩ = some (.int .i64 i') ∧ wa.cell? ⟨B1, 2, none⟩ = some (.int .i64 t') := by have hh := HSY.out.b1.at'; simp [World.cell?, hh]
      go_wp2_with fail
      refine (hkp2 _).mono ?_
      rintro _ wb ⟨rfl, mA⟩
      have hd := hd1 wb mA
      unfold plV at hd ⊢
      have HMb : Hid (Moves [] wa wb) := mA
      clear x0 x1 x2 hd1 mA
      go_wp2_with fail
      refine hd.mono ?_
      rintro _ wc ⟨cc, a3, rfl, hA, hG⟩
      have HLc : Hid (cc.length = 11 ∧ ∀ u ∈ cc, u.oneCell' = true) := hA.len
      have HACc : Hid (AnsC wc cc R3.1) := hA
      have HGc : Hid (MrG w2 wb p q c a8 S2 wc a3 R3.2) := hG
      clear hd hG hA
      go_wp2_with (with_reducible refine stopA _ _ rfl ?_)
      unfold Hid
      have hz := heap_alloc_new wc (.cells #[.int .i64 0, .slice none 0 0, .string ⟨#[]⟩, .string ⟨#[]⟩, .int .i64 0, .int .i64 0, .int .i64 0, .int .i64 0, .int .i64 0, .string ⟨#[]⟩, .slice none 0 0] 48)
      have mz : Moves [] wc (wc.alloc (.cells #[.int .i64 0, .slice none 0 0, .string ⟨#[]⟩, .string ⟨#[]⟩, .int .i64 0, .int .i64 0, .int .i64 0, .int .i64 0, .int .i64 0, .string ⟨#[]⟩, .slice none 0 0] 48)) := (Moves.refl _ _).alloc _
      refine wpList_storeAns rfl _ _ rfl wc.heap.size cc rfl rfl HLc.out.1 HLc.out.2 hz rfl ?_
      intro wx hh mm
      have Mwx : Moves [] wc wx := mz.trans mm (fun x hx => .inr (by simp at hx; omega))
      clear hz mz mm
      have HST2 : Hid (OnceT w2 wx p q c a3 R3.2 B0 wc.heap.size cc.toArray va S2.xs d i t) := OnceT.mk' HSY.out HTB.out HMb.out HGc.out Mwx hh HF3.out.ok HF3.out.xs
      have hba := (((HSY.out.ba.moves0 HMb.out).step HGc.out).moves0 Mwx).at'
      have u5 := (eleven_cells hba).2.2.2.2.2.1
      have hlt : R3.1.code = 0 → ¬ R3.1.gen ≤ R.1.gen := by
        intro hc
        have e1 := (HF3.out.pe hc).1
        have e2 := HSY.out.le
        omega
      have HLT : Hid (R3.1.code = 0 → ¬ R3.1.gen ≤ R.1.gen) := hlt
      clear hh Mwx HGc HMb hba hlt HSY HTB
      obtain ⟨BC, hBC⟩ : ∃ BC, wc.heap.size = BC := ⟨_, rfl⟩
      rw [hBC] at HST2 ⊢
      clear hBC
      have HAC2 : Hid (AnsC wc cc R3.1) := HACc
      obtain ⟨c1, c2, c3, c4, c5, c6, c7, rfl, -⟩ := HACc.out
      clear HACc
      have v0 : wx.cell? ⟨BC, 0, none⟩ = some (.int .i64 R3.1.code) := (eleven_cells HST2.out.bc.at').1
      have v5 : wx.cell? ⟨BC, 5, none⟩ = some (.int .i64 R3.1.gen) := (eleven_cells HST2.out.bc.at').2.2.2.2.2.1
      generalize hxs : S2.xs = xsA at HST2
      clear hxs
      clear HLc
      by_cases h3 : R3.1.code = 0
      · have h3' : (R3.1.code == 0) = true := beq_iff_eq.2 h3
        have h4 : ¬ R3.1.gen ≤ R.1.gen := HLT.out h3
        clear h3
        -- an old number
        obtain ⟨x0, x1, x2⟩ : wx.cell? ⟨B0, 0, none⟩ = some (.int .i64 d) ∧ wx.cell? ⟨B0, 1, none⟩ = some (.int .i64 i) ∧ wx.cell? ⟨B0, 2, none⟩ = some (.int .i64 t) := by have hh := HST2.out.b0.at'; simp [World.cell?, hh]
        go_wp2_with fail
        refine (hkp1 _).mono ?_
        rintro _ wd ⟨rfl, mA⟩
        have hd : Calls Tryz.prog 10 #[.pointer (some ⟨p, 0, none⟩), .int .i64 7, .int .i64 2, .agg (plV act1 s1 to1)] wd fun e w' => ∃ cs a', e = .returned (.agg cs.toArray) ∧ AnsC w' cs (pTold 27) ∧ MrG w2 wd p q c a3 R3.2 w' a' R3.2 := by
          have := doPlan_w w2 wd p q c a3 R3.2 (HST2.out.is.moves0 mA) HST2.out.ok (HST2.out.mv.then mA).size 7 2 act1 s1 to1 HB1.out
          rw [plan_old R3.2 7 2 act1 s1 to1 (by have := HB1.out; omega) (by rw [HF3.out.ca]; show (2 : Int) < 3; omega)] at this
          exact this
        unfold plV at hd ⊢
        have HMd : Hid (Moves [] wx wd) := mA
        clear x0 x1 x2 mA
        go_wp2_with fail
        refine hd.mono ?_
        rintro _ we ⟨cd, a4, rfl, hA, hG⟩
        have HLd : Hid (cd.length = 11 ∧ ∀ u ∈ cd, u.oneCell' = true) := hA.len
        have HGe : Hid (MrG w2 wd p q c a3 R3.2 we a4 R3.2) := hG
        have HAd : Hid (AnsC we cd (pTold 27)) := hA
        clear hd hG hA
        go_wp2_with (with_reducible refine stopA _ _ rfl ?_)
        unfold Hid
        have hz := heap_alloc_new we (.cells #[.int .i64 0, .slice none 0 0, .string ⟨#[]⟩, .string ⟨#[]⟩, .int .i64 0, .int .i64 0, .int .i64 0, .int .i64 0, .int .i64 0, .string ⟨#[]⟩, .slice none 0 0] 48)
        have mz : Moves [] we (we.alloc (.cells #[.int .i64 0, .slice none 0 0, .string ⟨#[]⟩, .string ⟨#[]⟩, .int .i64 0, .int .i64 0, .int .i64 0, .int .i64 0, .int .i64 0, .string ⟨#[]⟩, .slice none 0 0] 48)) := (Moves.refl _ _).alloc _
        refine wpList_storeAns rfl _ _ rfl we.heap.size cd rfl rfl HLd.out.1 HLd.out.2 hz rfl ?_
        intro wf hh mm
        have Mwf : Moves [] we wf := mz.trans mm (fun x hx => .inr (by simp at hx; omega))
        clear hz mz mm
        have HSTf : Hid (OnceT w2 wf p q c a4 R3.2 B0 BC _ va xsA d i t) := (HST2.out.step HMd.out HGe.out Mwf)
        have HBD : Hid (BoxB wf we.heap.size cd.toArray 48 p q c a4) := ⟨hh, HGe.out.is.notin (Nat.le_refl _)⟩
        clear hh Mwf HGe HMd HST2
        obtain ⟨BD, hBD⟩ : ∃ BD, we.heap.size = BD := ⟨_, rfl⟩
        rw [hBD] at HBD ⊢
        clear hBD
        -- and the same again
        obtain ⟨x0, x1, x2⟩ : wf.cell? ⟨B0, 0, none⟩ = some (.int .i64 d) ∧ wf.cell? ⟨B0, 1, none⟩ = some (.int .i64 i) ∧ wf.cell? ⟨B0, 2, none⟩ = some (.int .i64 t) := by have hh := HSTf.out.b0.at'; simp [World.cell?, hh]
        go_wp2_with fail
        refine (hkp1 _).mono ?_
        rintro _ wg ⟨rfl, mA⟩
        have hd : Calls Tryz.prog 10 #[.pointer (some ⟨p, 0, none⟩), .int .i64 7, .int .i64 3, .agg (plV act1 s1 to1)] wg fun e w' => ∃ cs a', e = .returned (.agg cs.toArray) ∧ AnsC w' cs R3.1 ∧ MrG w2 wg p q c a4 R3.2 w' a' R3.2 := by
          have := doPlan_w w2 wg p q c a4 R3.2 (HSTf.out.is.moves0 mA) HSTf.out.ok (HSTf.out.mv.then mA).size 7 3 act1 s1 to1 HB1.out
          rw [plan_again R3.2 7 3 act1 s1 to1 (by have := HB1.out; omega) R3.1 HF3.out.bare HF3.out.r (by omega) HF3.out.ca] at this
          exact this
        unfold plV at hd ⊢
        have HMg : Hid (Moves [] wf wg) := mA
        clear x0 x1 x2 mA
        go_wp2_with fail
        refine hd.mono ?_
        rintro _ wh ⟨ce, a6, rfl, hA, hG⟩
        have HLe : Hid (ce.length = 11 ∧ ∀ u ∈ ce, u.oneCell' = true) := hA.len
        have HGh : Hid (MrG w2 wg p q c a4 R3.2 wh a6 R3.2) := hG
        have HAe : Hid (AnsC wh ce R3.1) := hA
        clear hd hG hA
        go_wp2_with (with_reducible refine stopA _ _ rfl ?_)
        unfold Hid
        have hz := heap_alloc_new wh (.cells #[.int .i64 0, .slice none 0 0, .string ⟨#[]⟩, .string ⟨#[]⟩, .int .i64 0, .int .i64 0, .int .i64 0, .int .i64 0, .int .i64 0, .string ⟨#[]⟩, .slice none 0 0] 48)
        have mz : Moves [] wh (wh.alloc (.cells #[.int .i64 0, .slice none 0 0, .string ⟨#[]⟩, .string ⟨#[]⟩, .int .i64 0, .int .i64 0, .int .i64 0, .int .i64 0, .int .i64 0, .string ⟨#[]⟩, .slice none 0 0] 48)) := (Moves.refl _ _).alloc _
        refine wpList_storeAns rfl _ _ rfl wh.heap.size ce rfl rfl HLe.out.1 HLe.out.2 hz rfl ?_
        intro wk hh mm
        have Mwk : Moves [] wh wk := mz.trans mm (fun x hx => .inr (by simp at hx; omega))
        clear hz mz mm
        have HSTk : Hid (OnceT w2 wk p q c a6 R3.2 B0 BC _ va xsA d i t) := (HSTf.out.step HMg.out HGh.out Mwk)
        have HBDk : Hid (BoxB wk BD cd.toArray 48 p q c a6) := ((HBD.out.moves0 HMg.out).step HGh.out).moves0 Mwk
        have HBE : Hid (wk.heap[wh.heap.size]? = some (.cells ce.toArray 48 (0, 0))) := hh
        clear hh Mwk HGh HMg HSTf HBD
        obtain ⟨BE, hBE⟩ : ∃ BE, wh.heap.size = BE := ⟨_, rfl⟩
        rw [hBE] at HBE ⊢
        clear hBE
        have hs := rsameA_yes wk _ ce R3.1 HF3.out.bare (HAC2.out.bare HF3.out.bare) (HAe.out.bare HF3.out.bare)
        obtain ⟨d1, d2, d3, d4, d5, d6, d7, rfl, -⟩ := HAd.out
        obtain ⟨e1, e2, e3, e4, e5, e6, e7, rfl, -⟩ := HAe.out
        obtain ⟨x0, x1, x2, x3, x4, x5, x6, x7, x8, x9, x10⟩ := eleven_cells HSTk.out.bc.at'
        obtain ⟨y0, y1, y2, y3, y4, y5, y6, y7, y8, y9, y10⟩ := eleven_cells HBE.out
        have z0 : wk.cell? ⟨BD, 0, none⟩ = some (.int .i64 27) := (eleven_cells HBDk.out.at').1
        clear HLd HLe HAd HAe
        go_wp2_with fail
        refine hs.mono ?_
        rintro _ wl ⟨rfl, ml⟩
        clear x0 x1 x2 x3 x4 x5 x6 x7 x8 x9 x10 y0 y1 y2 y3 y4 y5 y6 y7 y8 y9 y10 z0 hs
        have hal := mall_w w2 wl p q c a6 R3.2 (HSTk.out.is.moves0 ml) HSTk.out.ok
        have HML : Hid (Moves [] wk wl) := ml
        clear ml
        go_wp2_with fail
        refine hal.mono ?_
        rintro _ wm ⟨vm, rfl, hO, hF, mm⟩
        obtain ⟨gm, hTm, -⟩ := hO.ex hF
        obtain ⟨ga, hTa⟩ := ((HSTk.out.tab.moves0 HML.out).moves0 mm).tbl
        rw [HSTk.out.xx] at hTm
        have hbs := bookSame_yes wm gm vm ga va xsA hTm hTa (by have := HSTk.out.ok.few; have e := HSTk.out.xx; rw [e] at this; omega)
        have HMM : Hid (Moves [] w2 wm) := (HSTk.out.mv.then HML.out).then mm
        clear hal hO hF mm hTm hTa
        go_wp2_with fail
        refine hbs.mono ?_
        rintro _ wn ⟨rfl, mn⟩
        go_wp2_with fail
        refine (known12_w wn).mono ?_
        rintro _ wo ⟨rfl, mo⟩
        go_wp2_with fail
        go_ret
        exact ⟨rfl, ((HM2.out.then HMM.out).then mn).then mo⟩
      · have h3' : (R3.1.code == 0) = false := beq_eq_false_iff_ne.2 h3
        clear h3
        -- an old number
        obtain ⟨x0, x1, x2⟩ : wx.cell? ⟨B0, 0, none⟩ = some (.int .i64 d) ∧ wx.cell? ⟨B0, 1, none⟩ = some (.int .i64 i) ∧ wx.cell? ⟨B0, 2, none⟩ = some (.int .i64 t) := by have hh := HST2.out.b0.at'; simp [World.cell?, hh]
        go_wp2_with fail
        refine (hkp1 _).mono ?_
        rintro _ wd ⟨rfl, mA⟩
        have hd : Calls Tryz.prog 10 #[.pointer (some ⟨p, 0, none⟩), .int .i64 7, .int .i64 2, .agg (plV act1 s1 to1)] wd fun e w' => ∃ cs a', e = .returned (.agg cs.toArray) ∧ AnsC w' cs (pTold 27) ∧ MrG w2 wd p q c a3 R3.2 w' a' R3.2 := by
          have := doPlan_w w2 wd p q c a3 R3.2 (HST2.out.is.moves0 mA) HST2.out.ok (HST2.out.mv.then mA).size 7 2 act1 s1 to1 HB1.out
          rw [plan_old R3.2 7 2 act1 s1 to1 (by have := HB1.out; omega) (by rw [HF3.out.ca]; show (2 : Int) < 3; omega)] at this
          exact this
        unfold plV at hd ⊢
        have HMd : Hid (Moves [] wx wd) := mA
        clear x0 x1 x2 mA
        go_wp2_with fail
        refine hd.mono ?_
        rintro _ we ⟨cd, a4, rfl, hA, hG⟩
        have HLd : Hid (cd.length = 11 ∧ ∀ u ∈ cd, u.oneCell' = true) := hA.len
        have HGe : Hid (MrG w2 wd p q c a3 R3.2 we a4 R3.2) := hG
        have HAd : Hid (AnsC we cd (pTold 27)) := hA
        clear hd hG hA
        go_wp2_with (with_reducible refine stopA _ _ rfl ?_)
        unfold Hid
        have hz := heap_alloc_new we (.cells #[.int .i64 0, .slice none 0 0, .string ⟨#[]⟩, .string ⟨#[]⟩, .int .i64 0, .int .i64 0, .int .i64 0, .int .i64 0, .int .i64 0, .string ⟨#[]⟩, .slice none 0 0] 48)
        have mz : Moves [] we (we.alloc (.cells #[.int .i64 0, .slice none 0 0, .string ⟨#[]⟩, .string ⟨#[]⟩, .int .i64 0, .int .i64 0, .int .i64 0, .int .i64 0, .int .i64 0, .string ⟨#[]⟩, .slice none 0 0] 48)) := (Moves.refl _ _).alloc _
        refine wpList_storeAns rfl _ _ rfl we.heap.size cd rfl rfl HLd.out.1 HLd.out.2 hz rfl ?_
        intro wf hh mm
        have Mwf : Moves [] we wf := mz.trans mm (fun x hx => .inr (by simp at hx; omega))
        clear hz mz mm
        have HSTf : Hid (OnceT w2 wf p q c a4 R3.2 B0 BC _ va xsA d i t) := (HST2.out.step HMd.out HGe.out Mwf)
        have HBD : Hid (BoxB wf we.heap.size cd.toArray 48 p q c a4) := ⟨hh, HGe.out.is.notin (Nat.le_refl _)⟩
        clear hh Mwf HGe HMd HST2
        obtain ⟨BD, hBD⟩ : ∃ BD, we.heap.size = BD := ⟨_, rfl⟩
        rw [hBD] at HBD ⊢
        clear hBD
        -- and the same again
        obtain ⟨x0, x1, x2⟩ : wf.cell? ⟨B0, 0, none⟩ = some (.int .i64 d) ∧ wf.cell? ⟨B0, 1, none⟩ = some (.int .i64 i) ∧ wf.cell? ⟨B0, 2, none⟩ = some (.int .i64 t) := by have hh := HSTf.out.b0.at'; simp [World.cell?, hh]
        go_wp2_with fail
        refine (hkp1 _).mono ?_
        rintro _ wg ⟨rfl, mA⟩
        have hd : Calls Tryz.prog 10 #[.pointer (some ⟨p, 0, none⟩), .int .i64 7, .int .i64 3, .agg (plV act1 s1 to1)] wg fun e w' => ∃ cs a', e = .returned (.agg cs.toArray) ∧ AnsC w' cs R3.1 ∧ MrG w2 wg p q c a4 R3.2 w' a' R3.2 := by
          have := doPlan_w w2 wg p q c a4 R3.2 (HSTf.out.is.moves0 mA) HSTf.out.ok (HSTf.out.mv.then mA).size 7 3 act1 s1 to1 HB1.out
          rw [plan_again R3.2 7 3 act1 s1 to1 (by have := HB1.out; omega) R3.1 HF3.out.bare HF3.out.r (by omega) HF3.out.ca] at this
          exact this
        unfold plV at hd ⊢
        have HMg : Hid (Moves [] wf wg) := mA
        clear x0 x1 x2 mA
        go_wp2_with fail
        refine hd.mono ?_
        rintro _ wh ⟨ce, a6, rfl, hA, hG⟩
        have HLe : Hid (ce.length = 11 ∧ ∀ u ∈ ce, u.oneCell' = true) := hA.len
        have HGh : Hid (MrG w2 wg p q c a4 R3.2 wh a6 R3.2) := hG
        have HAe : Hid (AnsC wh ce R3.1) := hA
        clear hd hG hA
        go_wp2_with (with_reducible refine stopA _ _ rfl ?_)
        unfold Hid
        have hz := heap_alloc_new wh (.cells #[.int .i64 0, .slice none 0 0, .string ⟨#[]⟩, .string ⟨#[]⟩, .int .i64 0, .int .i64 0, .int .i64 0, .int .i64 0, .int .i64 0, .string ⟨#[]⟩, .slice none 0 0] 48)
        have mz : Moves [] wh (wh.alloc (.cells #[.int .i64 0, .slice none 0 0, .string ⟨#[]⟩, .string ⟨#[]⟩, .int .i64 0, .int .i64 0, .int .i64 0, .int .i64 0, .int .i64 0, .string ⟨#[]⟩, .slice none 0 0] 48)) := (Moves.refl _ _).alloc _
        refine wpList_storeAns rfl _ _ rfl wh.heap.size ce rfl rfl HLe.out.1 HLe.out.2 hz rfl ?_
        intro wk hh mm
        have Mwk : Moves [] wh wk := mz.trans mm (fun x hx => .inr (by simp at hx; omega))
        clear hz mz mm
        have HSTk : Hid (OnceT w2 wk p q c a6 R3.2 B0 BC _ va xsA d i t) := (HSTf.out.step HMg.out HGh.out Mwk)
        have HBDk : Hid (BoxB wk BD cd.toArray 48 p q c a6) := ((HBD.out.moves0 HMg.out).step HGh.out).moves0 Mwk
        have HBE : Hid (wk.heap[wh.heap.size]? = some (.cells ce.toArray 48 (0, 0))) := hh
        clear hh Mwk HGh HMg HSTf HBD
        obtain ⟨BE, hBE⟩ : ∃ BE, wh.heap.size = BE := ⟨_, rfl⟩
        rw [hBE] at HBE ⊢
        clear hBE
        have hs := rsameA_yes wk _ ce R3.1 HF3.out.bare (HAC2.out.bare HF3.out.bare) (HAe.out.bare HF3.out.bare)
        obtain ⟨d1, d2, d3, d4, d5, d6, d7, rfl, -⟩ := HAd.out
        obtain ⟨e1, e2, e3, e4, e5, e6, e7, rfl, -⟩ := HAe.out
        obtain ⟨x0, x1, x2, x3, x4, x5, x6, x7, x8, x9, x10⟩ := eleven_cells HSTk.out.bc.at'
        obtain ⟨y0, y1, y2, y3, y4, y5, y6, y7, y8, y9, y10⟩ := eleven_cells HBE.out
        have z0 : wk.cell? ⟨BD, 0, none⟩ = some (.int .i64 27) := (eleven_cells HBDk.out.at').1
        clear HLd HLe HAd HAe
        go_wp2_with fail
        refine hs.mono ?_
        rintro _ wl ⟨rfl, ml⟩
        clear x0 x1 x2 x3 x4 x5 x6 x7 x8 x9 x10 y0 y1 y2 y3 y4 y5 y6 y7 y8 y9 y10 z0 hs
        have hal := mall_w w2 wl p q c a6 R3.2 (HSTk.out.is.moves0 ml) HSTk.out.ok
        have HML : Hid (Moves [] wk wl) := ml
        clear ml
        go_wp2_with fail
        refine hal.mono ?_
        rintro _ wm ⟨vm, rfl, hO, hF, mm⟩
        obtain ⟨gm, hTm, -⟩ := hO.ex hF
        obtain ⟨ga, hTa⟩ := ((HSTk.out.tab.moves0 HML.out).moves0 mm).tbl
        rw [HSTk.out.xx] at hTm
        have hbs := bookSame_yes wm gm vm ga va xsA hTm hTa (by have := HSTk.out.ok.few; have e := HSTk.out.xx; rw [e] at this; omega)
        have HMM : Hid (Moves [] w2 wm) := (HSTk.out.mv.then HML.out).then mm
        clear hal hO hF mm hTm hTa
        go_wp2_with fail
        refine hbs.mono ?_
        rintro _ wn ⟨rfl, mn⟩
        go_wp2_with fail
        refine (known12_w wn).mono ?_
        rintro _ wo ⟨rfl, mo⟩
        go_wp2_with fail
        go_ret
        exact ⟨rfl, ((HM2.out.then HMM.out).then mn).then mo⟩
  · have hc' : (R.1.code == 0) = false := beq_eq_false_iff_ne.2 hc
    have HSX := HST
    clear hc HST c5
    -- all, and the third plan
    go_wp2_with fail
    refine (mall_w w2 w10 p q c a8 R.2 HSX.out.is HSX.out.ok).mono ?_
    rintro _ wa ⟨va, rfl, hO, hF, ma⟩
    have HTB : Hid (TabB wa va R.2.xs p q c a8) := ⟨hO, fun k hk => HSX.out.is.notin (hF k hk)⟩
    have HSY : Hid (OnceSt w2 wa p q c a8 R.2 R.1 B0 B1 BA _ d i t d' i' t') := HSX.out.moves0 ma
    clear hO hF ma HSX
    have HF3' := fresh1 R.2 HSY.out.ok 7 3 act2 s2 to2 (by rw [HSY.out.ca]; omega) (by omega) (by omega) (by omega) (by omega) HB2.out
    obtain ⟨R3, hR3⟩ : ∃ R3, mPlan R.2 7 3 act2 s2 to2 = R3 := ⟨_, rfl⟩
    have hd1 : ∀ wA, Moves [] wa wA → Calls Tryz.prog 10 #[.pointer (some ⟨p, 0, none⟩), .int .i64 7, .int .i64 3, .agg (plV act2 s2 to2)] wA fun e w' => ∃ cs a', e = .returned (.agg cs.toArray) ∧ AnsC w' cs R3.1 ∧ MrG w2 wA p q c a8 R.2 w' a' R3.2 := by
      intro wA mA
      rw [← hR3]
      exact doPlan_w w2 wA p q c a8 R.2 (HSY.out.is.moves0 mA) HSY.out.ok (HSY.out.mv.then mA).size 7 3 act2 s2 to2 HB2.out
    rw [hR3] at HF3'
    have HF3 : Hid (Fresh1 R.2 7 3 R3) := HF3'
    clear hR3 HF3'
    obtain ⟨x0, x1, x2⟩ : wa.cell? ⟨B1, 0, none⟩ = some (.int .i64 d') ∧ wa.cell? ⟨B1, 1, none⟩ = some (.int .i64 i') ∧ wa.cell? ⟨B1, 2, none⟩ = some (.int .i64 t') := by have hh := HSY.out.b1.at'; simp [World.cell?, hh]
    go_wp2_with fail
    refine (hkp2 _).mono ?_
    rintro _ wb ⟨rfl, mA⟩
    have hd := hd1 wb mA
    unfold plV at hd ⊢
    have HMb : Hid (Moves [] wa wb) := mA
    clear x0 x1 x2 hd1 mA
    go_wp2_with fail
    refine hd.mono ?_
    rintro _ wc ⟨cc, a3, rfl, hA, hG⟩
    have HLc : Hid (cc.length = 11 ∧ ∀ u ∈ cc, u.oneCell' = true) := hA.len
    have HACc : Hid (AnsC wc cc R3.1) := hA
    have HGc : Hid (MrG w2 wb p q c a8 R.2 wc a3 R3.2) := hG
    clear hd hG hA
    go_wp2_with (with_reducible refine stopA _ _ rfl ?_)
    unfold Hid
    have hz := heap_alloc_new wc (.cells #[.int .i64 0, .slice none 0 0, .string ⟨#[]⟩, .string ⟨#[]⟩, .int .i64 0, .int .i64 0, .int .i64 0, .int .i64 0, .int .i64 0, .string ⟨#[]⟩, .slice none 0 0] 48)
    have mz : Moves [] wc (wc.alloc (.cells #[.int .i64 0, .slice none 0 0, .string ⟨#[]⟩, .string ⟨#[]⟩, .int .i64 0, .int .i64 0, .int .i64 0, .int .i64 0, .int .i64 0, .string ⟨#[]⟩, .slice none 0 0] 48)) := (Moves.refl _ _).alloc _
    refine wpList_storeAns rfl _ _ rfl wc.heap.size cc rfl rfl HLc.out.1 HLc.out.2 hz rfl ?_
    intro wx hh mm
    have Mwx : Moves [] wc wx := mz.trans mm (fun x hx => .inr (by simp at hx; omega))
    clear hz mz mm
    have HST2 : Hid (OnceT w2 wx p q c a3 R3.2 B0 wc.heap.size cc.toArray va R.2.xs d i t) := OnceT.mk' HSY.out HTB.out HMb.out HGc.out Mwx hh HF3.out.ok HF3.out.xs
    have hba := (((HSY.out.ba.moves0 HMb.out).step HGc.out).moves0 Mwx).at'
    have u5 := (eleven_cells hba).2.2.2.2.2.1
    have hlt : R3.1.code = 0 → ¬ R3.1.gen ≤ R.1.gen := by
      intro hc
      have e1 := (HF3.out.pe hc).1
      have e2 := HSY.out.le
      omega
    have HLT : Hid (R3.1.code = 0 → ¬ R3.1.gen ≤ R.1.gen) := hlt
    clear hh Mwx HGc HMb hba hlt HSY HTB
    obtain ⟨BC, hBC⟩ : ∃ BC, wc.heap.size = BC := ⟨_, rfl⟩
    rw [hBC] at HST2 ⊢
    clear hBC
    have HAC2 : Hid (AnsC wc cc R3.1) := HACc
    obtain ⟨c1, c2, c3, c4, c5, c6, c7, rfl, -⟩ := HACc.out
    clear HACc
    have v0 : wx.cell? ⟨BC, 0, none⟩ = some (.int .i64 R3.1.code) := (eleven_cells HST2.out.bc.at').1
    have v5 : wx.cell? ⟨BC, 5, none⟩ = some (.int .i64 R3.1.gen) := (eleven_cells HST2.out.bc.at').2.2.2.2.2.1
    generalize hxs : R.2.xs = xsA at HST2
    clear hxs
    clear HLc
    by_cases h3 : R3.1.code = 0
    · have h3' : (R3.1.code == 0) = true := beq_iff_eq.2 h3
      have h4 : ¬ R3.1.gen ≤ R.1.gen := HLT.out h3
      clear h3
      -- an old number
      obtain ⟨x0, x1, x2⟩ : wx.cell? ⟨B0, 0, none⟩ = some (.int .i64 d) ∧ wx.cell? ⟨B0, 1, none⟩ = some (.int .i64 i) ∧ wx.cell? ⟨B0, 2, none⟩ = some (.int .i64 t) := by have hh := HST2.out.b0.at'; simp [World.cell?, hh]
      go_wp2_with fail
      refine (hkp1 _).mono ?_
      rintro _ wd ⟨rfl, mA⟩
      have hd : Calls Tryz.prog 10 #[.pointer (some ⟨p, 0, none⟩), .int .i64 7, .int .i64 2, .agg (plV act1 s1 to1)] wd fun e w' => ∃ cs a', e = .returned (.agg cs.toArray) ∧ AnsC w' cs (pTold 27) ∧ MrG w2 wd p q c a3 R3.2 w' a' R3.2 := by
        have := doPlan_w w2 wd p q c a3 R3.2 (HST2.out.is.moves0 mA) HST2.out.ok (HST2.out.mv.then mA).size 7 2 act1 s1 to1 HB1.out
        rw [plan_old R3.2 7 2 act1 s1 to1 (by have := HB1.out; omega) (by rw [HF3.out.ca]; show (2 : Int) < 3; omega)] at this
        exact this
      unfold plV at hd ⊢
      have HMd : Hid (Moves [] wx wd) := mA
      clear x0 x1 x2 mA
      go_wp2_with fail
      refine hd.mono ?_
      rintro _ we ⟨cd, a4, rfl, hA, hG⟩
      have HLd : Hid (cd.length = 11 ∧ ∀ u ∈ cd, u.oneCell' = true) := hA.len
      have HGe : Hid (MrG w2 wd p q c a3 R3.2 we a4 R3.2) := hG
      have HAd : Hid (AnsC we cd (pTold 27)) := hA
      clear hd hG hA
      go_wp2_with (with_reducible refine stopA _ _ rfl ?_)
      unfold Hid
      have hz := heap_alloc_new we (.cells #[.int .i64 0, .slice none 0 0, .string ⟨#[]⟩, .string ⟨#[]⟩, .int .i64 0, .int .i64 0, .int .i64 0, .int .i64 0, .int .i64 0, .string ⟨#[]⟩, .slice none 0 0] 48)
      have mz : Moves [] we (we.alloc (.cells #[.int .i64 0, .slice none 0 0, .string ⟨#[]⟩, .string ⟨#[]⟩, .int .i64 0, .int .i64 0, .int .i64 0, .int .i64 0, .int .i64 0, .string ⟨#[]⟩, .slice none 0 0] 48)) := (Moves.refl _ _).alloc _
      refine wpList_storeAns rfl _ _ rfl we.heap.size cd rfl rfl HLd.out.1 HLd.out.2 hz rfl ?_
      intro wf hh mm
      have Mwf : Moves [] we wf := mz.trans mm (fun x hx => .inr (by simp at hx; omega))
      clear hz mz mm
      have HSTf : Hid (OnceT w2 wf p q c a4 R3.2 B0 BC _ va xsA d i t) := (HST2.out.step HMd.out HGe.out Mwf)
      have HBD : Hid (BoxB wf we.heap.size cd.toArray 48 p q c a4) := ⟨hh, HGe.out.is.notin (Nat.le_refl _)⟩
      clear hh Mwf HGe HMd HST2
      obtain ⟨BD, hBD⟩ : ∃ BD, we.heap.size = BD := ⟨_, rfl⟩
      rw [hBD] at HBD ⊢
      clear hBD
      -- and the same again
      obtain ⟨x0, x1, x2⟩ : wf.cell? ⟨B0, 0, none⟩ = some (.int .i64 d) ∧ wf.cell? ⟨B0, 1, none⟩ = some (.int .i64 i) ∧ wf.cell? ⟨B0, 2, none⟩ = some (.int .i64 t) := by have hh := HSTf.out.b0.at'; simp [World.cell?, hh]
      go_wp2_with fail
      refine (hkp1 _).mono ?_
      rintro _ wg ⟨rfl, mA⟩
      have hd : Calls Tryz.prog 10 #[.pointer (some ⟨p, 0, none⟩), .int .i64 7, .int .i64 3, .agg (plV act1 s1 to1)] wg fun e w' => ∃ cs a', e = .returned (.agg cs.toArray) ∧ AnsC w' cs R3.1 ∧ MrG w2 wg p q c a4 R3.2 w' a' R3.2 := by
        have := doPlan_w w2 wg p q c a4 R3.2 (HSTf.out.is.moves0 mA) HSTf.out.ok (HSTf.out.mv.then mA).size 7 3 act1 s1 to1 HB1.out
        rw [plan_again R3.2 7 3 act1 s1 to1 (by have := HB1.out; omega) R3.1 HF3.out.bare HF3.out.r (by omega) HF3.out.ca] at this
        exact this
      unfold plV at hd ⊢
      have HMg : Hid (Moves [] wf wg) := mA
      clear x0 x1 x2 mA
      go_wp2_with fail
      refine hd.mono ?_
      rintro _ wh ⟨ce, a6, rfl, hA, hG⟩
      have HLe : Hid (ce.length = 11 ∧ ∀ u ∈ ce, u.oneCell' = true) := hA.len
      have HGh : Hid (MrG w2 wg p q c a4 R3.2 wh a6 R3.2) := hG
      have HAe : Hid (AnsC wh ce R3.1) := hA
      clear hd hG hA
      go_wp2_with (with_reducible refine stopA _ _ rfl ?_)
      unfold Hid
      have hz := heap_alloc_new wh (.cells #[.int .i64 0, .slice none 0 0, .string ⟨#[]⟩, .string ⟨#[]⟩, .int .i64 0, .int .i64 0, .int .i64 0, .int .i64 0, .int .i64 0, .string ⟨#[]⟩, .slice none 0 0] 48)
      have mz : Moves [] wh (wh.alloc (.cells #[.int .i64 0, .slice none 0 0, .string ⟨#[]⟩, .string ⟨#[]⟩, .int .i64 0, .int .i64 0, .int .i64 0, .int .i64 0, .int .i64 0, .string ⟨#[]⟩, .slice none 0 0] 48)) := (Moves.refl _ _).alloc _
      refine wpList_storeAns rfl _ _ rfl wh.heap.size ce rfl rfl HLe.out.1 HLe.out.2 hz rfl ?_
      intro wk hh mm
      have Mwk : Moves [] wh wk := mz.trans mm (fun x hx => .inr (by simp at hx; omega))
      clear hz mz mm
      have HSTk : Hid (OnceT w2 wk p q c a6 R3.2 B0 BC _ va xsA d i t) := (HSTf.out.step HMg.out HGh.out Mwk)
      have HBDk : Hid (BoxB wk BD cd.toArray 48 p q c a6) := ((HBD.out.moves0 HMg.out).step HGh.out).moves0 Mwk
      have HBE : Hid (wk.heap[wh.heap.size]? = some (.cells ce.toArray 48 (0, 0))) := hh
      clear hh Mwk HGh HMg HSTf HBD
      obtain ⟨BE, hBE⟩ : ∃ BE, wh.heap.size = BE := ⟨_, rfl⟩
      rw [hBE] at HBE ⊢
      clear hBE
      have hs := rsameA_yes wk _ ce R3.1 HF3.out.bare (HAC2.out.bare HF3.out.bare) (HAe.out.bare HF3.out.bare)
      obtain ⟨d1, d2, d3, d4, d5, d6, d7, rfl, -⟩ := HAd.out
      obtain ⟨e1, e2, e3, e4, e5, e6, e7, rfl, -⟩ := HAe.out
      obtain ⟨x0, x1, x2, x3, x4, x5, x6, x7, x8, x9, x10⟩ := eleven_cells HSTk.out.bc.at'
      obtain ⟨y0, y1, y2, y3, y4, y5, y6, y7, y8, y9, y10⟩ := eleven_cells HBE.out
      have z0 : wk.cell? ⟨BD, 0, none⟩ = some (.int .i64 27) := (eleven_cells HBDk.out.at').1
      clear HLd HLe HAd HAe
      go_wp2_with fail
      refine hs.mono ?_
      rintro _ wl ⟨rfl, ml⟩
      clear x0 x1 x2 x3 x4 x5 x6 x7 x8 x9 x10 y0 y1 y2 y3 y4 y5 y6 y7 y8 y9 y10 z0 hs
      have hal := mall_w w2 wl p q c a6 R3.2 (HSTk.out.is.moves0 ml) HSTk.out.ok
      have HML : Hid (Moves [] wk wl) := ml
      clear ml
      go_wp2_with fail
      refine hal.mono ?_
      rintro _ wm ⟨vm, rfl, hO, hF, mm⟩
      obtain ⟨gm, hTm, -⟩ := hO.ex hF
      obtain ⟨ga, hTa⟩ := ((HSTk.out.tab.moves0 HML.out).moves0 mm).tbl
      rw [HSTk.out.xx] at hTm
      have hbs := bookSame_yes wm gm vm ga va xsA hTm hTa (by have := HSTk.out.ok.few; have e := HSTk.out.xx; rw [e] at this; omega)
      have HMM : Hid (Moves [] w2 wm) := (HSTk.out.mv.then HML.out).then mm
      clear hal hO hF mm hTm hTa
      go_wp2_with fail
      refine hbs.mono ?_
      rintro _ wn ⟨rfl, mn⟩
      go_wp2_with fail
      refine (known12_w wn).mono ?_
      rintro _ wo ⟨rfl, mo⟩
      go_wp2_with fail
      go_ret
      exact ⟨rfl, ((HM2.out.then HMM.out).then mn).then mo⟩
    · have h3' : (R3.1.code == 0) = false := beq_eq_false_iff_ne.2 h3
      clear h3
      -- an old number
      obtain ⟨x0, x1, x2⟩ : wx.cell? ⟨B0, 0, none⟩ = some (.int .i64 d) ∧ wx.cell? ⟨B0, 1, none⟩ = some (.int .i64 i) ∧ wx.cell? ⟨B0, 2, none⟩ = some (.int .i64 t) := by have hh := HST2.out.b0.at'; simp [World.cell?, hh]
      go_wp2_with fail
      refine (hkp1 _).mono ?_
      rintro _ wd ⟨rfl, mA⟩
      have hd : Calls Tryz.prog 10 #[.pointer (some ⟨p, 0, none⟩), .int .i64 7, .int .i64 2, .agg (plV act1 s1 to1)] wd fun e w' => ∃ cs a', e = .returned (.agg cs.toArray) ∧ AnsC w' cs (pTold 27) ∧ MrG w2 wd p q c a3 R3.2 w' a' R3.2 := by
        have := doPlan_w w2 wd p q c a3 R3.2 (HST2.out.is.moves0 mA) HST2.out.ok (HST2.out.mv.then mA).size 7 2 act1 s1 to1 HB1.out
        rw [plan_old R3.2 7 2 act1 s1 to1 (by have := HB1.out; omega) (by rw [HF3.out.ca]; show (2 : Int) < 3; omega)] at this
        exact this
      unfold plV at hd ⊢
      have HMd : Hid (Moves [] wx wd) := mA
      clear x0 x1 x2 mA
      go_wp2_with fail
      refine hd.mono ?_
      rintro _ we ⟨cd, a4, rfl, hA, hG⟩
      have HLd : Hid (cd.length = 11 ∧ ∀ u ∈ cd, u.oneCell' = true) := hA.len
      have HGe : Hid (MrG w2 wd p q c a3 R3.2 we a4 R3.2) := hG
      have HAd : Hid (AnsC we cd (pTold 27)) := hA
      clear hd hG hA
      go_wp2_with (with_reducible refine stopA _ _ rfl ?_)
      unfold Hid
      have hz := heap_alloc_new we (.cells #[.int .i64 0, .slice none 0 0, .string ⟨#[]⟩, .string ⟨#[]⟩, .int .i64 0, .int .i64 0, .int .i64 0, .int .i64 0, .int .i64 0, .string ⟨#[]⟩, .slice none 0 0] 48)
      have mz : Moves [] we (we.alloc (.cells #[.int .i64 0, .slice none 0 0, .string ⟨#[]⟩, .string ⟨#[]⟩, .int .i64 0, .int .i64 0, .int .i64 0, .int .i64 0, .int .i64 0, .string ⟨#[]⟩, .slice none 0 0] 48)) := (Moves.refl _ _).alloc _
      refine wpList_storeAns rfl _ _ rfl we.heap.size cd rfl rfl HLd.out.1 HLd.out.2 hz rfl ?_
      intro wf hh mm
      have Mwf : Moves [] we wf := mz.trans mm (fun x hx => .inr (by simp at hx; omega))
      clear hz mz mm
      have HSTf : Hid (OnceT w2 wf p q c a4 R3.2 B0 BC _ va xsA d i t) := (HST2.out.step HMd.out HGe.out Mwf)
      have HBD : Hid (BoxB wf we.heap.size cd.toArray 48 p q c a4) := ⟨hh, HGe.out.is.notin (Nat.le_refl _)⟩
      clear hh Mwf HGe HMd HST2
      obtain ⟨BD, hBD⟩ : ∃ BD, we.heap.size = BD := ⟨_, rfl⟩
      rw [hBD] at HBD ⊢
      clear hBD
      -- and the same again
      obtain ⟨x0, x1, x2⟩ : wf.cell? ⟨B0, 0, none⟩ = some (.int .i64 d) ∧ wf.cell? ⟨B0, 1, none⟩ = some (.int .i64 i) ∧ wf.cell? ⟨B0, 2, none⟩ = some (.int .i64 t) := by have hh := HSTf.out.b0.at'; simp [World.cell?, hh]
      go_wp2_with fail
      refine (hkp1 _).mono ?_
      rintro _ wg ⟨rfl, mA⟩
      have hd : Calls Tryz.prog 10 #[.pointer (some ⟨p, 0, none⟩), .int .i64 7, .int .i64 3, .agg (plV act1 s1 to1)] wg fun e w' => ∃ cs a', e = .returned (.agg cs.toArray) ∧ AnsC w' cs R3.1 ∧ MrG w2 wg p q c a4 R3.2 w' a' R3.2 := by
        have := doPlan_w w2 wg p q c a4 R3.2 (HSTf.out.is.moves0 mA) HSTf.out.ok (HSTf.out.mv.then mA).size 7 3 act1 s1 to1 HB1.out
        rw [plan_again R3.2 7 3 act1 s1 to1 (by have := HB1.out; omega) R3.1 HF3.out.bare HF3.out.r (by omega) HF3.out.ca] at this
        exact this
      unfold plV at hd ⊢
      have HMg : Hid (Moves [] wf wg) := mA
      clear x0 x1 x2 mA
      go_wp2_with fail
      refine hd.mono ?_
      rintro _ wh ⟨ce, a6, rfl, hA, hG⟩
      have HLe : Hid (ce.length = 11 ∧ ∀ u ∈ ce, u.oneCell' = true) := hA.len
      have HGh : Hid (MrG w2 wg p q c a4 R3.2 wh a6 R3.2) := hG
      have HAe : Hid (AnsC wh ce R3.1) := hA
      clear hd hG hA
      go_wp2_with (with_reducible refine stopA _ _ rfl ?_)
      unfold Hid
      have hz := heap_alloc_new wh (.cells #[.int .i64 0, .slice none 0 0, .string ⟨#[]⟩, .string ⟨#[]⟩, .int .i64 0, .int .i64 0, .int .i64 0, .int .i64 0, .int .i64 0, .string ⟨#[]⟩, .slice none 0 0] 48)
      have mz : Moves [] wh (wh.alloc (.cells #[.int .i64 0, .slice none 0 0, .string ⟨#[]⟩, .string ⟨#[]⟩, .int .i64 0, .int .i64 0, .int .i64 0, .int .i64 0, .int .i64 0, .string ⟨#[]⟩, .slice none 0 0] 48)) := (Moves.refl _ _).alloc _
      refine wpList_storeAns rfl _ _ rfl wh.heap.size ce rfl rfl HLe.out.1 HLe.out.2 hz rfl ?_
      intro wk hh mm
      have Mwk : Moves [] wh wk := mz.trans mm (fun x hx => .inr (by simp at hx; omega))
      clear hz mz mm
      have HSTk : Hid (OnceT w2 wk p q c a6 R3.2 B0 BC _ va xsA d i t) := (HSTf.out.step HMg.out HGh.out Mwk)
      have HBDk : Hid (BoxB wk BD cd.toArray 48 p q c a6) := ((HBD.out.moves0 HMg.out).step HGh.out).moves0 Mwk
      have HBE : Hid (wk.heap[wh.heap.size]? = some (.cells ce.toArray 48 (0, 0))) := hh
      clear hh Mwk HGh HMg HSTf HBD
      obtain ⟨BE, hBE⟩ : ∃ BE, wh.heap.size = BE := ⟨_, rfl⟩
      rw [hBE] at HBE ⊢
      clear hBE
      have hs := rsameA_yes wk _ ce R3.1 HF3.out.bare (HAC2.out.bare HF3.out.bare) (HAe.out.bare HF3.out.bare)
      obtain ⟨d1, d2, d3, d4, d5, d6, d7, rfl, -⟩ := HAd.out
      obtain ⟨e1, e2, e3, e4, e5, e6, e7, rfl, -⟩ := HAe.out
      obtain ⟨x0, x1, x2, x3, x4, x5, x6, x7, x8, x9, x10⟩ := eleven_cells HSTk.out.bc.at'
      obtain ⟨y0, y1, y2, y3, y4, y5, y6, y7, y8, y9, y10⟩ := eleven_cells HBE.out
      have z0 : wk.cell? ⟨BD, 0, none⟩ = some (.int .i64 27) := (eleven_cells HBDk.out.at').1
      clear HLd HLe HAd HAe
      go_wp2_with fail
      refine hs.mono ?_
      rintro _ wl ⟨rfl, ml⟩
      clear x0 x1 x2 x3 x4 x5 x6 x7 x8 x9 x10 y0 y1 y2 y3 y4 y5 y6 y7 y8 y9 y10 z0 hs
      have hal := mall_w w2 wl p q c a6 R3.2 (HSTk.out.is.moves0 ml) HSTk.out.ok
      have HML : Hid (Moves [] wk wl) := ml
      clear ml
      go_wp2_with fail
      refine hal.mono ?_
      rintro _ wm ⟨vm, rfl, hO, hF, mm⟩
      obtain ⟨gm, hTm, -⟩ := hO.ex hF
      obtain ⟨ga, hTa⟩ := ((HSTk.out.tab.moves0 HML.out).moves0 mm).tbl
      rw [HSTk.out.xx] at hTm
      have hbs := bookSame_yes wm gm vm ga va xsA hTm hTa (by have := HSTk.out.ok.few; have e := HSTk.out.xx; rw [e] at this; omega)
      have HMM : Hid (Moves [] w2 wm) := (HSTk.out.mv.then HML.out).then mm
      clear hal hO hF mm hTm hTa
      go_wp2_with fail
      refine hbs.mono ?_
      rintro _ wn ⟨rfl, mn⟩
      go_wp2_with fail
      refine (known12_w wn).mono ?_
      rintro _ wo ⟨rfl, mo⟩
      go_wp2_with fail
      go_ret
      exact ⟨rfl, ((HM2.out.then HMM.out).then mn).then mo⟩
end Go.Proofs.YtfhdodopjgfedaaGreat
