/- ours -/
import Derived.Test.YtfhdodopjgfedaaGreatCMsb
import Derived.Test.YtfhdodopjgfedaaGreatCB08
import Derived.Deep.Grids
/-
  law12's known.
-/
namespace Go.Proofs.YtfhdodopjgfedaaGreat
open Go.RowKit

set_option maxRecDepth 100000 in
set_option maxHeartbeats 16000000 in
theorem known12_w (w : World) : Calls Tryz.prog 13 #[] w fun e w' => e = .returned (.bool true) ∧ Moves [] w w' := by
  go_enter Tryz.func13, Tryz.ntmps13
  go_wp2_with fail
  refine (mnew_w 2 (by omega) (by omega) w).mono ?_
  rintro _ w1 ⟨p, q, c, rfl, hI, m1⟩
  have hnp := nilPtr p
  have ok0 := m0_ok 2 (by omega) (by omega)
  have hdo := mdoPlan_w w w1 p q c none (m0 2) hI ok0 m1.size 1 1 (plC 2 ⟨#[109]⟩ 0) none 0 0 none 0 0 none 0 0 (plC_c w1 _ _ _) rfl (plC_r (by omega) (by omega) (by decide) (by omega) (by omega)) (by show (0 : Int) ≤ 2; omega) (by show (2 : Int) ≤ 3; omega) (by decide)
  have hok1 := mPlan_ok (m0 2) ok0 1 1 2 ⟨#[109]⟩ 0 (by omega) (by omega) (by decide)
  obtain ⟨kp1, kp2, kp3, kp4⟩ := known_plan
  obtain ⟨R, hR⟩ : ∃ R, mPlan (m0 2) 1 1 2 ⟨#[109]⟩ 0 = R := ⟨_, rfl⟩
  have hdo' : Calls Tryz.prog 10 #[.pointer (some ⟨p, 0, none⟩), .int .i64 1, .int .i64 1, .agg (plV 2 ⟨#[109]⟩ 0)] w1 fun e w' => ∃ cs a', e = .returned (.agg cs.toArray) ∧ AnsC w' cs R.1 ∧ MrG w w1 p q c none (m0 2) w' a' R.2 := by rw [← hR]; exact hdo
  rw [hR] at hok1 kp1 kp2 kp3 kp4
  have HOK : Hid (OkM R.2) := hok1
  have HK : Hid (R.1.code = 0 ∧ R.1.gen = 2 ∧ R.2.last = 2 ∧ R.2.xs = k11) := ⟨kp1, kp2, kp3, kp4⟩
  have HM1 : Hid (Moves [] w w1) := m1
  have HI1 : Hid (MrIs w w1 p q c none (m0 2)) := hI
  clear hdo hok1 kp1 kp2 kp3 kp4 hR ok0 hI m1
  unfold plV at hdo'
  go_wp2_with fail
  refine hdo'.mono ?_
  rintro _ w2 ⟨cs, a2, rfl, hA, hG⟩
  obtain ⟨ar, nr, cr, sa, ns, csn, gs, rfl, -⟩ := hA
  have HG : Hid (MrG w w1 p q c none (m0 2) w2 a2 R.2) := hG
  clear hdo' hG
  go_wp2_with (with_reducible refine stopA _ _ rfl ?_)
  unfold Hid
  have hz := heap_alloc_new w2 (.cells #[.int .i64 0, .slice none 0 0, .string ⟨#[]⟩, .string ⟨#[]⟩, .int .i64 0, .int .i64 0, .int .i64 0, .int .i64 0, .int .i64 0, .string ⟨#[]⟩, .slice none 0 0] 48)
  have mz : Moves [] w2 (w2.alloc (.cells #[.int .i64 0, .slice none 0 0, .string ⟨#[]⟩, .string ⟨#[]⟩, .int .i64 0, .int .i64 0, .int .i64 0, .int .i64 0, .int .i64 0, .string ⟨#[]⟩, .slice none 0 0] 48)) := (Moves.refl _ _).alloc _
  refine wpList_storeAns rfl _ _ rfl w2.heap.size [.int .i64 R.1.code, .slice ar nr cr, .string R.1.lo, .string R.1.hi, .int .i64 R.1.grp, .int .i64 R.1.gen, .int .i64 R.1.old, .int .i64 R.1.to, .int .i64 R.1.act, .string R.1.at', .slice sa ns csn] rfl rfl rfl (by simp [Value.oneCell']) hz rfl ?_
  intro w3 hh mm
  have Mw3 : Moves [] w2 w3 := mz.trans mm (fun x hx => .inr (by simp at hx; omega))
  clear hz mz mm
  have hI3 := HG.out.is.moves0 Mw3
  have HBX : Hid (BoxB w3 w2.heap.size _ _ p q c a2) := ⟨hh, HG.out.is.notin (Nat.le_refl _)⟩
  have hpu := mdoPub_w w w3 p q c a2 R.2 hI3 HOK.out 1 2 (pubC 9 0) none 0 0 none 0 0 none 0 0 (pubC_c w3 _ _) rfl (pubC_r (by omega) (by omega) (.inl rfl)) (by show (1 : Int) ≤ 9; omega)
  have ep : mPub R.2 (pubC 9 0).gen (pubC 9 0).to = (pTold 22, R.2) := by
    unfold mPub
    rw [if_pos (by rw [HK.out.2.2.1]; show (2 : Int) < 9; omega)]
  rw [ep] at hpu
  have hpu' : Calls Tryz.prog 10 #[.pointer (some ⟨p, 0, none⟩), .int .i64 1, .int .i64 2, .agg (pubV 9 0)] w3 fun e w' => e = .returned (.agg (ansV (pTold 22))) ∧ MrG w w3 p q c a2 R.2 w' a2 R.2 := hpu
  have HI3 : Hid (MrIs w w3 p q c a2 R.2) := hI3
  have HM3 : Hid (Moves [] w2 w3) := Mw3
  clear hpu ep hI3 hh Mw3
  unfold pubV at hpu'
  go_wp2_with fail
  refine hpu'.mono ?_
  rintro _ w4 ⟨rfl, hG4⟩
  have HG4 : Hid (MrG w w3 p q c a2 R.2 w4 a2 R.2) := hG4
  clear hpu' hG4
  go_wp2_with (with_reducible refine stopA _ _ rfl ?_)
  unfold Hid
  have hz := heap_alloc_new w4 (.cells #[.int .i64 0, .slice none 0 0, .string ⟨#[]⟩, .string ⟨#[]⟩, .int .i64 0, .int .i64 0, .int .i64 0, .int .i64 0, .int .i64 0, .string ⟨#[]⟩, .slice none 0 0] 48)
  have mz : Moves [] w4 (w4.alloc (.cells #[.int .i64 0, .slice none 0 0, .string ⟨#[]⟩, .string ⟨#[]⟩, .int .i64 0, .int .i64 0, .int .i64 0, .int .i64 0, .int .i64 0, .string ⟨#[]⟩, .slice none 0 0] 48)) := (Moves.refl _ _).alloc _
  refine wpList_storeAns rfl _ _ rfl w4.heap.size (ansV (pTold 22)).toList rfl rfl rfl (ansV_one _) hz rfl ?_
  intro w5 hh mm
  have Mw5 : Moves [] w4 w5 := mz.trans mm (fun x hx => .inr (by simp at hx; omega))
  clear hz mz mm
  have hb5 := ((HBX.out.step HG4.out).moves0 Mw5).at'
  obtain ⟨B2, hB2⟩ : ∃ B2, w2.heap.size = B2 := ⟨_, rfl⟩
  rw [hB2] at hb5 ⊢
  obtain ⟨x0, _, _, _, _, x5, _⟩ := eleven_cells hb5
  rw [HK.out.1] at x0
  rw [HK.out.2.1] at x5
  have z0 := (eleven_cells hh).1
  have hal := mall_w w w5 p q c a2 R.2 (HG4.out.is.moves0 Mw5) HOK.out
  have HM5 : Hid (Moves [] w4 w5) := Mw5
  have hM : Hid (Moves [] w w5) := (((HG.out.old HM1.out (by simp)).then HM3.out).then (by
    have := HG4.out.old ((HG.out.old HM1.out (by simp)).then HM3.out) (fun k hk => HI3.out.young hk)
    exact Moves.refl [] w3)).trans (HG4.out.mv.then (HM5.out.mono (by simp))) (fun k hk => .inr (by
      simp only [List.mem_cons] at hk
      rcases hk with rfl | rfl | rfl | hk
      · exact HI3.out.hp
      · exact HI3.out.hq
      · exact HI3.out.hc
      · exact HI3.out.young (Option.mem_toList.1 hk)))
  clear hb5 hh hB2 HBX Mw5
  go_wp2_with fail
  refine hal.mono ?_
  rintro _ w6 ⟨v6, rfl, hO, hF, m6⟩
  obtain ⟨ad, n, cap, rfl, hn⟩ := hO.open
  have hn1 : n = 1 := by rw [hn.out, HK.out.2.2.2]; rfl
  subst hn1
  have HM6 : Hid (Moves [] w5 w6) := m6
  clear hal hO hF m6 hn
  go_wp2_with fail
  refine (mnew0_w _).mono ?_
  rintro _ _ ⟨rfl, rfl⟩
  go_wp2_with fail
  go_ret
  exact ⟨rfl, hM.out.then HM6.out⟩
end Go.Proofs.YtfhdodopjgfedaaGreat
/-
  Arguments opened: drawn plans, lists of them, lists of bools.
-/
namespace Go.Proofs.YtfhdodopjgfedaaGreat
open Go.RowKit
open Go.ChangeShapes Go.WideShapes

def PArg (v : Value) : Prop := ∃ d i t : Int, v = .agg #[.int .i64 d, .int .i64 i, .int .i64 t]
set_option maxRecDepth 100000 in
theorem parg_of_trod {H : Type} {enc : TypeId × Value → H} {W : World} {base b0 : Nat} {r : Reach} {spare : Nat → Bool} {held : Bool} {v : Value} {d : DataW H} {p : List MemPlace}
    (hv : Value.okWide Tryz.prog W r b0 42 v) (h : DataW.Trod enc Tryz.prog W base spare held 42 v d p) : PArg v := by
  obtain ⟨cs, rfl, hcs⟩ := okWide_struct Tryz.underlying42 hv
  have c28 : Tryz.prog.cellsOf 42 = 3 := by kernel_rfl
  rw [c28] at hcs
  obtain ⟨fuel, h⟩ := h
  have hlen : cs.toList.length = 3 := by simpa using hcs
  have h' : DataW.trod enc Tryz.prog W base spare held fuel 42 cs.toList = some (d, p) := by simpa [Value.cells] using h
  obtain ⟨xs, k, hk, hxy, _, hxl, hf⟩ := DataW.trod_struct Tryz.underlying42 h'
  have c3 : Tryz.prog.cellsOf 3 = 1 := by kernel_rfl
  obtain ⟨l, rfl⟩ : ∃ l : List Value, cs = l.toArray := ⟨cs.toList, by simp⟩
  simp only at hlen hf
  match xs, hxl, l, hlen with
  | [y0, y1, y2], _, [v0, v1, v2], _ =>
    have g0 := hf 0 _ rfl
    have g1 := hf 1 _ rfl
    have g2 := hf 2 _ rfl
    simp [c3] at g0 g1 g2
    obtain ⟨z0, hz0, _, _⟩ := DataW.trod_int Tryz.underlying3 g0
    obtain ⟨z1, hz1, _, _⟩ := DataW.trod_int Tryz.underlying3 g1
    obtain ⟨z2, hz2, _, _⟩ := DataW.trod_int Tryz.underlying3 g2
    simp at hz0 hz1 hz2
    subst hz0 hz1 hz2
    exact ⟨z0, z1, z2, rfl⟩
end Go.Proofs.YtfhdodopjgfedaaGreat
