/-
  Sc8, Rw8, Open8, Kz8: our texts of these names, laid into one.
-/
import Derived.Test.YtcamhlnkcoicpaaGreatCPl8
import Derived.Test.YtcamhlnkcoicpaaGreatCB14
import Derived.Test.YtcamhlnkcoicpaaGreatCKn8
import Derived.Test.YtcamhlnkcoicpaaGreatCB04
import Derived.Test.YtcamhlnkcoicpaaGreatCB21
import Derived.Test.YtcamhlnkcoicpaaGreatCEn8
import Derived.Test.YtcamhlnkcoicpaaGreatCDc8
/-
  ref5's SameChange, SameCond where they say yes.
-/
namespace Go.Proofs.YtcamhlnkcoicpaaGreat
open Go.RowKit

set_option maxRecDepth 100000 in
set_option maxHeartbeats 4000000 in
theorem rsameCh_w (W w : World) (k t t' : Int) (col col' : ByteArray) (v v' : Pv) (a a' : Option Addr) (n n' cap cap' : Nat) (hV : VA W [.int .i64 v.kind, .slice a n cap, .float .f64 v.n] v) (hV' : VA W [.int .i64 v'.kind, .slice a' n' cap', .float .f64 v'.n] v') (m : Moves [] W w)
    (h3 : k ≠ 4 → col' = col) (h2 : k ≠ 4 → k ≠ 3 → t' = t) (h1 : k ≠ 4 → k ≠ 3 → k ≠ 2 → psame v v' = true) :
    Calls Tryz.prog 113 #[.agg #[.int .i64 k, .string col, .int .i64 t, .int .i64 v.kind, .slice a n cap, .float .f64 v.n], .agg #[.int .i64 k, .string col', .int .i64 t', .int .i64 v'.kind, .slice a' n' cap', .float .f64 v'.n]] w fun e w' => e = .returned (.bool true) ∧ Moves [] w w' := by
  have ma : Moves [] w ((w.alloc (.cells #[.int .i64 k, .string col, .int .i64 t, .int .i64 v.kind, .slice a n cap, .float .f64 v.n] 27)).alloc (.cells #[.int .i64 k, .string col', .int .i64 t', .int .i64 v'.kind, .slice a' n' cap', .float .f64 v'.n] 27)) := ((Moves.refl _ _).alloc _).alloc _
  have e1 : (w.alloc (.cells #[.int .i64 k, .string col, .int .i64 t, .int .i64 v.kind, .slice a n cap, .float .f64 v.n] 27)).heap.size = w.heap.size + 1 := by simp
  have bA := ((Moves.refl [] (w.alloc (.cells #[.int .i64 k, .string col, .int .i64 t, .int .i64 v.kind, .slice a n cap, .float .f64 v.n] 27))).alloc (.cells #[.int .i64 k, .string col', .int .i64 t', .int .i64 v'.kind, .slice a' n' cap', .float .f64 v'.n] 27)).at (heap_alloc_new w (.cells #[.int .i64 k, .string col, .int .i64 t, .int .i64 v.kind, .slice a n cap, .float .f64 v.n] 27)) (by simp)
  have bB := heap_alloc_new (w.alloc (.cells #[.int .i64 k, .string col, .int .i64 t, .int .i64 v.kind, .slice a n cap, .float .f64 v.n] 27)) (.cells #[.int .i64 k, .string col', .int .i64 t', .int .i64 v'.kind, .slice a' n' cap', .float .f64 v'.n] 27)
  rw [e1] at bB
  obtain ⟨x0, x1, x2, x3, x4, x5⟩ := six_cells bA
  obtain ⟨y0, y1, y2, y3, y4, y5⟩ := six_cells bB
  have HMA : Hid _ := ma
  have hq := rsame_p W _ v.kind v'.kind a a' n n' cap cap' v.n v'.n v v' hV hV' (m.then ma)
  clear bA bB e1 ma hV hV'
  by_cases k4 : k = 4
  · have n4 : (k == 4) = true := beq_iff_eq.2 k4
    clear k4 h3 h2 h1
    go_enter Tryz.func113, Tryz.ntmps113
    go_wp2_with fail
    go_ret
    exact ⟨rfl, HMA.out⟩
  · have n4 : (k == 4) = false := beq_eq_false_iff_ne.2 k4
    obtain rfl := h3 k4
    by_cases k3 : k = 3
    · have n3 : (k == 3) = true := beq_iff_eq.2 k3
      clear k4 k3 h3 h2 h1
      go_enter Tryz.func113, Tryz.ntmps113
      go_wp2_with fail
      go_ret
      exact ⟨by simp, HMA.out⟩
    · have n3 : (k == 3) = false := beq_eq_false_iff_ne.2 k3
      obtain rfl := h2 k4 k3
      by_cases k2 : k = 2
      · have n2 : (k == 2) = true := beq_iff_eq.2 k2
        clear k4 k3 k2 h3 h2 h1
        go_enter Tryz.func113, Tryz.ntmps113
        go_wp2_with fail
        go_ret
        exact ⟨by simp, HMA.out⟩
      · have n2 : (k == 2) = false := beq_eq_false_iff_ne.2 k2
        rw [h1 k4 k3 k2] at hq
        clear k4 k3 k2 h3 h2 h1
        go_enter Tryz.func113, Tryz.ntmps113
        go_wp2_with fail
        refine hq.mono ?_
        rintro _ w5 ⟨rfl, m5⟩
        go_wp2_with fail
        go_ret
        exact ⟨by simp, HMA.out.then m5⟩
set_option maxRecDepth 100000 in
set_option maxHeartbeats 4000000 in
theorem rsameCd_w (W w : World) (has want want' : Bool) (col col' : ByteArray) (v v' : Pv) (a a' : Option Addr) (n n' cap cap' : Nat) (hV : VA W [.int .i64 v.kind, .slice a n cap, .float .f64 v.n] v) (hV' : VA W [.int .i64 v'.kind, .slice a' n' cap', .float .f64 v'.n] v') (m : Moves [] W w)
    (h3 : has = true → want' = want ∧ col' = col) (h1 : has = true → want = true → psame v v' = true) :
    Calls Tryz.prog 112 #[.agg #[.bool has, .bool want, .string col, .int .i64 v.kind, .slice a n cap, .float .f64 v.n], .agg #[.bool has, .bool want', .string col', .int .i64 v'.kind, .slice a' n' cap', .float .f64 v'.n]] w fun e w' => e = .returned (.bool true) ∧ Moves [] w w' := by
  have ma : Moves [] w ((w.alloc (.cells #[.bool has, .bool want, .string col, .int .i64 v.kind, .slice a n cap, .float .f64 v.n] 30)).alloc (.cells #[.bool has, .bool want', .string col', .int .i64 v'.kind, .slice a' n' cap', .float .f64 v'.n] 30)) := ((Moves.refl _ _).alloc _).alloc _
  have e1 : (w.alloc (.cells #[.bool has, .bool want, .string col, .int .i64 v.kind, .slice a n cap, .float .f64 v.n] 30)).heap.size = w.heap.size + 1 := by simp
  have bA := ((Moves.refl [] (w.alloc (.cells #[.bool has, .bool want, .string col, .int .i64 v.kind, .slice a n cap, .float .f64 v.n] 30))).alloc (.cells #[.bool has, .bool want', .string col', .int .i64 v'.kind, .slice a' n' cap', .float .f64 v'.n] 30)).at (heap_alloc_new w (.cells #[.bool has, .bool want, .string col, .int .i64 v.kind, .slice a n cap, .float .f64 v.n] 30)) (by simp)
  have bB := heap_alloc_new (w.alloc (.cells #[.bool has, .bool want, .string col, .int .i64 v.kind, .slice a n cap, .float .f64 v.n] 30)) (.cells #[.bool has, .bool want', .string col', .int .i64 v'.kind, .slice a' n' cap', .float .f64 v'.n] 30)
  rw [e1] at bB
  obtain ⟨x0, x1, x2, x3, x4, x5⟩ := six_cells bA
  obtain ⟨y0, y1, y2, y3, y4, y5⟩ := six_cells bB
  have HMA : Hid _ := ma
  have hq := rsame_p W _ v.kind v'.kind a a' n n' cap cap' v.n v'.n v v' hV hV' (m.then ma)
  clear bA bB e1 ma hV hV'
  cases has with
  | false =>
    clear h3 h1
    go_enter Tryz.func112, Tryz.ntmps112
    go_wp2_with fail
    go_ret
    exact ⟨rfl, HMA.out⟩
  | true =>
    obtain ⟨rfl, rfl⟩ := h3 rfl
    cases want' with
    | false =>
      clear h3 h1
      go_enter Tryz.func112, Tryz.ntmps112
      go_wp2_with fail
      go_ret
      exact ⟨by simp, HMA.out⟩
    | true =>
      rw [h1 rfl rfl] at hq
      clear h3 h1
      go_enter Tryz.func112, Tryz.ntmps112
      go_wp2_with fail
      refine hq.mono ?_
      rintro _ w5 ⟨rfl, m5⟩
      go_wp2_with fail
      go_ret
      exact ⟨by simp, HMA.out.then m5⟩
end Go.Proofs.YtcamhlnkcoicpaaGreat
/-
  ref8's Wrap.
-/
namespace Go.Proofs.YtcamhlnkcoicpaaGreat
open Go.RowKit

set_option maxRecDepth 100000 in
set_option maxHeartbeats 4000000 in
theorem refWrap_w (W w : World) (k s : Nat) (v : Value) (g : Nat) (b : List Nat) (h : IsB W g v b) (m : Moves [] W w) (hk : k ≤ 255) (hs : s < 4294967296) (hl : b.length ≤ 1048576) :
    Calls Tryz.prog 23 #[.int .i64 (k : Int), .int .i64 (s : Int), v] w fun e w' => ∃ v', e = .returned v' ∧ Own w' v' (encW k s b) ∧ Moves [] w w' := by
  obtain ⟨ad, n, cap, rfl, _⟩ := id h
  have wk : IntKind.u8.wrap (k : Int) = (k : Int) := by rw [IntWalk.u8_in _ (by omega)]
  have ws : IntKind.u32.wrap (s : Int) = (s : Int) := by rw [IntWalk.u32_in _ (by omega)]
  have ma : Moves [] w (w.alloc (.cells #[.int .u8 (k : Int)] 5)) := (Moves.refl _ _).alloc _
  have hb1 : IsB (w.alloc (.cells #[.int .u8 (k : Int)] 5)) w.heap.size (.slice (some ⟨w.heap.size, 0, none⟩) 1 1) [k] := by
    refine ⟨_, _, _, rfl, rfl, Nat.le_refl _, fun h => by simp at h, .inr ⟨0, rfl, fun j x hj => ?_⟩⟩
    have hj0 : j = 0 := by
      have := (List.getElem?_eq_some_iff.1 hj).1
      simp at this
      exact this
    subst hj0
    simp at hj
    subst hj
    have hbb := heap_alloc_new w (.cells #[.int .u8 (k : Int)] 5)
    simp only [World.cell?, hbb]
    rfl
  have hc := rnum_w _ _ [k] s (s : Int) rfl _ hb1 (by simp) hs
  have HB : Hid (IsB W g (.slice ad n cap) b) := h
  have HM : Hid (Moves [] W w) := m
  have HMA : Hid _ := ma
  clear h m ma hb1
  go_enter Tryz.func23, Tryz.ntmps23
  go_wp2_with fail
  refine hc.mono ?_
  rintro _ w2 ⟨v2, rfl, hO2, m2, _⟩
  have M2 := (HM.out.then HMA.out).then m2
  obtain ⟨ad2, n2, cap2, rfl⟩ : ∃ ad n cap, v2 = .slice ad n cap := by obtain ⟨_, _, _, e, _⟩ := hO2.isB; exact ⟨_, _, _, e⟩
  have hc2 := rtext_w _ _ _ _ g b w2 hO2.isB (HB.out.moves M2 (by simp)) (by rw [List.length_append, List.length_singleton, be_length]; omega) hl
  have HM2 : Hid (Moves [] w w2) := HMA.out.then m2
  clear hc hO2 m2 M2
  go_wp2_with fail
  refine hc2.mono ?_
  rintro _ w3 ⟨v3, rfl, hO3, m3, _⟩
  clear hc2
  go_wp2_with fail
  go_ret
  exact ⟨_, rfl, hO3, HM2.out.then m3⟩
end Go.Proofs.YtcamhlnkcoicpaaGreat
/-
  law8's drawn command, opened.
-/
namespace Go.Proofs.YtcamhlnkcoicpaaGreat
open Go.RowKit
open Go.ChangeShapes Go.WideShapes

/-- An operation as it is drawn, by its cells. -/
def OArgV (W : World) (l : List Value) : Prop := ∃ (ki ro hi mo co : Int) (has want : Bool) (t : Bool) (n : Int) (x : Nat) (a : Option Addr) (len cap : Nat) (lv : Value), l = [.int .i64 ki, .int .i64 ro, .int .i64 hi, .int .i64 mo, .int .i64 co, .bool has, .bool want, .bool t, .int .i64 n, .float .f64 x, .slice a len cap, lv] ∧ KArg W (.agg #[.bool t, .int .i64 n, .float .f64 x, .slice a len cap]) ∧ ChArgs W lv
set_option maxRecDepth 100000 in
theorem oargv_of_raw {H : Type} {enc : TypeId × Value → H} {W : World} {base fuel : Nat} {spare : Nat → Bool} {held : Bool} {l : List Value} {x : DataW H × List MemPlace} (hl : l.length = 12)
    (h : DataW.trod enc Tryz.prog W base spare held fuel 49 l = some x) : OArgV W l := by
  obtain ⟨xs, k, hk, hxy, _, hxl, hf⟩ := DataW.trod_struct Tryz.underlying49 h
  have c3 : Tryz.prog.cellsOf 3 = 1 := by kernel_rfl
  have c4 : Tryz.prog.cellsOf 4 = 1 := by kernel_rfl
  have cV : Tryz.prog.cellsOf 46 = 4 := by kernel_rfl
  have cL : Tryz.prog.cellsOf 47 = 1 := by kernel_rfl
  match xs, hxl, l, hl with
  | [y0, y1, y2, y3, y4, y5, y6, y7, y8], _, [v0, v1, v2, v3, v4, v5, v6, v7, v8, v9, v10, v11], _ =>
    have g0 := hf 0 _ rfl
    have g1 := hf 1 _ rfl
    have g2 := hf 2 _ rfl
    have g3 := hf 3 _ rfl
    have g4 := hf 4 _ rfl
    have g5 := hf 5 _ rfl
    have g6 := hf 6 _ rfl
    have g7 := hf 7 _ rfl
    have g8 := hf 8 _ rfl
    simp [c3, c4, cV, cL] at g0 g1 g2 g3 g4 g5 g6 g7 g8
    obtain ⟨z0, e0, _, _⟩ := DataW.trod_int Tryz.underlying3 g0
    obtain ⟨z1, e1, _, _⟩ := DataW.trod_int Tryz.underlying3 g1
    obtain ⟨z2, e2, _, _⟩ := DataW.trod_int Tryz.underlying3 g2
    obtain ⟨z3, e3, _, _⟩ := DataW.trod_int Tryz.underlying3 g3
    obtain ⟨z4, e4, _, _⟩ := DataW.trod_int Tryz.underlying3 g4
    obtain ⟨b5, rfl⟩ := bool_of_trod g5
    obtain ⟨b6, rfl⟩ := bool_of_trod g6
    obtain ⟨t, n, x, a, len, cap, rfl, rfl, rfl, rfl, hK⟩ := karg_of_raw g7
    have hL := chargs_of_raw g8
    simp at e0 e1 e2 e3 e4
    subst e0 e1 e2 e3 e4
    exact ⟨z0, z1, z2, z3, z4, b5, b6, t, n, x, a, len, cap, v11, rfl, hK, hL⟩
/-- A command as it is drawn. -/
def DArg (W : World) (v : Value) : Prop := ∃ (k a b t g o : Int) (ov : List Value) (sv : Value) (gs : Nat) (bs : List Nat), v = .agg (([.int .i64 k, .int .i64 a, .int .i64 b, .int .i64 t, .int .i64 g, .int .i64 o] : List Value) ++ ov ++ [sv]).toArray ∧ OArgV W ov ∧ IsB W gs sv bs ∧ (∀ z ∈ bs, z < 256)
set_option maxRecDepth 100000 in
theorem darg_of_trod {H : Type} {enc : TypeId × Value → H} {W : World} {base b0 : Nat} {r : Reach} {spare : Nat → Bool} {held : Bool} {v : Value} {d : DataW H} {p : List MemPlace}
    (hv : Value.okWide Tryz.prog W r b0 51 v) (h : DataW.Trod enc Tryz.prog W base spare held 51 v d p) : DArg W v := by
  obtain ⟨cs, rfl, hcs⟩ := okWide_struct Tryz.underlying51 hv
  have cD : Tryz.prog.cellsOf 51 = 19 := by kernel_rfl
  rw [cD] at hcs
  obtain ⟨fuel, h⟩ := h
  have hlen : cs.toList.length = 19 := by simpa using hcs
  have h' : DataW.trod enc Tryz.prog W base spare held fuel 51 cs.toList = some (d, p) := by simpa [Value.cells] using h
  obtain ⟨xs, k, hk, hxy, _, hxl, hf⟩ := DataW.trod_struct Tryz.underlying51 h'
  have c3 : Tryz.prog.cellsOf 3 = 1 := by kernel_rfl
  have cO : Tryz.prog.cellsOf 49 = 12 := by kernel_rfl
  have cb : Tryz.prog.cellsOf 23 = 1 := by kernel_rfl
  obtain ⟨l, rfl⟩ : ∃ l : List Value, cs = l.toArray := ⟨cs.toList, by simp⟩
  simp only at hlen hf
  match xs, hxl, l, hlen with
  | [y0, y1, y2, y3, y4, y5, y6, y7], _, [v0, v1, v2, v3, v4, v5, v6, v7, v8, v9, v10, v11, v12, v13, v14, v15, v16, v17, v18], _ =>
    have g0 := hf 0 _ rfl
    have g1 := hf 1 _ rfl
    have g2 := hf 2 _ rfl
    have g3 := hf 3 _ rfl
    have g4 := hf 4 _ rfl
    have g5 := hf 5 _ rfl
    have g6 := hf 6 _ rfl
    have g7 := hf 7 _ rfl
    simp [c3, cO, cb] at g0 g1 g2 g3 g4 g5 g6 g7
    obtain ⟨z0, e0, _, _⟩ := DataW.trod_int Tryz.underlying3 g0
    obtain ⟨z1, e1, _, _⟩ := DataW.trod_int Tryz.underlying3 g1
    obtain ⟨z2, e2, _, _⟩ := DataW.trod_int Tryz.underlying3 g2
    obtain ⟨z3, e3, _, _⟩ := DataW.trod_int Tryz.underlying3 g3
    obtain ⟨z4, e4, _, _⟩ := DataW.trod_int Tryz.underlying3 g4
    obtain ⟨z5, e5, _, _⟩ := DataW.trod_int Tryz.underlying3 g5
    have hO := oargv_of_raw rfl g6
    obtain ⟨g, bs, hB, hz⟩ := isB_of_trod g7
    simp at e0 e1 e2 e3 e4 e5
    subst e0 e1 e2 e3 e4 e5
    exact ⟨z0, z1, z2, z3, z4, z5, _, v18, g, bs, rfl, hO, hB, hz⟩
end Go.Proofs.YtcamhlnkcoicpaaGreat
/-
  law8's known.
-/
namespace Go.Proofs.YtcamhlnkcoicpaaGreat
open Go.RowKit

def p10 : Pcmd := ⟨10, opz, ⟨#[]⟩, ⟨#[]⟩, 0, ⟨#[]⟩, 0, 0, []⟩
def p0 : Pcmd := ⟨0, opz, ⟨#[]⟩, ⟨#[]⟩, 0, ⟨#[]⟩, 0, 0, []⟩
set_option maxRecDepth 100000 in
set_option maxHeartbeats 8000000 in
theorem known8_w (w : World) (hpos : 0 < w.heap.size) : Calls Tryz.prog 13 #[] w fun e w' => e = .returned (.bool true) ∧ Moves [] w w' := by
  have h1 := cencM_w w w _ p10 (CmdD.plain w w 10 0 0 0 ⟨#[]⟩ ⟨#[]⟩ ⟨#[]⟩).cmd (Moves.refl _ _) hpos
  have r1 : rCmd p10 = true := by decide
  have e1 : encCmd p10 = [10] := by decide
  rw [r1, if_pos rfl, if_pos rfl, e1] at h1
  have HP : Hid (0 < w.heap.size) := hpos
  clear r1 e1 hpos
  go_enter Tryz.func13, Tryz.ntmps13
  go_wp2_with fail
  refine h1.mono ?_
  rintro _ w1 ⟨v1, rfl, hO1, m1⟩
  have h2 := cencM_w w1 w1 _ p0 (CmdD.plain w1 w1 0 0 0 0 ⟨#[]⟩ ⟨#[]⟩ ⟨#[]⟩).cmd (Moves.refl _ _) (Nat.lt_of_lt_of_le HP.out m1.size)
  have r2 : rCmd p0 = false := by decide
  rw [r2, if_neg (by simp), if_neg (by simp)] at h2
  clear h1 r2
  go_wp2_with fail
  refine h2.mono ?_
  rintro _ w2 ⟨v2, rfl, hO2, m2⟩
  have m02 := m1.then m2
  have h3 := cdecM_w 0 (.slice none 0 0) 0 [] w2 (isB_nil _ _) ⟨by simp, by simp⟩ (Nat.lt_of_lt_of_le HP.out m02.size)
  have e3 : dWholeM [] = none := by decide
  rw [e3] at h3
  clear h2 e3
  go_wp2_with fail
  refine h3.mono ?_
  rintro _ w3 ⟨rfl, m3⟩
  clear h3
  go_wp2_with (with_reducible refine stopStore _ _ rfl ?_)
  unfold Hid
  refine wpList_storeCmd rfl _ _ rfl w3.heap.size #[.int .i64 0, .int .i64 0, .string ⟨#[]⟩, .string ⟨#[]⟩, .bool false, .bool false, .string ⟨#[]⟩, .int .i64 0, .slice none 0 0, .float .f64 0, .slice none 0 0, .int .i64 0, .string ⟨#[]⟩, .string ⟨#[]⟩, .int .i64 0, .string ⟨#[]⟩, .int .i64 0, .int .i64 0, .slice none 0 0] rfl rfl (heap_alloc_new w3 _) rfl rfl (by simp [Value.oneCell']) ?_
  intro w4 hb4 m4
  have m34 : Moves [] w3 w4 := ((Moves.refl [] w3).alloc _).trans m4 (fun x hx => .inr (by simp at hx; omega))
  clear hb4 m4
  have hb5 := heap_alloc_new w4 (.cells #[.int .u8 120] 5)
  have m5 : Moves [] w4 (w4.alloc (.cells #[.int .u8 120] 5)) := (Moves.refl _ _).alloc _
  obtain ⟨w5, hcv, hB5, m5', _⟩ := conv_exact (W := w4) (c := [120]) (Nat.le_refl _) m5 hb5
  have hcv' : (convert 23 23 (.slice (some ⟨w4.heap.size, 0, none⟩) 1 1)).run Tryz.prog (w4.alloc (.cells #[.int .u8 120] 5)) = .ok (.slice (some ⟨w4.heap.size, 0, none⟩) 1 1) w5 := hcv
  have m05 := ((m02.then m3).then m34).then m5'
  have h6 := wrap_w w5 w5 7 258 _ _ [120] hB5 (Moves.refl _ _) (by omega) (by omega) (by simp) (Nat.lt_of_lt_of_le HP.out m05.size)
  have HM05 : Hid (Moves [] w w5) := m05
  have HM35 : Hid (Moves [] w2 w5) := (m3.then m34).then m5'
  clear hcv hb5 hB5 m5 m5' m05 m3 m34
  go_wp2_with fail
  refine h6.mono ?_
  rintro _ w6 ⟨v6, rfl, hO6, m6⟩
  have ho6 : ∀ z ∈ encW 7 258 [120], z < 256 := by decide
  have h7 := unwrap_w (encW 7 258 [120]).length v6 _ (encW 7 258 [120]) w6 hO6.isB ⟨Nat.le_refl _, ho6⟩ (Nat.lt_of_lt_of_le HP.out (HM05.out.then m6).size)
  rw [dWrapW_enc (by omega) (by simp)] at h7
  have HM6 : Hid (Moves [] w w6) := HM05.out.then m6
  have HM26 : Hid (Moves [] w2 w6) := HM35.out.then m6
  clear h6 hO6 ho6 m6 hcv'
  go_wp2_with fail
  refine h7.mono ?_
  rintro _ w7 ⟨v7, rfl, hO7, m7⟩
  have k1 := run_str ((hO1.isB.moves m2 (by simp)).moves (HM26.out.then m7) (by simp)) (by simp)
  have k7 := run_str hO7.isB (by simp)
  have s1 : strOf [10] = ⟨#[10]⟩ := by decide
  have s7 : strOf [120] = ⟨#[120]⟩ := by decide
  rw [s1] at k1
  rw [s7] at k7
  have HM7 : Hid (Moves [] w w7) := HM6.out.then m7
  clear h7 hO1 hO2 hO7 m1 m2 m02 m7 s1 s7
  go_wp2_with fail
  go_ret
  exact ⟨rfl, HM7.out⟩
end Go.Proofs.YtcamhlnkcoicpaaGreat
