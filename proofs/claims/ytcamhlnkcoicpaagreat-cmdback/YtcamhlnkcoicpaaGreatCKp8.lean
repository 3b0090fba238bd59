/-
  keep.Op: an operation, drawn: Mutate.
-/
import Derived.Test.YtcamhlnkcoicpaaGreatCKo8
import Derived.Test.YtcamhlnkcoicpaaGreatCB21
namespace Go.Proofs.YtcamhlnkcoicpaaGreat
open Go.RowKit

theorem stopSC {ops : Array Oper} {rest : List Oper} {op : Oper} {a : Act} {w : World} {Q : Exit → Act → World → Prop} (x y : Operand) (_ : op.op = .store 28 x y) (h : Hid (wpList Tryz.prog ops Q (op :: rest) a w)) : wpList Tryz.prog ops Q (op :: rest) a w := h.out
theorem stopSV {ops : Array Oper} {rest : List Oper} {op : Oper} {a : Act} {w : World} {Q : Exit → Act → World → Prop} (x y : Operand) (_ : op.op = .store 25 x y) (h : Hid (wpList Tryz.prog ops Q (op :: rest) a w)) : wpList Tryz.prog ops Q (op :: rest) a w := h.out
theorem Tryz.sizeLc : (Tryz.prog.info? 28).map (·.size) = some 1 := by kernel_rfl
theorem Tryz.sizeCd : (Tryz.prog.info? 30).map (·.size) = some 6 := by kernel_rfl
theorem Tryz.sizeVa : (Tryz.prog.info? 25).map (·.size) = some 3 := by kernel_rfl
set_option maxRecDepth 100000 in
set_option maxHeartbeats 16000000 in
theorem kopMut_w (W w : World) (ki ro hi mo co : Int) (has want t : Bool) (n : Int) (x : Nat) (a : Option Addr) (len cap : Nat) (lv : Value) (hK : KArg W (.agg #[.bool t, .int .i64 n, .float .f64 x, .slice a len cap])) (hL : ChArgs W lv) (hk : ¬ (pwithin ki).tmod 6 = 0 ∧ ¬ (pwithin ki).tmod 6 = 1) (m : Moves [] W w) :
    Calls Tryz.prog 47 #[.agg #[.int .i64 ki, .int .i64 ro, .int .i64 hi, .int .i64 mo, .int .i64 co, .bool has, .bool want, .bool t, .int .i64 n, .float .f64 x, .slice a len cap, lv]] w fun e w' => ∃ cs P, e = .returned (.agg cs) ∧ OpT W w' cs.toList P ∧ P.l.length ≤ 1000 ∧ Moves [] w w' := by
  have b1 := heap_alloc_new w (.cells #[.int .i64 ki, .int .i64 ro, .int .i64 hi, .int .i64 mo, .int .i64 co, .bool has, .bool want, .bool t, .int .i64 n, .float .f64 x, .slice a len cap, lv] 49)
  obtain ⟨v1, hv1⟩ : ∃ v1, w.alloc (.cells #[.int .i64 ki, .int .i64 ro, .int .i64 hi, .int .i64 mo, .int .i64 co, .bool has, .bool want, .bool t, .int .i64 n, .float .f64 x, .slice a len cap, lv] 49) = v1 := ⟨_, rfl⟩
  have s1 : v1.heap.size = w.heap.size + 1 := by rw [← hv1]; simp
  have n1 : Moves [] w v1 := by rw [← hv1]; exact (Moves.refl _ _).alloc _
  rw [hv1] at b1
  have b2 := heap_alloc_new v1 (.cells #[.int .i64 0, .string ⟨#[]⟩, .string ⟨#[]⟩, .bool false, .bool false, .string ⟨#[]⟩, .int .i64 0, .slice none 0 0, .float .f64 0, .slice none 0 0, .int .i64 0] 32)
  obtain ⟨w1, hw1⟩ : ∃ w1, v1.alloc (.cells #[.int .i64 0, .string ⟨#[]⟩, .string ⟨#[]⟩, .bool false, .bool false, .string ⟨#[]⟩, .int .i64 0, .slice none 0 0, .float .f64 0, .slice none 0 0, .int .i64 0] 32) = w1 := ⟨_, rfl⟩
  have n2 : Moves [] v1 w1 := by rw [← hw1]; exact (Moves.refl _ _).alloc _
  rw [hw1] at b2
  rw [s1] at b2
  replace b1 := n2.at b1 (by simp)
  obtain ⟨D, hD⟩ : ∃ D, w.heap.size = D := ⟨_, rfl⟩
  rw [hD] at b1 b2
  have HM1 : Hid (Moves [] w w1) := n1.then n2
  have HW1 : Hid (Moves [] W w1) := m.then (n1.then n2)
  have HSZ : Hid (w.heap.size = D ∧ D + 1 < w1.heap.size) := ⟨hD, lt_of_block b2⟩
  have HB2 : Hid _ := b2
  have k0 : w1.cell? ⟨D, 0, none⟩ = some (.int .i64 ki) := by simp [World.cell?, b1]
  have k1 : w1.cell? ⟨D, 1, none⟩ = some (.int .i64 ro) := by simp [World.cell?, b1]
  have k4 : w1.cell? ⟨D, 4, none⟩ = some (.int .i64 co) := by simp [World.cell?, b1]
  have k5 : w1.cell? ⟨D, 5, none⟩ = some (.bool has) := by simp [World.cell?, b1]
  have k6 : w1.cell? ⟨D, 6, none⟩ = some (.bool want) := by simp [World.cell?, b1]
  have k7 : w1.cell? ⟨D, 7, none⟩ = some (.bool t) := by simp [World.cell?, b1]
  have k8 : w1.cell? ⟨D, 8, none⟩ = some (.int .i64 n) := by simp [World.cell?, b1]
  have k9 : w1.cell? ⟨D, 9, none⟩ = some (.float .f64 x) := by simp [World.cell?, b1]
  have k10 : w1.cell? ⟨D, 10, none⟩ = some (.slice a len cap) := by simp [World.cell?, b1]
  have k11 : w1.cell? ⟨D, 11, none⟩ = some (lv) := by simp [World.cell?, b1]
  have HKA : Hid _ := hK
  have HL : Hid (ChArgs W lv) := hL
  have hk0 : ((pwithin ki).tmod 6 == 0) = false := beq_eq_false_iff_ne.2 hk.1
  have hk1 : ((pwithin ki).tmod 6 == 1) = false := beq_eq_false_iff_ne.2 hk.2
  obtain ⟨hk2, hk3⟩ := hk
  clear b1 b2 n1 n2 m hK hL
  go_enter Tryz.func47, Tryz.ntmps47
  go_wp2_with fail
  try rw [hv1]
  try rw [s1]
  try rw [hw1]
  try rw [hD]
  go_wp2_with fail
  refine (within_d ki w1).mono ?_
  rintro _ _ ⟨rfl, rfl⟩
  go_wp2_with fail
  refine region_ssaL (by kernel_rfl) 8 (fun ix => if ix = 7 then 4 else ix + 39) [4, 39, 40, 41, 42, 43, 44, 45] (fun ix (w : World) (v : Value) => match ix with | 0 => v = .pointer (some ⟨D, 1, none⟩) | 1 => v = .int .i64 ro | 2 => ∃ s : ByteArray, v = .string s | 3 => v = .pointer (some ⟨D, 11, none⟩) | 4 => v = lv | 5 => ∃ ad n2 cap2 cs, v = .slice ad n2 cap2 ∧ ChgsL W w (.slice ad n2 cap2) cs ∧ cs.length ≤ 4 | 6 => ∃ (s : ByteArray) (ad : Option Addr) (n2 cap2 : Nat) (cs : List Pchg), v = .agg #[.int .i64 2, .string s, .string ⟨#[]⟩, .bool false, .bool false, .string ⟨#[]⟩, .int .i64 0, .slice none 0 0, .float .f64 0, .slice ad n2 cap2, .int .i64 0] ∧ ChgsL W w (.slice ad n2 cap2) cs ∧ cs.length ≤ 4 | 7 => ∃ b, v = .pointer (some ⟨b, 0, none⟩) ∧ w.heap[b]? = some (.cells #[.int .i64 0, .string ⟨#[]⟩, .string ⟨#[]⟩, .bool false, .bool false, .string ⟨#[]⟩, .int .i64 0, .slice none 0 0, .float .f64 0, .slice none 0 0, .int .i64 0] 32 (0, 0)) ∧ w1.heap.size ≤ b | _ => True) (Moves []) rfl (by kernel_rfl) (by kernel_rfl) ?_ ?_ ?_ ((Moves.refl _ _).drew) (fun _ _ _ => Moves.then) (fun ix u u' v h m => ?_) ?_ ?_
  · intro ix hix
    have hix : ix < 8 := hix
    show _ < 71
    try dsimp only
    repeat (first | omega | split)
  · intro ix jx hix hjx hne
    have hix : ix < 8 := hix
    have hjx : jx < 8 := hjx
    try dsimp only
    repeat (first | omega | split)
  · intro ix hix
    have hix : ix < 8 := hix
    match ix, hix with
    | 0, _ => decide
    | 1, _ => decide
    | 2, _ => decide
    | 3, _ => decide
    | 4, _ => decide
    | 5, _ => decide
    | 6, _ => decide
    | 7, _ => decide
    | m + 8, h => exact absurd h (by omega)
  · match ix with
    | 0 => exact h
    | 1 => exact h
    | 2 => exact h
    | 3 => exact h
    | 4 => exact h
    | 5 => exact (by obtain ⟨ad, n2, cap2, cs, e, hC, hl⟩ := h; exact ⟨ad, n2, cap2, cs, e, hC.moves0 m, hl⟩)
    | 6 => exact (by obtain ⟨s, ad, n2, cap2, cs, e, hC, hl⟩ := h; exact ⟨s, ad, n2, cap2, cs, e, hC.moves0 m, hl⟩)
    | 7 => exact (by obtain ⟨b, e, hb, hle⟩ := h; exact ⟨b, e, m.at hb (by simp), hle⟩)
    | m + 8 => trivial
  · intro ix hix a u hR hsz hold hF K hK
    have hix : ix < 8 := hix
    have c_k1 := (hR).cell k1
    have c_k11 := (hR).cell k11
    match ix, hix with
    | 0, _ =>
      have e1 : a.tmps.getD 1 undef = .pointer (some ⟨D, 0, none⟩) := hold 1 (by intro kk hkk; have hkk : kk < 8 := hkk; (try dsimp only); (repeat (first | omega | split)))
      refine wpOp_val (v := .pointer (some ⟨D, 1, none⟩)) rfl rfl ?_ (hK _ _ rfl (Moves.refl _ _))
      go_simp
      try rfl
    | 1, _ =>
      have e39 : a.tmps.getD 39 undef = .pointer (some ⟨D, 1, none⟩) := hF 0 (by decide) (by kernel_rfl)
      refine wpOp_val (v := .int .i64 ro) rfl rfl ?_ (hK _ _ rfl (Moves.refl _ _))
      go_simp
      try rfl
    | 2, _ =>
      have e40 : a.tmps.getD 40 undef = .int .i64 ro := hF 1 (by decide) (by kernel_rfl)
      obtain ⟨s, _, hrow⟩ := row_ds ro
      refine wpOp_of_wp rfl rfl ?_
      go_simp
      go_at_call 37
      refine (hrow _).mono ?_
      rintro _ u2 ⟨rfl, m2⟩
      exact hK _ _ ⟨s, rfl⟩ m2
    | 3, _ =>
      have e1 : a.tmps.getD 1 undef = .pointer (some ⟨D, 0, none⟩) := hold 1 (by intro kk hkk; have hkk : kk < 8 := hkk; (try dsimp only); (repeat (first | omega | split)))
      refine wpOp_val (v := .pointer (some ⟨D, 11, none⟩)) rfl rfl ?_ (hK _ _ rfl (Moves.refl _ _))
      go_simp
      try rfl
    | 4, _ =>
      have e42 : a.tmps.getD 42 undef = .pointer (some ⟨D, 11, none⟩) := hF 3 (by decide) (by kernel_rfl)
      refine wpOp_val (v := lv) rfl rfl ?_ (hK _ _ rfl (Moves.refl _ _))
      go_simp
      try rfl
    | 5, _ =>
      have e43 : a.tmps.getD 43 undef = lv := hF 4 (by decide) (by kernel_rfl)
      refine wpOp_of_wp rfl rfl ?_
      go_simp
      go_at_call 97
      refine (keepChanges4_w W _ lv HL.out (HW1.out.then hR)).mono ?_
      rintro _ u2 ⟨ad, n2, cap2, cs, rfl, hG, hl, m2⟩
      exact hK _ _ ⟨ad, n2, cap2, cs, rfl, hG.l, hl⟩ m2
    | 6, _ =>
      have f41 := hF 2 (by decide) (by kernel_rfl)
      have f44 := hF 5 (by decide) (by kernel_rfl)
      obtain ⟨s, hv1⟩ := f41
      obtain ⟨ad, n2, cap2, cs, hv2, hC, hl⟩ := f44
      have e41 : a.tmps.getD 41 undef = .string s := hv1
      have e44 : a.tmps.getD 44 undef = .slice ad n2 cap2 := hv2
      exact wpOp_of_wp rfl rfl (wp_build' 32 _ rfl [(0, .int .i64 2), (1, .string s), (4, .slice ad n2 cap2)] #[.int .i64 2, .string s, .string ⟨#[]⟩, .bool false, .bool false, .string ⟨#[]⟩, .int .i64 0, .slice none 0 0, .float .f64 0, .slice ad n2 cap2, .int .i64 0] (by simp only [Array.getD_eq_getD_getElem?] at e41 e44; simp [Act.eval, e41, e44]) (by kernel_rfl) (hK _ _ ⟨s, ad, n2, cap2, cs, rfl, hC, hl⟩ (Moves.refl _ _)))
    | 7, _ =>
      refine wpOp_of_wp rfl rfl ?_
      go_simp
      exact hK _ _ ⟨_, rfl, heap_alloc_new _ _, hR.size⟩ ((Moves.refl _ _).alloc _)
    | m + 8, h => exact absurd h (by omega)
  intro v u hall hR
  obtain ⟨s, ad, n2, cap2, cs, e45, hC, hl⟩ := hall 6 (by decide)
  obtain ⟨B, e4, hB, hle⟩ := hall 7 (by decide)
  have E45 : v 45 = .agg #[.int .i64 2, .string s, .string ⟨#[]⟩, .bool false, .bool false, .string ⟨#[]⟩, .int .i64 0, .slice none 0 0, .float .f64 0, .slice ad n2 cap2, .int .i64 0] := e45
  have E4 : v 4 = .pointer (some ⟨B, 0, none⟩) := e4
  simp only [List.foldl_cons, List.foldl_nil, List.setIfInBounds_toArray, List.set_cons_zero, List.set_cons_succ, E45, E4]
  generalize v 39 = u39
  generalize v 40 = u40
  generalize v 41 = u41
  generalize v 42 = u42
  generalize v 43 = u43
  generalize v 44 = u44
  clear hall e45 e4 E45 E4 k1 k11 k0
  refine wpOp_of_wp rfl rfl ?_
  refine wp_stAt 32 _ _ rfl B 0 _ (#[.int .i64 2, .string s, .string ⟨#[]⟩, .bool false, .bool false, .string ⟨#[]⟩, .int .i64 0, .slice none 0 0, .float .f64 0, .slice ad n2 cap2, .int .i64 0] : Array Value).toList rfl rfl rfl Tryz.size32 hB (by show 11 ≤ 11; omega) (by simp [Value.oneCell']) #[.int .i64 2, .string s, .string ⟨#[]⟩, .bool false, .bool false, .string ⟨#[]⟩, .int .i64 0, .slice none 0 0, .float .f64 0, .slice ad n2 cap2, .int .i64 0] rfl ?_
  intro w9 h9 m9
  have HM9 : Hid (Moves [] w1 w9) := hR.trans m9 (fun z hz => .inr (by simp at hz; omega))
  have HBD : Hid (D + 1 < B ∧ w1.heap.size ≤ B) := by have := HSZ.out.2; unfold Hid; omega
  have HC9 : Hid (ChgsL W w9 (.slice ad n2 cap2) cs) := hC.stay (stay_box hB (by decide) m9)
  have HCL : Hid (cs.length ≤ 4) := hl
  have H9 : Hid _ := h9
  obtain ⟨-, -, -, -, -, -, -, -, -, q9, -⟩ := eleven_cells h9
  clear hR hle hB h9 m9 hC hl
  by_cases hn : n2 = 0
  · subst hn
    have hva : VA W [.int .i64 2, .slice none 0 0, .float .f64 4607182418800017408] ⟨2, [], 4607182418800017408⟩ := ⟨none, 0, 0, 0, rfl, isB_nil _ _, (by show Pl.Fits 4607182418800017408; unfold Pl.Fits; decide), by simp, by simp⟩
    obtain ⟨ds, hds, hys⟩ := chg_new W w9 ⟨5, ⟨#[120]⟩, 5, ⟨2, [], 4607182418800017408⟩⟩ none 0 0 hva
    have HD2 : Hid (ChgsL W _ (.slice (some ⟨w9.heap.size, 0, none⟩) 1 1) [⟨5, ⟨#[120]⟩, 5, ⟨2, [], 4607182418800017408⟩⟩]) := ⟨ds, hds, hys⟩
    have mx : Moves [] w9 (w9.alloc (.cells #[.int .i64 5, .string ⟨#[120]⟩, .int .i64 5, .int .i64 2, .slice none 0 0, .float .f64 4607182418800017408] 27)) := (Moves.refl _ _).alloc _
    have hbx := mx.at H9.out (by simp)
    clear hva hds hys
    go_wp2_with (with_reducible refine stopSC _ _ rfl ?_)
    unfold Hid
    refine wpList_stAt rfl 28 _ _ rfl B 9 _ [.slice (some ⟨w9.heap.size, 0, none⟩) 1 1] rfl rfl rfl Tryz.sizeLc hbx (by show 10 ≤ 11; omega) (by simp [Value.oneCell']) #[.int .i64 2, .string s, .string ⟨#[]⟩, .bool false, .bool false, .string ⟨#[]⟩, .int .i64 0, .slice none 0 0, .float .f64 0, .slice (some ⟨w9.heap.size, 0, none⟩) 1 1, .int .i64 0] rfl ?_
    intro wa ha ma
    have HMA : Hid (Moves [] w1 wa) := (HM9.out.then mx).trans ma (fun z hz => .inr (by have := HBD.out; simp at hz; omega))
    have HA : Hid _ := ha
    have HC : Hid (ChgsL W wa (.slice (some ⟨w9.heap.size, 0, none⟩) 1 1) [⟨5, ⟨#[120]⟩, 5, ⟨2, [], 4607182418800017408⟩⟩]) := HD2.out.stay (stay_box hbx (by decide) ma)
    replace HCL : Hid (List.length [(⟨5, ⟨#[120]⟩, 5, ⟨2, [], 4607182418800017408⟩⟩ : Pchg)] ≤ 4) := by unfold Hid; simp
    clear ha ma mx hbx HC9 HD2 q9
    have g4 := HMA.out.cell k4
    have g5 := HMA.out.cell k5
    have g6 := HMA.out.cell k6
    have g7 := HMA.out.cell k7
    have g8 := HMA.out.cell k8
    have g9 := HMA.out.cell k9
    have g10 := HMA.out.cell k10
    cases has with
    | false =>
      go_wp2_with (with_reducible refine stopLO _ rfl ?_)
      unfold Hid
      refine wpList_load_row rfl 32 _ rfl B rfl _ _ _ _ HA.out Tryz.underlying32 rfl Tryz.size32 ?_
      go_wp2_with (with_reducible refine stopSO _ _ rfl ?_)
      unfold Hid
      refine wpList_stAt rfl 32 _ _ rfl (D + 1) 0 _ (#[.int .i64 2, .string s, .string ⟨#[]⟩, .bool false, .bool false, .string ⟨#[]⟩, .int .i64 0, .slice none 0 0, .float .f64 0, .slice (some ⟨w9.heap.size, 0, none⟩) 1 1, .int .i64 0] : Array Value).toList rfl rfl rfl Tryz.size32 (HMA.out.at HB2.out (by simp)) (by show 11 ≤ 11; omega) (by simp [Value.oneCell']) #[.int .i64 2, .string s, .string ⟨#[]⟩, .bool false, .bool false, .string ⟨#[]⟩, .int .i64 0, .slice none 0 0, .float .f64 0, .slice (some ⟨w9.heap.size, 0, none⟩) 1 1, .int .i64 0] rfl ?_
      intro wz hz mz
      go_wp2_with fail
      refine bodyPost_ret (ret_op rfl _ _ _ _ _ _ _ _ _ _ _ _ _ _ rfl hz) rfl ?_
      exact ⟨_, ⟨2, s, ⟨#[]⟩, cdz, [⟨5, ⟨#[120]⟩, 5, ⟨2, [], 4607182418800017408⟩⟩], 0⟩, rfl, ⟨none, 0, 0, (some ⟨w9.heap.size, 0, none⟩), 1, 1, rfl, va00 W, (HC.out.stay (stay_box (HMA.out.at HB2.out (by simp)) (by decide) mz) : ChgsL W wz _ [⟨5, ⟨#[120]⟩, 5, ⟨2, [], 4607182418800017408⟩⟩])⟩, Nat.le_trans HCL.out (by omega), (HM1.out.then HMA.out).trans mz (fun z hz => .inr (by have := HSZ.out.1; simp at hz; omega))⟩
    | true =>
      go_wp2_with fail
      refine region_ssaL (by kernel_rfl) 7 (fun ix => ix + 56) [56, 57, 58, 59, 60, 61, 62] (fun ix (w : World) (v : Value) => match ix with | 0 => v = .pointer (some ⟨D, 6, none⟩) | 1 => v = .bool want | 2 => v = .pointer (some ⟨D, 4, none⟩) | 3 => v = .int .i64 co | 4 => ∃ s : ByteArray, v = .string s | 5 => ∃ s2 : ByteArray, v = .agg #[.bool true, .bool want, .string s2, .int .i64 0, .slice none 0 0, .float .f64 0] | 6 => v = .pointer (some ⟨B, 3, none⟩) | _ => True) (Moves []) rfl (by kernel_rfl) (by kernel_rfl) ?_ ?_ ?_ ((Moves.refl _ _).drew) (fun _ _ _ => Moves.then) (fun ix u u' v h m => ?_) ?_ ?_
      · intro ix hix
        have hix : ix < 7 := hix
        show _ < 71
        try dsimp only
        repeat (first | omega | split)
      · intro ix jx hix hjx hne
        have hix : ix < 7 := hix
        have hjx : jx < 7 := hjx
        try dsimp only
        repeat (first | omega | split)
      · intro ix hix
        have hix : ix < 7 := hix
        match ix, hix with
        | 0, _ => decide
        | 1, _ => decide
        | 2, _ => decide
        | 3, _ => decide
        | 4, _ => decide
        | 5, _ => decide
        | 6, _ => decide
        | m + 7, h => exact absurd h (by omega)
      · match ix with
        | 0 => exact h
        | 1 => exact h
        | 2 => exact h
        | 3 => exact h
        | 4 => exact h
        | 5 => exact h
        | 6 => exact h
        | m + 7 => trivial
      · intro ix hix a u hR hsz hold hF K hK
        have hix : ix < 7 := hix
        have c_g4 := (hR).cell g4
        have c_g6 := (hR).cell g6
        match ix, hix with
        | 0, _ =>
          have e1 : a.tmps.getD 1 undef = .pointer (some ⟨D, 0, none⟩) := hold 1 (by intro kk hkk; have hkk : kk < 7 := hkk; (try dsimp only); (repeat (first | omega | split)))
          refine wpOp_val (v := .pointer (some ⟨D, 6, none⟩)) rfl rfl ?_ (hK _ _ rfl (Moves.refl _ _))
          go_simp
          try rfl
        | 1, _ =>
          have e56 : a.tmps.getD 56 undef = .pointer (some ⟨D, 6, none⟩) := hF 0 (by decide) (by kernel_rfl)
          refine wpOp_val (v := .bool want) rfl rfl ?_ (hK _ _ rfl (Moves.refl _ _))
          go_simp
          try rfl
        | 2, _ =>
          have e1 : a.tmps.getD 1 undef = .pointer (some ⟨D, 0, none⟩) := hold 1 (by intro kk hkk; have hkk : kk < 7 := hkk; (try dsimp only); (repeat (first | omega | split)))
          refine wpOp_val (v := .pointer (some ⟨D, 4, none⟩)) rfl rfl ?_ (hK _ _ rfl (Moves.refl _ _))
          go_simp
          try rfl
        | 3, _ =>
          have e58 : a.tmps.getD 58 undef = .pointer (some ⟨D, 4, none⟩) := hF 2 (by decide) (by kernel_rfl)
          refine wpOp_val (v := .int .i64 co) rfl rfl ?_ (hK _ _ rfl (Moves.refl _ _))
          go_simp
          try rfl
        | 4, _ =>
          have e59 : a.tmps.getD 59 undef = .int .i64 co := hF 3 (by decide) (by kernel_rfl)
          refine wpOp_of_wp rfl rfl ?_
          go_simp
          go_at_call 38
          refine (keepCol_w _ _).mono ?_
          rintro _ u2 ⟨s, rfl, -, m2⟩
          exact hK _ _ ⟨s, rfl⟩ m2
        | 5, _ =>
          have e57 : a.tmps.getD 57 undef = .bool want := hF 1 (by decide) (by kernel_rfl)
          have f60 := hF 4 (by decide) (by kernel_rfl)
          obtain ⟨s2, hv1⟩ := f60
          have e57 : a.tmps.getD 57 undef = .bool want := e57
          have e60 : a.tmps.getD 60 undef = .string s2 := hv1
          exact wpOp_of_wp rfl rfl (wp_build' 30 _ rfl [(0, .bool true), (1, .bool want), (2, .string s2)] #[.bool true, .bool want, .string s2, .int .i64 0, .slice none 0 0, .float .f64 0] (by simp only [Array.getD_eq_getD_getElem?] at e57 e60; simp [Act.eval, e57, e60]) (by kernel_rfl) (hK _ _ ⟨s2, rfl⟩ (Moves.refl _ _)))
        | 6, _ =>
          have e4 : a.tmps.getD 4 undef = .pointer (some ⟨B, 0, none⟩) := hold 4 (by intro kk hkk; have hkk : kk < 7 := hkk; (try dsimp only); (repeat (first | omega | split)))
          refine wpOp_val (v := .pointer (some ⟨B, 3, none⟩)) rfl rfl ?_ (hK _ _ rfl (Moves.refl _ _))
          go_simp
          try rfl
        | m + 7, h => exact absurd h (by omega)
      intro v u hall hR
      obtain ⟨s2, e61⟩ := hall 5 (by decide)
      have E61 : v 61 = .agg #[.bool true, .bool want, .string s2, .int .i64 0, .slice none 0 0, .float .f64 0] := e61
      have E62 : v 62 = .pointer (some ⟨B, 3, none⟩) := hall 6 (by decide)
      simp only [List.foldl_cons, List.foldl_nil, List.setIfInBounds_toArray, List.set_cons_zero, List.set_cons_succ, E61, E62]
      generalize v 56 = u56
      generalize v 57 = u57
      generalize v 58 = u58
      generalize v 59 = u59
      generalize v 60 = u60
      have HMB : Hid (Moves [] w1 u) := HMA.out.then hR
      have hbx := hR.at HA.out (by simp)
      have HC2 : Hid (ChgsL W u _ [⟨5, ⟨#[120]⟩, 5, ⟨2, [], 4607182418800017408⟩⟩]) := HC.out.moves0 hR
      clear hall e61 E61 E62 g4
      refine wpOp_of_wp rfl rfl ?_
      refine wp_stAt 30 _ _ rfl B 3 _ [.bool true, .bool want, .string s2, .int .i64 0, .slice none 0 0, .float .f64 0] rfl rfl rfl Tryz.sizeCd hbx (by show 9 ≤ 11; omega) (by simp [Value.oneCell']) #[.int .i64 2, .string s, .string ⟨#[]⟩, .bool true, .bool want, .string s2, .int .i64 0, .slice none 0 0, .float .f64 0, .slice (some ⟨w9.heap.size, 0, none⟩) 1 1, .int .i64 0] rfl ?_
      intro wc hc mc
      have HMC : Hid (Moves [] w1 wc) := HMB.out.trans mc (fun z hz => .inr (by have := HBD.out; simp at hz; omega))
      have HC3 : Hid (ChgsL W wc _ [⟨5, ⟨#[120]⟩, 5, ⟨2, [], 4607182418800017408⟩⟩]) := HC2.out.stay (stay_box hbx (by decide) mc)
      have HCX : Hid _ := hc
      have f6 := HMC.out.cell k6
      have f7 := HMC.out.cell k7
      have f8 := HMC.out.cell k8
      have f9 := HMC.out.cell k9
      have f10 := HMC.out.cell k10
      clear hR hbx hc mc
      cases want with
      | false =>
        go_wp2_with (with_reducible refine stopLO _ rfl ?_)
        unfold Hid
        refine wpList_load_row rfl 32 _ rfl B rfl _ _ _ _ HCX.out Tryz.underlying32 rfl Tryz.size32 ?_
        go_wp2_with (with_reducible refine stopSO _ _ rfl ?_)
        unfold Hid
        refine wpList_stAt rfl 32 _ _ rfl (D + 1) 0 _ (#[.int .i64 2, .string s, .string ⟨#[]⟩, .bool true, .bool false, .string s2, .int .i64 0, .slice none 0 0, .float .f64 0, .slice (some ⟨w9.heap.size, 0, none⟩) 1 1, .int .i64 0] : Array Value).toList rfl rfl rfl Tryz.size32 (HMC.out.at HB2.out (by simp)) (by show 11 ≤ 11; omega) (by simp [Value.oneCell']) #[.int .i64 2, .string s, .string ⟨#[]⟩, .bool true, .bool false, .string s2, .int .i64 0, .slice none 0 0, .float .f64 0, .slice (some ⟨w9.heap.size, 0, none⟩) 1 1, .int .i64 0] rfl ?_
        intro wz hz mz
        go_wp2_with fail
        refine bodyPost_ret (ret_op rfl _ _ _ _ _ _ _ _ _ _ _ _ _ _ rfl hz) rfl ?_
        exact ⟨_, ⟨2, s, ⟨#[]⟩, ⟨true, false, s2, pz⟩, [⟨5, ⟨#[120]⟩, 5, ⟨2, [], 4607182418800017408⟩⟩], 0⟩, rfl, ⟨none, 0, 0, (some ⟨w9.heap.size, 0, none⟩), 1, 1, rfl, va00 W, (HC3.out.stay (stay_box (HMC.out.at HB2.out (by simp)) (by decide) mz) : ChgsL W wz _ [⟨5, ⟨#[120]⟩, 5, ⟨2, [], 4607182418800017408⟩⟩])⟩, Nat.le_trans HCL.out (by omega), (HM1.out.then HMC.out).trans mz (fun z hz => .inr (by have := HSZ.out.1; simp at hz; omega))⟩
      | true =>
        go_wp2_with fail
        refine (keep_b' W wc _ HKA.out).mono ?_
        rintro _ wd ⟨A, adA, lenA, capA, rfl, hA, yA, md⟩
        have HVA : Hid (VA W [.int .i64 A.kind, .slice adA lenA capA, .float .f64 A.n] A.pv) := hA.va (by have := yA.len16; omega)
        have hbd := md.at HCX.out (by simp)
        have HC4 : Hid (ChgsL W wd _ [⟨5, ⟨#[120]⟩, 5, ⟨2, [], 4607182418800017408⟩⟩]) := HC3.out.moves0 md
        have HMD : Hid (Moves [] w1 wd) := HMC.out.then md
        clear hA yA md f6 f7 f8 f9 f10
        go_wp2_with (with_reducible refine stopSV _ _ rfl ?_)
        unfold Hid
        refine wpList_stAt rfl 25 _ _ rfl B 6 _ [.int .i64 A.kind, .slice adA lenA capA, .float .f64 A.n] rfl rfl rfl Tryz.sizeVa hbd (by show 9 ≤ 11; omega) (by simp [Value.oneCell']) #[.int .i64 2, .string s, .string ⟨#[]⟩, .bool true, .bool true, .string s2, .int .i64 A.kind, .slice adA lenA capA, .float .f64 A.n, .slice (some ⟨w9.heap.size, 0, none⟩) 1 1, .int .i64 0] rfl ?_
        intro we he me
        have HME : Hid (Moves [] w1 we) := HMD.out.trans me (fun z hz => .inr (by have := HBD.out; simp at hz; omega))
        have HEX : Hid _ := he
        have HC5 : Hid (ChgsL W we _ [⟨5, ⟨#[120]⟩, 5, ⟨2, [], 4607182418800017408⟩⟩]) := HC4.out.stay (stay_box hbd (by decide) me)
        clear hbd he me
        go_wp2_with (with_reducible refine stopLO _ rfl ?_)
        unfold Hid
        refine wpList_load_row rfl 32 _ rfl B rfl _ _ _ _ HEX.out Tryz.underlying32 rfl Tryz.size32 ?_
        go_wp2_with (with_reducible refine stopSO _ _ rfl ?_)
        unfold Hid
        refine wpList_stAt rfl 32 _ _ rfl (D + 1) 0 _ (#[.int .i64 2, .string s, .string ⟨#[]⟩, .bool true, .bool true, .string s2, .int .i64 A.kind, .slice adA lenA capA, .float .f64 A.n, .slice (some ⟨w9.heap.size, 0, none⟩) 1 1, .int .i64 0] : Array Value).toList rfl rfl rfl Tryz.size32 (HME.out.at HB2.out (by simp)) (by show 11 ≤ 11; omega) (by simp [Value.oneCell']) #[.int .i64 2, .string s, .string ⟨#[]⟩, .bool true, .bool true, .string s2, .int .i64 A.kind, .slice adA lenA capA, .float .f64 A.n, .slice (some ⟨w9.heap.size, 0, none⟩) 1 1, .int .i64 0] rfl ?_
        intro wz hz mz
        go_wp2_with fail
        refine bodyPost_ret (ret_op rfl _ _ _ _ _ _ _ _ _ _ _ _ _ _ rfl hz) rfl ?_
        exact ⟨_, ⟨2, s, ⟨#[]⟩, ⟨true, true, s2, A.pv⟩, [⟨5, ⟨#[120]⟩, 5, ⟨2, [], 4607182418800017408⟩⟩], 0⟩, rfl, ⟨adA, lenA, capA, (some ⟨w9.heap.size, 0, none⟩), 1, 1, rfl, HVA.out, (HC5.out.stay (stay_box (HME.out.at HB2.out (by simp)) (by decide) mz) : ChgsL W wz _ [⟨5, ⟨#[120]⟩, 5, ⟨2, [], 4607182418800017408⟩⟩])⟩, Nat.le_trans HCL.out (by omega), (HM1.out.then HME.out).trans mz (fun z hz => .inr (by have := HSZ.out.1; simp at hz; omega))⟩
  · have hn3 : ¬ (n2 : Int) = 0 := by omega
    have HMA : Hid (Moves [] w1 w9) := HM9.out
    have HA : Hid _ := H9.out
    have HC : Hid (ChgsL W w9 (.slice ad n2 cap2) cs) := HC9.out
    have g4 := HMA.out.cell k4
    have g5 := HMA.out.cell k5
    have g6 := HMA.out.cell k6
    have g7 := HMA.out.cell k7
    have g8 := HMA.out.cell k8
    have g9 := HMA.out.cell k9
    have g10 := HMA.out.cell k10
    cases has with
    | false =>
      go_wp2_with (with_reducible refine stopLO _ rfl ?_)
      unfold Hid
      refine wpList_load_row rfl 32 _ rfl B rfl _ _ _ _ HA.out Tryz.underlying32 rfl Tryz.size32 ?_
      go_wp2_with (with_reducible refine stopSO _ _ rfl ?_)
      unfold Hid
      refine wpList_stAt rfl 32 _ _ rfl (D + 1) 0 _ (#[.int .i64 2, .string s, .string ⟨#[]⟩, .bool false, .bool false, .string ⟨#[]⟩, .int .i64 0, .slice none 0 0, .float .f64 0, .slice ad n2 cap2, .int .i64 0] : Array Value).toList rfl rfl rfl Tryz.size32 (HMA.out.at HB2.out (by simp)) (by show 11 ≤ 11; omega) (by simp [Value.oneCell']) #[.int .i64 2, .string s, .string ⟨#[]⟩, .bool false, .bool false, .string ⟨#[]⟩, .int .i64 0, .slice none 0 0, .float .f64 0, .slice ad n2 cap2, .int .i64 0] rfl ?_
      intro wz hz mz
      go_wp2_with fail
      refine bodyPost_ret (ret_op rfl _ _ _ _ _ _ _ _ _ _ _ _ _ _ rfl hz) rfl ?_
      exact ⟨_, ⟨2, s, ⟨#[]⟩, cdz, cs, 0⟩, rfl, ⟨none, 0, 0, ad, n2, cap2, rfl, va00 W, (HC.out.stay (stay_box (HMA.out.at HB2.out (by simp)) (by decide) mz) : ChgsL W wz _ cs)⟩, Nat.le_trans HCL.out (by omega), (HM1.out.then HMA.out).trans mz (fun z hz => .inr (by have := HSZ.out.1; simp at hz; omega))⟩
    | true =>
      go_wp2_with fail
      refine region_ssaL (by kernel_rfl) 7 (fun ix => ix + 56) [56, 57, 58, 59, 60, 61, 62] (fun ix (w : World) (v : Value) => match ix with | 0 => v = .pointer (some ⟨D, 6, none⟩) | 1 => v = .bool want | 2 => v = .pointer (some ⟨D, 4, none⟩) | 3 => v = .int .i64 co | 4 => ∃ s : ByteArray, v = .string s | 5 => ∃ s2 : ByteArray, v = .agg #[.bool true, .bool want, .string s2, .int .i64 0, .slice none 0 0, .float .f64 0] | 6 => v = .pointer (some ⟨B, 3, none⟩) | _ => True) (Moves []) rfl (by kernel_rfl) (by kernel_rfl) ?_ ?_ ?_ ((Moves.refl _ _).drew) (fun _ _ _ => Moves.then) (fun ix u u' v h m => ?_) ?_ ?_
      · intro ix hix
        have hix : ix < 7 := hix
        show _ < 71
        try dsimp only
        repeat (first | omega | split)
      · intro ix jx hix hjx hne
        have hix : ix < 7 := hix
        have hjx : jx < 7 := hjx
        try dsimp only
        repeat (first | omega | split)
      · intro ix hix
        have hix : ix < 7 := hix
        match ix, hix with
        | 0, _ => decide
        | 1, _ => decide
        | 2, _ => decide
        | 3, _ => decide
        | 4, _ => decide
        | 5, _ => decide
        | 6, _ => decide
        | m + 7, h => exact absurd h (by omega)
      · match ix with
        | 0 => exact h
        | 1 => exact h
        | 2 => exact h
        | 3 => exact h
        | 4 => exact h
        | 5 => exact h
        | 6 => exact h
        | m + 7 => trivial
      · intro ix hix a u hR hsz hold hF K hK
        have hix : ix < 7 := hix
        have c_g4 := (hR).cell g4
        have c_g6 := (hR).cell g6
        match ix, hix with
        | 0, _ =>
          have e1 : a.tmps.getD 1 undef = .pointer (some ⟨D, 0, none⟩) := hold 1 (by intro kk hkk; have hkk : kk < 7 := hkk; (try dsimp only); (repeat (first | omega | split)))
          refine wpOp_val (v := .pointer (some ⟨D, 6, none⟩)) rfl rfl ?_ (hK _ _ rfl (Moves.refl _ _))
          go_simp
          try rfl
        | 1, _ =>
          have e56 : a.tmps.getD 56 undef = .pointer (some ⟨D, 6, none⟩) := hF 0 (by decide) (by kernel_rfl)
          refine wpOp_val (v := .bool want) rfl rfl ?_ (hK _ _ rfl (Moves.refl _ _))
          go_simp
          try rfl
        | 2, _ =>
          have e1 : a.tmps.getD 1 undef = .pointer (some ⟨D, 0, none⟩) := hold 1 (by intro kk hkk; have hkk : kk < 7 := hkk; (try dsimp only); (repeat (first | omega | split)))
          refine wpOp_val (v := .pointer (some ⟨D, 4, none⟩)) rfl rfl ?_ (hK _ _ rfl (Moves.refl _ _))
          go_simp
          try rfl
        | 3, _ =>
          have e58 : a.tmps.getD 58 undef = .pointer (some ⟨D, 4, none⟩) := hF 2 (by decide) (by kernel_rfl)
          refine wpOp_val (v := .int .i64 co) rfl rfl ?_ (hK _ _ rfl (Moves.refl _ _))
          go_simp
          try rfl
        | 4, _ =>
          have e59 : a.tmps.getD 59 undef = .int .i64 co := hF 3 (by decide) (by kernel_rfl)
          refine wpOp_of_wp rfl rfl ?_
          go_simp
          go_at_call 38
          refine (keepCol_w _ _).mono ?_
          rintro _ u2 ⟨s, rfl, -, m2⟩
          exact hK _ _ ⟨s, rfl⟩ m2
        | 5, _ =>
          have e57 : a.tmps.getD 57 undef = .bool want := hF 1 (by decide) (by kernel_rfl)
          have f60 := hF 4 (by decide) (by kernel_rfl)
          obtain ⟨s2, hv1⟩ := f60
          have e57 : a.tmps.getD 57 undef = .bool want := e57
          have e60 : a.tmps.getD 60 undef = .string s2 := hv1
          exact wpOp_of_wp rfl rfl (wp_build' 30 _ rfl [(0, .bool true), (1, .bool want), (2, .string s2)] #[.bool true, .bool want, .string s2, .int .i64 0, .slice none 0 0, .float .f64 0] (by simp only [Array.getD_eq_getD_getElem?] at e57 e60; simp [Act.eval, e57, e60]) (by kernel_rfl) (hK _ _ ⟨s2, rfl⟩ (Moves.refl _ _)))
        | 6, _ =>
          have e4 : a.tmps.getD 4 undef = .pointer (some ⟨B, 0, none⟩) := hold 4 (by intro kk hkk; have hkk : kk < 7 := hkk; (try dsimp only); (repeat (first | omega | split)))
          refine wpOp_val (v := .pointer (some ⟨B, 3, none⟩)) rfl rfl ?_ (hK _ _ rfl (Moves.refl _ _))
          go_simp
          try rfl
        | m + 7, h => exact absurd h (by omega)
      intro v u hall hR
      obtain ⟨s2, e61⟩ := hall 5 (by decide)
      have E61 : v 61 = .agg #[.bool true, .bool want, .string s2, .int .i64 0, .slice none 0 0, .float .f64 0] := e61
      have E62 : v 62 = .pointer (some ⟨B, 3, none⟩) := hall 6 (by decide)
      simp only [List.foldl_cons, List.foldl_nil, List.setIfInBounds_toArray, List.set_cons_zero, List.set_cons_succ, E61, E62]
      generalize v 56 = u56
      generalize v 57 = u57
      generalize v 58 = u58
      generalize v 59 = u59
      generalize v 60 = u60
      have HMB : Hid (Moves [] w1 u) := HMA.out.then hR
      have hbx := hR.at HA.out (by simp)
      have HC2 : Hid (ChgsL W u _ cs) := HC.out.moves0 hR
      clear hall e61 E61 E62 g4
      refine wpOp_of_wp rfl rfl ?_
      refine wp_stAt 30 _ _ rfl B 3 _ [.bool true, .bool want, .string s2, .int .i64 0, .slice none 0 0, .float .f64 0] rfl rfl rfl Tryz.sizeCd hbx (by show 9 ≤ 11; omega) (by simp [Value.oneCell']) #[.int .i64 2, .string s, .string ⟨#[]⟩, .bool true, .bool want, .string s2, .int .i64 0, .slice none 0 0, .float .f64 0, .slice ad n2 cap2, .int .i64 0] rfl ?_
      intro wc hc mc
      have HMC : Hid (Moves [] w1 wc) := HMB.out.trans mc (fun z hz => .inr (by have := HBD.out; simp at hz; omega))
      have HC3 : Hid (ChgsL W wc _ cs) := HC2.out.stay (stay_box hbx (by decide) mc)
      have HCX : Hid _ := hc
      have f6 := HMC.out.cell k6
      have f7 := HMC.out.cell k7
      have f8 := HMC.out.cell k8
      have f9 := HMC.out.cell k9
      have f10 := HMC.out.cell k10
      clear hR hbx hc mc
      cases want with
      | false =>
        go_wp2_with (with_reducible refine stopLO _ rfl ?_)
        unfold Hid
        refine wpList_load_row rfl 32 _ rfl B rfl _ _ _ _ HCX.out Tryz.underlying32 rfl Tryz.size32 ?_
        go_wp2_with (with_reducible refine stopSO _ _ rfl ?_)
        unfold Hid
        refine wpList_stAt rfl 32 _ _ rfl (D + 1) 0 _ (#[.int .i64 2, .string s, .string ⟨#[]⟩, .bool true, .bool false, .string s2, .int .i64 0, .slice none 0 0, .float .f64 0, .slice ad n2 cap2, .int .i64 0] : Array Value).toList rfl rfl rfl Tryz.size32 (HMC.out.at HB2.out (by simp)) (by show 11 ≤ 11; omega) (by simp [Value.oneCell']) #[.int .i64 2, .string s, .string ⟨#[]⟩, .bool true, .bool false, .string s2, .int .i64 0, .slice none 0 0, .float .f64 0, .slice ad n2 cap2, .int .i64 0] rfl ?_
        intro wz hz mz
        go_wp2_with fail
        refine bodyPost_ret (ret_op rfl _ _ _ _ _ _ _ _ _ _ _ _ _ _ rfl hz) rfl ?_
        exact ⟨_, ⟨2, s, ⟨#[]⟩, ⟨true, false, s2, pz⟩, cs, 0⟩, rfl, ⟨none, 0, 0, ad, n2, cap2, rfl, va00 W, (HC3.out.stay (stay_box (HMC.out.at HB2.out (by simp)) (by decide) mz) : ChgsL W wz _ cs)⟩, Nat.le_trans HCL.out (by omega), (HM1.out.then HMC.out).trans mz (fun z hz => .inr (by have := HSZ.out.1; simp at hz; omega))⟩
      | true =>
        go_wp2_with fail
        refine (keep_b' W wc _ HKA.out).mono ?_
        rintro _ wd ⟨A, adA, lenA, capA, rfl, hA, yA, md⟩
        have HVA : Hid (VA W [.int .i64 A.kind, .slice adA lenA capA, .float .f64 A.n] A.pv) := hA.va (by have := yA.len16; omega)
        have hbd := md.at HCX.out (by simp)
        have HC4 : Hid (ChgsL W wd _ cs) := HC3.out.moves0 md
        have HMD : Hid (Moves [] w1 wd) := HMC.out.then md
        clear hA yA md f6 f7 f8 f9 f10
        go_wp2_with (with_reducible refine stopSV _ _ rfl ?_)
        unfold Hid
        refine wpList_stAt rfl 25 _ _ rfl B 6 _ [.int .i64 A.kind, .slice adA lenA capA, .float .f64 A.n] rfl rfl rfl Tryz.sizeVa hbd (by show 9 ≤ 11; omega) (by simp [Value.oneCell']) #[.int .i64 2, .string s, .string ⟨#[]⟩, .bool true, .bool true, .string s2, .int .i64 A.kind, .slice adA lenA capA, .float .f64 A.n, .slice ad n2 cap2, .int .i64 0] rfl ?_
        intro we he me
        have HME : Hid (Moves [] w1 we) := HMD.out.trans me (fun z hz => .inr (by have := HBD.out; simp at hz; omega))
        have HEX : Hid _ := he
        have HC5 : Hid (ChgsL W we _ cs) := HC4.out.stay (stay_box hbd (by decide) me)
        clear hbd he me
        go_wp2_with (with_reducible refine stopLO _ rfl ?_)
        unfold Hid
        refine wpList_load_row rfl 32 _ rfl B rfl _ _ _ _ HEX.out Tryz.underlying32 rfl Tryz.size32 ?_
        go_wp2_with (with_reducible refine stopSO _ _ rfl ?_)
        unfold Hid
        refine wpList_stAt rfl 32 _ _ rfl (D + 1) 0 _ (#[.int .i64 2, .string s, .string ⟨#[]⟩, .bool true, .bool true, .string s2, .int .i64 A.kind, .slice adA lenA capA, .float .f64 A.n, .slice ad n2 cap2, .int .i64 0] : Array Value).toList rfl rfl rfl Tryz.size32 (HME.out.at HB2.out (by simp)) (by show 11 ≤ 11; omega) (by simp [Value.oneCell']) #[.int .i64 2, .string s, .string ⟨#[]⟩, .bool true, .bool true, .string s2, .int .i64 A.kind, .slice adA lenA capA, .float .f64 A.n, .slice ad n2 cap2, .int .i64 0] rfl ?_
        intro wz hz mz
        go_wp2_with fail
        refine bodyPost_ret (ret_op rfl _ _ _ _ _ _ _ _ _ _ _ _ _ _ rfl hz) rfl ?_
        exact ⟨_, ⟨2, s, ⟨#[]⟩, ⟨true, true, s2, A.pv⟩, cs, 0⟩, rfl, ⟨adA, lenA, capA, ad, n2, cap2, rfl, HVA.out, (HC5.out.stay (stay_box (HME.out.at HB2.out (by simp)) (by decide) mz) : ChgsL W wz _ cs)⟩, Nat.le_trans HCL.out (by omega), (HM1.out.then HME.out).trans mz (fun z hz => .inr (by have := HSZ.out.1; simp at hz; omega))⟩
theorem kop_w (W w : World) (ki ro hi mo co : Int) (has want t : Bool) (n : Int) (x : Nat) (a : Option Addr) (len cap : Nat) (lv : Value) (m : Moves [] W w) (hK : KArg W (.agg #[.bool t, .int .i64 n, .float .f64 x, .slice a len cap])) (hL : ChArgs W lv) :
    Calls Tryz.prog 47 #[.agg #[.int .i64 ki, .int .i64 ro, .int .i64 hi, .int .i64 mo, .int .i64 co, .bool has, .bool want, .bool t, .int .i64 n, .float .f64 x, .slice a len cap, lv]] w fun e w' => ∃ cs P, e = .returned (.agg cs) ∧ OpT W w' cs.toList P ∧ P.l.length ≤ 1000 ∧ Moves [] w w' := by
  by_cases h0 : (pwithin ki).tmod 6 = 0
  · exact kopGet_w W w ki ro hi mo co has want t n x a len cap lv h0 m
  · by_cases h1 : (pwithin ki).tmod 6 = 1
    · exact kopScan_w W w ki ro hi mo co has want t n x a len cap lv h1 m
    · exact kopMut_w W w ki ro hi mo co has want t n x a len cap lv hK hL ⟨h0, h1⟩ m
end Go.Proofs.YtcamhlnkcoicpaaGreat
