/-
  keep.Op: an operation, drawn: Get and Scan.
-/
import Derived.Test.YtcamhlnkcoicpaaGreatCB40
import Derived.Test.YtcamhlnkcoicpaaGreatCTo8
import Derived.Test.YtcamhlnkcoicpaaGreatCB08
import Derived.Test.YtcamhlnkcoicpaaGreatCB23
import Derived.Test.YtcamhlnkcoicpaaGreatCB16
namespace Go.Proofs.YtcamhlnkcoicpaaGreat
open Go.RowKit

theorem stopLO {ops : Array Oper} {rest : List Oper} {op : Oper} {a : Act} {w : World} {Q : Exit → Act → World → Prop} (x : Operand) (_ : op.op = .load 32 x) (h : Hid (wpList Tryz.prog ops Q (op :: rest) a w)) : wpList Tryz.prog ops Q (op :: rest) a w := h.out
theorem stopSO {ops : Array Oper} {rest : List Oper} {op : Oper} {a : Act} {w : World} {Q : Exit → Act → World → Prop} (x y : Operand) (_ : op.op = .store 32 x y) (h : Hid (wpList Tryz.prog ops Q (op :: rest) a w)) : wpList Tryz.prog ops Q (op :: rest) a w := h.out
theorem stopS9 {ops : Array Oper} {rest : List Oper} {op : Oper} {a : Act} {w : World} {Q : Exit → Act → World → Prop} (x y : Operand) (_ : op.op = .store 9 x y) (h : Hid (wpList Tryz.prog ops Q (op :: rest) a w)) : wpList Tryz.prog ops Q (op :: rest) a w := h.out
theorem Tryz.size9s : (Tryz.prog.info? 9).map (·.size) = some 1 := by kernel_rfl
theorem va00 (w : World) : VA w [.int .i64 0, .slice none 0 0, .float .f64 0] pz := ⟨none, 0, 0, 0, rfl, isB_nil _ _, (by show Pl.Fits 0; unfold Pl.Fits; decide), by simp [pz], by simp [pz]⟩
/-- The cells of an operation; what its values point at lies in an elder world. -/
def OpT (V w : World) (c : List Value) (p : Pop) : Prop := ∃ ca cn cc la ln lc, c = [.int .i64 p.kind, .string p.row, .string p.hi, .bool p.cd.has, .bool p.cd.want, .string p.cd.col, .int .i64 p.cd.v.kind, .slice ca cn cc, .float .f64 p.cd.v.n, .slice la ln lc, .int .i64 p.most] ∧ VA V [.int .i64 p.cd.v.kind, .slice ca cn cc, .float .f64 p.cd.v.n] p.cd.v ∧ ChgsL V w (.slice la ln lc) p.l
theorem OpT.stay {V w w' : World} {c : List Value} {p : Pop} (h : OpT V w c p) (hs : Stay (fun t => t = 27) w w') : OpT V w' c p := by
  obtain ⟨ca, cn, cc, la, ln, lc, e, h1, h2⟩ := h
  exact ⟨ca, cn, cc, la, ln, lc, e, h1, h2.stay hs⟩
theorem OpT.moves0 {V w w' : World} {c : List Value} {p : Pop} (h : OpT V w c p) (m : Moves [] w w') : OpT V w' c p := h.stay (Stay.ofMovesS m (fun k hk => by simp at hk))
/-- A store into a box of another type. -/
theorem stay_box {w w' : World} {B : Nat} {cs : Array Value} {t : TypeId} {fz : Nat × Nat} (h : w.heap[B]? = some (.cells cs t fz)) (ht : t ≠ 27) (m : Moves [B] w w') : Stay (fun t => t = 27) w w' :=
  Stay.ofMovesS m (fun k hk c t' fz' hc e => by
    simp at hk
    subst hk
    rw [h] at hc
    simp at hc
    exact ht (hc.2.1.trans e))
theorem opt_plain (V w : World) (k mo : Int) (r h : ByteArray) : OpT V w [.int .i64 k, .string r, .string h, .bool false, .bool false, .string ⟨#[]⟩, .int .i64 0, .slice none 0 0, .float .f64 0, .slice none 0 0, .int .i64 mo] ⟨k, r, h, cdz, [], mo⟩ :=
  ⟨none, 0, 0, none, 0, 0, rfl, va00 V, ChgsL.nil _ _⟩
set_option maxRecDepth 100000 in
set_option maxHeartbeats 16000000 in
theorem kopGet_w (W w : World) (ki ro hi mo co : Int) (has want t : Bool) (n : Int) (x : Nat) (a : Option Addr) (len cap : Nat) (lv : Value) (hk : (pwithin ki).tmod 6 = 0) (m : Moves [] W w) :
    Calls Tryz.prog 47 #[.agg #[.int .i64 ki, .int .i64 ro, .int .i64 hi, .int .i64 mo, .int .i64 co, .bool has, .bool want, .bool t, .int .i64 n, .float .f64 x, .slice a len cap, lv]] w fun e w' => ∃ cs P, e = .returned (.agg cs) ∧ OpT W w' cs.toList P ∧ P.l.length ≤ 1000 ∧ Moves [] w w' := by
  have b1 := heap_alloc_new w (.cells #[.int .i64 ki, .int .i64 ro, .int .i64 hi, .int .i64 mo, .int .i64 co, .bool has, .bool want, .bool t, .int .i64 n, .float .f64 x, .slice a len cap, lv] 49)
  obtain ⟨v1, hv1⟩ : ∃ v1, w.alloc (.cells #[.int .i64 ki, .int .i64 ro, .int .i64 hi, .int .i64 mo, .int .i64 co, .bool has, .bool want, .bool t, .int .i64 n, .float .f64 x, .slice a len cap, lv] 49) = v1 := ⟨_, rfl⟩
  have s1 : v1.heap.size = w.heap.size + 1 := by rw [← hv1]; simp
  have n1 : Moves [] w v1 := by rw [← hv1]; exact (Moves.refl _ _).alloc _
  rw [hv1] at b1
  have b2 := heap_alloc_new v1 (.cells #[.int .i64 0, .string ⟨#[]⟩, .string ⟨#[]⟩, .bool false, .bool false, .string ⟨#[]⟩, .int .i64 0, .slice none 0 0, .float .f64 0, .slice none 0 0, .int .i64 0] 32)
  obtain ⟨w1, hw1⟩ : ∃ w1, v1.alloc (.cells #[.int .i64 0, .string ⟨#[]⟩, .string ⟨#[]⟩, .bool false, .bool false, .string ⟨#[]⟩, .int .i64 0, .slice none 0 0, .float .f64 0, .slice none 0 0, .int .i64 0] 32) = w1 := ⟨_, rfl⟩
  have n2 : Moves [] v1 w1 := by rw [← hw1]; exact (Moves.refl _ _).alloc _
  rw [hw1] at b2
  rw [s1] at b2
  replace b1 := n2.at b1 (by simp)
  obtain ⟨D, hD⟩ : ∃ D, w.heap.size = D := ⟨_, rfl⟩
  rw [hD] at b1 b2
  have HM1 : Hid (Moves [] w w1) := n1.then n2
  have HW1 : Hid (Moves [] W w1) := m.then (n1.then n2)
  have HSZ : Hid (w.heap.size = D ∧ D + 1 < w1.heap.size) := ⟨hD, lt_of_block b2⟩
  have HB2 : Hid _ := b2
  have k0 : w1.cell? ⟨D, 0, none⟩ = some (.int .i64 ki) := by simp [World.cell?, b1]
  have k1 : w1.cell? ⟨D, 1, none⟩ = some (.int .i64 ro) := by simp [World.cell?, b1]
  clear b1 b2 n1 n2 m
  go_enter Tryz.func47, Tryz.ntmps47
  go_wp2_with fail
  try rw [hv1]
  try rw [s1]
  try rw [hw1]
  try rw [hD]
  obtain ⟨s, -, hrow⟩ := row_ds ro
  go_wp2_with fail
  refine (within_d ki w1).mono ?_
  rintro _ _ ⟨rfl, rfl⟩
  go_wp2_with fail
  refine (hrow _).mono ?_
  rintro _ w9 ⟨rfl, m9⟩
  have HM9 : Hid (Moves [] w1 w9) := m9
  have HB9 : Hid _ := m9.at HB2.out (by simp)
  go_wp2_with (with_reducible refine stopSO _ _ rfl ?_)
  unfold Hid
  refine wpList_stAt rfl 32 _ _ rfl (D + 1) 0 _ (#[.int .i64 1, .string s, .string ⟨#[]⟩, .bool false, .bool false, .string ⟨#[]⟩, .int .i64 0, .slice none 0 0, .float .f64 0, .slice none 0 0, .int .i64 0] : Array Value).toList rfl rfl rfl Tryz.size32 HB9.out (by show 11 ≤ 11; omega) (by simp [Value.oneCell']) #[.int .i64 1, .string s, .string ⟨#[]⟩, .bool false, .bool false, .string ⟨#[]⟩, .int .i64 0, .slice none 0 0, .float .f64 0, .slice none 0 0, .int .i64 0] rfl ?_
  intro wz hz mz
  go_wp2_with fail
  refine bodyPost_ret (ret_op rfl _ _ _ _ _ _ _ _ _ _ _ _ _ _ rfl hz) rfl ?_
  exact ⟨_, _, rfl, opt_plain W wz 1 0 s ⟨#[]⟩, by simp, (HM1.out.then HM9.out).trans mz (fun z hz => .inr (by have := HSZ.out.1; simp at hz; omega))⟩
set_option maxRecDepth 100000 in
set_option maxHeartbeats 16000000 in
theorem kopScan_w (W w : World) (ki ro hi mo co : Int) (has want t : Bool) (n : Int) (x : Nat) (a : Option Addr) (len cap : Nat) (lv : Value) (hk : (pwithin ki).tmod 6 = 1) (m : Moves [] W w) :
    Calls Tryz.prog 47 #[.agg #[.int .i64 ki, .int .i64 ro, .int .i64 hi, .int .i64 mo, .int .i64 co, .bool has, .bool want, .bool t, .int .i64 n, .float .f64 x, .slice a len cap, lv]] w fun e w' => ∃ cs P, e = .returned (.agg cs) ∧ OpT W w' cs.toList P ∧ P.l.length ≤ 1000 ∧ Moves [] w w' := by
  have b1 := heap_alloc_new w (.cells #[.int .i64 ki, .int .i64 ro, .int .i64 hi, .int .i64 mo, .int .i64 co, .bool has, .bool want, .bool t, .int .i64 n, .float .f64 x, .slice a len cap, lv] 49)
  obtain ⟨v1, hv1⟩ : ∃ v1, w.alloc (.cells #[.int .i64 ki, .int .i64 ro, .int .i64 hi, .int .i64 mo, .int .i64 co, .bool has, .bool want, .bool t, .int .i64 n, .float .f64 x, .slice a len cap, lv] 49) = v1 := ⟨_, rfl⟩
  have s1 : v1.heap.size = w.heap.size + 1 := by rw [← hv1]; simp
  have n1 : Moves [] w v1 := by rw [← hv1]; exact (Moves.refl _ _).alloc _
  rw [hv1] at b1
  have b2 := heap_alloc_new v1 (.cells #[.int .i64 0, .string ⟨#[]⟩, .string ⟨#[]⟩, .bool false, .bool false, .string ⟨#[]⟩, .int .i64 0, .slice none 0 0, .float .f64 0, .slice none 0 0, .int .i64 0] 32)
  obtain ⟨w1, hw1⟩ : ∃ w1, v1.alloc (.cells #[.int .i64 0, .string ⟨#[]⟩, .string ⟨#[]⟩, .bool false, .bool false, .string ⟨#[]⟩, .int .i64 0, .slice none 0 0, .float .f64 0, .slice none 0 0, .int .i64 0] 32) = w1 := ⟨_, rfl⟩
  have n2 : Moves [] v1 w1 := by rw [← hw1]; exact (Moves.refl _ _).alloc _
  rw [hw1] at b2
  rw [s1] at b2
  replace b1 := n2.at b1 (by simp)
  obtain ⟨D, hD⟩ : ∃ D, w.heap.size = D := ⟨_, rfl⟩
  rw [hD] at b1 b2
  have HM1 : Hid (Moves [] w w1) := n1.then n2
  have HW1 : Hid (Moves [] W w1) := m.then (n1.then n2)
  have HSZ : Hid (w.heap.size = D ∧ D + 1 < w1.heap.size) := ⟨hD, lt_of_block b2⟩
  have HB2 : Hid _ := b2
  have k0 : w1.cell? ⟨D, 0, none⟩ = some (.int .i64 ki) := by simp [World.cell?, b1]
  have k1 : w1.cell? ⟨D, 1, none⟩ = some (.int .i64 ro) := by simp [World.cell?, b1]
  have k2 : w1.cell? ⟨D, 2, none⟩ = some (.int .i64 hi) := by simp [World.cell?, b1]
  have k3 : w1.cell? ⟨D, 3, none⟩ = some (.int .i64 mo) := by simp [World.cell?, b1]
  have k5 : w1.cell? ⟨D, 5, none⟩ = some (.bool has) := by simp [World.cell?, b1]
  clear b1 b2 n1 n2 m
  go_enter Tryz.func47, Tryz.ntmps47
  go_wp2_with fail
  try rw [hv1]
  try rw [s1]
  try rw [hw1]
  try rw [hD]
  go_wp2_with fail
  refine (within_d ki w1).mono ?_
  rintro _ _ ⟨rfl, rfl⟩
  go_wp2_with fail
  refine region_ssaL (by kernel_rfl) 13 (fun ix => if ix = 12 then 3 else ix + 17) [3, 17, 18, 19, 20, 21, 22, 23, 24, 25, 26, 27, 28] (fun ix (w : World) (v : Value) => match ix with | 0 => v = .pointer (some ⟨D, 1, none⟩) | 1 => v = .int .i64 ro | 2 => ∃ s : ByteArray, v = .string s | 3 => v = .pointer (some ⟨D, 2, none⟩) | 4 => v = .int .i64 hi | 5 => ∃ s : ByteArray, v = .string s | 6 => v = .pointer (some ⟨D, 3, none⟩) | 7 => v = .int .i64 mo | 8 => ∃ r : Int, (0 ≤ r ∧ r ≤ 1048576) ∧ v = .int .i64 r | 9 => ∃ r : Int, (0 ≤ r ∧ r < 16) ∧ v = .int .i64 r | 10 => ∃ r : Int, v = .int .i64 r | 11 => ∃ (s1 s2 : ByteArray) (r : Int), v = .agg #[.int .i64 3, .string s1, .string s2, .bool false, .bool false, .string ⟨#[]⟩, .int .i64 0, .slice none 0 0, .float .f64 0, .slice none 0 0, .int .i64 r] | 12 => ∃ b, v = .pointer (some ⟨b, 0, none⟩) ∧ w.heap[b]? = some (.cells #[.int .i64 0, .string ⟨#[]⟩, .string ⟨#[]⟩, .bool false, .bool false, .string ⟨#[]⟩, .int .i64 0, .slice none 0 0, .float .f64 0, .slice none 0 0, .int .i64 0] 32 (0, 0)) ∧ w1.heap.size ≤ b | _ => True) (Moves []) rfl (by kernel_rfl) (by kernel_rfl) ?_ ?_ ?_ ((Moves.refl _ _).drew) (fun _ _ _ => Moves.then) (fun ix u u' v h m => ?_) ?_ ?_
  · intro ix hix
    have hix : ix < 13 := hix
    show _ < 71
    try dsimp only
    repeat (first | omega | split)
  · intro ix jx hix hjx hne
    have hix : ix < 13 := hix
    have hjx : jx < 13 := hjx
    try dsimp only
    repeat (first | omega | split)
  · intro ix hix
    have hix : ix < 13 := hix
    match ix, hix with
    | 0, _ => decide
    | 1, _ => decide
    | 2, _ => decide
    | 3, _ => decide
    | 4, _ => decide
    | 5, _ => decide
    | 6, _ => decide
    | 7, _ => decide
    | 8, _ => decide
    | 9, _ => decide
    | 10, _ => decide
    | 11, _ => decide
    | 12, _ => decide
    | m + 13, h => exact absurd h (by omega)
  · match ix with
    | 0 => exact h
    | 1 => exact h
    | 2 => exact h
    | 3 => exact h
    | 4 => exact h
    | 5 => exact h
    | 6 => exact h
    | 7 => exact h
    | 8 => exact h
    | 9 => exact h
    | 10 => exact h
    | 11 => exact h
    | 12 => exact (by obtain ⟨b, e, hb, hle⟩ := h; exact ⟨b, e, m.at hb (by simp), hle⟩)
    | m + 13 => trivial
  · intro ix hix a u hR hsz hold hF K hK
    have hix : ix < 13 := hix
    have c_k1 := (hR).cell k1
    have c_k2 := (hR).cell k2
    have c_k3 := (hR).cell k3
    match ix, hix with
    | 0, _ =>
      have e1 : a.tmps.getD 1 undef = .pointer (some ⟨D, 0, none⟩) := hold 1 (by intro kk hkk; have hkk : kk < 13 := hkk; (try dsimp only); (repeat (first | omega | split)))
      refine wpOp_val (v := .pointer (some ⟨D, 1, none⟩)) rfl rfl ?_ (hK _ _ rfl (Moves.refl _ _))
      go_simp
      try rfl
    | 1, _ =>
      have e17 : a.tmps.getD 17 undef = .pointer (some ⟨D, 1, none⟩) := hF 0 (by decide) (by kernel_rfl)
      refine wpOp_val (v := .int .i64 ro) rfl rfl ?_ (hK _ _ rfl (Moves.refl _ _))
      go_simp
      try rfl
    | 2, _ =>
      have e18 : a.tmps.getD 18 undef = .int .i64 ro := hF 1 (by decide) (by kernel_rfl)
      obtain ⟨s, _, hrow⟩ := row_ds ro
      refine wpOp_of_wp rfl rfl ?_
      go_simp
      go_at_call 37
      refine (hrow _).mono ?_
      rintro _ u2 ⟨rfl, m2⟩
      exact hK _ _ ⟨s, rfl⟩ m2
    | 3, _ =>
      have e1 : a.tmps.getD 1 undef = .pointer (some ⟨D, 0, none⟩) := hold 1 (by intro kk hkk; have hkk : kk < 13 := hkk; (try dsimp only); (repeat (first | omega | split)))
      refine wpOp_val (v := .pointer (some ⟨D, 2, none⟩)) rfl rfl ?_ (hK _ _ rfl (Moves.refl _ _))
      go_simp
      try rfl
    | 4, _ =>
      have e20 : a.tmps.getD 20 undef = .pointer (some ⟨D, 2, none⟩) := hF 3 (by decide) (by kernel_rfl)
      refine wpOp_val (v := .int .i64 hi) rfl rfl ?_ (hK _ _ rfl (Moves.refl _ _))
      go_simp
      try rfl
    | 5, _ =>
      have e21 : a.tmps.getD 21 undef = .int .i64 hi := hF 4 (by decide) (by kernel_rfl)
      obtain ⟨s, _, hrow⟩ := row_ds hi
      refine wpOp_of_wp rfl rfl ?_
      go_simp
      go_at_call 37
      refine (hrow _).mono ?_
      rintro _ u2 ⟨rfl, m2⟩
      exact hK _ _ ⟨s, rfl⟩ m2
    | 6, _ =>
      have e1 : a.tmps.getD 1 undef = .pointer (some ⟨D, 0, none⟩) := hold 1 (by intro kk hkk; have hkk : kk < 13 := hkk; (try dsimp only); (repeat (first | omega | split)))
      refine wpOp_val (v := .pointer (some ⟨D, 3, none⟩)) rfl rfl ?_ (hK _ _ rfl (Moves.refl _ _))
      go_simp
      try rfl
    | 7, _ =>
      have e23 : a.tmps.getD 23 undef = .pointer (some ⟨D, 3, none⟩) := hF 6 (by decide) (by kernel_rfl)
      refine wpOp_val (v := .int .i64 mo) rfl rfl ?_ (hK _ _ rfl (Moves.refl _ _))
      go_simp
      try rfl
    | 8, _ =>
      have e24 : a.tmps.getD 24 undef = .int .i64 mo := hF 7 (by decide) (by kernel_rfl)
      refine wpOp_of_wp rfl rfl ?_
      go_simp
      go_at_call 19
      refine (within_d _ _).mono ?_
      rintro _ _ ⟨rfl, rfl⟩
      exact hK _ _ ⟨_, pwithin_b _, rfl⟩ (Moves.refl _ _)
    | 9, _ =>
      have f25 := hF 8 (by decide) (by kernel_rfl)
      obtain ⟨r, hr, hv⟩ := f25
      have e25 : a.tmps.getD 25 undef = .int .i64 r := hv
      have ht : r.tmod 16 = r % 16 := Int.tmod_eq_emod_of_nonneg hr.1
      refine wpOp_val (v := .int .i64 (r % 16)) rfl rfl ?_ (hK _ _ ⟨_, ⟨by omega, by omega⟩, rfl⟩ (Moves.refl _ _))
      go_simp
      try rfl
    | 10, _ =>
      have f26 := hF 9 (by decide) (by kernel_rfl)
      obtain ⟨r, hr, hv⟩ := f26
      have e26 : a.tmps.getD 26 undef = .int .i64 r := hv
      have hw : IntKind.i64.wrap (1 + r) = 1 + r := by rw [IntKind.wrap_i64] <;> omega
      refine wpOp_val (v := .int .i64 (1 + r)) rfl rfl ?_ (hK _ _ ⟨_, rfl⟩ (Moves.refl _ _))
      go_simp
      try rw [hw]
    | 11, _ =>
      have f19 := hF 2 (by decide) (by kernel_rfl)
      have f22 := hF 5 (by decide) (by kernel_rfl)
      have f27 := hF 10 (by decide) (by kernel_rfl)
      obtain ⟨s1, hv1⟩ := f19
      obtain ⟨s2, hv2⟩ := f22
      obtain ⟨r, hv3⟩ := f27
      have e19 : a.tmps.getD 19 undef = .string s1 := hv1
      have e22 : a.tmps.getD 22 undef = .string s2 := hv2
      have e27 : a.tmps.getD 27 undef = .int .i64 r := hv3
      exact wpOp_of_wp rfl rfl (wp_build' 32 _ rfl [(0, .int .i64 3), (1, .string s1), (2, .string s2), (5, .int .i64 r)] #[.int .i64 3, .string s1, .string s2, .bool false, .bool false, .string ⟨#[]⟩, .int .i64 0, .slice none 0 0, .float .f64 0, .slice none 0 0, .int .i64 r] (by simp only [Array.getD_eq_getD_getElem?] at e19 e22 e27; simp [Act.eval, e19, e22, e27]) (by kernel_rfl) (hK _ _ ⟨s1, s2, r, rfl⟩ (Moves.refl _ _)))
    | 12, _ =>
      refine wpOp_of_wp rfl rfl ?_
      go_simp
      exact hK _ _ ⟨_, rfl, heap_alloc_new _ _, hR.size⟩ ((Moves.refl _ _).alloc _)
    | m + 13, h => exact absurd h (by omega)
  intro v u hall hR
  obtain ⟨s1, s2, r, e28⟩ := hall 11 (by decide)
  obtain ⟨B, e3, hB, hle⟩ := hall 12 (by decide)
  have E28 : v 28 = .agg #[.int .i64 3, .string s1, .string s2, .bool false, .bool false, .string ⟨#[]⟩, .int .i64 0, .slice none 0 0, .float .f64 0, .slice none 0 0, .int .i64 r] := e28
  have E3 : v 3 = .pointer (some ⟨B, 0, none⟩) := e3
  simp only [List.foldl_cons, List.foldl_nil, List.setIfInBounds_toArray, List.set_cons_zero, List.set_cons_succ, E28, E3]
  generalize v 17 = u17
  generalize v 18 = u18
  generalize v 19 = u19
  generalize v 20 = u20
  generalize v 21 = u21
  generalize v 22 = u22
  generalize v 23 = u23
  generalize v 24 = u24
  generalize v 25 = u25
  generalize v 26 = u26
  generalize v 27 = u27
  have HR : Hid _ := hR
  have HLE : Hid _ := hle
  clear hall e28 e3 E28 E3 k1 k2 k3 k0
  refine wpOp_of_wp rfl rfl ?_
  refine wp_stAt 32 _ _ rfl B 0 _ (#[.int .i64 3, .string s1, .string s2, .bool false, .bool false, .string ⟨#[]⟩, .int .i64 0, .slice none 0 0, .float .f64 0, .slice none 0 0, .int .i64 r] : Array Value).toList rfl rfl rfl Tryz.size32 hB (by show 11 ≤ 11; omega) (by simp [Value.oneCell']) #[.int .i64 3, .string s1, .string s2, .bool false, .bool false, .string ⟨#[]⟩, .int .i64 0, .slice none 0 0, .float .f64 0, .slice none 0 0, .int .i64 r] rfl ?_
  intro w9 h9 m9
  have HM9 : Hid (Moves [] w1 w9) := hR.trans m9 (fun z hz => .inr (by simp at hz; omega))
  have HBD : Hid (D + 1 < B) := by have := HSZ.out.2; unfold Hid; omega
  have HB9 : Hid _ := HM9.out.at HB2.out (by simp)
  have H9 : Hid _ := h9
  have k5'' := HM9.out.cell k5
  clear hR hle hB h9 m9 k5
  cases has with
  | true =>
    go_wp2_with (with_reducible refine stopS9 _ _ rfl ?_)
    unfold Hid
    refine wpList_stAt rfl 9 _ _ rfl B 1 _ [.string ⟨#[]⟩] rfl rfl rfl Tryz.size9s H9.out (by show 2 ≤ 11; omega) (by simp [Value.oneCell']) #[.int .i64 3, .string ⟨#[]⟩, .string s2, .bool false, .bool false, .string ⟨#[]⟩, .int .i64 0, .slice none 0 0, .float .f64 0, .slice none 0 0, .int .i64 r] rfl ?_
    intro wa ha ma
    have HMA : Hid (Moves [] w1 wa) := HM9.out.trans ma (fun z hz => .inr (by have := HSZ.out.2; have := HLE.out; simp at hz; omega))
    have HA : Hid _ := ha
    obtain ⟨-, c1, c2, -⟩ := eleven_cells ha
    clear ha
    go_wp2_with (with_reducible first | (refine stopS9 _ _ rfl ?_) | (refine stopLO _ rfl ?_))
    · unfold Hid
      refine wpList_stAt rfl 9 _ _ rfl B 2 _ [.string ⟨#[]⟩] rfl rfl rfl Tryz.size9s HA.out (by show 3 ≤ 11; omega) (by simp [Value.oneCell']) #[.int .i64 3, .string ⟨#[]⟩, .string ⟨#[]⟩, .bool false, .bool false, .string ⟨#[]⟩, .int .i64 0, .slice none 0 0, .float .f64 0, .slice none 0 0, .int .i64 r] rfl ?_
      intro wb hb mb
      have HMB : Hid (Moves [] w1 wb) := HMA.out.trans mb (fun z hz => .inr (by have := HSZ.out.2; have := HLE.out; simp at hz; omega))
      have HBB : Hid _ := hb
      go_wp2_with (with_reducible refine stopLO _ rfl ?_)
      unfold Hid
      refine wpList_load_row rfl 32 _ rfl B rfl _ _ _ _ HBB.out Tryz.underlying32 rfl Tryz.size32 ?_
      go_wp2_with (with_reducible refine stopSO _ _ rfl ?_)
      unfold Hid
      refine wpList_stAt rfl 32 _ _ rfl (D + 1) 0 _ (#[.int .i64 3, .string ⟨#[]⟩, .string ⟨#[]⟩, .bool false, .bool false, .string ⟨#[]⟩, .int .i64 0, .slice none 0 0, .float .f64 0, .slice none 0 0, .int .i64 r] : Array Value).toList rfl rfl rfl Tryz.size32 (HMB.out.at HB2.out (by simp)) (by show 11 ≤ 11; omega) (by simp [Value.oneCell']) #[.int .i64 3, .string ⟨#[]⟩, .string ⟨#[]⟩, .bool false, .bool false, .string ⟨#[]⟩, .int .i64 0, .slice none 0 0, .float .f64 0, .slice none 0 0, .int .i64 r] rfl ?_
      intro wz hz mz
      go_wp2_with fail
      refine bodyPost_ret (ret_op rfl _ _ _ _ _ _ _ _ _ _ _ _ _ _ rfl hz) rfl ?_
      exact ⟨_, _, rfl, opt_plain W wz 3 r ⟨#[]⟩ ⟨#[]⟩, by simp, (HM1.out.then HMB.out).trans mz (fun z hz => .inr (by have := HSZ.out.1; simp at hz; omega))⟩
    · have HMB : Hid (Moves [] w1 wa) := HMA.out
      have HBB : Hid _ := HA.out
      unfold Hid
      refine wpList_load_row rfl 32 _ rfl B rfl _ _ _ _ HBB.out Tryz.underlying32 rfl Tryz.size32 ?_
      go_wp2_with (with_reducible refine stopSO _ _ rfl ?_)
      unfold Hid
      refine wpList_stAt rfl 32 _ _ rfl (D + 1) 0 _ (#[.int .i64 3, .string ⟨#[]⟩, .string s2, .bool false, .bool false, .string ⟨#[]⟩, .int .i64 0, .slice none 0 0, .float .f64 0, .slice none 0 0, .int .i64 r] : Array Value).toList rfl rfl rfl Tryz.size32 (HMB.out.at HB2.out (by simp)) (by show 11 ≤ 11; omega) (by simp [Value.oneCell']) #[.int .i64 3, .string ⟨#[]⟩, .string s2, .bool false, .bool false, .string ⟨#[]⟩, .int .i64 0, .slice none 0 0, .float .f64 0, .slice none 0 0, .int .i64 r] rfl ?_
      intro wz hz mz
      go_wp2_with fail
      refine bodyPost_ret (ret_op rfl _ _ _ _ _ _ _ _ _ _ _ _ _ _ rfl hz) rfl ?_
      exact ⟨_, _, rfl, opt_plain W wz 3 r ⟨#[]⟩ s2, by simp, (HM1.out.then HMB.out).trans mz (fun z hz => .inr (by have := HSZ.out.1; simp at hz; omega))⟩
  | false =>
    have HMA : Hid (Moves [] w1 w9) := HM9.out
    have ha := H9.out
    have HA : Hid _ := ha
    obtain ⟨-, c1, c2, -⟩ := eleven_cells ha
    clear ha
    go_wp2_with (with_reducible first | (refine stopS9 _ _ rfl ?_) | (refine stopLO _ rfl ?_))
    · unfold Hid
      refine wpList_stAt rfl 9 _ _ rfl B 2 _ [.string ⟨#[]⟩] rfl rfl rfl Tryz.size9s HA.out (by show 3 ≤ 11; omega) (by simp [Value.oneCell']) #[.int .i64 3, .string s1, .string ⟨#[]⟩, .bool false, .bool false, .string ⟨#[]⟩, .int .i64 0, .slice none 0 0, .float .f64 0, .slice none 0 0, .int .i64 r] rfl ?_
      intro wb hb mb
      have HMB : Hid (Moves [] w1 wb) := HMA.out.trans mb (fun z hz => .inr (by have := HSZ.out.2; have := HLE.out; simp at hz; omega))
      have HBB : Hid _ := hb
      go_wp2_with (with_reducible refine stopLO _ rfl ?_)
      unfold Hid
      refine wpList_load_row rfl 32 _ rfl B rfl _ _ _ _ HBB.out Tryz.underlying32 rfl Tryz.size32 ?_
      go_wp2_with (with_reducible refine stopSO _ _ rfl ?_)
      unfold Hid
      refine wpList_stAt rfl 32 _ _ rfl (D + 1) 0 _ (#[.int .i64 3, .string s1, .string ⟨#[]⟩, .bool false, .bool false, .string ⟨#[]⟩, .int .i64 0, .slice none 0 0, .float .f64 0, .slice none 0 0, .int .i64 r] : Array Value).toList rfl rfl rfl Tryz.size32 (HMB.out.at HB2.out (by simp)) (by show 11 ≤ 11; omega) (by simp [Value.oneCell']) #[.int .i64 3, .string s1, .string ⟨#[]⟩, .bool false, .bool false, .string ⟨#[]⟩, .int .i64 0, .slice none 0 0, .float .f64 0, .slice none 0 0, .int .i64 r] rfl ?_
      intro wz hz mz
      go_wp2_with fail
      refine bodyPost_ret (ret_op rfl _ _ _ _ _ _ _ _ _ _ _ _ _ _ rfl hz) rfl ?_
      exact ⟨_, _, rfl, opt_plain W wz 3 r s1 ⟨#[]⟩, by simp, (HM1.out.then HMB.out).trans mz (fun z hz => .inr (by have := HSZ.out.1; simp at hz; omega))⟩
    · have HMB : Hid (Moves [] w1 w9) := HMA.out
      have HBB : Hid _ := HA.out
      unfold Hid
      refine wpList_load_row rfl 32 _ rfl B rfl _ _ _ _ HBB.out Tryz.underlying32 rfl Tryz.size32 ?_
      go_wp2_with (with_reducible refine stopSO _ _ rfl ?_)
      unfold Hid
      refine wpList_stAt rfl 32 _ _ rfl (D + 1) 0 _ (#[.int .i64 3, .string s1, .string s2, .bool false, .bool false, .string ⟨#[]⟩, .int .i64 0, .slice none 0 0, .float .f64 0, .slice none 0 0, .int .i64 r] : Array Value).toList rfl rfl rfl Tryz.size32 (HMB.out.at HB2.out (by simp)) (by show 11 ≤ 11; omega) (by simp [Value.oneCell']) #[.int .i64 3, .string s1, .string s2, .bool false, .bool false, .string ⟨#[]⟩, .int .i64 0, .slice none 0 0, .float .f64 0, .slice none 0 0, .int .i64 r] rfl ?_
      intro wz hz mz
      go_wp2_with fail
      refine bodyPost_ret (ret_op rfl _ _ _ _ _ _ _ _ _ _ _ _ _ _ rfl hz) rfl ?_
      exact ⟨_, _, rfl, opt_plain W wz 3 r s1 s2, by simp, (HM1.out.then HMB.out).trans mz (fun z hz => .inr (by have := HSZ.out.1; simp at hz; omega))⟩
end Go.Proofs.YtcamhlnkcoicpaaGreat
