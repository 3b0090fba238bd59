/-
  law8's made: a command, drawn.
-/
import Derived.Test.YtcamhlnkcoicpaaGreatCKo8
import Derived.Test.YtcamhlnkcoicpaaGreatCKp8
import Derived.Test.YtcamhlnkcoicpaaGreatCTk8
import Derived.Test.YtcamhlnkcoicpaaGreatCB39
namespace Go.Proofs.YtcamhlnkcoicpaaGreat
open Go.RowKit

theorem tmod_anyM (n m : Int) (hm : 0 < m) : -m < n.tmod m ∧ n.tmod m < m := by
  have h1 := Int.tmod_lt_of_pos n hm
  have h2 := Int.tmod_lt_of_pos (-n) hm
  rw [Int.neg_tmod] at h2
  omega
theorem withinM_w (n lo hi : Int) (h0 : 0 ≤ lo) (h1 : lo ≤ hi) (h2 : hi ≤ 1099511627776) (w : World) :
    Calls Tryz.prog 19 #[.int .i64 n, .int .i64 lo, .int .i64 hi] w fun e w' => ∃ r : Int, (lo ≤ r ∧ r ≤ hi) ∧ e = .returned (.int .i64 r) ∧ w = w' := by
  have hz : ¬ hi - lo + 1 = 0 := by omega
  have t := tmod_anyM n (hi - lo + 1) (by omega)
  by_cases hA : lo ≤ n
  · by_cases hB : n ≤ hi
    · go_enter Tryz.func19, Tryz.ntmps19
      go_wp2
      go_ret
      exact ⟨n, ⟨hA, hB⟩, rfl, rfl⟩
    · have t1 := Int.emod_nonneg n (show hi - lo + 1 ≠ 0 by omega)
      have t2 := Int.emod_lt_of_pos n (show 0 < hi - lo + 1 by omega)
      clear t
      go_enter Tryz.func19, Tryz.ntmps19
      go_wp2
      all_goals go_ret
      all_goals refine ⟨_, ?_, rfl, rfl⟩
      all_goals generalize n % (hi - lo + 1) = m at *
      all_goals try unfold wrap64
      all_goals omega
  · go_enter Tryz.func19, Tryz.ntmps19
    go_wp2
    all_goals go_ret
    all_goals refine ⟨_, ?_, rfl, rfl⟩
    all_goals generalize n.tmod (hi - lo + 1) = m at *
    all_goals try unfold wrap64
    all_goals omega
theorem isB_lt {w : World} {g : Nat} {v : Value} {bs : List Nat} (h : IsB w g v bs) (hne : bs ≠ []) : g < w.heap.size := by
  obtain ⟨ad, n, cap, rfl, hn, hc, ha, hh⟩ := h
  rcases hh with e | ⟨off, rfl, hcell⟩
  · exact absurd e hne
  · obtain ⟨b, t, rfl⟩ := List.exists_cons_of_ne_nil hne
    exact lt_of_cell (hcell 0 b rfl)
theorem isB_far {w w' : World} {g B N : Nat} {v : Value} {bs : List Nat} (h : IsB w g v bs) (hlt : bs ≠ [] → g < N) (hN : N ≤ B) (m : Moves [B] w w') : IsB w' g v bs := by
  by_cases e : bs = []
  · subst e
    obtain ⟨ad, n, cap, rfl, hn, hc, ha, hh⟩ := h
    exact ⟨ad, n, cap, rfl, hn, hc, ha, .inl rfl⟩
  · exact h.moves m (by have := hlt e; simp; omega)
theorem stopS36 {ops : Array Oper} {rest : List Oper} {op : Oper} {a : Act} {w : World} {Q : Exit → Act → World → Prop} (x y : Operand) (_ : op.op = .store 3 x y) (h : Hid (wpList Tryz.prog ops Q (op :: rest) a w)) : wpList Tryz.prog ops Q (op :: rest) a w := h.out
theorem Tryz.size3i : (Tryz.prog.info? 3).map (·.size) = some 1 := by kernel_rfl
theorem Tryz.sizeSp : (Tryz.prog.info? 34).map (·.size) = some 2 := by kernel_rfl
set_option maxRecDepth 100000 in
set_option maxHeartbeats 16000000 in
theorem made8_w (W w : World) (xk xa xb xt xg xo : Int) (ki ro hi mo co : Int) (has want t : Bool) (n : Int) (x : Nat) (a0 : Option Addr) (len cap : Nat) (lv : Value) (sad : Option Addr) (sn scap gs : Nat) (bs : List Nat)
    (hKA : KArg W (.agg #[.bool t, .int .i64 n, .float .f64 x, .slice a0 len cap])) (hLA : ChArgs W lv)
    (hS : IsB W gs (.slice sad sn scap) bs) (hz : ∀ z ∈ bs, z < 256) (m : Moves [] W w) :
    Calls Tryz.prog 14 #[.agg #[.int .i64 xk, .int .i64 xa, .int .i64 xb, .int .i64 xt, .int .i64 xg, .int .i64 xo, .int .i64 ki, .int .i64 ro, .int .i64 hi, .int .i64 mo, .int .i64 co, .bool has, .bool want, .bool t, .int .i64 n, .float .f64 x, .slice a0 len cap, lv, .slice sad sn scap]] w fun e w' => ∃ cs C, e = .returned (.agg cs) ∧ CmdC w' cs.toList C ∧ C.op.l.length ≤ 1000 ∧ Moves [] w w' := by
  have b1 := heap_alloc_new w (.cells #[.int .i64 xk, .int .i64 xa, .int .i64 xb, .int .i64 xt, .int .i64 xg, .int .i64 xo, .int .i64 ki, .int .i64 ro, .int .i64 hi, .int .i64 mo, .int .i64 co, .bool has, .bool want, .bool t, .int .i64 n, .float .f64 x, .slice a0 len cap, lv, .slice sad sn scap] 51)
  obtain ⟨v1, hv1⟩ : ∃ v1, w.alloc (.cells #[.int .i64 xk, .int .i64 xa, .int .i64 xb, .int .i64 xt, .int .i64 xg, .int .i64 xo, .int .i64 ki, .int .i64 ro, .int .i64 hi, .int .i64 mo, .int .i64 co, .bool has, .bool want, .bool t, .int .i64 n, .float .f64 x, .slice a0 len cap, lv, .slice sad sn scap] 51) = v1 := ⟨_, rfl⟩
  have s1 : v1.heap.size = w.heap.size + 1 := by rw [← hv1]; simp
  have n1 : Moves [] w v1 := by rw [← hv1]; exact (Moves.refl _ _).alloc _
  rw [hv1] at b1
  have b2 := heap_alloc_new v1 (.cells #[.int .i64 0, .int .i64 0, .string ⟨#[]⟩, .string ⟨#[]⟩, .bool false, .bool false, .string ⟨#[]⟩, .int .i64 0, .slice none 0 0, .float .f64 0, .slice none 0 0, .int .i64 0, .string ⟨#[]⟩, .string ⟨#[]⟩, .int .i64 0, .string ⟨#[]⟩, .int .i64 0, .int .i64 0, .slice none 0 0] 36)
  obtain ⟨w1, hw1⟩ : ∃ w1, v1.alloc (.cells #[.int .i64 0, .int .i64 0, .string ⟨#[]⟩, .string ⟨#[]⟩, .bool false, .bool false, .string ⟨#[]⟩, .int .i64 0, .slice none 0 0, .float .f64 0, .slice none 0 0, .int .i64 0, .string ⟨#[]⟩, .string ⟨#[]⟩, .int .i64 0, .string ⟨#[]⟩, .int .i64 0, .int .i64 0, .slice none 0 0] 36) = w1 := ⟨_, rfl⟩
  have n2 : Moves [] v1 w1 := by rw [← hw1]; exact (Moves.refl _ _).alloc _
  rw [hw1] at b2
  rw [s1] at b2
  replace b1 := n2.at b1 (by simp)
  obtain ⟨D, hD⟩ : ∃ D, w.heap.size = D := ⟨_, rfl⟩
  rw [hD] at b1 b2
  have HM1 : Hid (Moves [] w w1) := n1.then n2
  have HW1 : Hid (Moves [] W w1) := m.then (n1.then n2)
  have HSZ : Hid (w.heap.size = D ∧ D + 1 < w1.heap.size) := ⟨hD, lt_of_block b2⟩
  have HB2 : Hid _ := b2
  have HW0 : Hid (Moves [] W w) := m
  have HSB : Hid (IsB w1 gs (.slice sad sn scap) bs) := hS.moves (m.then (n1.then n2)) (by simp)
  have HZ : Hid (∀ z ∈ bs.take 40, z < 256) := fun z hz2 => hz z (List.mem_of_mem_take hz2)
  have k0 : w1.cell? ⟨D, 0, none⟩ = some (.int .i64 xk) := by simp [World.cell?, b1]
  have k1 : w1.cell? ⟨D, 1, none⟩ = some (.int .i64 xa) := by simp [World.cell?, b1]
  have k2 : w1.cell? ⟨D, 2, none⟩ = some (.int .i64 xb) := by simp [World.cell?, b1]
  have k3 : w1.cell? ⟨D, 3, none⟩ = some (.int .i64 xt) := by simp [World.cell?, b1]
  have k4 : w1.cell? ⟨D, 4, none⟩ = some (.int .i64 xg) := by simp [World.cell?, b1]
  have k5 : w1.cell? ⟨D, 5, none⟩ = some (.int .i64 xo) := by simp [World.cell?, b1]
  have k6 : w1.cell? ⟨D, 6, none⟩ = some (.int .i64 ki) := by simp [World.cell?, b1]
  have k7 : w1.cell? ⟨D, 7, none⟩ = some (.int .i64 ro) := by simp [World.cell?, b1]
  have k8 : w1.cell? ⟨D, 8, none⟩ = some (.int .i64 hi) := by simp [World.cell?, b1]
  have k9 : w1.cell? ⟨D, 9, none⟩ = some (.int .i64 mo) := by simp [World.cell?, b1]
  have k10 : w1.cell? ⟨D, 10, none⟩ = some (.int .i64 co) := by simp [World.cell?, b1]
  have k11 : w1.cell? ⟨D, 11, none⟩ = some (.bool has) := by simp [World.cell?, b1]
  have k12 : w1.cell? ⟨D, 12, none⟩ = some (.bool want) := by simp [World.cell?, b1]
  have k13 : w1.cell? ⟨D, 13, none⟩ = some (.bool t) := by simp [World.cell?, b1]
  have k14 : w1.cell? ⟨D, 14, none⟩ = some (.int .i64 n) := by simp [World.cell?, b1]
  have k15 : w1.cell? ⟨D, 15, none⟩ = some (.float .f64 x) := by simp [World.cell?, b1]
  have k16 : w1.cell? ⟨D, 16, none⟩ = some (.slice a0 len cap) := by simp [World.cell?, b1]
  have k17 : w1.cell? ⟨D, 17, none⟩ = some (lv) := by simp [World.cell?, b1]
  have k18 : w1.cell? ⟨D, 18, none⟩ = some (.slice sad sn scap) := by simp [World.cell?, b1]
  have HKA : Hid _ := hKA
  have HLA : Hid (ChArgs W lv) := hLA
  have HGS : Hid (bs ≠ [] → gs < D) := fun hne => by have h1 := isB_lt hS hne; have h2 := m.size; omega
  have K1 : Hid _ := k1
  have K2 : Hid _ := k2
  clear b1 b2 n1 n2 m hS hz hKA hLA
  go_enter Tryz.func14, Tryz.ntmps14
  go_wp2_with fail
  try rw [hv1]
  try rw [s1]
  try rw [hw1]
  try rw [hD]
  go_wp2_with fail
  refine region_ssaL (by kernel_rfl) 26 (fun ix => if ix = 25 then 3 else ix + 4) [3, 4, 5, 6, 7, 8, 9, 10, 11, 12, 13, 14, 15, 16, 17, 18, 19, 20, 21, 22, 23, 24, 25, 26, 27, 28] (fun ix (w : World) (v : Value) => match ix with | 0 => v = .pointer (some ⟨D, 0, none⟩) | 1 => v = .int .i64 xk | 2 => ∃ r : Int, (0 ≤ r ∧ r ≤ 1048576) ∧ v = .int .i64 r | 3 => ∃ r : Int, (0 ≤ r ∧ r < 10) ∧ v = .int .i64 r | 4 => ∃ r : Int, (1 ≤ r ∧ r ≤ 10) ∧ v = .int .i64 r | 5 => v = .pointer (some ⟨D, 4, none⟩) | 6 => v = .int .i64 xg | 7 => ∃ r : Int, (0 ≤ r ∧ r ≤ 1073741824) ∧ v = .int .i64 r | 8 => v = .pointer (some ⟨D, 3, none⟩) | 9 => v = .int .i64 xt | 10 => ∃ s : ByteArray, v = .string s | 11 => v = .pointer (some ⟨D, 5, none⟩) | 12 => v = .int .i64 xo | 13 => ∃ r : Int, (0 ≤ r ∧ r ≤ 255) ∧ v = .int .i64 r | 14 => v = .pointer (some ⟨D, 5, none⟩) | 15 => v = .int .i64 xo | 16 => ∃ r : Int, (0 ≤ r ∧ r ≤ 1048576) ∧ v = .int .i64 r | 17 => ∃ r : Int, (0 ≤ r ∧ r < 5) ∧ v = .int .i64 r | 18 => v = .pointer (some ⟨D, 18, none⟩) | 19 => v = .slice sad sn scap | 20 => ∃ ad n cap, v = .slice ad n cap ∧ IsB w gs (.slice ad n cap) (bs.take 40) | 21 => v = .pointer (some ⟨D, 6, none⟩) | 22 => v = .agg #[.int .i64 ki, .int .i64 ro, .int .i64 hi, .int .i64 mo, .int .i64 co, .bool has, .bool want, .bool t, .int .i64 n, .float .f64 x, .slice a0 len cap, lv] | 23 => ∃ cs P, v = .agg cs ∧ OpT W w cs.toList P ∧ P.l.length ≤ 1000 | 24 => ∃ (kd ge to ac : Int) (pl : ByteArray) (P : Pop) (ad : Option Addr) (nn cap2 : Nat) (ca : Option Addr) (cn cc : Nat) (la : Option Addr) (ln lc : Nat), v = .agg #[.int .i64 kd, .int .i64 P.kind, .string P.row, .string P.hi, .bool P.cd.has, .bool P.cd.want, .string P.cd.col, .int .i64 P.cd.v.kind, .slice ca cn cc, .float .f64 P.cd.v.n, .slice la ln lc, .int .i64 P.most, .string ⟨#[]⟩, .string ⟨#[]⟩, .int .i64 ge, .string pl, .int .i64 to, .int .i64 ac, .slice ad nn cap2] ∧ VA W [.int .i64 P.cd.v.kind, .slice ca cn cc, .float .f64 P.cd.v.n] P.cd.v ∧ ChgsL W w (.slice la ln lc) P.l ∧ P.l.length ≤ 1000 ∧ IsB w gs (.slice ad nn cap2) (bs.take 40) | 25 => ∃ b, v = .pointer (some ⟨b, 0, none⟩) ∧ w.heap[b]? = some (.cells #[.int .i64 0, .int .i64 0, .string ⟨#[]⟩, .string ⟨#[]⟩, .bool false, .bool false, .string ⟨#[]⟩, .int .i64 0, .slice none 0 0, .float .f64 0, .slice none 0 0, .int .i64 0, .string ⟨#[]⟩, .string ⟨#[]⟩, .int .i64 0, .string ⟨#[]⟩, .int .i64 0, .int .i64 0, .slice none 0 0] 36 (0, 0)) ∧ w1.heap.size ≤ b | _ => True) (Moves []) rfl (by kernel_rfl) (by kernel_rfl) ?_ ?_ ?_ ((Moves.refl _ _).drew) (fun _ _ _ => Moves.then) (fun ix u u' v h m => ?_) ?_ ?_
  · intro ix hix
    have hix : ix < 26 := hix
    show _ < 58
    try dsimp only
    repeat (first | omega | split)
  · intro ix jx hix hjx hne
    have hix : ix < 26 := hix
    have hjx : jx < 26 := hjx
    try dsimp only
    repeat (first | omega | split)
  · intro ix hix
    have hix : ix < 26 := hix
    match ix, hix with
    | 0, _ => decide
    | 1, _ => decide
    | 2, _ => decide
    | 3, _ => decide
    | 4, _ => decide
    | 5, _ => decide
    | 6, _ => decide
    | 7, _ => decide
    | 8, _ => decide
    | 9, _ => decide
    | 10, _ => decide
    | 11, _ => decide
    | 12, _ => decide
    | 13, _ => decide
    | 14, _ => decide
    | 15, _ => decide
    | 16, _ => decide
    | 17, _ => decide
    | 18, _ => decide
    | 19, _ => decide
    | 20, _ => decide
    | 21, _ => decide
    | 22, _ => decide
    | 23, _ => decide
    | 24, _ => decide
    | 25, _ => decide
    | m + 26, h => exact absurd h (by omega)
  · match ix with
    | 0 => exact h
    | 1 => exact h
    | 2 => exact h
    | 3 => exact h
    | 4 => exact h
    | 5 => exact h
    | 6 => exact h
    | 7 => exact h
    | 8 => exact h
    | 9 => exact h
    | 10 => exact h
    | 11 => exact h
    | 12 => exact h
    | 13 => exact h
    | 14 => exact h
    | 15 => exact h
    | 16 => exact h
    | 17 => exact h
    | 18 => exact h
    | 19 => exact h
    | 20 => exact (by obtain ⟨ad, n, cap, e, hO⟩ := h; exact ⟨ad, n, cap, e, hO.moves m (by simp)⟩)
    | 21 => exact h
    | 22 => exact h
    | 23 => exact (by obtain ⟨cs, P, e, hO, hl⟩ := h; exact ⟨cs, P, e, hO.moves0 m, hl⟩)
    | 24 => exact (by obtain ⟨kd, ge, to, ac, pl, P, ad, nn, cap2, ca, cn, cc, la, ln, lc, e, hVA, hCh, hl, hS⟩ := h; exact ⟨kd, ge, to, ac, pl, P, ad, nn, cap2, ca, cn, cc, la, ln, lc, e, hVA, hCh.moves0 m, hl, hS.moves m (by simp)⟩)
    | 25 => exact (by obtain ⟨b, e, hb, hle⟩ := h; exact ⟨b, e, m.at hb (by simp), hle⟩)
    | m + 26 => trivial
  · intro ix hix a u hR hsz hold hF K hK
    have hix : ix < 26 := hix
    have c_k0 := (hR).cell k0
    have c_k1 := (hR).cell k1
    have c_k2 := (hR).cell k2
    have c_k3 := (hR).cell k3
    have c_k4 := (hR).cell k4
    have c_k5 := (hR).cell k5
    have c_k6 := (hR).cell k6
    have c_k7 := (hR).cell k7
    have c_k8 := (hR).cell k8
    have c_k9 := (hR).cell k9
    have c_k10 := (hR).cell k10
    have c_k11 := (hR).cell k11
    have c_k12 := (hR).cell k12
    have c_k13 := (hR).cell k13
    have c_k14 := (hR).cell k14
    have c_k15 := (hR).cell k15
    have c_k16 := (hR).cell k16
    have c_k17 := (hR).cell k17
    have c_k18 := (hR).cell k18
    match ix, hix with
    | 0, _ =>
      have e1 : a.tmps.getD 1 undef = .pointer (some ⟨D, 0, none⟩) := hold 1 (by intro kk hkk; have hkk : kk < 26 := hkk; (try dsimp only); (repeat (first | omega | split)))
      refine wpOp_val (v := .pointer (some ⟨D, 0, none⟩)) rfl rfl ?_ (hK _ _ rfl (Moves.refl _ _))
      go_simp
      try rfl
    | 1, _ =>
      have e4 : a.tmps.getD 4 undef = .pointer (some ⟨D, 0, none⟩) := hF 0 (by decide) (by kernel_rfl)
      refine wpOp_val (v := .int .i64 xk) rfl rfl ?_ (hK _ _ rfl (Moves.refl _ _))
      go_simp
      try rfl
    | 2, _ =>
      have e5 : a.tmps.getD 5 undef = .int .i64 xk := hF 1 (by decide) (by kernel_rfl)
      refine wpOp_of_wp rfl rfl ?_
      go_simp
      go_at_call 19
      refine (withinM_w _ 0 1048576 (by omega) (by omega) (by omega) _).mono ?_
      rintro _ _ ⟨r, hr, rfl, rfl⟩
      exact hK _ _ ⟨r, hr, rfl⟩ (Moves.refl _ _)
    | 3, _ =>
      have f6 := hF 2 (by decide) (by kernel_rfl)
      obtain ⟨r, hr, hv⟩ := f6
      have e6 : a.tmps.getD 6 undef = .int .i64 r := hv
      have ht : r.tmod 10 = r % 10 := Int.tmod_eq_emod_of_nonneg hr.1
      refine wpOp_val (v := .int .i64 (r % 10)) rfl rfl ?_ (hK _ _ ⟨_, ⟨by omega, by omega⟩, rfl⟩ (Moves.refl _ _))
      go_simp
      try rfl
    | 4, _ =>
      have f7 := hF 3 (by decide) (by kernel_rfl)
      obtain ⟨r, hr, hv⟩ := f7
      have e7 : a.tmps.getD 7 undef = .int .i64 r := hv
      have hw : IntKind.i64.wrap (1 + r) = 1 + r := by rw [IntKind.wrap_i64] <;> omega
      refine wpOp_val (v := .int .i64 (1 + r)) rfl rfl ?_ (hK _ _ ⟨_, ⟨by omega, by omega⟩, rfl⟩ (Moves.refl _ _))
      go_simp
      try rw [hw]
    | 5, _ =>
      have e1 : a.tmps.getD 1 undef = .pointer (some ⟨D, 0, none⟩) := hold 1 (by intro kk hkk; have hkk : kk < 26 := hkk; (try dsimp only); (repeat (first | omega | split)))
      refine wpOp_val (v := .pointer (some ⟨D, 4, none⟩)) rfl rfl ?_ (hK _ _ rfl (Moves.refl _ _))
      go_simp
      try rfl
    | 6, _ =>
      have e9 : a.tmps.getD 9 undef = .pointer (some ⟨D, 4, none⟩) := hF 5 (by decide) (by kernel_rfl)
      refine wpOp_val (v := .int .i64 xg) rfl rfl ?_ (hK _ _ rfl (Moves.refl _ _))
      go_simp
      try rfl
    | 7, _ =>
      have e10 : a.tmps.getD 10 undef = .int .i64 xg := hF 6 (by decide) (by kernel_rfl)
      refine wpOp_of_wp rfl rfl ?_
      go_simp
      go_at_call 19
      refine (withinM_w _ 0 1073741824 (by omega) (by omega) (by omega) _).mono ?_
      rintro _ _ ⟨r, hr, rfl, rfl⟩
      exact hK _ _ ⟨r, hr, rfl⟩ (Moves.refl _ _)
    | 8, _ =>
      have e1 : a.tmps.getD 1 undef = .pointer (some ⟨D, 0, none⟩) := hold 1 (by intro kk hkk; have hkk : kk < 26 := hkk; (try dsimp only); (repeat (first | omega | split)))
      refine wpOp_val (v := .pointer (some ⟨D, 3, none⟩)) rfl rfl ?_ (hK _ _ rfl (Moves.refl _ _))
      go_simp
      try rfl
    | 9, _ =>
      have e12 : a.tmps.getD 12 undef = .pointer (some ⟨D, 3, none⟩) := hF 8 (by decide) (by kernel_rfl)
      refine wpOp_val (v := .int .i64 xt) rfl rfl ?_ (hK _ _ rfl (Moves.refl _ _))
      go_simp
      try rfl
    | 10, _ =>
      have e13 : a.tmps.getD 13 undef = .int .i64 xt := hF 9 (by decide) (by kernel_rfl)
      obtain ⟨s, _, hrow⟩ := row_ds xt
      refine wpOp_of_wp rfl rfl ?_
      go_simp
      go_at_call 37
      refine (hrow _).mono ?_
      rintro _ u2 ⟨rfl, m2⟩
      exact hK _ _ ⟨s, rfl⟩ m2
    | 11, _ =>
      have e1 : a.tmps.getD 1 undef = .pointer (some ⟨D, 0, none⟩) := hold 1 (by intro kk hkk; have hkk : kk < 26 := hkk; (try dsimp only); (repeat (first | omega | split)))
      refine wpOp_val (v := .pointer (some ⟨D, 5, none⟩)) rfl rfl ?_ (hK _ _ rfl (Moves.refl _ _))
      go_simp
      try rfl
    | 12, _ =>
      have e15 : a.tmps.getD 15 undef = .pointer (some ⟨D, 5, none⟩) := hF 11 (by decide) (by kernel_rfl)
      refine wpOp_val (v := .int .i64 xo) rfl rfl ?_ (hK _ _ rfl (Moves.refl _ _))
      go_simp
      try rfl
    | 13, _ =>
      have e16 : a.tmps.getD 16 undef = .int .i64 xo := hF 12 (by decide) (by kernel_rfl)
      refine wpOp_of_wp rfl rfl ?_
      go_simp
      go_at_call 19
      refine (withinM_w _ 0 255 (by omega) (by omega) (by omega) _).mono ?_
      rintro _ _ ⟨r, hr, rfl, rfl⟩
      exact hK _ _ ⟨r, hr, rfl⟩ (Moves.refl _ _)
    | 14, _ =>
      have e1 : a.tmps.getD 1 undef = .pointer (some ⟨D, 0, none⟩) := hold 1 (by intro kk hkk; have hkk : kk < 26 := hkk; (try dsimp only); (repeat (first | omega | split)))
      refine wpOp_val (v := .pointer (some ⟨D, 5, none⟩)) rfl rfl ?_ (hK _ _ rfl (Moves.refl _ _))
      go_simp
      try rfl
    | 15, _ =>
      have e18 : a.tmps.getD 18 undef = .pointer (some ⟨D, 5, none⟩) := hF 14 (by decide) (by kernel_rfl)
      refine wpOp_val (v := .int .i64 xo) rfl rfl ?_ (hK _ _ rfl (Moves.refl _ _))
      go_simp
      try rfl
    | 16, _ =>
      have e19 : a.tmps.getD 19 undef = .int .i64 xo := hF 15 (by decide) (by kernel_rfl)
      refine wpOp_of_wp rfl rfl ?_
      go_simp
      go_at_call 19
      refine (withinM_w _ 0 1048576 (by omega) (by omega) (by omega) _).mono ?_
      rintro _ _ ⟨r, hr, rfl, rfl⟩
      exact hK _ _ ⟨r, hr, rfl⟩ (Moves.refl _ _)
    | 17, _ =>
      have f20 := hF 16 (by decide) (by kernel_rfl)
      obtain ⟨r, hr, hv⟩ := f20
      have e20 : a.tmps.getD 20 undef = .int .i64 r := hv
      have ht : r.tmod 5 = r % 5 := Int.tmod_eq_emod_of_nonneg hr.1
      refine wpOp_val (v := .int .i64 (r % 5)) rfl rfl ?_ (hK _ _ ⟨_, ⟨by omega, by omega⟩, rfl⟩ (Moves.refl _ _))
      go_simp
      try rfl
    | 18, _ =>
      have e1 : a.tmps.getD 1 undef = .pointer (some ⟨D, 0, none⟩) := hold 1 (by intro kk hkk; have hkk : kk < 26 := hkk; (try dsimp only); (repeat (first | omega | split)))
      refine wpOp_val (v := .pointer (some ⟨D, 18, none⟩)) rfl rfl ?_ (hK _ _ rfl (Moves.refl _ _))
      go_simp
      try rfl
    | 19, _ =>
      have e22 : a.tmps.getD 22 undef = .pointer (some ⟨D, 18, none⟩) := hF 18 (by decide) (by kernel_rfl)
      refine wpOp_val (v := .slice sad sn scap) rfl rfl ?_ (hK _ _ rfl (Moves.refl _ _))
      go_simp
      try rfl
    | 20, _ =>
      have e23 : a.tmps.getD 23 undef = .slice sad sn scap := hF 19 (by decide) (by kernel_rfl)
      refine wpOp_of_wp rfl rfl ?_
      go_simp
      go_at_call 20
      refine (cut_w _ gs bs 40 _ rfl _ (HSB.out.moves hR (by simp))).mono ?_
      rintro _ _ ⟨vc, rfl, hvc, rfl⟩
      obtain ⟨ad, n, cap, rfl, _⟩ := id hvc
      exact hK _ _ ⟨ad, n, cap, rfl, hvc⟩ (Moves.refl _ _)
    | 21, _ =>
      have e1 : a.tmps.getD 1 undef = .pointer (some ⟨D, 0, none⟩) := hold 1 (by intro kk hkk; have hkk : kk < 26 := hkk; (try dsimp only); (repeat (first | omega | split)))
      refine wpOp_val (v := .pointer (some ⟨D, 6, none⟩)) rfl rfl ?_ (hK _ _ rfl (Moves.refl _ _))
      go_simp
      try rfl
    | 22, _ =>
      have e25 : a.tmps.getD 25 undef = .pointer (some ⟨D, 6, none⟩) := hF 21 (by decide) (by kernel_rfl)
      refine wpOp_val (v := .agg #[.int .i64 ki, .int .i64 ro, .int .i64 hi, .int .i64 mo, .int .i64 co, .bool has, .bool want, .bool t, .int .i64 n, .float .f64 x, .slice a0 len cap, lv]) rfl rfl ?_ (hK _ _ rfl (Moves.refl _ _))
      go_simp
      try rfl
    | 23, _ =>
      have e26 : a.tmps.getD 26 undef = .agg #[.int .i64 ki, .int .i64 ro, .int .i64 hi, .int .i64 mo, .int .i64 co, .bool has, .bool want, .bool t, .int .i64 n, .float .f64 x, .slice a0 len cap, lv] := hF 22 (by decide) (by kernel_rfl)
      refine wpOp_of_wp rfl rfl ?_
      go_simp
      go_at_call 47
      refine (kop_w W _ ki ro hi mo co has want t n x a0 len cap lv (HW1.out.then hR) HKA.out HLA.out).mono ?_
      rintro _ u2 ⟨cs, P, rfl, hO, hl, m2⟩
      exact hK _ _ ⟨cs, P, rfl, hO, hl⟩ m2
    | 24, _ =>
      have f8 := hF 4 (by decide) (by kernel_rfl)
      have f11 := hF 7 (by decide) (by kernel_rfl)
      have f14 := hF 10 (by decide) (by kernel_rfl)
      have f17 := hF 13 (by decide) (by kernel_rfl)
      have f21 := hF 17 (by decide) (by kernel_rfl)
      have f24 := hF 20 (by decide) (by kernel_rfl)
      have f27 := hF 23 (by decide) (by kernel_rfl)
      obtain ⟨kd, hkd, hv8⟩ := f8
      obtain ⟨ge, hge, hv11⟩ := f11
      obtain ⟨pl, hv14⟩ := f14
      obtain ⟨to, hto, hv17⟩ := f17
      obtain ⟨ac, hac, hv21⟩ := f21
      obtain ⟨ad, nn, cap2, hv24, hIS⟩ := f24
      obtain ⟨cs, P, hv27, hO, hl⟩ := f27
      obtain ⟨ca, cn, cc, la, ln, lc, hcs, hVA, hCh⟩ := hO
      obtain rfl : cs = #[.int .i64 P.kind, .string P.row, .string P.hi, .bool P.cd.has, .bool P.cd.want, .string P.cd.col, .int .i64 P.cd.v.kind, .slice ca cn cc, .float .f64 P.cd.v.n, .slice la ln lc, .int .i64 P.most] := Array.toList_inj.1 hcs
      have e8 : a.tmps.getD 8 undef = .int .i64 kd := hv8
      have e11 : a.tmps.getD 11 undef = .int .i64 ge := hv11
      have e14 : a.tmps.getD 14 undef = .string pl := hv14
      have e17 : a.tmps.getD 17 undef = .int .i64 to := hv17
      have e21 : a.tmps.getD 21 undef = .int .i64 ac := hv21
      have e24 : a.tmps.getD 24 undef = .slice ad nn cap2 := hv24
      have e27 : a.tmps.getD 27 undef = .agg #[.int .i64 P.kind, .string P.row, .string P.hi, .bool P.cd.has, .bool P.cd.want, .string P.cd.col, .int .i64 P.cd.v.kind, .slice ca cn cc, .float .f64 P.cd.v.n, .slice la ln lc, .int .i64 P.most] := hv27
      exact wpOp_of_wp rfl rfl (wp_build' 36 _ rfl [(0, .int .i64 kd), (3, .int .i64 ge), (4, .string pl), (5, .int .i64 to), (6, .int .i64 ac), (7, .slice ad nn cap2), (1, .agg #[.int .i64 P.kind, .string P.row, .string P.hi, .bool P.cd.has, .bool P.cd.want, .string P.cd.col, .int .i64 P.cd.v.kind, .slice ca cn cc, .float .f64 P.cd.v.n, .slice la ln lc, .int .i64 P.most])] #[.int .i64 kd, .int .i64 P.kind, .string P.row, .string P.hi, .bool P.cd.has, .bool P.cd.want, .string P.cd.col, .int .i64 P.cd.v.kind, .slice ca cn cc, .float .f64 P.cd.v.n, .slice la ln lc, .int .i64 P.most, .string ⟨#[]⟩, .string ⟨#[]⟩, .int .i64 ge, .string pl, .int .i64 to, .int .i64 ac, .slice ad nn cap2] (by simp only [Array.getD_eq_getD_getElem?] at e8 e11 e14 e17 e21 e24 e27; simp [Act.eval, e8, e11, e14, e17, e21, e24, e27]) (by kernel_rfl) (hK _ _ ⟨kd, ge, to, ac, pl, P, ad, nn, cap2, ca, cn, cc, la, ln, lc, rfl, hVA, hCh, hl, hIS⟩ (Moves.refl _ _)))
    | 25, _ =>
      refine wpOp_of_wp rfl rfl ?_
      go_simp
      exact hK _ _ ⟨_, rfl, heap_alloc_new _ _, hR.size⟩ ((Moves.refl _ _).alloc _)
    | m + 26, h => exact absurd h (by omega)
  intro v u hall hR
  obtain ⟨kd, ge, to, ac, pl, P, ad, nn, cap2, ca, cn, cc, la, ln, lc, e28, hVA, hCh, hl, hIS⟩ := hall 24 (by decide)
  obtain ⟨B, e3, hB, hle⟩ := hall 25 (by decide)
  have E28 : v 28 = .agg #[.int .i64 kd, .int .i64 P.kind, .string P.row, .string P.hi, .bool P.cd.has, .bool P.cd.want, .string P.cd.col, .int .i64 P.cd.v.kind, .slice ca cn cc, .float .f64 P.cd.v.n, .slice la ln lc, .int .i64 P.most, .string ⟨#[]⟩, .string ⟨#[]⟩, .int .i64 ge, .string pl, .int .i64 to, .int .i64 ac, .slice ad nn cap2] := e28
  have E3 : v 3 = .pointer (some ⟨B, 0, none⟩) := e3
  simp only [List.foldl_cons, List.foldl_nil, List.setIfInBounds_toArray, List.set_cons_zero, List.set_cons_succ, E28, E3]
  generalize v 4 = u4
  generalize v 5 = u5
  generalize v 6 = u6
  generalize v 7 = u7
  generalize v 8 = u8
  generalize v 9 = u9
  generalize v 10 = u10
  generalize v 11 = u11
  generalize v 12 = u12
  generalize v 13 = u13
  generalize v 14 = u14
  generalize v 15 = u15
  generalize v 16 = u16
  generalize v 17 = u17
  generalize v 18 = u18
  generalize v 19 = u19
  generalize v 20 = u20
  generalize v 21 = u21
  generalize v 22 = u22
  generalize v 23 = u23
  generalize v 24 = u24
  generalize v 25 = u25
  generalize v 26 = u26
  generalize v 27 = u27
  clear hall e28 e3 E28 E3 k0 k3 k4 k6 k7 k8 k9 k10 k11 k12 k13 k14 k15 k16 k17 k18
  refine wpOp_of_wp (o := { dst := none, op := Op.store 36 (Operand.tmp 3) (Operand.tmp 28), type := 0, pos := "law.go:21", after := #[{ on := 25, ground := Ground.data }, { on := 24, ground := Ground.data }, { on := 23, ground := Ground.chain }, { on := 0, ground := Ground.phase }, { on := 1, ground := Ground.phase }, { on := 2, ground := Ground.phase }, { on := 3, ground := Ground.phase }, { on := 4, ground := Ground.phase }, { on := 5, ground := Ground.phase }, { on := 6, ground := Ground.phase }, { on := 7, ground := Ground.phase }, { on := 8, ground := Ground.phase }, { on := 9, ground := Ground.phase }, { on := 10, ground := Ground.phase }, { on := 11, ground := Ground.phase }, { on := 12, ground := Ground.phase }, { on := 13, ground := Ground.phase }, { on := 14, ground := Ground.phase }, { on := 15, ground := Ground.phase }, { on := 16, ground := Ground.phase }, { on := 17, ground := Ground.phase }, { on := 18, ground := Ground.phase }, { on := 19, ground := Ground.phase }, { on := 20, ground := Ground.phase }, { on := 21, ground := Ground.phase }, { on := 22, ground := Ground.phase }, { on := 23, ground := Ground.phase }, { on := 24, ground := Ground.phase }, { on := 25, ground := Ground.phase }], guard := none }) rfl rfl ?_
  refine wp_stAt 36 _ _ rfl B 0 _ (#[.int .i64 kd, .int .i64 P.kind, .string P.row, .string P.hi, .bool P.cd.has, .bool P.cd.want, .string P.cd.col, .int .i64 P.cd.v.kind, .slice ca cn cc, .float .f64 P.cd.v.n, .slice la ln lc, .int .i64 P.most, .string ⟨#[]⟩, .string ⟨#[]⟩, .int .i64 ge, .string pl, .int .i64 to, .int .i64 ac, .slice ad nn cap2] : Array Value).toList rfl rfl rfl Tryz.size36 hB (by show 19 ≤ 19; omega) (by simp [Value.oneCell']) #[.int .i64 kd, .int .i64 P.kind, .string P.row, .string P.hi, .bool P.cd.has, .bool P.cd.want, .string P.cd.col, .int .i64 P.cd.v.kind, .slice ca cn cc, .float .f64 P.cd.v.n, .slice la ln lc, .int .i64 P.most, .string ⟨#[]⟩, .string ⟨#[]⟩, .int .i64 ge, .string pl, .int .i64 to, .int .i64 ac, .slice ad nn cap2] rfl ?_
  intro w2 h2 m2
  try simp only [Act.put]
  have HM2 : Hid (Moves [] w1 w2) := hR.trans m2 (fun z hz => .inr (by simp at hz; omega))
  have HBD : Hid (D + 1 < B ∧ w1.heap.size ≤ B) := by have := HSZ.out.2; unfold Hid; omega
  have HVA : Hid (VA W [.int .i64 P.cd.v.kind, .slice ca cn cc, .float .f64 P.cd.v.n] P.cd.v) := hVA
  have HC2 : Hid (ChgsL W w2 (.slice la ln lc) P.l) := hCh.stay (stay_box hB (by decide) m2)
  have HS2 : Hid (IsB w2 gs (.slice ad nn cap2) (bs.take 40)) := isB_far hIS (fun hne => HGS.out (fun e => hne (by rw [e]; rfl))) (by have := HBD.out.1; omega) m2
  have HLE : Hid (P.l.length ≤ 1000) := hl
  have H2 : Hid _ := h2
  have q1 := HM2.out.cell k1
  have q2 := HM2.out.cell k2
  clear hR hB hle h2 m2 hVA hCh hl hIS k1 k2
  go_wp2_with fail
  refine region_ssaL (by kernel_rfl) 8 (fun ix => ix + 29) [29, 30, 31, 32, 33, 34, 35, 36] (fun ix (w : World) (v : Value) => match ix with | 0 => v = .pointer (some ⟨D, 1, none⟩) | 1 => v = .int .i64 xa | 2 => ∃ s : ByteArray, v = .string s | 3 => v = .pointer (some ⟨D, 2, none⟩) | 4 => v = .int .i64 xb | 5 => ∃ s : ByteArray, v = .string s | 6 => ∃ s1 s2 : ByteArray, v = .agg #[.string s1, .string s2] | 7 => v = .pointer (some ⟨B, 12, none⟩) | _ => True) (Moves []) rfl (by kernel_rfl) (by kernel_rfl) ?_ ?_ ?_ ((Moves.refl _ _).drew) (fun _ _ _ => Moves.then) (fun ix u u' v h m => ?_) ?_ ?_
  · intro ix hix
    have hix : ix < 8 := hix
    show _ < 58
    try dsimp only
    repeat (first | omega | split)
  · intro ix jx hix hjx hne
    have hix : ix < 8 := hix
    have hjx : jx < 8 := hjx
    try dsimp only
    repeat (first | omega | split)
  · intro ix hix
    have hix : ix < 8 := hix
    match ix, hix with
    | 0, _ => decide
    | 1, _ => decide
    | 2, _ => decide
    | 3, _ => decide
    | 4, _ => decide
    | 5, _ => decide
    | 6, _ => decide
    | 7, _ => decide
    | m + 8, h => exact absurd h (by omega)
  · match ix with
    | 0 => exact h
    | 1 => exact h
    | 2 => exact h
    | 3 => exact h
    | 4 => exact h
    | 5 => exact h
    | 6 => exact h
    | 7 => exact h
    | m + 8 => trivial
  · intro ix hix a u hR hsz hold hF K hK
    have hix : ix < 8 := hix
    have c_q1 := (hR).cell q1
    have c_q2 := (hR).cell q2
    match ix, hix with
    | 0, _ =>
      have e1 : a.tmps.getD 1 undef = .pointer (some ⟨D, 0, none⟩) := hold 1 (by intro kk hkk; have hkk : kk < 8 := hkk; (try dsimp only); (repeat (first | omega | split)))
      refine wpOp_val (v := .pointer (some ⟨D, 1, none⟩)) rfl rfl ?_ (hK _ _ rfl (Moves.refl _ _))
      go_simp
      try rfl
    | 1, _ =>
      have e29 : a.tmps.getD 29 undef = .pointer (some ⟨D, 1, none⟩) := hF 0 (by decide) (by kernel_rfl)
      refine wpOp_val (v := .int .i64 xa) rfl rfl ?_ (hK _ _ rfl (Moves.refl _ _))
      go_simp
      try rfl
    | 2, _ =>
      have e30 : a.tmps.getD 30 undef = .int .i64 xa := hF 1 (by decide) (by kernel_rfl)
      obtain ⟨s, _, hrow⟩ := row_ds xa
      refine wpOp_of_wp rfl rfl ?_
      go_simp
      go_at_call 37
      refine (hrow _).mono ?_
      rintro _ u2 ⟨rfl, m2⟩
      exact hK _ _ ⟨s, rfl⟩ m2
    | 3, _ =>
      have e1 : a.tmps.getD 1 undef = .pointer (some ⟨D, 0, none⟩) := hold 1 (by intro kk hkk; have hkk : kk < 8 := hkk; (try dsimp only); (repeat (first | omega | split)))
      refine wpOp_val (v := .pointer (some ⟨D, 2, none⟩)) rfl rfl ?_ (hK _ _ rfl (Moves.refl _ _))
      go_simp
      try rfl
    | 4, _ =>
      have e32 : a.tmps.getD 32 undef = .pointer (some ⟨D, 2, none⟩) := hF 3 (by decide) (by kernel_rfl)
      refine wpOp_val (v := .int .i64 xb) rfl rfl ?_ (hK _ _ rfl (Moves.refl _ _))
      go_simp
      try rfl
    | 5, _ =>
      have e33 : a.tmps.getD 33 undef = .int .i64 xb := hF 4 (by decide) (by kernel_rfl)
      obtain ⟨s, _, hrow⟩ := row_ds xb
      refine wpOp_of_wp rfl rfl ?_
      go_simp
      go_at_call 37
      refine (hrow _).mono ?_
      rintro _ u2 ⟨rfl, m2⟩
      exact hK _ _ ⟨s, rfl⟩ m2
    | 6, _ =>
      have f31 := hF 2 (by decide) (by kernel_rfl)
      have f34 := hF 5 (by decide) (by kernel_rfl)
      obtain ⟨s1, hv1⟩ := f31
      obtain ⟨s2, hv2⟩ := f34
      have e31 : a.tmps.getD 31 undef = .string s1 := hv1
      have e34 : a.tmps.getD 34 undef = .string s2 := hv2
      exact wpOp_of_wp rfl rfl (wp_build' 34 _ rfl [(0, .string s1), (1, .string s2)] #[.string s1, .string s2] (by simp only [Array.getD_eq_getD_getElem?] at e31 e34; simp [Act.eval, e31, e34]) (by kernel_rfl) (hK _ _ ⟨s1, s2, rfl⟩ (Moves.refl _ _)))
    | 7, _ =>
      have e3 : a.tmps.getD 3 undef = .pointer (some ⟨B, 0, none⟩) := hold 3 (by intro kk hkk; have hkk : kk < 8 := hkk; (try dsimp only); (repeat (first | omega | split)))
      refine wpOp_val (v := .pointer (some ⟨B, 12, none⟩)) rfl rfl ?_ (hK _ _ rfl (Moves.refl _ _))
      go_simp
      try rfl
    | m + 8, h => exact absurd h (by omega)
  intro v u hall hR
  obtain ⟨s1', s2', e35⟩ := hall 6 (by decide)
  have E35 : v 35 = .agg #[.string s1', .string s2'] := e35
  have E36 : v 36 = .pointer (some ⟨B, 12, none⟩) := hall 7 (by decide)
  simp only [List.foldl_cons, List.foldl_nil, List.setIfInBounds_toArray, List.set_cons_zero, List.set_cons_succ, E35, E36]
  generalize v 29 = u29
  generalize v 30 = u30
  generalize v 31 = u31
  generalize v 32 = u32
  generalize v 33 = u33
  generalize v 34 = u34
  have hbx := hR.at H2.out (by simp)
  have HMu : Hid (Moves [] w1 u) := HM2.out.then hR
  have HCu := HC2.out.moves0 hR
  have HSu := HS2.out.moves hR (by simp)
  clear hall e35 E35 E36 q1 q2
  refine wpOp_of_wp (o := { dst := none, op := Op.store 34 (Operand.tmp 36) (Operand.tmp 35), type := 0, pos := "law.go:22", after := #[{ on := 7, ground := Ground.data }, { on := 6, ground := Ground.data }, { on := 5, ground := Ground.chain }, { on := 0, ground := Ground.phase }, { on := 1, ground := Ground.phase }, { on := 2, ground := Ground.phase }, { on := 3, ground := Ground.phase }, { on := 4, ground := Ground.phase }, { on := 5, ground := Ground.phase }, { on := 6, ground := Ground.phase }], guard := none }) rfl rfl ?_
  refine wp_stAt 34 _ _ rfl B 12 _ [.string s1', .string s2'] rfl rfl rfl Tryz.sizeSp hbx (by show 14 ≤ 19; omega) (by simp [Value.oneCell']) #[.int .i64 kd, .int .i64 P.kind, .string P.row, .string P.hi, .bool P.cd.has, .bool P.cd.want, .string P.cd.col, .int .i64 P.cd.v.kind, .slice ca cn cc, .float .f64 P.cd.v.n, .slice la ln lc, .int .i64 P.most, .string s1', .string s2', .int .i64 ge, .string pl, .int .i64 to, .int .i64 ac, .slice ad nn cap2] rfl ?_
  intro w3 h3 m3
  try simp only [Act.put]
  have HM3 : Hid (Moves [] w1 w3) := HMu.out.trans m3 (fun z hz => .inr (by have := HBD.out; simp at hz; omega))
  have HC3 : Hid (ChgsL W w3 (.slice la ln lc) P.l) := HCu.stay (stay_box hbx (by decide) m3)
  have HS3 : Hid (IsB w3 gs (.slice ad nn cap2) (bs.take 40)) := isB_far HSu (fun hne => HGS.out (fun e => hne (by rw [e]; rfl))) (by have := HBD.out.1; omega) m3
  have H3 : Hid _ := h3
  clear hR hbx HMu HCu HSu h3 m3
  have g1 := HM3.out.cell K1.out
  by_cases ha : xa.tmod 3 = 0
  · have ha' : (xa.tmod 3 == 0) = true := beq_iff_eq.2 ha
    go_wp2_with (with_reducible refine stopS9 _ _ rfl ?_)
    unfold Hid
    refine wpList_stAt rfl 9 _ _ rfl B 12 _ [.string ⟨#[]⟩] rfl rfl rfl Tryz.size9s H3.out (by show 13 ≤ 19; omega) (by simp [Value.oneCell']) #[.int .i64 kd, .int .i64 P.kind, .string P.row, .string P.hi, .bool P.cd.has, .bool P.cd.want, .string P.cd.col, .int .i64 P.cd.v.kind, .slice ca cn cc, .float .f64 P.cd.v.n, .slice la ln lc, .int .i64 P.most, .string ⟨#[]⟩, .string s2', .int .i64 ge, .string pl, .int .i64 to, .int .i64 ac, .slice ad nn cap2] rfl ?_
    intro w3a h3a m3a
    have HM3a : Hid (Moves [] w1 w3a) := HM3.out.trans m3a (fun z hz => .inr (by have := HBD.out; simp at hz; omega))
    have HC3a : Hid (ChgsL W w3a (.slice la ln lc) P.l) := HC3.out.stay (stay_box H3.out (by decide) m3a)
    have HS3a : Hid (IsB w3a gs (.slice ad nn cap2) (bs.take 40)) := isB_far HS3.out (fun hne => HGS.out (fun e => hne (by rw [e]; rfl))) (by have := HBD.out.1; omega) m3a
    have H3a : Hid _ := h3a
    clear h3a m3a
    have g2 := HM3a.out.cell K2.out
    by_cases hb : xb.tmod 3 = 0
    · have hb' : (xb.tmod 3 == 0) = true := beq_iff_eq.2 hb
      go_wp2_with (with_reducible refine stopS9 _ _ rfl ?_)
      unfold Hid
      refine wpList_stAt rfl 9 _ _ rfl B 13 _ [.string ⟨#[]⟩] rfl rfl rfl Tryz.size9s H3a.out (by show 14 ≤ 19; omega) (by simp [Value.oneCell']) #[.int .i64 kd, .int .i64 P.kind, .string P.row, .string P.hi, .bool P.cd.has, .bool P.cd.want, .string P.cd.col, .int .i64 P.cd.v.kind, .slice ca cn cc, .float .f64 P.cd.v.n, .slice la ln lc, .int .i64 P.most, .string ⟨#[]⟩, .string ⟨#[]⟩, .int .i64 ge, .string pl, .int .i64 to, .int .i64 ac, .slice ad nn cap2] rfl ?_
      intro w3ab h3ab m3ab
      have HM3ab : Hid (Moves [] w1 w3ab) := HM3a.out.trans m3ab (fun z hz => .inr (by have := HBD.out; simp at hz; omega))
      have HC3ab : Hid (ChgsL W w3ab (.slice la ln lc) P.l) := HC3a.out.stay (stay_box H3a.out (by decide) m3ab)
      have HS3ab : Hid (IsB w3ab gs (.slice ad nn cap2) (bs.take 40)) := isB_far HS3a.out (fun hne => HGS.out (fun e => hne (by rw [e]; rfl))) (by have := HBD.out.1; omega) m3ab
      have H3ab : Hid _ := h3ab
      clear h3ab m3ab
      have g5 := HM3ab.out.cell k5
      have g0 := (c19 H3ab.out).1
      by_cases hk9 : kd = 9
      · have hk9' : (kd == 9) = true := beq_iff_eq.2 hk9
        clear hk9
        go_wp2_with (with_reducible refine stopS36 _ _ rfl ?_)
        unfold Hid
        refine wpList_stAt rfl 3 _ _ rfl B 16 _ [.int .i64 _] rfl rfl rfl Tryz.size3i H3ab.out (by show 17 ≤ 19; omega) (by simp [Value.oneCell']) #[.int .i64 kd, .int .i64 P.kind, .string P.row, .string P.hi, .bool P.cd.has, .bool P.cd.want, .string P.cd.col, .int .i64 P.cd.v.kind, .slice ca cn cc, .float .f64 P.cd.v.n, .slice la ln lc, .int .i64 P.most, .string ⟨#[]⟩, .string ⟨#[]⟩, .int .i64 ge, .string pl, .int .i64 _, .int .i64 ac, .slice ad nn cap2] rfl ?_
        intro w3abk h3abk m3abk
        have HM3abk : Hid (Moves [] w1 w3abk) := HM3ab.out.trans m3abk (fun z hz => .inr (by have := HBD.out; simp at hz; omega))
        have HC3abk : Hid (ChgsL W w3abk (.slice la ln lc) P.l) := HC3ab.out.stay (stay_box H3ab.out (by decide) m3abk)
        have HS3abk : Hid (IsB w3abk gs (.slice ad nn cap2) (bs.take 40)) := isB_far HS3ab.out (fun hne => HGS.out (fun e => hne (by rw [e]; rfl))) (by have := HBD.out.1; omega) m3abk
        have H3abk : Hid _ := h3abk
        clear h3abk m3abk
        go_wp2_with (with_reducible refine stopLoad _ rfl ?_)
        unfold Hid
        refine wpList_loadCmd rfl _ rfl B rfl _ H3abk.out rfl ?_
        go_wp2_with (with_reducible refine stopStore _ _ rfl ?_)
        unfold Hid
        refine wpList_storeCmd rfl _ _ rfl (D + 1) #[.int .i64 kd, .int .i64 P.kind, .string P.row, .string P.hi, .bool P.cd.has, .bool P.cd.want, .string P.cd.col, .int .i64 P.cd.v.kind, .slice ca cn cc, .float .f64 P.cd.v.n, .slice la ln lc, .int .i64 P.most, .string ⟨#[]⟩, .string ⟨#[]⟩, .int .i64 ge, .string pl, .int .i64 _, .int .i64 ac, .slice ad nn cap2] rfl rfl (HM3abk.out.at HB2.out (by simp)) rfl rfl (by simp [Value.oneCell']) ?_
        intro wz hz mz
        go_wp2_with fail
        refine bodyPost_ret (ret_cmd rfl _ _ _ _ rfl rfl hz) rfl ?_
        have HB9 := HM3abk.out.at HB2.out (by simp)
        have MZ : Moves [] w wz := (HM1.out.then HM3abk.out).trans mz (fun z hz => .inr (by have := HSZ.out.1; simp at hz; omega))
        have MW : Moves [] W wz := (HW0.out.then (HM1.out.then HM3abk.out)).trans mz (fun z hz => .inr (by have := HSZ.out.1; have := HW0.out.size; simp at hz; omega))
        obtain ⟨c1, c2⟩ := (HC3abk.out.stay (stay_box HB9 (by decide) mz)).chgs MW
        exact ⟨_, ⟨kd, P, ⟨#[]⟩, ⟨#[]⟩, ge, pl, _, ac, bs.take 40⟩, rfl, ⟨ca, cn, cc, la, ln, lc, ad, nn, cap2, gs, rfl, HVA.out.moves MW, c1, c2, isB_far HS3abk.out (fun hne => HGS.out (fun e => hne (by rw [e]; rfl))) (by omega) mz, HZ.out⟩, HLE.out, MZ⟩
      · have hk9' : (kd == 9) = false := beq_eq_false_iff_ne.2 hk9
        go_wp2_with (with_reducible refine stopLoad _ rfl ?_)
        unfold Hid
        refine wpList_loadCmd rfl _ rfl B rfl _ H3ab.out rfl ?_
        go_wp2_with (with_reducible refine stopStore _ _ rfl ?_)
        unfold Hid
        refine wpList_storeCmd rfl _ _ rfl (D + 1) #[.int .i64 kd, .int .i64 P.kind, .string P.row, .string P.hi, .bool P.cd.has, .bool P.cd.want, .string P.cd.col, .int .i64 P.cd.v.kind, .slice ca cn cc, .float .f64 P.cd.v.n, .slice la ln lc, .int .i64 P.most, .string ⟨#[]⟩, .string ⟨#[]⟩, .int .i64 ge, .string pl, .int .i64 to, .int .i64 ac, .slice ad nn cap2] rfl rfl (HM3ab.out.at HB2.out (by simp)) rfl rfl (by simp [Value.oneCell']) ?_
        intro wz hz mz
        go_wp2_with fail
        refine bodyPost_ret (ret_cmd rfl _ _ _ _ rfl rfl hz) rfl ?_
        have HB9 := HM3ab.out.at HB2.out (by simp)
        have MZ : Moves [] w wz := (HM1.out.then HM3ab.out).trans mz (fun z hz => .inr (by have := HSZ.out.1; simp at hz; omega))
        have MW : Moves [] W wz := (HW0.out.then (HM1.out.then HM3ab.out)).trans mz (fun z hz => .inr (by have := HSZ.out.1; have := HW0.out.size; simp at hz; omega))
        obtain ⟨c1, c2⟩ := (HC3ab.out.stay (stay_box HB9 (by decide) mz)).chgs MW
        exact ⟨_, ⟨kd, P, ⟨#[]⟩, ⟨#[]⟩, ge, pl, to, ac, bs.take 40⟩, rfl, ⟨ca, cn, cc, la, ln, lc, ad, nn, cap2, gs, rfl, HVA.out.moves MW, c1, c2, isB_far HS3ab.out (fun hne => HGS.out (fun e => hne (by rw [e]; rfl))) (by omega) mz, HZ.out⟩, HLE.out, MZ⟩
    · have hb' : (xb.tmod 3 == 0) = false := beq_eq_false_iff_ne.2 hb
      have g5 := HM3a.out.cell k5
      have g0 := (c19 H3a.out).1
      by_cases hk9 : kd = 9
      · have hk9' : (kd == 9) = true := beq_iff_eq.2 hk9
        clear hk9
        go_wp2_with (with_reducible refine stopS36 _ _ rfl ?_)
        unfold Hid
        refine wpList_stAt rfl 3 _ _ rfl B 16 _ [.int .i64 _] rfl rfl rfl Tryz.size3i H3a.out (by show 17 ≤ 19; omega) (by simp [Value.oneCell']) #[.int .i64 kd, .int .i64 P.kind, .string P.row, .string P.hi, .bool P.cd.has, .bool P.cd.want, .string P.cd.col, .int .i64 P.cd.v.kind, .slice ca cn cc, .float .f64 P.cd.v.n, .slice la ln lc, .int .i64 P.most, .string ⟨#[]⟩, .string s2', .int .i64 ge, .string pl, .int .i64 _, .int .i64 ac, .slice ad nn cap2] rfl ?_
        intro w3ak h3ak m3ak
        have HM3ak : Hid (Moves [] w1 w3ak) := HM3a.out.trans m3ak (fun z hz => .inr (by have := HBD.out; simp at hz; omega))
        have HC3ak : Hid (ChgsL W w3ak (.slice la ln lc) P.l) := HC3a.out.stay (stay_box H3a.out (by decide) m3ak)
        have HS3ak : Hid (IsB w3ak gs (.slice ad nn cap2) (bs.take 40)) := isB_far HS3a.out (fun hne => HGS.out (fun e => hne (by rw [e]; rfl))) (by have := HBD.out.1; omega) m3ak
        have H3ak : Hid _ := h3ak
        clear h3ak m3ak
        go_wp2_with (with_reducible refine stopLoad _ rfl ?_)
        unfold Hid
        refine wpList_loadCmd rfl _ rfl B rfl _ H3ak.out rfl ?_
        go_wp2_with (with_reducible refine stopStore _ _ rfl ?_)
        unfold Hid
        refine wpList_storeCmd rfl _ _ rfl (D + 1) #[.int .i64 kd, .int .i64 P.kind, .string P.row, .string P.hi, .bool P.cd.has, .bool P.cd.want, .string P.cd.col, .int .i64 P.cd.v.kind, .slice ca cn cc, .float .f64 P.cd.v.n, .slice la ln lc, .int .i64 P.most, .string ⟨#[]⟩, .string s2', .int .i64 ge, .string pl, .int .i64 _, .int .i64 ac, .slice ad nn cap2] rfl rfl (HM3ak.out.at HB2.out (by simp)) rfl rfl (by simp [Value.oneCell']) ?_
        intro wz hz mz
        go_wp2_with fail
        refine bodyPost_ret (ret_cmd rfl _ _ _ _ rfl rfl hz) rfl ?_
        have HB9 := HM3ak.out.at HB2.out (by simp)
        have MZ : Moves [] w wz := (HM1.out.then HM3ak.out).trans mz (fun z hz => .inr (by have := HSZ.out.1; simp at hz; omega))
        have MW : Moves [] W wz := (HW0.out.then (HM1.out.then HM3ak.out)).trans mz (fun z hz => .inr (by have := HSZ.out.1; have := HW0.out.size; simp at hz; omega))
        obtain ⟨c1, c2⟩ := (HC3ak.out.stay (stay_box HB9 (by decide) mz)).chgs MW
        exact ⟨_, ⟨kd, P, ⟨#[]⟩, s2', ge, pl, _, ac, bs.take 40⟩, rfl, ⟨ca, cn, cc, la, ln, lc, ad, nn, cap2, gs, rfl, HVA.out.moves MW, c1, c2, isB_far HS3ak.out (fun hne => HGS.out (fun e => hne (by rw [e]; rfl))) (by omega) mz, HZ.out⟩, HLE.out, MZ⟩
      · have hk9' : (kd == 9) = false := beq_eq_false_iff_ne.2 hk9
        go_wp2_with (with_reducible refine stopLoad _ rfl ?_)
        unfold Hid
        refine wpList_loadCmd rfl _ rfl B rfl _ H3a.out rfl ?_
        go_wp2_with (with_reducible refine stopStore _ _ rfl ?_)
        unfold Hid
        refine wpList_storeCmd rfl _ _ rfl (D + 1) #[.int .i64 kd, .int .i64 P.kind, .string P.row, .string P.hi, .bool P.cd.has, .bool P.cd.want, .string P.cd.col, .int .i64 P.cd.v.kind, .slice ca cn cc, .float .f64 P.cd.v.n, .slice la ln lc, .int .i64 P.most, .string ⟨#[]⟩, .string s2', .int .i64 ge, .string pl, .int .i64 to, .int .i64 ac, .slice ad nn cap2] rfl rfl (HM3a.out.at HB2.out (by simp)) rfl rfl (by simp [Value.oneCell']) ?_
        intro wz hz mz
        go_wp2_with fail
        refine bodyPost_ret (ret_cmd rfl _ _ _ _ rfl rfl hz) rfl ?_
        have HB9 := HM3a.out.at HB2.out (by simp)
        have MZ : Moves [] w wz := (HM1.out.then HM3a.out).trans mz (fun z hz => .inr (by have := HSZ.out.1; simp at hz; omega))
        have MW : Moves [] W wz := (HW0.out.then (HM1.out.then HM3a.out)).trans mz (fun z hz => .inr (by have := HSZ.out.1; have := HW0.out.size; simp at hz; omega))
        obtain ⟨c1, c2⟩ := (HC3a.out.stay (stay_box HB9 (by decide) mz)).chgs MW
        exact ⟨_, ⟨kd, P, ⟨#[]⟩, s2', ge, pl, to, ac, bs.take 40⟩, rfl, ⟨ca, cn, cc, la, ln, lc, ad, nn, cap2, gs, rfl, HVA.out.moves MW, c1, c2, isB_far HS3a.out (fun hne => HGS.out (fun e => hne (by rw [e]; rfl))) (by omega) mz, HZ.out⟩, HLE.out, MZ⟩
  · have ha' : (xa.tmod 3 == 0) = false := beq_eq_false_iff_ne.2 ha
    have g2 := HM3.out.cell K2.out
    by_cases hb : xb.tmod 3 = 0
    · have hb' : (xb.tmod 3 == 0) = true := beq_iff_eq.2 hb
      go_wp2_with (with_reducible refine stopS9 _ _ rfl ?_)
      unfold Hid
      refine wpList_stAt rfl 9 _ _ rfl B 13 _ [.string ⟨#[]⟩] rfl rfl rfl Tryz.size9s H3.out (by show 14 ≤ 19; omega) (by simp [Value.oneCell']) #[.int .i64 kd, .int .i64 P.kind, .string P.row, .string P.hi, .bool P.cd.has, .bool P.cd.want, .string P.cd.col, .int .i64 P.cd.v.kind, .slice ca cn cc, .float .f64 P.cd.v.n, .slice la ln lc, .int .i64 P.most, .string s1', .string ⟨#[]⟩, .int .i64 ge, .string pl, .int .i64 to, .int .i64 ac, .slice ad nn cap2] rfl ?_
      intro w3b h3b m3b
      have HM3b : Hid (Moves [] w1 w3b) := HM3.out.trans m3b (fun z hz => .inr (by have := HBD.out; simp at hz; omega))
      have HC3b : Hid (ChgsL W w3b (.slice la ln lc) P.l) := HC3.out.stay (stay_box H3.out (by decide) m3b)
      have HS3b : Hid (IsB w3b gs (.slice ad nn cap2) (bs.take 40)) := isB_far HS3.out (fun hne => HGS.out (fun e => hne (by rw [e]; rfl))) (by have := HBD.out.1; omega) m3b
      have H3b : Hid _ := h3b
      clear h3b m3b
      have g5 := HM3b.out.cell k5
      have g0 := (c19 H3b.out).1
      by_cases hk9 : kd = 9
      · have hk9' : (kd == 9) = true := beq_iff_eq.2 hk9
        clear hk9
        go_wp2_with (with_reducible refine stopS36 _ _ rfl ?_)
        unfold Hid
        refine wpList_stAt rfl 3 _ _ rfl B 16 _ [.int .i64 _] rfl rfl rfl Tryz.size3i H3b.out (by show 17 ≤ 19; omega) (by simp [Value.oneCell']) #[.int .i64 kd, .int .i64 P.kind, .string P.row, .string P.hi, .bool P.cd.has, .bool P.cd.want, .string P.cd.col, .int .i64 P.cd.v.kind, .slice ca cn cc, .float .f64 P.cd.v.n, .slice la ln lc, .int .i64 P.most, .string s1', .string ⟨#[]⟩, .int .i64 ge, .string pl, .int .i64 _, .int .i64 ac, .slice ad nn cap2] rfl ?_
        intro w3bk h3bk m3bk
        have HM3bk : Hid (Moves [] w1 w3bk) := HM3b.out.trans m3bk (fun z hz => .inr (by have := HBD.out; simp at hz; omega))
        have HC3bk : Hid (ChgsL W w3bk (.slice la ln lc) P.l) := HC3b.out.stay (stay_box H3b.out (by decide) m3bk)
        have HS3bk : Hid (IsB w3bk gs (.slice ad nn cap2) (bs.take 40)) := isB_far HS3b.out (fun hne => HGS.out (fun e => hne (by rw [e]; rfl))) (by have := HBD.out.1; omega) m3bk
        have H3bk : Hid _ := h3bk
        clear h3bk m3bk
        go_wp2_with (with_reducible refine stopLoad _ rfl ?_)
        unfold Hid
        refine wpList_loadCmd rfl _ rfl B rfl _ H3bk.out rfl ?_
        go_wp2_with (with_reducible refine stopStore _ _ rfl ?_)
        unfold Hid
        refine wpList_storeCmd rfl _ _ rfl (D + 1) #[.int .i64 kd, .int .i64 P.kind, .string P.row, .string P.hi, .bool P.cd.has, .bool P.cd.want, .string P.cd.col, .int .i64 P.cd.v.kind, .slice ca cn cc, .float .f64 P.cd.v.n, .slice la ln lc, .int .i64 P.most, .string s1', .string ⟨#[]⟩, .int .i64 ge, .string pl, .int .i64 _, .int .i64 ac, .slice ad nn cap2] rfl rfl (HM3bk.out.at HB2.out (by simp)) rfl rfl (by simp [Value.oneCell']) ?_
        intro wz hz mz
        go_wp2_with fail
        refine bodyPost_ret (ret_cmd rfl _ _ _ _ rfl rfl hz) rfl ?_
        have HB9 := HM3bk.out.at HB2.out (by simp)
        have MZ : Moves [] w wz := (HM1.out.then HM3bk.out).trans mz (fun z hz => .inr (by have := HSZ.out.1; simp at hz; omega))
        have MW : Moves [] W wz := (HW0.out.then (HM1.out.then HM3bk.out)).trans mz (fun z hz => .inr (by have := HSZ.out.1; have := HW0.out.size; simp at hz; omega))
        obtain ⟨c1, c2⟩ := (HC3bk.out.stay (stay_box HB9 (by decide) mz)).chgs MW
        exact ⟨_, ⟨kd, P, s1', ⟨#[]⟩, ge, pl, _, ac, bs.take 40⟩, rfl, ⟨ca, cn, cc, la, ln, lc, ad, nn, cap2, gs, rfl, HVA.out.moves MW, c1, c2, isB_far HS3bk.out (fun hne => HGS.out (fun e => hne (by rw [e]; rfl))) (by omega) mz, HZ.out⟩, HLE.out, MZ⟩
      · have hk9' : (kd == 9) = false := beq_eq_false_iff_ne.2 hk9
        go_wp2_with (with_reducible refine stopLoad _ rfl ?_)
        unfold Hid
        refine wpList_loadCmd rfl _ rfl B rfl _ H3b.out rfl ?_
        go_wp2_with (with_reducible refine stopStore _ _ rfl ?_)
        unfold Hid
        refine wpList_storeCmd rfl _ _ rfl (D + 1) #[.int .i64 kd, .int .i64 P.kind, .string P.row, .string P.hi, .bool P.cd.has, .bool P.cd.want, .string P.cd.col, .int .i64 P.cd.v.kind, .slice ca cn cc, .float .f64 P.cd.v.n, .slice la ln lc, .int .i64 P.most, .string s1', .string ⟨#[]⟩, .int .i64 ge, .string pl, .int .i64 to, .int .i64 ac, .slice ad nn cap2] rfl rfl (HM3b.out.at HB2.out (by simp)) rfl rfl (by simp [Value.oneCell']) ?_
        intro wz hz mz
        go_wp2_with fail
        refine bodyPost_ret (ret_cmd rfl _ _ _ _ rfl rfl hz) rfl ?_
        have HB9 := HM3b.out.at HB2.out (by simp)
        have MZ : Moves [] w wz := (HM1.out.then HM3b.out).trans mz (fun z hz => .inr (by have := HSZ.out.1; simp at hz; omega))
        have MW : Moves [] W wz := (HW0.out.then (HM1.out.then HM3b.out)).trans mz (fun z hz => .inr (by have := HSZ.out.1; have := HW0.out.size; simp at hz; omega))
        obtain ⟨c1, c2⟩ := (HC3b.out.stay (stay_box HB9 (by decide) mz)).chgs MW
        exact ⟨_, ⟨kd, P, s1', ⟨#[]⟩, ge, pl, to, ac, bs.take 40⟩, rfl, ⟨ca, cn, cc, la, ln, lc, ad, nn, cap2, gs, rfl, HVA.out.moves MW, c1, c2, isB_far HS3b.out (fun hne => HGS.out (fun e => hne (by rw [e]; rfl))) (by omega) mz, HZ.out⟩, HLE.out, MZ⟩
    · have hb' : (xb.tmod 3 == 0) = false := beq_eq_false_iff_ne.2 hb
      have g5 := HM3.out.cell k5
      have g0 := (c19 H3.out).1
      by_cases hk9 : kd = 9
      · have hk9' : (kd == 9) = true := beq_iff_eq.2 hk9
        clear hk9
        go_wp2_with (with_reducible refine stopS36 _ _ rfl ?_)
        unfold Hid
        refine wpList_stAt rfl 3 _ _ rfl B 16 _ [.int .i64 _] rfl rfl rfl Tryz.size3i H3.out (by show 17 ≤ 19; omega) (by simp [Value.oneCell']) #[.int .i64 kd, .int .i64 P.kind, .string P.row, .string P.hi, .bool P.cd.has, .bool P.cd.want, .string P.cd.col, .int .i64 P.cd.v.kind, .slice ca cn cc, .float .f64 P.cd.v.n, .slice la ln lc, .int .i64 P.most, .string s1', .string s2', .int .i64 ge, .string pl, .int .i64 _, .int .i64 ac, .slice ad nn cap2] rfl ?_
        intro w3k h3k m3k
        have HM3k : Hid (Moves [] w1 w3k) := HM3.out.trans m3k (fun z hz => .inr (by have := HBD.out; simp at hz; omega))
        have HC3k : Hid (ChgsL W w3k (.slice la ln lc) P.l) := HC3.out.stay (stay_box H3.out (by decide) m3k)
        have HS3k : Hid (IsB w3k gs (.slice ad nn cap2) (bs.take 40)) := isB_far HS3.out (fun hne => HGS.out (fun e => hne (by rw [e]; rfl))) (by have := HBD.out.1; omega) m3k
        have H3k : Hid _ := h3k
        clear h3k m3k
        go_wp2_with (with_reducible refine stopLoad _ rfl ?_)
        unfold Hid
        refine wpList_loadCmd rfl _ rfl B rfl _ H3k.out rfl ?_
        go_wp2_with (with_reducible refine stopStore _ _ rfl ?_)
        unfold Hid
        refine wpList_storeCmd rfl _ _ rfl (D + 1) #[.int .i64 kd, .int .i64 P.kind, .string P.row, .string P.hi, .bool P.cd.has, .bool P.cd.want, .string P.cd.col, .int .i64 P.cd.v.kind, .slice ca cn cc, .float .f64 P.cd.v.n, .slice la ln lc, .int .i64 P.most, .string s1', .string s2', .int .i64 ge, .string pl, .int .i64 _, .int .i64 ac, .slice ad nn cap2] rfl rfl (HM3k.out.at HB2.out (by simp)) rfl rfl (by simp [Value.oneCell']) ?_
        intro wz hz mz
        go_wp2_with fail
        refine bodyPost_ret (ret_cmd rfl _ _ _ _ rfl rfl hz) rfl ?_
        have HB9 := HM3k.out.at HB2.out (by simp)
        have MZ : Moves [] w wz := (HM1.out.then HM3k.out).trans mz (fun z hz => .inr (by have := HSZ.out.1; simp at hz; omega))
        have MW : Moves [] W wz := (HW0.out.then (HM1.out.then HM3k.out)).trans mz (fun z hz => .inr (by have := HSZ.out.1; have := HW0.out.size; simp at hz; omega))
        obtain ⟨c1, c2⟩ := (HC3k.out.stay (stay_box HB9 (by decide) mz)).chgs MW
        exact ⟨_, ⟨kd, P, s1', s2', ge, pl, _, ac, bs.take 40⟩, rfl, ⟨ca, cn, cc, la, ln, lc, ad, nn, cap2, gs, rfl, HVA.out.moves MW, c1, c2, isB_far HS3k.out (fun hne => HGS.out (fun e => hne (by rw [e]; rfl))) (by omega) mz, HZ.out⟩, HLE.out, MZ⟩
      · have hk9' : (kd == 9) = false := beq_eq_false_iff_ne.2 hk9
        go_wp2_with (with_reducible refine stopLoad _ rfl ?_)
        unfold Hid
        refine wpList_loadCmd rfl _ rfl B rfl _ H3.out rfl ?_
        go_wp2_with (with_reducible refine stopStore _ _ rfl ?_)
        unfold Hid
        refine wpList_storeCmd rfl _ _ rfl (D + 1) #[.int .i64 kd, .int .i64 P.kind, .string P.row, .string P.hi, .bool P.cd.has, .bool P.cd.want, .string P.cd.col, .int .i64 P.cd.v.kind, .slice ca cn cc, .float .f64 P.cd.v.n, .slice la ln lc, .int .i64 P.most, .string s1', .string s2', .int .i64 ge, .string pl, .int .i64 to, .int .i64 ac, .slice ad nn cap2] rfl rfl (HM3.out.at HB2.out (by simp)) rfl rfl (by simp [Value.oneCell']) ?_
        intro wz hz mz
        go_wp2_with fail
        refine bodyPost_ret (ret_cmd rfl _ _ _ _ rfl rfl hz) rfl ?_
        have HB9 := HM3.out.at HB2.out (by simp)
        have MZ : Moves [] w wz := (HM1.out.then HM3.out).trans mz (fun z hz => .inr (by have := HSZ.out.1; simp at hz; omega))
        have MW : Moves [] W wz := (HW0.out.then (HM1.out.then HM3.out)).trans mz (fun z hz => .inr (by have := HSZ.out.1; have := HW0.out.size; simp at hz; omega))
        obtain ⟨c1, c2⟩ := (HC3.out.stay (stay_box HB9 (by decide) mz)).chgs MW
        exact ⟨_, ⟨kd, P, s1', s2', ge, pl, to, ac, bs.take 40⟩, rfl, ⟨ca, cn, cc, la, ln, lc, ad, nn, cap2, gs, rfl, HVA.out.moves MW, c1, c2, isB_far HS3.out (fun hne => HGS.out (fun e => hne (by rw [e]; rfl))) (by omega) mz, HZ.out⟩, HLE.out, MZ⟩
end Go.Proofs.YtcamhlnkcoicpaaGreat
