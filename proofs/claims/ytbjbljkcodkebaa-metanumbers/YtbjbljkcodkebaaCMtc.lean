/-
  law11's asked: some tablets, four at most.
-/
import Derived.Test.YtbjbljkcodkebaaCMtb
import Derived.Test.YtbjbljkcodkebaaCSsaG
namespace Go.Proofs.Ytbjbljkcodkebaa
open Go.RowKit

/-- What lay below N stays; boxes of spans stay such boxes. -/
structure RB (N : Nat) (w w' : World) : Prop where
  os : w'.os = w.os
  tape : w'.tape = w.tape
  output : w'.output = w.output
  size : w.heap.size ≤ w'.heap.size
  block : ∀ k, k < N → k < w.heap.size → w'.heap[k]? = w.heap[k]?
  box : ∀ {k : Nat} {lo hi : ByteArray}, w.heap[k]? = some (.cells #[.string lo, .string hi] 23 (0, 0)) → ∃ lo' hi', w'.heap[k]? = some (.cells #[.string lo', .string hi'] 23 (0, 0))
theorem RB.of {N : Nat} {w w' : World} (m : Moves [] w w') : RB N w w' := ⟨m.os, m.tape, m.output, m.size, fun k _ hk => m.block k hk (by simp), fun {k lo hi} h => ⟨lo, hi, m.at h (by simp)⟩⟩
theorem RB.trans {N : Nat} {a b c : World} (h : RB N a b) (k : RB N b c) : RB N a c :=
  ⟨k.os.trans h.os, k.tape.trans h.tape, k.output.trans h.output, Nat.le_trans h.size k.size, fun i h1 h2 => (k.block i h1 (Nat.lt_of_lt_of_le h2 h.size)).trans (h.block i h1 h2), fun {i lo hi} hi' => by
    obtain ⟨lo2, hi2, h2⟩ := h.box hi'
    exact k.box h2⟩
theorem RB.moves {N : Nat} {w w' : World} (h : RB N w w') (hN : w.heap.size = N) : Moves [] w w' := ⟨h.os, h.tape, h.output, h.size, fun k hk _ => h.block k (by omega) hk⟩
theorem RB.le {N : Nat} {w w' : World} (h : RB N w w') (hN : w.heap.size = N) : N ≤ w'.heap.size := by have := h.size; omega
theorem RB.store {N : Nat} {u : World} {q : Nat} {l0 h0 : ByteArray} (hq : u.heap[q]? = some (.cells #[.string l0, .string h0] 23 (0, 0))) (hle : N ≤ q) (a b : ByteArray) : RB N u ((u.setCell ⟨q, 0, none⟩ (.string a)).setCell ⟨q, 1, none⟩ (.string b)) := by
  obtain ⟨s1, s2⟩ := spStored1 (a := .string a) (b := .string b) hq
  refine ⟨s2.os, s2.tape, s2.output, s2.size, fun k h1 h2 => s2.block k h2 (by simp; omega), fun {k lo hi} h => ?_⟩
  by_cases e : k = q
  · subst e
    exact ⟨a, b, s1⟩
  · exact ⟨lo, hi, s2.at h (by simpa using e)⟩
theorem put_same (a : Act) (s : Nat) (h : s < a.tmps.size) : a.put (some s) (a.tmps.getD s undef) = a := by
  obtain ⟨t, d⟩ := a
  simp only [Act.put, Act.mk.injEq, and_true]
  apply Array.ext
  · simp
  · intro i h1 h2
    rw [Array.getElem_setIfInBounds]
    · split
      · rename_i e
        subst e
        simp
      · rfl

theorem tmodT_any (n m : Int) (hm : 0 < m) : -m < n.tmod m ∧ n.tmod m < m := by
  have h1 := Int.tmod_lt_of_pos n hm
  have h2 := Int.tmod_lt_of_pos (-n) hm
  rw [Int.neg_tmod] at h2
  omega
theorem withinT_w (n lo hi : Int) (h0 : 0 ≤ lo) (h1 : lo ≤ hi) (h2 : hi ≤ 1099511627776) (w : World) :
    Calls Try.prog 44 #[.int .i64 n, .int .i64 lo, .int .i64 hi] w fun e w' => ∃ r : Int, (lo ≤ r ∧ r ≤ hi) ∧ e = .returned (.int .i64 r) ∧ w = w' := by
  have hz : ¬ hi - lo + 1 = 0 := by omega
  have t := tmodT_any n (hi - lo + 1) (by omega)
  by_cases hA : lo ≤ n
  · by_cases hB : n ≤ hi
    · go_enter Try.func44, Try.ntmps44
      go_wp2
      go_ret
      exact ⟨n, ⟨hA, hB⟩, rfl, rfl⟩
    · have t1 := Int.emod_nonneg n (show hi - lo + 1 ≠ 0 by omega)
      have t2 := Int.emod_lt_of_pos n (show 0 < hi - lo + 1 by omega)
      clear t
      go_enter Try.func44, Try.ntmps44
      go_wp2
      all_goals go_ret
      all_goals refine ⟨_, ?_, rfl, rfl⟩
      all_goals generalize n % (hi - lo + 1) = m at *
      all_goals try unfold wrap64
      all_goals omega
  · go_enter Try.func44, Try.ntmps44
    go_wp2
    all_goals go_ret
    all_goals refine ⟨_, ?_, rfl, rfl⟩
    all_goals generalize n.tmod (hi - lo + 1) = m at *
    all_goals try unfold wrap64
    all_goals omega

theorem five_cells {w : World} {p : Nat} {x0 x1 x2 x3 x4 : Value} {t : TypeId} (h : w.heap[p]? = some (.cells #[x0, x1, x2, x3, x4] t (0, 0))) : w.cell? ⟨p, 0, none⟩ = some x0 ∧ w.cell? ⟨p, 1, none⟩ = some x1 ∧ w.cell? ⟨p, 2, none⟩ = some x2 ∧ w.cell? ⟨p, 3, none⟩ = some x3 ∧ w.cell? ⟨p, 4, none⟩ = some x4 := by
  simp [World.cell?, h]
/-- Two new elements. -/
theorem tb_new2 (w : World) (x y : Ptb) : TbL (w.alloc (.cells #[.string x.lo, .string x.hi, .int .i64 x.g, .int .i64 x.n, .string y.lo, .string y.hi, .int .i64 y.g, .int .i64 y.n] 25)) w.heap.size (.slice (some ⟨w.heap.size, 0, none⟩) 2 2) [x, y] :=
  ⟨_, _, _, rfl, rfl, Nat.le_refl _, fun h => by simp at h, TbAt.block (xs := [x, y]) (heap_alloc_new w _)⟩

set_option maxRecDepth 100000 in
set_option maxHeartbeats 8000000 in
theorem asked11_w (w : World) (g n cap : Nat) (ad : Option Addr) (xs : List Ptb) (h : TbL w g (.slice ad n cap) xs) (hne : xs ≠ []) (hl : xs.length ≤ 1000) (kd ix at0 gr gen : Int) (gR : Nat) (adR : Option Addr) (nR capR : Nat) (rs : List Ptb) (hRw : TbL w gR (.slice adR nR capR) rs) :
    Calls Try.prog 19 #[.slice ad n cap, .agg #[.int .i64 kd, .int .i64 ix, .int .i64 at0, .int .i64 gr, .slice adR nR capR], .int .i64 gen] w fun e w' => ∃ v' g' ys, e = .returned v' ∧ Hid (TbL w' g' v' ys ∧ ys.length ≤ 4) ∧ Moves [] w w' := by
  have hn : Hid (n = xs.length) := h.len.1
  have hn0 : 0 < n := by rw [hn.out]; exact List.length_pos_iff.2 hne
  have HL : Hid (TbL w g (.slice ad n cap) xs) := h
  have HR : Hid (TbL w gR (.slice adR nR capR) rs) := hRw
  have hnR : Hid (nR = rs.length) := hRw.len.1
  have hcR : nR ≤ capR := hRw.len.2.1
  have HB : n ≤ 1000 := by rw [hn.out]; exact hl
  have mA : Moves [] w (w.alloc (.cells #[.int .i64 kd, .int .i64 ix, .int .i64 at0, .int .i64 gr, .slice adR nR capR] 39)) := (Moves.refl _ _).alloc _
  have hA := heap_alloc_new w (.cells #[.int .i64 kd, .int .i64 ix, .int .i64 at0, .int .i64 gr, .slice adR nR capR] 39)
  obtain ⟨B, hB⟩ : ∃ B, w.heap.size = B := ⟨_, rfl⟩
  rw [hB] at hA
  obtain ⟨nm, _, hrow⟩ := row_ds at0
  clear h hRw
  go_enter Try.func19, Try.ntmps19
  obtain ⟨z0, z1, z2, z3, z4⟩ := five_cells hA
  go_wp2_with fail
  obtain ⟨wb, hwb⟩ : ∃ wb, w.alloc (.cells #[.int .i64 kd, .int .i64 ix, .int .i64 at0, .int .i64 gr, .slice adR nR capR] 39) = wb := ⟨_, rfl⟩
  rw [hwb] at z0 z1 z2 z3 z4 mA hA ⊢
  have hnI : (n : Int) - 1 ≤ 1099511627776 := by omega
  refine (withinT_w ix 0 ((n : Int) - 1) (by omega) (by omega) hnI _).mono ?_
  rintro _ _ ⟨kk, ⟨hk0, hk1⟩, rfl, rfl⟩
  obtain ⟨k, rfl⟩ : ∃ k : Nat, kk = (k : Int) := ⟨kk.toNat, by omega⟩
  have hkn : (k : Int) < n := by omega
  clear hk0 hk1 hnI
  obtain ⟨x, hx⟩ : ∃ x, xs[k]? = some x := ⟨_, List.getElem?_eq_getElem (by have := hn.out; omega)⟩
  obtain ⟨off, rfl, x0, x1, _, _⟩ := HL.out.at hx
  replace x0 := mA.cell x0
  replace x1 := mA.cell x1
  have HLb : Hid (TbL wb g (.slice (some ⟨g, off, none⟩) n cap) xs) := HL.out.moves mA (by simp)
  clear hx
  go_wp2_with fail
  refine (withinT_w gr 0 300 (by omega) (by omega) (by omega) _).mono ?_
  rintro _ _ ⟨g0, ⟨_, _⟩, rfl, rfl⟩
  go_wp2_with fail
  refine (withinT_w kd 0 1048576 (by omega) (by omega) (by omega) _).mono ?_
  rintro _ _ ⟨c0, ⟨hc0, hc1⟩, rfl, rfl⟩
  obtain ⟨N, hN⟩ : ∃ N, wb.heap.size = N := ⟨_, rfl⟩
  have hlast : ∀ (w2 : World), Moves [] wb w2 → Hid (TbL (w2.alloc (.cells #[.string nm, .string ⟨#[]⟩, .int .i64 g0, .int .i64 gen] 25)) w2.heap.size (.slice (some ⟨w2.heap.size, 0, none⟩) 1 1) [⟨nm, ⟨#[]⟩, g0, gen⟩] ∧ [(⟨nm, ⟨#[]⟩, g0, gen⟩ : Ptb)].length ≤ 4) := fun w2 m => ⟨tb_new w2 ⟨nm, ⟨#[]⟩, g0, gen⟩, by simp⟩
  go_wp2_with fail
  · obtain ⟨a1, ha1⟩ : ∃ z, (spS1 x.sp nm).lo = z := ⟨_, rfl⟩
    obtain ⟨a2, ha2⟩ : ∃ z, (spS1 x.sp nm).hi = z := ⟨_, rfl⟩
    obtain ⟨b1, hb1⟩ : ∃ z, (spS2 x.sp nm).lo = z := ⟨_, rfl⟩
    obtain ⟨b2, hb2⟩ : ∃ z, (spS2 x.sp nm).hi = z := ⟨_, rfl⟩
    obtain ⟨fine, hfi⟩ : ∃ z, spC x.sp nm = z := ⟨_, rfl⟩
    have hspl : ∀ w1 : World, Calls Try.prog 9 #[.agg #[.string x.lo, .string x.hi], .string nm] w1 fun e w' => e = .returned (.tuple #[.agg #[.string a1, .string a2], .agg #[.string b1, .string b2], .bool fine]) ∧ Moves [] w1 w' := by
      intro w1
      have := rfSplit7_w x.lo x.hi nm w1
      rw [show (⟨x.lo, x.hi⟩ : Psp) = x.sp from rfl, ha1, ha2, hb1, hb2, hfi] at this
      exact this
    clear ha1 ha2 hb1 hb2 hfi
    have hmx : Try.prog.follows .mixedOrders = true := by kernel_rfl
    refine region_ssaQ (by kernel_rfl) (fun ix => [30, 31, 32, 33, 34, 35, 36, 37, 38, 29, 39, 40, 41, 9, 10, 3, 5, 11].getD ix 0) [3, 5, 9, 10, 11, 29, 30, 31, 32, 33, 34, 35, 36, 37, 38, 39, 40, 41] (fun ix (w : World) (v : Value) => match ix with | 0 => v = .slice (some ⟨g, off, none⟩) n cap | 1 => v = .int .i64 (k : Int) | 2 => v = .pointer (some ⟨g, off + k * 4, none⟩) | 3 => v = .pointer (some ⟨g, off + k * 4, none⟩) | 4 => v = .agg #[.string x.lo, .string x.hi] | 5 => v = .pointer (some ⟨B, 2, none⟩) | 6 => v = .int .i64 at0 | 7 => v = .string nm | 8 => v = .tuple #[.agg #[.string a1, .string a2], .agg #[.string b1, .string b2], .bool fine] | 9 => v = .tuple #[.agg #[.string a1, .string a2], .agg #[.string b1, .string b2], .bool fine] | 10 => v = .agg #[.string a1, .string a2] | 11 => v = .agg #[.string b1, .string b2] | 12 => v = .bool fine | 13 => ∃ q lo hi, v = .pointer (some ⟨q, 0, none⟩) ∧ w.heap[q]? = some (.cells #[.string lo, .string hi] 23 (0, 0)) ∧ N ≤ q | 14 => ∃ q lo hi, v = .pointer (some ⟨q, 0, none⟩) ∧ w.heap[q]? = some (.cells #[.string lo, .string hi] 23 (0, 0)) ∧ N ≤ q | 15 => True | 16 => True | 17 => v = .bool fine | _ => True) (RB N) (by kernel_rfl) ?_ ?_ ?_ (RB.of (Moves.refl _ _).drew) (fun _ _ _ => RB.trans) (fun ix u u' v h m => ?_) ?_ ?_
    · have key : ∀ i, i < 18 → [30, 31, 32, 33, 34, 35, 36, 37, 38, 29, 39, 40, 41, 9, 10, 3, 5, 11].getD i 0 < 109 := by decide
      exact fun ix hix => key ix hix
    · have key : ∀ i, i < 18 → ∀ j, j < 18 → i ≠ j → [30, 31, 32, 33, 34, 35, 36, 37, 38, 29, 39, 40, 41, 9, 10, 3, 5, 11].getD i 0 ≠ [30, 31, 32, 33, 34, 35, 36, 37, 38, 29, 39, 40, 41, 9, 10, 3, 5, 11].getD j 0 := by decide +kernel
      exact fun ix jx hix hjx hne => key ix hix jx hjx hne
    · have key : ∀ i, i < 18 → [30, 31, 32, 33, 34, 35, 36, 37, 38, 29, 39, 40, 41, 9, 10, 3, 5, 11].getD i 0 ∈ [3, 5, 9, 10, 11, 29, 30, 31, 32, 33, 34, 35, 36, 37, 38, 39, 40, 41] := by decide
      exact fun ix hix => key ix hix
    · match ix with
      | 0 => exact h
      | 1 => exact h
      | 2 => exact h
      | 3 => exact h
      | 4 => exact h
      | 5 => exact h
      | 6 => exact h
      | 7 => exact h
      | 8 => exact h
      | 9 => exact h
      | 10 => exact h
      | 11 => exact h
      | 12 => exact h
      | 13 => exact (by obtain ⟨q, lo, hi, e, hq, hle⟩ := h; obtain ⟨lo2, hi2, hq2⟩ := m.box hq; exact ⟨q, lo2, hi2, e, hq2, hle⟩)
      | 14 => exact (by obtain ⟨q, lo, hi, e, hq, hle⟩ := h; obtain ⟨lo2, hi2, hq2⟩ := m.box hq; exact ⟨q, lo2, hi2, e, hq2, hle⟩)
      | 15 => exact h
      | 16 => exact h
      | 17 => exact h
      | m + 18 => trivial
    · intro ix hix a u hR hsz hold hF K hK
      have hix : ix < 18 := hix
      have mR : Moves [] wb u := hR.moves hN
      have c_x0 := mR.cell x0
      have c_x1 := mR.cell x1
      have c_z2 := mR.cell z2
      match ix, hix with
      | 0, _ =>
        have e0 : a.tmps.getD 0 undef = .slice (some ⟨g, off, none⟩) n cap := hold 0 ((fun (key : ∀ i, i < 18 → 0 ≠ [30, 31, 32, 33, 34, 35, 36, 37, 38, 29, 39, 40, 41, 9, 10, 3, 5, 11].getD i 0) => fun ix hix => key ix hix) (by decide))
        refine wpOp_val (v := .slice (some ⟨g, off, none⟩) n cap) rfl rfl ?_ (hK _ _ rfl (RB.of (Moves.refl _ _)))
        go_simp
        try rfl
      | 1, _ =>
        have e7 : a.tmps.getD 7 undef = .int .i64 (k : Int) := hold 7 ((fun (key : ∀ i, i < 18 → 7 ≠ [30, 31, 32, 33, 34, 35, 36, 37, 38, 29, 39, 40, 41, 9, 10, 3, 5, 11].getD i 0) => fun ix hix => key ix hix) (by decide))
        refine wpOp_val (v := .int .i64 (k : Int)) rfl rfl ?_ (hK _ _ rfl (RB.of (Moves.refl _ _)))
        go_simp
        try rfl
      | 2, _ =>
        have e30 : a.tmps.getD 30 undef = .slice (some ⟨g, off, none⟩) n cap := hF 0 (by decide) (by kernel_rfl)
        have e31 : a.tmps.getD 31 undef = .int .i64 (k : Int) := hF 1 (by decide) (by kernel_rfl)
        refine wpOp_val (v := .pointer (some ⟨g, off + k * 4, none⟩)) rfl rfl ?_ (hK _ _ rfl (RB.of (Moves.refl _ _)))
        go_simp
        try rfl
      | 3, _ =>
        have e32 : a.tmps.getD 32 undef = .pointer (some ⟨g, off + k * 4, none⟩) := hF 2 (by decide) (by kernel_rfl)
        refine wpOp_val (v := .pointer (some ⟨g, off + k * 4, none⟩)) rfl rfl ?_ (hK _ _ rfl (RB.of (Moves.refl _ _)))
        go_simp
        try rfl
      | 4, _ =>
        have e33 : a.tmps.getD 33 undef = .pointer (some ⟨g, off + k * 4, none⟩) := hF 3 (by decide) (by kernel_rfl)
        refine wpOp_val (v := .agg #[.string x.lo, .string x.hi]) rfl rfl ?_ (hK _ _ rfl (RB.of (Moves.refl _ _)))
        go_simp
        try rfl
      | 5, _ =>
        have e4 : a.tmps.getD 4 undef = .pointer (some ⟨B, 0, none⟩) := hold 4 ((fun (key : ∀ i, i < 18 → 4 ≠ [30, 31, 32, 33, 34, 35, 36, 37, 38, 29, 39, 40, 41, 9, 10, 3, 5, 11].getD i 0) => fun ix hix => key ix hix) (by decide))
        refine wpOp_val (v := .pointer (some ⟨B, 2, none⟩)) rfl rfl ?_ (hK _ _ rfl (RB.of (Moves.refl _ _)))
        go_simp
        try rfl
      | 6, _ =>
        have e35 : a.tmps.getD 35 undef = .pointer (some ⟨B, 2, none⟩) := hF 5 (by decide) (by kernel_rfl)
        refine wpOp_val (v := .int .i64 at0) rfl rfl ?_ (hK _ _ rfl (RB.of (Moves.refl _ _)))
        go_simp
        try rfl
      | 7, _ =>
        have e36 : a.tmps.getD 36 undef = .int .i64 at0 := hF 6 (by decide) (by kernel_rfl)
        refine wpOp_of_wp rfl rfl ?_
        go_simp
        refine (hrow _).mono ?_
        rintro _ u2 ⟨rfl, m2⟩
        exact hK _ _ rfl (RB.of m2)
      | 8, _ =>
        have e34 : a.tmps.getD 34 undef = .agg #[.string x.lo, .string x.hi] := hF 4 (by decide) (by kernel_rfl)
        have e37 : a.tmps.getD 37 undef = .string nm := hF 7 (by decide) (by kernel_rfl)
        refine wpOp_of_wp rfl rfl ?_
        go_simp
        refine (hspl _).mono ?_
        rintro _ u2 ⟨rfl, m2⟩
        exact hK _ _ rfl (RB.of m2)
      | 9, _ =>
        have e38 : a.tmps.getD 38 undef = .tuple #[.agg #[.string a1, .string a2], .agg #[.string b1, .string b2], .bool fine] := hF 8 (by decide) (by kernel_rfl)
        refine wpOp_val (v := .tuple #[.agg #[.string a1, .string a2], .agg #[.string b1, .string b2], .bool fine]) rfl rfl ?_ (hK _ _ rfl (RB.of (Moves.refl _ _)))
        go_simp
        try rfl
      | 10, _ =>
        have e29 : a.tmps.getD 29 undef = .tuple #[.agg #[.string a1, .string a2], .agg #[.string b1, .string b2], .bool fine] := hF 9 (by decide) (by kernel_rfl)
        refine wpOp_val (v := .agg #[.string a1, .string a2]) rfl rfl ?_ (hK _ _ rfl (RB.of (Moves.refl _ _)))
        go_simp
        try rfl
      | 11, _ =>
        have e29 : a.tmps.getD 29 undef = .tuple #[.agg #[.string a1, .string a2], .agg #[.string b1, .string b2], .bool fine] := hF 9 (by decide) (by kernel_rfl)
        refine wpOp_val (v := .agg #[.string b1, .string b2]) rfl rfl ?_ (hK _ _ rfl (RB.of (Moves.refl _ _)))
        go_simp
        try rfl
      | 12, _ =>
        have e29 : a.tmps.getD 29 undef = .tuple #[.agg #[.string a1, .string a2], .agg #[.string b1, .string b2], .bool fine] := hF 9 (by decide) (by kernel_rfl)
        refine wpOp_val (v := .bool fine) rfl rfl ?_ (hK _ _ rfl (RB.of (Moves.refl _ _)))
        go_simp
        try rfl
      | 13, _ =>
        exact wpOp_of_wp rfl rfl (wp_alloc1 23 #[.string ⟨#[]⟩, .string ⟨#[]⟩] rfl (fun w => by kernel_rfl) (hK _ _ ⟨u.heap.size, _, _, rfl, heap_alloc_new _ _, hR.le hN⟩ (RB.of ((Moves.refl _ _).alloc _))))
      | 14, _ =>
        exact wpOp_of_wp rfl rfl (wp_alloc1 23 #[.string ⟨#[]⟩, .string ⟨#[]⟩] rfl (fun w => by kernel_rfl) (hK _ _ ⟨u.heap.size, _, _, rfl, heap_alloc_new _ _, hR.le hN⟩ (RB.of ((Moves.refl _ _).alloc _))))
      | 15, _ =>
        have f9 := hF 13 (by decide) (by kernel_rfl)
        have e39 : a.tmps.getD 39 undef = .agg #[.string a1, .string a2] := hF 10 (by decide) (by kernel_rfl)
        obtain ⟨q, l0, h0, hv, hq, hle⟩ := f9
        have e9 : a.tmps.getD 9 undef = .pointer (some ⟨q, 0, none⟩) := hv
        obtain ⟨s0, s1, s2, s3⟩ := sp_cells hq
        have hst : K (a.put (some 3) (a.tmps.getD 3 undef)) ((u.setCell ⟨q, 0, none⟩ (.string a1)).setCell ⟨q, 1, none⟩ (.string a2)) := hK (a.tmps.getD 3 undef) ((u.setCell ⟨q, 0, none⟩ (.string a1)).setCell ⟨q, 1, none⟩ (.string a2)) trivial (RB.store hq hle _ _)
        rw [show a.put (some 3) (a.tmps.getD 3 undef) = a from put_same a 3 (by rw [hsz]; show 3 < 109; omega)] at hst
        refine wpOp_of_wp rfl rfl ?_
        unfold Oper.wp
        go_simp
        exact hst
      | 16, _ =>
        have f10 := hF 14 (by decide) (by kernel_rfl)
        have e40 : a.tmps.getD 40 undef = .agg #[.string b1, .string b2] := hF 11 (by decide) (by kernel_rfl)
        obtain ⟨q, l0, h0, hv, hq, hle⟩ := f10
        have e10 : a.tmps.getD 10 undef = .pointer (some ⟨q, 0, none⟩) := hv
        obtain ⟨s0, s1, s2, s3⟩ := sp_cells hq
        have hst : K (a.put (some 5) (a.tmps.getD 5 undef)) ((u.setCell ⟨q, 0, none⟩ (.string b1)).setCell ⟨q, 1, none⟩ (.string b2)) := hK (a.tmps.getD 5 undef) ((u.setCell ⟨q, 0, none⟩ (.string b1)).setCell ⟨q, 1, none⟩ (.string b2)) trivial (RB.store hq hle _ _)
        rw [show a.put (some 5) (a.tmps.getD 5 undef) = a from put_same a 5 (by rw [hsz]; show 5 < 109; omega)] at hst
        refine wpOp_of_wp rfl rfl ?_
        unfold Oper.wp
        go_simp
        exact hst
      | 17, _ =>
        have e41 : a.tmps.getD 41 undef = .bool fine := hF 12 (by decide) (by kernel_rfl)
        refine wpOp_val (v := .bool fine) rfl rfl ?_ (hK _ _ rfl (RB.of (Moves.refl _ _)))
        go_simp
        try rfl
      | m + 18, h => exact absurd h (by omega)
    intro v w2 hall hR
    obtain ⟨q1, l1, h1, hu9, hq1, _⟩ : ∃ q lo hi, v 9 = .pointer (some ⟨q, 0, none⟩) ∧ w2.heap[q]? = some (.cells #[.string lo, .string hi] 23 (0, 0)) ∧ N ≤ q := hall 13 (by decide)
    obtain ⟨q2, l2, h2, hu10, hq2, _⟩ : ∃ q lo hi, v 10 = .pointer (some ⟨q, 0, none⟩) ∧ w2.heap[q]? = some (.cells #[.string lo, .string hi] 23 (0, 0)) ∧ N ≤ q := hall 14 (by decide)
    have hu11 : v 11 = .bool fine := hall 17 (by decide)
    have m2 := hR.moves hN
    clear hall
    · skip
      simp only [List.foldl_cons, List.foldl_nil, List.setIfInBounds_toArray, List.set_cons_zero, List.set_cons_succ, hu9, hu10, hu11]
      clear hu9 hu10 hu11
      obtain ⟨p0, p1, _, _⟩ := sp_cells hq1
      obtain ⟨r0, r1, _, _⟩ := sp_cells hq2
      cases fine with
      | true =>
        go_wp2_with fail
        go_ret
        exact ⟨_, _, _, rfl, ⟨tb_new2 w2 ⟨l1, h1, g0, gen⟩ ⟨l2, h2, g0, gen⟩, (by show 2 ≤ 4; omega)⟩, (mA.then m2).alloc _⟩
      | false =>
        have zz := m2.cell z2
        go_wp2_with fail
        refine (hrow _).mono ?_
        rintro _ w3 ⟨rfl, m3⟩
        go_wp2_with fail
        go_ret
        exact ⟨_, _, _, rfl, hlast w3 (m2.then m3), ((mA.then m2).then m3).alloc _⟩
  · have hk1n : (k : Int) + 1 < n := by assumption
    obtain ⟨k1, hk1⟩ : ∃ k1, k1 = k + 1 := ⟨_, rfl⟩
    obtain ⟨y, hy⟩ : ∃ y, xs[k1]? = some y := ⟨_, List.getElem?_eq_getElem (by have := hn.out; omega)⟩
    obtain ⟨off', e', y0, y1, _, _⟩ := HLb.out.at hy
    simp only [Option.some.injEq, Addr.mk.injEq, and_true, true_and] at e'
    subst e'
    have hw1 : IntKind.i64.wrap ((k : Int) + 1) = (k1 : Int) := by rw [IntKind.wrap_i64]; omega
    have hk1m : (k1 : Int) < n := by omega
    obtain ⟨a1, ha1⟩ : ∃ z, (spJn x.sp y.sp).lo = z := ⟨_, rfl⟩
    obtain ⟨a2, ha2⟩ : ∃ z, (spJn x.sp y.sp).hi = z := ⟨_, rfl⟩
    obtain ⟨fine, hfi⟩ : ∃ z, spJ x.sp y.sp = z := ⟨_, rfl⟩
    have hjn : ∀ w1 : World, Calls Try.prog 45 #[.agg #[.string x.lo, .string x.hi], .agg #[.string y.lo, .string y.hi]] w1 fun e w' => e = .returned (.tuple #[.agg #[.string a1, .string a2], .bool fine]) ∧ Moves [] w1 w' := by
      intro w1
      have := rfJoin7_w x.lo x.hi y.lo y.hi w1
      rw [show (⟨x.lo, x.hi⟩ : Psp) = x.sp from rfl, show (⟨y.lo, y.hi⟩ : Psp) = y.sp from rfl, ha1, ha2, hfi] at this
      exact this
    clear ha1 ha2 hfi hk1 hy
    refine region_ssaQ (by kernel_rfl) (fun ix => [60, 61, 62, 63, 64, 65, 66, 67, 68, 69, 70, 71, 59, 72, 73, 12, 3, 13].getD ix 0) [3, 12, 13, 59, 60, 61, 62, 63, 64, 65, 66, 67, 68, 69, 70, 71, 72, 73] (fun ix (w : World) (v : Value) => match ix with | 0 => v = .slice (some ⟨g, off, none⟩) n cap | 1 => v = .int .i64 (k : Int) | 2 => v = .pointer (some ⟨g, off + k * 4, none⟩) | 3 => v = .pointer (some ⟨g, off + k * 4, none⟩) | 4 => v = .agg #[.string x.lo, .string x.hi] | 5 => v = .slice (some ⟨g, off, none⟩) n cap | 6 => v = .int .i64 (k : Int) | 7 => v = .int .i64 (k1 : Int) | 8 => v = .pointer (some ⟨g, off + k1 * 4, none⟩) | 9 => v = .pointer (some ⟨g, off + k1 * 4, none⟩) | 10 => v = .agg #[.string y.lo, .string y.hi] | 11 => v = .tuple #[.agg #[.string a1, .string a2], .bool fine] | 12 => v = .tuple #[.agg #[.string a1, .string a2], .bool fine] | 13 => v = .agg #[.string a1, .string a2] | 14 => v = .bool fine | 15 => ∃ q lo hi, v = .pointer (some ⟨q, 0, none⟩) ∧ w.heap[q]? = some (.cells #[.string lo, .string hi] 23 (0, 0)) ∧ N ≤ q | 16 => True | 17 => v = .bool fine | _ => True) (RB N) (by kernel_rfl) ?_ ?_ ?_ (RB.of (Moves.refl _ _).drew) (fun _ _ _ => RB.trans) (fun ix u u' v h m => ?_) ?_ ?_
    · have key : ∀ i, i < 18 → [60, 61, 62, 63, 64, 65, 66, 67, 68, 69, 70, 71, 59, 72, 73, 12, 3, 13].getD i 0 < 109 := by decide
      exact fun ix hix => key ix hix
    · have key : ∀ i, i < 18 → ∀ j, j < 18 → i ≠ j → [60, 61, 62, 63, 64, 65, 66, 67, 68, 69, 70, 71, 59, 72, 73, 12, 3, 13].getD i 0 ≠ [60, 61, 62, 63, 64, 65, 66, 67, 68, 69, 70, 71, 59, 72, 73, 12, 3, 13].getD j 0 := by decide +kernel
      exact fun ix jx hix hjx hne => key ix hix jx hjx hne
    · have key : ∀ i, i < 18 → [60, 61, 62, 63, 64, 65, 66, 67, 68, 69, 70, 71, 59, 72, 73, 12, 3, 13].getD i 0 ∈ [3, 12, 13, 59, 60, 61, 62, 63, 64, 65, 66, 67, 68, 69, 70, 71, 72, 73] := by decide
      exact fun ix hix => key ix hix
    · match ix with
      | 0 => exact h
      | 1 => exact h
      | 2 => exact h
      | 3 => exact h
      | 4 => exact h
      | 5 => exact h
      | 6 => exact h
      | 7 => exact h
      | 8 => exact h
      | 9 => exact h
      | 10 => exact h
      | 11 => exact h
      | 12 => exact h
      | 13 => exact h
      | 14 => exact h
      | 15 => exact (by obtain ⟨q, lo, hi, e, hq, hle⟩ := h; obtain ⟨lo2, hi2, hq2⟩ := m.box hq; exact ⟨q, lo2, hi2, e, hq2, hle⟩)
      | 16 => exact h
      | 17 => exact h
      | m + 18 => trivial
    · intro ix hix a u hR hsz hold hF K hK
      have hix : ix < 18 := hix
      have mR : Moves [] wb u := hR.moves hN
      have c_x0 := mR.cell x0
      have c_x1 := mR.cell x1
      have c_y0 := mR.cell y0
      have c_y1 := mR.cell y1
      match ix, hix with
      | 0, _ =>
        have e0 : a.tmps.getD 0 undef = .slice (some ⟨g, off, none⟩) n cap := hold 0 ((fun (key : ∀ i, i < 18 → 0 ≠ [60, 61, 62, 63, 64, 65, 66, 67, 68, 69, 70, 71, 59, 72, 73, 12, 3, 13].getD i 0) => fun ix hix => key ix hix) (by decide))
        refine wpOp_val (v := .slice (some ⟨g, off, none⟩) n cap) rfl rfl ?_ (hK _ _ rfl (RB.of (Moves.refl _ _)))
        go_simp
        try rfl
      | 1, _ =>
        have e7 : a.tmps.getD 7 undef = .int .i64 (k : Int) := hold 7 ((fun (key : ∀ i, i < 18 → 7 ≠ [60, 61, 62, 63, 64, 65, 66, 67, 68, 69, 70, 71, 59, 72, 73, 12, 3, 13].getD i 0) => fun ix hix => key ix hix) (by decide))
        refine wpOp_val (v := .int .i64 (k : Int)) rfl rfl ?_ (hK _ _ rfl (RB.of (Moves.refl _ _)))
        go_simp
        try rfl
      | 2, _ =>
        have e60 : a.tmps.getD 60 undef = .slice (some ⟨g, off, none⟩) n cap := hF 0 (by decide) (by kernel_rfl)
        have e61 : a.tmps.getD 61 undef = .int .i64 (k : Int) := hF 1 (by decide) (by kernel_rfl)
        refine wpOp_val (v := .pointer (some ⟨g, off + k * 4, none⟩)) rfl rfl ?_ (hK _ _ rfl (RB.of (Moves.refl _ _)))
        go_simp
        try rfl
      | 3, _ =>
        have e62 : a.tmps.getD 62 undef = .pointer (some ⟨g, off + k * 4, none⟩) := hF 2 (by decide) (by kernel_rfl)
        refine wpOp_val (v := .pointer (some ⟨g, off + k * 4, none⟩)) rfl rfl ?_ (hK _ _ rfl (RB.of (Moves.refl _ _)))
        go_simp
        try rfl
      | 4, _ =>
        have e63 : a.tmps.getD 63 undef = .pointer (some ⟨g, off + k * 4, none⟩) := hF 3 (by decide) (by kernel_rfl)
        refine wpOp_val (v := .agg #[.string x.lo, .string x.hi]) rfl rfl ?_ (hK _ _ rfl (RB.of (Moves.refl _ _)))
        go_simp
        try rfl
      | 5, _ =>
        have e0 : a.tmps.getD 0 undef = .slice (some ⟨g, off, none⟩) n cap := hold 0 ((fun (key : ∀ i, i < 18 → 0 ≠ [60, 61, 62, 63, 64, 65, 66, 67, 68, 69, 70, 71, 59, 72, 73, 12, 3, 13].getD i 0) => fun ix hix => key ix hix) (by decide))
        refine wpOp_val (v := .slice (some ⟨g, off, none⟩) n cap) rfl rfl ?_ (hK _ _ rfl (RB.of (Moves.refl _ _)))
        go_simp
        try rfl
      | 6, _ =>
        have e7 : a.tmps.getD 7 undef = .int .i64 (k : Int) := hold 7 ((fun (key : ∀ i, i < 18 → 7 ≠ [60, 61, 62, 63, 64, 65, 66, 67, 68, 69, 70, 71, 59, 72, 73, 12, 3, 13].getD i 0) => fun ix hix => key ix hix) (by decide))
        refine wpOp_val (v := .int .i64 (k : Int)) rfl rfl ?_ (hK _ _ rfl (RB.of (Moves.refl _ _)))
        go_simp
        try rfl
      | 7, _ =>
        have e66 : a.tmps.getD 66 undef = .int .i64 (k : Int) := hF 6 (by decide) (by kernel_rfl)
        refine wpOp_val (v := .int .i64 (k1 : Int)) rfl rfl ?_ (hK _ _ rfl (RB.of (Moves.refl _ _)))
        go_simp
        try rfl
      | 8, _ =>
        have e65 : a.tmps.getD 65 undef = .slice (some ⟨g, off, none⟩) n cap := hF 5 (by decide) (by kernel_rfl)
        have e67 : a.tmps.getD 67 undef = .int .i64 (k1 : Int) := hF 7 (by decide) (by kernel_rfl)
        refine wpOp_val (v := .pointer (some ⟨g, off + k1 * 4, none⟩)) rfl rfl ?_ (hK _ _ rfl (RB.of (Moves.refl _ _)))
        go_simp
        try rfl
      | 9, _ =>
        have e68 : a.tmps.getD 68 undef = .pointer (some ⟨g, off + k1 * 4, none⟩) := hF 8 (by decide) (by kernel_rfl)
        refine wpOp_val (v := .pointer (some ⟨g, off + k1 * 4, none⟩)) rfl rfl ?_ (hK _ _ rfl (RB.of (Moves.refl _ _)))
        go_simp
        try rfl
      | 10, _ =>
        have e69 : a.tmps.getD 69 undef = .pointer (some ⟨g, off + k1 * 4, none⟩) := hF 9 (by decide) (by kernel_rfl)
        refine wpOp_val (v := .agg #[.string y.lo, .string y.hi]) rfl rfl ?_ (hK _ _ rfl (RB.of (Moves.refl _ _)))
        go_simp
        try rfl
      | 11, _ =>
        have e64 : a.tmps.getD 64 undef = .agg #[.string x.lo, .string x.hi] := hF 4 (by decide) (by kernel_rfl)
        have e70 : a.tmps.getD 70 undef = .agg #[.string y.lo, .string y.hi] := hF 10 (by decide) (by kernel_rfl)
        refine wpOp_of_wp rfl rfl ?_
        go_simp
        refine (hjn _).mono ?_
        rintro _ u2 ⟨rfl, m2⟩
        exact hK _ _ rfl (RB.of m2)
      | 12, _ =>
        have e71 : a.tmps.getD 71 undef = .tuple #[.agg #[.string a1, .string a2], .bool fine] := hF 11 (by decide) (by kernel_rfl)
        refine wpOp_val (v := .tuple #[.agg #[.string a1, .string a2], .bool fine]) rfl rfl ?_ (hK _ _ rfl (RB.of (Moves.refl _ _)))
        go_simp
        try rfl
      | 13, _ =>
        have e59 : a.tmps.getD 59 undef = .tuple #[.agg #[.string a1, .string a2], .bool fine] := hF 12 (by decide) (by kernel_rfl)
        refine wpOp_val (v := .agg #[.string a1, .string a2]) rfl rfl ?_ (hK _ _ rfl (RB.of (Moves.refl _ _)))
        go_simp
        try rfl
      | 14, _ =>
        have e59 : a.tmps.getD 59 undef = .tuple #[.agg #[.string a1, .string a2], .bool fine] := hF 12 (by decide) (by kernel_rfl)
        refine wpOp_val (v := .bool fine) rfl rfl ?_ (hK _ _ rfl (RB.of (Moves.refl _ _)))
        go_simp
        try rfl
      | 15, _ =>
        exact wpOp_of_wp rfl rfl (wp_alloc1 23 #[.string ⟨#[]⟩, .string ⟨#[]⟩] rfl (fun w => by kernel_rfl) (hK _ _ ⟨u.heap.size, _, _, rfl, heap_alloc_new _ _, hR.le hN⟩ (RB.of ((Moves.refl _ _).alloc _))))
      | 16, _ =>
        have f12 := hF 15 (by decide) (by kernel_rfl)
        have e72 : a.tmps.getD 72 undef = .agg #[.string a1, .string a2] := hF 13 (by decide) (by kernel_rfl)
        obtain ⟨q, l0, h0, hv, hq, hle⟩ := f12
        have e12 : a.tmps.getD 12 undef = .pointer (some ⟨q, 0, none⟩) := hv
        obtain ⟨s0, s1, s2, s3⟩ := sp_cells hq
        have hst : K (a.put (some 3) (a.tmps.getD 3 undef)) ((u.setCell ⟨q, 0, none⟩ (.string a1)).setCell ⟨q, 1, none⟩ (.string a2)) := hK (a.tmps.getD 3 undef) ((u.setCell ⟨q, 0, none⟩ (.string a1)).setCell ⟨q, 1, none⟩ (.string a2)) trivial (RB.store hq hle _ _)
        rw [show a.put (some 3) (a.tmps.getD 3 undef) = a from put_same a 3 (by rw [hsz]; show 3 < 109; omega)] at hst
        refine wpOp_of_wp rfl rfl ?_
        unfold Oper.wp
        go_simp
        exact hst
      | 17, _ =>
        have e73 : a.tmps.getD 73 undef = .bool fine := hF 14 (by decide) (by kernel_rfl)
        refine wpOp_val (v := .bool fine) rfl rfl ?_ (hK _ _ rfl (RB.of (Moves.refl _ _)))
        go_simp
        try rfl
      | m + 18, h => exact absurd h (by omega)
    intro v w2 hall hR
    obtain ⟨q1, l1, h1, hu12, hq1, _⟩ : ∃ q lo hi, v 12 = .pointer (some ⟨q, 0, none⟩) ∧ w2.heap[q]? = some (.cells #[.string lo, .string hi] 23 (0, 0)) ∧ N ≤ q := hall 15 (by decide)
    have m2 := hR.moves hN
    clear hall
    simp only [List.foldl_cons, List.foldl_nil, List.setIfInBounds_toArray, List.set_cons_zero, List.set_cons_succ, hu12]
    clear hu12
    obtain ⟨p0, p1, _, _⟩ := sp_cells hq1
    go_wp2_with fail
    go_ret
    exact ⟨_, _, _, rfl, ⟨tb_new w2 ⟨l1, h1, g0, gen⟩, (by show 1 ≤ 4; omega)⟩, (mA.then m2).alloc _⟩
  · refine (hrow _).mono ?_
    rintro _ w3 ⟨rfl, m3⟩
    go_wp2_with fail
    go_ret
    exact ⟨_, _, _, rfl, hlast w3 m3, (mA.then m3).alloc _⟩
  · go_ret
    have hT := tb_new wb ⟨x.lo, x.hi, g0, gen⟩
    rw [hN] at hT
    exact ⟨_, N, _, rfl, ⟨hT, (by show 1 ≤ 4; omega)⟩, mA.alloc _⟩
  · go_ret
    refine ⟨_, gR, rs.take 4, rfl, ⟨?_, by simp; omega⟩, mA⟩
    obtain ⟨e1, e2, e3, e4⟩ := (HR.out.moves mA (by simp)).len
    have h4 : 4 < nR := by omega
    exact ⟨_, _, _, rfl, by rw [List.length_take]; omega, by omega, e3, e4.first 4⟩
  · go_ret
    refine ⟨_, gR, rs, rfl, ⟨HR.out.moves mA (by simp), ?_⟩, mA⟩
    have := hnR.out
    omega
  · refine (hrow _).mono ?_
    rintro _ w3 ⟨rfl, m3⟩
    go_wp2_with fail
    go_ret
    exact ⟨_, _, _, rfl, hlast w3 m3, (mA.then m3).alloc _⟩
end Go.Proofs.Ytbjbljkcodkebaa
