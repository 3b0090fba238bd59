/- ours -/
import Derived.Test.YtilbbnmhnacnlaaGreatCMt3
import Derived.Lib.AppendZeros
import Derived.Test.YtilbbnmhnacnlaaGreatCB04
namespace Go.Proofs.YtilbbnmhnacnlaaGreat
open Go.RowKit

set_option maxRecDepth 100000 in
set_option maxHeartbeats 2000000 in
theorem mtGrow_w (w : World) (n : Nat) (h0 : 0 < n) (hn : n ≤ 1000) : Calls Tryz.prog 112 #[.slice none 0 0, .int .i64 (n : Int)] w fun e w' => ∃ v', e = .returned v' ∧ OwnT w' v' [] ∧ Fresh w v' ∧ Moves [] w w' := by
  obtain ⟨i0, hi, hz0, hz1, hz2⟩ := info_parts tb_info
  have hr := Lib.run_append_nil_zeros (P := Tryz.prog) w 51 3 51 54 i0 (.agg #[.string ⟨#[]⟩, .string ⟨#[]⟩, .int .i64 0, .int .i64 0]) .i64 .i64 Tryz.underlying51 Tryz.underlying3 hi hz0 n h0 (by rw [hz1]; omega) (by omega) (by rw [hz2]; omega)
  have hge := grownCap_ge w n 0 54
  obtain ⟨cap, hcap⟩ : ∃ cap, grownCap w n 0 54 = cap := ⟨_, rfl⟩
  rw [hcap] at hr hge
  have hk1 : (0 : Int) < n := by omega
  go_enter Tryz.func112, Tryz.ntmps112
  go_wp2_with (at_builtin; refine Lib.wpList_append_run _ rfl _ _ _ _ rfl _ _ rfl rfl _ _ hr ?_)
  have hmx : cap ≤ maxLen := by rw [← hcap]; exact grownCap_le_maxLen _ _ _ _ (by unfold maxLen; omega)
  have hb := heap_alloc_new w (.cells (Builtin.zeroCells #[.string ⟨#[]⟩, .string ⟨#[]⟩, .int .i64 0, .int .i64 0] n ++ Builtin.zeroCells #[.string ⟨#[]⟩, .string ⟨#[]⟩, .int .i64 0, .int .i64 0] (cap - n)) 54)
  have mA : Moves [] w (w.alloc (.cells (Builtin.zeroCells #[.string ⟨#[]⟩, .string ⟨#[]⟩, .int .i64 0, .int .i64 0] n ++ Builtin.zeroCells #[.string ⟨#[]⟩, .string ⟨#[]⟩, .int .i64 0, .int .i64 0] (cap - n)) 54)) := (Moves.refl _ _).alloc _
  go_ret
  refine ⟨_, rfl, ⟨by simp [tbCells], .inr ⟨w.heap.size, cap, _, rfl, Nat.zero_le _, hb, Nat.zero_le _, hmx, ?_, by simp [tbCells]⟩⟩, fun k hk => Nat.le_of_eq (by simpa [Value.ownBlock] using hk), mA.drew⟩
  rw [Array.size_append, size_zeroCells, size_zeroCells]
  simp
  omega

set_option maxRecDepth 100000 in
set_option maxHeartbeats 4000000 in
theorem mtConcat_w (w : World) (B : Nat) (v : Value) (ms : List (List Ptb)) (h : MsAt B w v ms) (hl : ms.length ≤ 1000) (hf : ms.flatten.length ≤ 1000) (h0 : 0 < ms.flatten.length) :
    Calls Tryz.prog 73 #[v] w fun e w' => ∃ v', e = .returned v' ∧ OwnT w' v' ms.flatten ∧ Fresh w v' ∧ Moves [] w w' := by
  obtain ⟨ad, n, cap, rfl, hn, hc, HL⟩ := h.open
  have HF : Hid (ms.flatten.length ≤ 1000) := hf
  have HP : Hid (0 < ms.flatten.length) := h0
  have HB : n ≤ 1000 := by rw [hn.out]; exact hl
  have hpre : ∀ i, ((ms.take i).flatten).length ≤ ms.flatten.length := by
    intro i
    have e : ms.flatten = (ms.take i).flatten ++ (ms.drop i).flatten := by rw [← List.flatten_append, List.take_append_drop]
    rw [e, List.length_append]
    omega
  have hstep : ∀ {i : Nat} {m : List Ptb}, ms[i]? = some m → (ms.take (i + 1)).flatten = (ms.take i).flatten ++ m := by
    intro i m hm
    rw [List.take_add_one, hm, List.flatten_append]
    simp
  clear h hl hf h0
  go_enter Tryz.func73, Tryz.ntmps73
  go_wp2_with fail
  go_loopw [3, 11] (fun vs vi wr => ∃ (i sz : Nat), i ≤ n ∧ vi = .int .i64 (i : Nat) ∧ vs = .int .i64 (sz : Int) ∧ Hid (sz = ((ms.take i).flatten).length) ∧ sz ≤ 1000 ∧ w = wr) (fun _ vi _ => n - (intOf vi).toNat)
  case atStart => exact ⟨0, 0, Nat.zero_le _, rfl, rfl, rfl, Nat.zero_le _, rfl⟩
  case round =>
    obtain ⟨i, sz, hin, rfl, rfl, hsz, hs3, rfl⟩ := hrel
    by_cases hlt : i < n
    · have hk3 : (i : Int) < n := by omega
      obtain ⟨m, hm⟩ : ∃ m, ms[i]? = some m := ⟨_, List.getElem?_eq_getElem (by have := hn.out; omega)⟩
      obtain ⟨g, off, u, gu, rfl, _, hu, hTu, _⟩ := HL.out.at hm
      obtain ⟨adu, nu, capu, rfl, hnu, _, _⟩ := hTu.open
      have hnu3 : sz + nu ≤ 1000 := by
        have := hpre (i + 1)
        rw [hstep hm, List.length_append] at this
        have := hsz.out
        have := hnu.out
        have := HF.out
        omega
      have HM : Hid (ms[i]? = some m) := hm
      clear hm
      go_wp2_with fail
      go_roundw
      case rel =>
        refine ⟨i + 1, sz + nu, by omega, by go_num, by go_num, ?_, hnu3, by trivial⟩
        unfold Hid
        rw [hstep HM.out, List.length_append, hsz.out, hnu.out]
      case measure => simp [intOf]; omega
    · obtain rfl : i = n := by omega
      have e : ms.take i = ms := List.take_of_length_le (by have := hn.out; omega)
      rw [e] at hsz
      have hs0 : 0 < sz := by have := hsz.out; have := HP.out; omega
      have hk3 : ¬ (i : Int) < i := by omega
      go_wp2_with (go_at_call 112; refine (mtGrow_w _ sz hs0 hs3).mono ?_; rintro _ w2 ⟨v2, rfl, hO2, hF2, m2⟩; obtain ⟨ad2, n2, cap2, rfl, hn2⟩ := hO2.open)
      have HO2 : Hid (OwnT w2 (.slice ad2 n2 cap2) []) := hO2
      clear hO2 hsz e
      go_loopw [6, 27] (fun vo vi w3 => ∃ (j : Nat) (u : Value), j ≤ i ∧ u = vo ∧ vi = .int .i64 (j : Nat) ∧ Hid (OwnT w3 u ((ms.take j).flatten)) ∧ Fresh w u ∧ Moves [] w w3) (fun _ vi _ => i - (intOf vi).toNat)
      case atStart => exact ⟨0, _, Nat.zero_le _, rfl, rfl, HO2.out, hF2, m2⟩
      case round =>
        obtain ⟨j, vo, hjn, rfl, rfl, hO, hF3, m3⟩ := hrel
        by_cases hlt2 : j < i
        · have hj3 : (j : Int) < i := by omega
          obtain ⟨m, hm⟩ : ∃ m, ms[j]? = some m := ⟨_, List.getElem?_eq_getElem (by have := hn.out; omega)⟩
          obtain ⟨g, off, u, gu, rfl, _, hu, hTu, _⟩ := HL.out.at hm
          have hu3 := m3.cell hu
          have HTu : Hid (TbL wr gu u m) := hTu.moves m3 (by simp)
          obtain ⟨adu, nu, capu, rfl, hnu, _, _⟩ := hTu.open
          have hbd : Hid (((ms.take j).flatten).length + m.length ≤ 1048576) := by
            have := hpre (j + 1)
            rw [hstep hm, List.length_append] at this
            have := HF.out
            unfold Hid
            omega
          have HM : Hid (ms[j]? = some m) := hm
          clear hm hTu hu
          go_wp2_with (at_builtin; refine tabs_append _ _ rfl _ _ gu _ m rfl rfl rfl hO.out HTu.out hbd.out ?_; intro v' w4 hO4 m4 hla; obtain ⟨ad', n', cap', rfl, hn'⟩ := hO4.open)
          go_roundw
          case rel =>
            refine ⟨j + 1, _, by omega, rfl, by go_num, ?_, lain_fresh hF3 m3.size hla, fresh_trans m3 hF3 m4⟩
            unfold Hid
            rw [hstep HM.out]
            exact hO4
          case measure => simp [intOf]; omega
        · obtain rfl : j = i := by omega
          have e : ms.take j = ms := List.take_of_length_le (by have := hn.out; omega)
          rw [e] at hO
          obtain ⟨ad4, n4, cap4, rfl, hn4⟩ := hO.out.open
          have hk3 : ¬ (j : Int) < j := by omega
          go_wp2_with fail
          go_ret
          exact ⟨_, rfl, hO.out, hF3, m3⟩

theorem MtIs.pos {xs : List Ptb} (h : xs ≠ []) : 0 < (fours xs).length := by
  rw [fours_len]
  have : 0 < xs.length := List.length_pos_iff.2 h
  omega

set_option maxRecDepth 100000 in
theorem mtNone_w (w : World) (p : Nat) (xs : List Ptb) (h : MtIs w p xs) (hne : xs ≠ []) : Calls Tryz.prog 72 #[.pointer (some ⟨p, 0, none⟩)] w fun e w' => e = .returned (.bool false) ∧ w = w' := by
  obtain ⟨v, hp, hM⟩ := h
  obtain ⟨ad, n, cap, rfl, hn, hc, HL⟩ := hM.open
  have hpos := MtIs.pos hne
  have hn0 : ¬ ((n : Int) = 0) := by have := hn.out; omega
  obtain ⟨c0, _⟩ := one_cell hp
  have hpe : ∀ w1 : World, (binOp .eql 69 (.pointer (some ⟨p, 0, none⟩)) (.pointer none)).run Tryz.prog w1 = .ok (.bool false) w1 := by intro w1; kernel_rfl
  clear hM hpos
  go_enter Tryz.func72, Tryz.ntmps72
  go_wp2_with fail
  go_ret
  exact ⟨by simp; omega, rfl⟩

set_option maxRecDepth 100000 in
set_option maxHeartbeats 2000000 in
theorem mtAll_w (w : World) (p : Nat) (xs : List Ptb) (h : MtIs w p xs) (hne : xs ≠ []) (hl : xs.length ≤ 1000) : Calls Tryz.prog 39 #[.pointer (some ⟨p, 0, none⟩)] w fun e w' => ∃ v', e = .returned v' ∧ OwnT w' v' xs ∧ Fresh w v' ∧ Moves [] w w' := by
  have hno := mtNone_w w p xs h hne
  obtain ⟨v, hp, hM⟩ := h
  have hcc := mtConcat_w w 0 v (fours xs) hM (by rw [fours_len]; omega) (by rw [fours_flatten]; exact hl) (by rw [fours_flatten]; exact List.length_pos_iff.2 hne)
  rw [fours_flatten] at hcc
  obtain ⟨c0, _⟩ := one_cell hp
  obtain ⟨ad, n, cap, rfl, hn, hc, HL⟩ := hM.open
  clear hM hp
  go_enter Tryz.func39, Tryz.ntmps39
  go_wp2_with fail
  refine hno.mono ?_
  rintro _ _ ⟨rfl, rfl⟩
  go_wp2_with fail
  refine hcc.mono ?_
  rintro _ w2 ⟨v2, rfl, hO, hF, m2⟩
  obtain ⟨ad2, n2, cap2, rfl, hn2⟩ := hO.open
  go_wp2_with fail
  go_ret
  exact ⟨_, rfl, hO, hF, m2⟩

set_option maxRecDepth 100000 in
theorem mtLen_w (w : World) (p : Nat) (xs : List Ptb) (h : MtIs w p xs) (hne : xs ≠ []) (hl : xs.length ≤ 1000) : Calls Tryz.prog 178 #[.pointer (some ⟨p, 0, none⟩)] w fun e w' => e = .returned (.int .i64 (xs.length : Int)) ∧ Moves [] w w' := by
  have ha := mtAll_w w p xs h hne hl
  go_enter Tryz.func178, Tryz.ntmps178
  go_wp2_with fail
  refine ha.mono ?_
  rintro _ w2 ⟨v2, rfl, hO, hF, m2⟩
  obtain ⟨ad2, n2, cap2, rfl, hn2⟩ := hO.open
  go_wp2_with fail
  go_ret
  exact ⟨by rw [← hn2.out]; rfl, m2⟩

end Go.Proofs.YtilbbnmhnacnlaaGreat
