/-
  MetaNews' walk.
-/
import Derived.Test.YtbjbljkcodkebaaCMtg
import Derived.Test.YtbjbljkcodkebaaCMth
namespace Go.Proofs.Ytbjbljkcodkebaa
open Go.RowKit

set_option maxRecDepth 100000 in
set_option maxHeartbeats 16000000 in
theorem metaNews_w (lv cv : Value) (w : World) (hl : ∃ g xs, TbL w g lv xs) (hc : IArgs w cv) : Calls Try.prog 5 #[lv, cv] w fun e w' => e = .returned (.bool true) ∧ Moves [] w w' := by
  obtain ⟨g0, ls0, hT0⟩ := hl
  obtain ⟨adc, lenc, capc, rfl, hcc, hI⟩ := hc
  obtain ⟨ad0, n0, cap0, rfl, hn0, hc0, HT0⟩ := hT0.open
  have HI : Hid (∀ k, k < lenc → ∃ b off n, adc = some ⟨b, off, none⟩ ∧ w.cell? ⟨b, off + k, none⟩ = some (.int .i64 n)) := hI
  clear hT0 hI
  by_cases h5 : 5 < n0
  · have h5I : (5 : Int) < n0 := by omega
    have h5c : (5 : Int) ≤ cap0 := by omega
    have HL : Hid (TbL w g0 (.slice ad0 5 cap0) (ls0.take 5)) := by
      obtain ⟨e1, e2, e3, e4⟩ := HT0.out.len
      exact ⟨_, _, _, rfl, by rw [List.length_take]; omega, by omega, e3, e4.first 5⟩
    have HLL : Hid ((ls0.take 5).length ≤ 5) := by unfold Hid; rw [List.length_take]; omega
    go_enter Try.func5, Try.ntmps5
    go_wp2_with fail
    go_loopw [5, 6, 7] (fun vm vlo vi wr => ∃ (i : Nat) (u : Value) (lo : ByteArray) (ms : List Ptb), i ≤ 6 ∧ u = vm ∧ vlo = .string lo ∧ vi = .int .i64 (i : Nat) ∧ Hid (OwnT wr u ms ∧ ms.length ≤ i) ∧ Fresh w u ∧ Moves [] w wr) (fun _ _ vi _ => 6 - (intOf vi).toNat)
    case atStart => exact ⟨0, _, _, [], Nat.zero_le _, rfl, rfl, rfl, ⟨OwnT.nil _, Nat.le_refl _⟩, Fresh.nil _, Moves.refl _ _⟩
    case round =>
      obtain ⟨i, vo, lo, ms, hi6, rfl, rfl, rfl, hO, hF, mr⟩ := hrel
      by_cases hgo : i < lenc ∧ i < 6
      · have hk1 : (i : Int) < lenc := by omega
        have hk2 : (i : Int) < 6 := by omega
        obtain ⟨bc, oc, z, eadc, cz⟩ := HI.out i hgo.1
        subst eadc
        replace cz := mr.cell cz
        obtain ⟨nm, _, hrow⟩ := row_ds z
        obtain ⟨ado, no, capo, rfl, hno⟩ := hO.out.1.open
        go_wp2_with fail
        refine (hrow _).mono ?_
        rintro _ w2 ⟨rfl, m2⟩
        have M2 : Moves [] w w2 := mr.then m2
        cases h1 : Op.bytesLess nm.toList lo.toList with
        | false =>
          cases h2 : (nm.toList == lo.toList) with
          | false =>
            have mB : Moves [] w2 (w2.alloc (.cells #[.string lo, .string nm, .int .i64 (i : Int), .int .i64 ((i : Int) + 1)] 25)) := (Moves.refl _ _).alloc _
            have hO2 : Hid (OwnT (w2.alloc (.cells #[.string lo, .string nm, .int .i64 (i : Int), .int .i64 ((i : Int) + 1)] 25)) (.slice ado no capo) ms) := hO.out.1.moves (m2.then mB) (by simp)
            have hN : Hid (TbL (w2.alloc (.cells #[.string lo, .string nm, .int .i64 (i : Int), .int .i64 ((i : Int) + 1)] 25)) w2.heap.size (.slice (some ⟨w2.heap.size, 0, none⟩) 1 1) [⟨lo, nm, i, (i : Int) + 1⟩]) := tb_new w2 ⟨lo, nm, i, (i : Int) + 1⟩
            have hbd : Hid (ms.length + [(⟨lo, nm, i, (i : Int) + 1⟩ : Ptb)].length ≤ 1048576) := by unfold Hid; have := hO.out.2; simp only [List.length_cons, List.length_nil]; omega
            go_wp2_with (at_builtin; refine tabs_append _ _ rfl _ _ w2.heap.size ms [⟨lo, nm, i, (i : Int) + 1⟩] rfl rfl rfl hO2.out hN.out hbd.out ?_; intro v' w4 hO4 m4 hla; obtain ⟨ad5, n5, cap5, rfl, hn5⟩ := hO4.open)
            go_roundw
            case rel => exact ⟨i + 1, _, nm, _, by omega, rfl, rfl, by go_num, ⟨hO4, by have := hO.out.2; simp; omega⟩, lain_fresh hF (M2.then mB).size hla, fresh_trans (M2.then mB) hF m4⟩
            case measure => simp [intOf]; omega
          | true =>
            go_wp2_with fail
            go_roundw
            case rel => exact ⟨i + 1, _, lo, ms, by omega, rfl, rfl, by go_num, ⟨hO.out.1.moves m2 (by simp), by have := hO.out.2; omega⟩, hF, M2⟩
            case measure => simp [intOf]; omega
        | true =>
          go_wp2_with fail
          go_roundw
          case rel => exact ⟨i + 1, _, lo, ms, by omega, rfl, rfl, by go_num, ⟨hO.out.1.moves m2 (by simp), by have := hO.out.2; omega⟩, hF, M2⟩
          case measure => simp [intOf]; omega
      · have hend : ¬ (i : Int) < lenc ∨ ((i : Int) < lenc ∧ ¬ (i : Int) < 6) := by omega
        obtain ⟨ado, no, capo, rfl, hno⟩ := hO.out.1.open
        have mB : Moves [] wr (wr.alloc (.cells #[.string lo, .string ⟨#[]⟩, .int .i64 0, .int .i64 9] 25)) := (Moves.refl _ _).alloc _
        have hO2 : Hid (OwnT (wr.alloc (.cells #[.string lo, .string ⟨#[]⟩, .int .i64 0, .int .i64 9] 25)) (.slice ado no capo) ms) := hO.out.1.moves mB (by simp)
        have hN : Hid (TbL (wr.alloc (.cells #[.string lo, .string ⟨#[]⟩, .int .i64 0, .int .i64 9] 25)) wr.heap.size (.slice (some ⟨wr.heap.size, 0, none⟩) 1 1) [⟨lo, ⟨#[]⟩, 0, 9⟩]) := tb_new wr ⟨lo, ⟨#[]⟩, 0, 9⟩
        have hbd : Hid (ms.length + [(⟨lo, ⟨#[]⟩, 0, 9⟩ : Ptb)].length ≤ 1048576) := by unfold Hid; have := hO.out.2; simp only [List.length_cons, List.length_nil]; omega
        rcases hend with hk | ⟨hk1, hk2⟩
        · skip
          go_wp2_with (at_builtin; refine tabs_append _ _ rfl _ _ wr.heap.size ms [⟨lo, ⟨#[]⟩, 0, 9⟩] rfl rfl rfl hO2.out hN.out hbd.out ?_; intro v' wA hO4 m4 hla; obtain ⟨adA, nA, capA, rfl, hnA⟩ := hO4.open)
          have hFA : Fresh w (.slice adA nA capA) := lain_fresh hF (mr.then mB).size hla
          have MA : Moves [] w wA := fresh_trans (mr.then mB) hF m4
          obtain ⟨mA, hmA⟩ : ∃ mA, ms ++ [(⟨lo, ⟨#[]⟩, 0, 9⟩ : Ptb)] = mA := ⟨_, rfl⟩
          have hlA : mA.length = ms.length + 1 := by rw [← hmA]; simp
          rw [hmA] at hO4 hnA
          have hms6 : ms.length ≤ 6 := by have := hO.out.2; omega
          obtain ⟨nm1, hnm⟩ : ∃ nm1, nA = nm1 + 1 := ⟨ms.length, by rw [hnA.out, hlA]⟩
          subst hnm
          have hnm6 : nm1 ≤ 6 := by have := hnA.out; omega
          obtain ⟨gm, hTm, _⟩ := hO4.ex (B := 0) (fun _ _ => Nat.zero_le _)
          have hcA : nm1 + 1 ≤ capA := hTm.len.2.1
          have hcI : (nm1 : Int) ≤ capA := by omega
          have hwr : IntKind.i64.wrap (nm1 : Int) = (nm1 : Int) := by rw [IntWalk.i64_in _ (by omega)]
          have HMa : Hid (TbL wA gm (.slice adA (nm1 + 1) capA) mA) := hTm
          have HMb : Hid (TbL wA gm (.slice adA nm1 capA) (mA.take nm1)) := by
            obtain ⟨e1, e2, e3, e4⟩ := hTm.len
            exact ⟨_, _, _, rfl, by rw [List.length_take]; omega, by omega, e3, e4.first nm1⟩
          have HLa : Hid (TbL wA g0 (.slice ad0 5 cap0) (ls0.take 5)) := HL.out.moves MA (by simp)
          have HmL : Hid (mA.length ≤ 7) := by unfold Hid; omega
          have hb1 : Hid (([] : List Ptb).length + mA.length ≤ 1048576) := by unfold Hid; simp only [List.length_nil]; omega
          have hb2 : Hid (mA.length + ((ls0.take 5)).length ≤ 1048576) := by unfold Hid; have := HLL.out; omega
          clear hO4 hTm hO2 hN hbd hO hF mr mB m4 hla hnA hlA hmA hno
          refine wp_some7 [54, 55, 56, 57, 58, 59, 60, 61, 62, 63, 64, 65, 66, 67, 68] (fun u w' => ∃ (wB : World) (ad65 : Option Addr) (n65 cap65 : Nat), u 66 = .slice (some ⟨wB.heap.size, 0, none⟩) 4 4 ∧ u 67 = .int .i64 4 ∧ u 68 = .int .i64 0 ∧ w' = wB.alloc (.cells #[.slice ad0 5 cap0, .slice adA (nm1 + 1) capA, .slice adA nm1 capA, .slice ad65 n65 cap65] 26) ∧ OwnT wB (.slice ad65 n65 cap65) (mA ++ (ls0.take 5)) ∧ Fresh wA (.slice ad65 n65 cap65) ∧ Moves [] wA wB) ?_ ?_
          · skip
            refine wp_region_noPanic ?_
            refine wp_region_held_drew (S := (fun _ => True)) (by kernel_rfl) ?_ (fun hHeld => ?_)
            · first | (go_keep; done) | trivial
            refine wpAnyH_take (i := 0) (oi := { dst := some 54, op := Op.move (Operand.tmp 0), type := 26, pos := "law.go:218", after := #[], guard := none }) (v := ?_) rfl (by kernel_rfl) (by kernel_rfl) (by kernel_rfl) (fun _ _ _ h => h) (Or.inl ⟨by rfl, ?_⟩) (by assumption) ?_
            rotate_left
            · (intro w hSw; (try dsimp only at hSw); go_simp; try (with_reducible rfl))
            try simp only [Act.put, List.setIfInBounds_toArray, List.set_cons_zero, List.set_cons_succ]
            refine wpAnyH_take (i := 1) (oi := { dst := some 55, op := Op.move (Operand.tmp 5), type := 26, pos := "law.go:218", after := #[], guard := none }) (v := ?_) rfl (by kernel_rfl) (by kernel_rfl) (by kernel_rfl) (fun _ _ _ h => h) (Or.inl ⟨by rfl, ?_⟩) (by assumption) ?_
            rotate_left
            · (intro w hSw; (try dsimp only at hSw); go_simp; try (with_reducible rfl))
            try simp only [Act.put, List.setIfInBounds_toArray, List.set_cons_zero, List.set_cons_succ]
            refine wpAnyH_take (i := 2) (oi := { dst := some 56, op := Op.move (Operand.tmp 5), type := 26, pos := "law.go:218", after := #[], guard := none }) (v := ?_) rfl (by kernel_rfl) (by kernel_rfl) (by kernel_rfl) (fun _ _ _ h => h) (Or.inl ⟨by rfl, ?_⟩) (by assumption) ?_
            rotate_left
            · (intro w hSw; (try dsimp only at hSw); go_simp; try (with_reducible rfl))
            try simp only [Act.put, List.setIfInBounds_toArray, List.set_cons_zero, List.set_cons_succ]
            refine wpAnyH_take (i := 3) (oi := { dst := some 57, op := Op.move (Operand.tmp 5), type := 26, pos := "law.go:218", after := #[], guard := none }) (v := ?_) rfl (by kernel_rfl) (by kernel_rfl) (by kernel_rfl) (fun _ _ _ h => h) (Or.inl ⟨by rfl, ?_⟩) (by assumption) ?_
            rotate_left
            · (intro w hSw; (try dsimp only at hSw); go_simp; try (with_reducible rfl))
            try simp only [Act.put, List.setIfInBounds_toArray, List.set_cons_zero, List.set_cons_succ]
            refine wpAnyH_take (i := 4) (oi := { dst := some 58, op := Op.call { callee := Callee.builtin Builtin.len, args := #[Operand.tmp 57], argTypes := #[26] }, type := 3, pos := "law.go:218", after := #[{ on := 3, ground := Ground.data }], guard := none }) (v := ?_) rfl (by kernel_rfl) (by kernel_rfl) (by kernel_rfl) (fun _ _ _ h => h) (Or.inl ⟨by rfl, ?_⟩) (by assumption) ?_
            rotate_left
            · (intro w hSw; (try dsimp only at hSw); go_simp; try (with_reducible rfl))
            try simp only [Act.put, List.setIfInBounds_toArray, List.set_cons_zero, List.set_cons_succ]
            refine wpAnyH_take (i := 5) (oi := { dst := some 59, op := Op.binOp BinOp.sub 3 (Operand.tmp 58) (Operand.const (Value.int IntKind.i64 1)) 3, type := 3, pos := "law.go:218", after := #[{ on := 4, ground := Ground.data }], guard := none }) (v := ?_) rfl (by kernel_rfl) (by kernel_rfl) (by kernel_rfl) (fun _ _ _ h => h) (Or.inl ⟨by rfl, ?_⟩) (by assumption) ?_
            rotate_left
            · (intro w hSw; (try dsimp only at hSw); go_simp; try (with_reducible rfl))
            try simp only [Act.put, List.setIfInBounds_toArray, List.set_cons_zero, List.set_cons_succ]
            refine wpAnyH_take (i := 6) (oi := { dst := some 60, op := Op.slice 26 (Operand.tmp 56) none (some (Operand.tmp 59)) none, type := 26, pos := "law.go:218", after := #[{ on := 2, ground := Ground.data }, { on := 5, ground := Ground.data }], guard := none }) (v := ?_) rfl (by kernel_rfl) (by kernel_rfl) (by kernel_rfl) (fun _ _ _ h => h) (Or.inl ⟨by rfl, ?_⟩) (by assumption) ?_
            rotate_left
            · (intro w hSw; (try dsimp only at hSw); go_simp; try (with_reducible rfl))
            try simp only [Act.put, List.setIfInBounds_toArray, List.set_cons_zero, List.set_cons_succ]
            refine wpAnyH_take (i := 8) (oi := { dst := some 62, op := Op.move (Operand.tmp 5), type := 26, pos := "law.go:218", after := #[], guard := none }) (v := ?_) rfl (by kernel_rfl) (by kernel_rfl) (by kernel_rfl) (fun _ _ _ h => h) (Or.inl ⟨by rfl, ?_⟩) (by assumption) ?_
            rotate_left
            · (intro w hSw; (try dsimp only at hSw); go_simp; try (with_reducible rfl))
            try simp only [Act.put, List.setIfInBounds_toArray, List.set_cons_zero, List.set_cons_succ]
            refine wpAnyH_take (i := 10) (oi := { dst := some 64, op := Op.move (Operand.tmp 0), type := 26, pos := "law.go:218", after := #[], guard := none }) (v := ?_) rfl (by kernel_rfl) (by kernel_rfl) (by kernel_rfl) (fun _ _ _ h => h) (Or.inl ⟨by rfl, ?_⟩) (by assumption) ?_
            rotate_left
            · (intro w hSw; (try dsimp only at hSw); go_simp; try (with_reducible rfl))
            try simp only [Act.put, List.setIfInBounds_toArray, List.set_cons_zero, List.set_cons_succ]
            refine wpAnyH_take (i := 14) (oi := { dst := some 68, op := Op.move (Operand.const (Value.int IntKind.i64 0)), type := 3, pos := "law.go:218", after := #[], guard := none }) (v := ?_) rfl (by kernel_rfl) (by kernel_rfl) (by kernel_rfl) (fun _ _ _ h => h) (Or.inl ⟨by rfl, ?_⟩) (by assumption) ?_
            rotate_left
            · (intro w hSw; (try dsimp only at hSw); go_simp; try (with_reducible rfl))
            try simp only [Act.put, List.setIfInBounds_toArray, List.set_cons_zero, List.set_cons_succ]
            refine wpAnyH_ready (rs := [7]) (by kernel_rfl) (by simp) ?_
            refine AllReadyH.cons (o := { dst := some 61, op := Op.buildSlice 26 0 #[], type := 26, pos := "law.go:218", after := #[], guard := none }) rfl (fun K hK => ?_) AllReadyH.nil
            go_simp
            obtain ⟨wa, hwa⟩ : ∃ wa, (wA.alloc (.cells #[] 25)).drew = wa := ⟨_, rfl⟩
            have hE : OwnT wa (.slice (some ⟨wA.heap.size, 0, none⟩) 0 0) [] := by rw [← hwa]; exact OwnT.empty (heap_alloc_new wA _)
            have mWa : Moves [] wA wa := by rw [← hwa]; exact ((Moves.refl _ _).alloc _).drew
            have hFE : Fresh wA (.slice (some ⟨wA.heap.size, 0, none⟩) 0 0) := fun k hk => Nat.le_of_eq (by simpa [Value.ownBlock] using hk)
            rw [hwa]
            clear hwa
            refine hK.out _ _ ?_ (fun hHeld => ?_)
            · trivial
            clear hK K
            try simp only [Act.put, List.setIfInBounds_toArray, List.set_cons_zero, List.set_cons_succ]
            refine wpAnyH_ready (rs := [9]) (by kernel_rfl) (by simp) ?_
            refine AllReadyH.cons (o := { dst := some 63, op := Op.call { callee := Callee.builtin Builtin.append, args := #[Operand.tmp 61, Operand.tmp 62], argTypes := #[26, 26] }, type := 26, pos := "law.go:218", after := #[{ on := 7, ground := Ground.data }, { on := 8, ground := Ground.data }], guard := none }) rfl (fun K hK => ?_) AllReadyH.nil
            refine tabs_wp (.tmp 61) (.tmp 62) rfl _ _ gm [] mA rfl rfl hE (HMa.out.moves mWa (by simp)) hb1.out ?_
            intro v63 w63 hO63 m63 hla63
            have hF63 : Fresh wA v63 := lain_fresh hFE mWa.size hla63
            have M63 : Moves [] wA w63 := fresh_trans mWa hFE m63
            obtain ⟨ad63, n63, cap63, rfl, hn63⟩ := hO63.open
            rw [List.nil_append] at hO63
            refine hK.out _ _ ?_ (fun hHeld => ?_)
            · trivial
            clear hK K
            try simp only [Act.put, List.setIfInBounds_toArray, List.set_cons_zero, List.set_cons_succ]
            refine wpAnyH_ready (rs := [11]) (by kernel_rfl) (by simp) ?_
            refine AllReadyH.cons (o := { dst := some 65, op := Op.call { callee := Callee.builtin Builtin.append, args := #[Operand.tmp 63, Operand.tmp 64], argTypes := #[26, 26] }, type := 26, pos := "law.go:218", after := #[{ on := 9, ground := Ground.data }, { on := 10, ground := Ground.data }, { on := 9, ground := Ground.chain }], guard := none }) rfl (fun K hK => ?_) AllReadyH.nil
            refine tabs_wp (.tmp 63) (.tmp 64) rfl _ _ g0 mA (ls0.take 5) rfl rfl hO63 (HLa.out.moves M63 (by simp)) hb2.out ?_
            intro v65 w65 hO65 m65 hla65
            have hF65 : Fresh wA v65 := lain_fresh hF63 M63.size hla65
            have M65 : Moves [] wA w65 := fresh_trans M63 hF63 m65
            obtain ⟨ad65, n65, cap65, rfl, hn65⟩ := hO65.open
            refine hK.out _ _ ?_ (fun hHeld => ?_)
            · trivial
            clear hK K
            try simp only [Act.put, List.setIfInBounds_toArray, List.set_cons_zero, List.set_cons_succ]
            refine wpAnyH_ready (rs := [12]) (by kernel_rfl) (by simp) ?_
            refine AllReadyH.cons (o := { dst := some 66, op := Op.buildSlice 27 4 #[(0, Operand.tmp 54), (1, Operand.tmp 55), (2, Operand.tmp 60), (3, Operand.tmp 65)], type := 27, pos := "law.go:218", after := #[{ on := 0, ground := Ground.data }, { on := 1, ground := Ground.data }, { on := 6, ground := Ground.data }, { on := 11, ground := Ground.data }], guard := none }) rfl (fun K hK => ?_) AllReadyH.nil
            go_simp
            refine hK.out _ _ ?_ (fun hHeld => ?_)
            · trivial
            clear hK K
            try simp only [Act.put, List.setIfInBounds_toArray, List.set_cons_zero, List.set_cons_succ]
            refine wpAnyH_take (i := 13) (oi := { dst := some 67, op := Op.call { callee := Callee.builtin Builtin.len, args := #[Operand.tmp 66], argTypes := #[27] }, type := 3, pos := "law.go:218", after := #[{ on := 12, ground := Ground.data }], guard := none }) (v := ?_) rfl (by kernel_rfl) (by kernel_rfl) (by kernel_rfl) (fun _ _ _ h => h) (Or.inl ⟨by rfl, ?_⟩) (by assumption) ?_
            rotate_left
            · (intro w hSw; (try dsimp only at hSw); go_simp; try (with_reducible rfl))
            try simp only [Act.put, List.setIfInBounds_toArray, List.set_cons_zero, List.set_cons_succ]
            refine wpAnyH_done (by kernel_rfl) ?_ _
            refine NoPanic.normal ?_
            exact ⟨rfl, by kernel_rfl, w65, ad65, n65, cap65, by kernel_rfl, by kernel_rfl, by kernel_rfl, rfl, hO65, hF65, M65⟩
          · rintro u wC ⟨wB, ad65, n65, cap65, hu66, hu67, hu68, rfl, hO65, hF65, MB⟩
            simp only [List.foldl_cons, List.foldl_nil, List.setIfInBounds_toArray, List.set_cons_zero, List.set_cons_succ, hu66, hu67, hu68]
            clear hu66 hu67 hu68
            generalize u 54 = u54
            generalize u 55 = u55
            generalize u 56 = u56
            generalize u 57 = u57
            generalize u 58 = u58
            generalize u 59 = u59
            generalize u 60 = u60
            generalize u 61 = u61
            generalize u 62 = u62
            generalize u 63 = u63
            generalize u 64 = u64
            generalize u 65 = u65
            have HLLs := HLL
            obtain ⟨g65, hT65, _⟩ := hO65.ex (B := 0) (fun _ _ => Nat.zero_le _)
            obtain ⟨wC, hwC⟩ : ∃ wC, wB.alloc (.cells #[.slice ad0 5 cap0, .slice adA (nm1 + 1) capA, .slice adA nm1 capA, .slice ad65 n65 cap65] 26) = wC := ⟨_, rfl⟩
            have mC : Moves [] wB wC := by rw [← hwC]; exact (Moves.refl _ _).alloc _
            have hb4 : wC.heap[wB.heap.size]? = some (.cells #[.slice ad0 5 cap0, .slice adA (nm1 + 1) capA, .slice adA nm1 capA, .slice ad65 n65 cap65] 26 (0, 0)) := by rw [← hwC]; exact heap_alloc_new wB _
            rw [hwC]
            have MC : Moves [] w wC := (MA.then MB).then mC
            have HC4 : Hid (∀ j, j < 4 → ∃ g adX nX capX X, wC.cell? ⟨wB.heap.size, j, none⟩ = some (.slice adX nX capX) ∧ TbL wC g (.slice adX nX capX) X ∧ X.length ≤ 12) := by
              obtain ⟨c0, c1, c2, c3, _⟩ := four_cells hb4
              have e7 := HmL.out
              have e5 := HLL.out
              intro j hj
              obtain rfl | rfl | rfl | rfl : j = 0 ∨ j = 1 ∨ j = 2 ∨ j = 3 := by omega
              · exact ⟨g0, _, _, _, _, c0, HLa.out.moves (MB.then mC) (by simp), by omega⟩
              · exact ⟨gm, _, _, _, _, c1, HMa.out.moves (MB.then mC) (by simp), by omega⟩
              · exact ⟨gm, _, _, _, _, c2, HMb.out.moves (MB.then mC) (by simp), by rw [List.length_take]; omega⟩
              · exact ⟨g65, _, _, _, _, c3, hT65.moves mC (by simp), by rw [List.length_append]; omega⟩
            clear hb4 hwC mC MB hO65 hT65 hF65 HMa HMb HLa HmL HLLs hb1 hb2 hcA hcI hwr
            generalize wB.heap.size = bb at HC4 ⊢
            go_wp2_with fail
            go_loopw [68] (fun vj wr => ∃ j : Nat, j ≤ 4 ∧ vj = .int .i64 (j : Nat) ∧ Moves [] wC wr) (fun vj _ => 4 - (intOf vj).toNat)
            case atStart => exact ⟨0, Nat.zero_le _, rfl, Moves.refl _ _⟩
            case round =>
              obtain ⟨j, hj4, rfl, mr⟩ := hrel
              by_cases hgo : j < 4
              · have hk : (j : Int) < 4 := by omega
                obtain ⟨g, adX, nX, capX, X, cX, hTX, hX12⟩ := HC4.out j hgo
                replace cX := mr.cell cX
                have HX : Hid (TbL _ g (.slice adX nX capX) X) := hTX.moves mr (by simp)
                have HX12 : Hid (X.length ≤ 12) := hX12
                clear hTX hX12
                by_cases hm : mayT X = 0
                · obtain ⟨hcov, hbad, _⟩ := may_cov hm
                  have hnew := mtNew_yes _ g _ X HX.out (by have := HX12.out; omega) hm
                  have HMY : Hid (mayT X = 0) := hm
                  have HCV : Hid (spCov (X.map Ptb.sp) = true) := hcov
                  have HBD : Hid (X.any tbBad = false) := hbad
                  clear hm hcov hbad
                  go_wp2_with fail
                  refine hnew.mono ?_
                  rintro _ w5 ⟨q, rfl, hM, hq, m5⟩
                  have HNE : Hid ( ∀ w1 : World, (binOp .neq 28 (.pointer (some ⟨q, 0, none⟩)) (.pointer none)).run Try.prog w1 = .ok (.bool true) w1) := by intro w1; kernel_rfl
                  have HM : Hid (MtIs w5 q X) := hM
                  have hsp := lawSpans_w w5 g _ X (HX.out.moves m5 (by simp)) (by have := HX12.out; omega)
                  clear hM hnew hq
                  go_wp2_with fail
                  refine hsp.mono ?_
                  rintro _ w6 ⟨vs, rfl, hOS, m6⟩
                  obtain ⟨ads, caps, rfl, hcs, _, hSs⟩ := hOS.at
                  have hco := rfCover7_w w6 ads _ caps (X.map Ptb.sp) hSs rfl (by have := HX12.out; rw [List.length_map]; omega)
                  rw [HCV.out] at hco
                  clear hOS hSs hsp hcs
                  generalize (X.map Ptb.sp).length = ns at hco ⊢
                  go_wp2_with fail
                  refine hco.mono ?_
                  rintro _ w7 ⟨rfl, m7⟩
                  have hri := lawRight_w w7 g _ X (HX.out.moves ((m5.then m6).then m7) (by simp)) (by have := HX12.out; omega)
                  rw [HBD.out] at hri
                  clear hco
                  go_wp2_with fail
                  refine hri.mono ?_
                  rintro _ w8 ⟨rfl, m8⟩
                  have hte := tells11_w w8 q X (HM.out.moves0 ((m6.then m7).then m8)) HMY.out g _ (HX.out.moves (((m5.then m6).then m7).then m8) (by simp)) ⟨#[109]⟩
                  have hne := HNE.out; clear hri
                  go_wp2_with fail
                  refine hte.mono ?_
                  rintro _ w9 ⟨rfl, m9⟩
                  go_wp2_with fail
                  go_roundw
                  case rel => exact ⟨j + 1, by omega, by go_num, ((((mr.then m5).then m6).then m7).then m8).then m9⟩
                  case measure => simp [intOf]; omega
                · have hm1 : mayT X = 1 := by have := may_iff (xs := X) (by have := HX12.out; omega); rw [this] at hm ⊢; split <;> simp_all
                  have hnew := mtNew_no _ g _ X HX.out (by have := HX12.out; omega) hm
                  rw [hm1] at hnew
                  have hne : ∀ w1 : World, (binOp .neq 28 (.pointer none) (.pointer none)).run Try.prog w1 = .ok (.bool false) w1 := by intro w1; kernel_rfl
                  go_wp2_with fail
                  refine hnew.mono ?_
                  rintro _ w5 ⟨rfl, m5⟩
                  have hsp := lawSpans_w w5 g _ X (HX.out.moves m5 (by simp)) (by have := HX12.out; omega)
                  clear hnew
                  go_wp2_with fail
                  refine hsp.mono ?_
                  rintro _ w6 ⟨vs, rfl, hOS, m6⟩
                  obtain ⟨ads, caps, rfl, hcs, _, hSs⟩ := hOS.at
                  have hco := rfCover7_w w6 ads _ caps (X.map Ptb.sp) hSs rfl (by have := HX12.out; rw [List.length_map]; omega)
                  clear hOS hSs hsp hcs
                  generalize (X.map Ptb.sp).length = ns at hco ⊢
                  cases hcov : spCov (X.map Ptb.sp) with
                  | false =>
                    rw [hcov] at hco
                    go_wp2_with fail
                    refine hco.mono ?_
                    rintro _ w7 ⟨rfl, m7⟩
                    clear hco
                    go_wp2_with fail
                    go_roundw
                    case rel => exact ⟨j + 1, by omega, by go_num, ((mr.then m5).then m6).then m7⟩
                    case measure => simp [intOf]; omega
                  | true =>
                    have hbad : X.any tbBad = true := by have := may_iff (xs := X) (by have := HX12.out; omega); rw [hcov, hm1] at this; cases hb : X.any tbBad with | true => rfl | false => rw [hb] at this; simp at this
                    rw [hcov] at hco
                    go_wp2_with fail
                    refine hco.mono ?_
                    rintro _ w7 ⟨rfl, m7⟩
                    have hri := lawRight_w w7 g _ X (HX.out.moves ((m5.then m6).then m7) (by simp)) (by have := HX12.out; omega)
                    rw [hbad] at hri
                    clear hco
                    go_wp2_with fail
                    refine hri.mono ?_
                    rintro _ w8 ⟨rfl, m8⟩
                    clear hri
                    go_wp2_with fail
                    go_roundw
                    case rel => exact ⟨j + 1, by omega, by go_num, (((mr.then m5).then m6).then m7).then m8⟩
                    case measure => simp [intOf]; omega
              · have hk : ¬ (j : Int) < 4 := by omega
                go_wp2_with fail
                refine (known11_w _).mono ?_
                rintro _ w5 ⟨rfl, m5⟩
                go_wp2_with fail
                go_ret
                exact ⟨rfl, (MC.then mr).then m5⟩
        · skip
          go_wp2_with (at_builtin; refine tabs_append _ _ rfl _ _ wr.heap.size ms [⟨lo, ⟨#[]⟩, 0, 9⟩] rfl rfl rfl hO2.out hN.out hbd.out ?_; intro v' wA hO4 m4 hla; obtain ⟨adA, nA, capA, rfl, hnA⟩ := hO4.open)
          have hFA : Fresh w (.slice adA nA capA) := lain_fresh hF (mr.then mB).size hla
          have MA : Moves [] w wA := fresh_trans (mr.then mB) hF m4
          obtain ⟨mA, hmA⟩ : ∃ mA, ms ++ [(⟨lo, ⟨#[]⟩, 0, 9⟩ : Ptb)] = mA := ⟨_, rfl⟩
          have hlA : mA.length = ms.length + 1 := by rw [← hmA]; simp
          rw [hmA] at hO4 hnA
          have hms6 : ms.length ≤ 6 := by have := hO.out.2; omega
          obtain ⟨nm1, hnm⟩ : ∃ nm1, nA = nm1 + 1 := ⟨ms.length, by rw [hnA.out, hlA]⟩
          subst hnm
          have hnm6 : nm1 ≤ 6 := by have := hnA.out; omega
          obtain ⟨gm, hTm, _⟩ := hO4.ex (B := 0) (fun _ _ => Nat.zero_le _)
          have hcA : nm1 + 1 ≤ capA := hTm.len.2.1
          have hcI : (nm1 : Int) ≤ capA := by omega
          have hwr : IntKind.i64.wrap (nm1 : Int) = (nm1 : Int) := by rw [IntWalk.i64_in _ (by omega)]
          have HMa : Hid (TbL wA gm (.slice adA (nm1 + 1) capA) mA) := hTm
          have HMb : Hid (TbL wA gm (.slice adA nm1 capA) (mA.take nm1)) := by
            obtain ⟨e1, e2, e3, e4⟩ := hTm.len
            exact ⟨_, _, _, rfl, by rw [List.length_take]; omega, by omega, e3, e4.first nm1⟩
          have HLa : Hid (TbL wA g0 (.slice ad0 5 cap0) (ls0.take 5)) := HL.out.moves MA (by simp)
          have HmL : Hid (mA.length ≤ 7) := by unfold Hid; omega
          have hb1 : Hid (([] : List Ptb).length + mA.length ≤ 1048576) := by unfold Hid; simp only [List.length_nil]; omega
          have hb2 : Hid (mA.length + ((ls0.take 5)).length ≤ 1048576) := by unfold Hid; have := HLL.out; omega
          clear hO4 hTm hO2 hN hbd hO hF mr mB m4 hla hnA hlA hmA hno
          refine wp_some7 [54, 55, 56, 57, 58, 59, 60, 61, 62, 63, 64, 65, 66, 67, 68] (fun u w' => ∃ (wB : World) (ad65 : Option Addr) (n65 cap65 : Nat), u 66 = .slice (some ⟨wB.heap.size, 0, none⟩) 4 4 ∧ u 67 = .int .i64 4 ∧ u 68 = .int .i64 0 ∧ w' = wB.alloc (.cells #[.slice ad0 5 cap0, .slice adA (nm1 + 1) capA, .slice adA nm1 capA, .slice ad65 n65 cap65] 26) ∧ OwnT wB (.slice ad65 n65 cap65) (mA ++ (ls0.take 5)) ∧ Fresh wA (.slice ad65 n65 cap65) ∧ Moves [] wA wB) ?_ ?_
          · skip
            refine wp_region_noPanic ?_
            refine wp_region_held_drew (S := (fun _ => True)) (by kernel_rfl) ?_ (fun hHeld => ?_)
            · first | (go_keep; done) | trivial
            refine wpAnyH_take (i := 0) (oi := { dst := some 54, op := Op.move (Operand.tmp 0), type := 26, pos := "law.go:218", after := #[], guard := none }) (v := ?_) rfl (by kernel_rfl) (by kernel_rfl) (by kernel_rfl) (fun _ _ _ h => h) (Or.inl ⟨by rfl, ?_⟩) (by assumption) ?_
            rotate_left
            · (intro w hSw; (try dsimp only at hSw); go_simp; try (with_reducible rfl))
            try simp only [Act.put, List.setIfInBounds_toArray, List.set_cons_zero, List.set_cons_succ]
            refine wpAnyH_take (i := 1) (oi := { dst := some 55, op := Op.move (Operand.tmp 5), type := 26, pos := "law.go:218", after := #[], guard := none }) (v := ?_) rfl (by kernel_rfl) (by kernel_rfl) (by kernel_rfl) (fun _ _ _ h => h) (Or.inl ⟨by rfl, ?_⟩) (by assumption) ?_
            rotate_left
            · (intro w hSw; (try dsimp only at hSw); go_simp; try (with_reducible rfl))
            try simp only [Act.put, List.setIfInBounds_toArray, List.set_cons_zero, List.set_cons_succ]
            refine wpAnyH_take (i := 2) (oi := { dst := some 56, op := Op.move (Operand.tmp 5), type := 26, pos := "law.go:218", after := #[], guard := none }) (v := ?_) rfl (by kernel_rfl) (by kernel_rfl) (by kernel_rfl) (fun _ _ _ h => h) (Or.inl ⟨by rfl, ?_⟩) (by assumption) ?_
            rotate_left
            · (intro w hSw; (try dsimp only at hSw); go_simp; try (with_reducible rfl))
            try simp only [Act.put, List.setIfInBounds_toArray, List.set_cons_zero, List.set_cons_succ]
            refine wpAnyH_take (i := 3) (oi := { dst := some 57, op := Op.move (Operand.tmp 5), type := 26, pos := "law.go:218", after := #[], guard := none }) (v := ?_) rfl (by kernel_rfl) (by kernel_rfl) (by kernel_rfl) (fun _ _ _ h => h) (Or.inl ⟨by rfl, ?_⟩) (by assumption) ?_
            rotate_left
            · (intro w hSw; (try dsimp only at hSw); go_simp; try (with_reducible rfl))
            try simp only [Act.put, List.setIfInBounds_toArray, List.set_cons_zero, List.set_cons_succ]
            refine wpAnyH_take (i := 4) (oi := { dst := some 58, op := Op.call { callee := Callee.builtin Builtin.len, args := #[Operand.tmp 57], argTypes := #[26] }, type := 3, pos := "law.go:218", after := #[{ on := 3, ground := Ground.data }], guard := none }) (v := ?_) rfl (by kernel_rfl) (by kernel_rfl) (by kernel_rfl) (fun _ _ _ h => h) (Or.inl ⟨by rfl, ?_⟩) (by assumption) ?_
            rotate_left
            · (intro w hSw; (try dsimp only at hSw); go_simp; try (with_reducible rfl))
            try simp only [Act.put, List.setIfInBounds_toArray, List.set_cons_zero, List.set_cons_succ]
            refine wpAnyH_take (i := 5) (oi := { dst := some 59, op := Op.binOp BinOp.sub 3 (Operand.tmp 58) (Operand.const (Value.int IntKind.i64 1)) 3, type := 3, pos := "law.go:218", after := #[{ on := 4, ground := Ground.data }], guard := none }) (v := ?_) rfl (by kernel_rfl) (by kernel_rfl) (by kernel_rfl) (fun _ _ _ h => h) (Or.inl ⟨by rfl, ?_⟩) (by assumption) ?_
            rotate_left
            · (intro w hSw; (try dsimp only at hSw); go_simp; try (with_reducible rfl))
            try simp only [Act.put, List.setIfInBounds_toArray, List.set_cons_zero, List.set_cons_succ]
            refine wpAnyH_take (i := 6) (oi := { dst := some 60, op := Op.slice 26 (Operand.tmp 56) none (some (Operand.tmp 59)) none, type := 26, pos := "law.go:218", after := #[{ on := 2, ground := Ground.data }, { on := 5, ground := Ground.data }], guard := none }) (v := ?_) rfl (by kernel_rfl) (by kernel_rfl) (by kernel_rfl) (fun _ _ _ h => h) (Or.inl ⟨by rfl, ?_⟩) (by assumption) ?_
            rotate_left
            · (intro w hSw; (try dsimp only at hSw); go_simp; try (with_reducible rfl))
            try simp only [Act.put, List.setIfInBounds_toArray, List.set_cons_zero, List.set_cons_succ]
            refine wpAnyH_take (i := 8) (oi := { dst := some 62, op := Op.move (Operand.tmp 5), type := 26, pos := "law.go:218", after := #[], guard := none }) (v := ?_) rfl (by kernel_rfl) (by kernel_rfl) (by kernel_rfl) (fun _ _ _ h => h) (Or.inl ⟨by rfl, ?_⟩) (by assumption) ?_
            rotate_left
            · (intro w hSw; (try dsimp only at hSw); go_simp; try (with_reducible rfl))
            try simp only [Act.put, List.setIfInBounds_toArray, List.set_cons_zero, List.set_cons_succ]
            refine wpAnyH_take (i := 10) (oi := { dst := some 64, op := Op.move (Operand.tmp 0), type := 26, pos := "law.go:218", after := #[], guard := none }) (v := ?_) rfl (by kernel_rfl) (by kernel_rfl) (by kernel_rfl) (fun _ _ _ h => h) (Or.inl ⟨by rfl, ?_⟩) (by assumption) ?_
            rotate_left
            · (intro w hSw; (try dsimp only at hSw); go_simp; try (with_reducible rfl))
            try simp only [Act.put, List.setIfInBounds_toArray, List.set_cons_zero, List.set_cons_succ]
            refine wpAnyH_take (i := 14) (oi := { dst := some 68, op := Op.move (Operand.const (Value.int IntKind.i64 0)), type := 3, pos := "law.go:218", after := #[], guard := none }) (v := ?_) rfl (by kernel_rfl) (by kernel_rfl) (by kernel_rfl) (fun _ _ _ h => h) (Or.inl ⟨by rfl, ?_⟩) (by assumption) ?_
            rotate_left
            · (intro w hSw; (try dsimp only at hSw); go_simp; try (with_reducible rfl))
            try simp only [Act.put, List.setIfInBounds_toArray, List.set_cons_zero, List.set_cons_succ]
            refine wpAnyH_ready (rs := [7]) (by kernel_rfl) (by simp) ?_
            refine AllReadyH.cons (o := { dst := some 61, op := Op.buildSlice 26 0 #[], type := 26, pos := "law.go:218", after := #[], guard := none }) rfl (fun K hK => ?_) AllReadyH.nil
            go_simp
            obtain ⟨wa, hwa⟩ : ∃ wa, (wA.alloc (.cells #[] 25)).drew = wa := ⟨_, rfl⟩
            have hE : OwnT wa (.slice (some ⟨wA.heap.size, 0, none⟩) 0 0) [] := by rw [← hwa]; exact OwnT.empty (heap_alloc_new wA _)
            have mWa : Moves [] wA wa := by rw [← hwa]; exact ((Moves.refl _ _).alloc _).drew
            have hFE : Fresh wA (.slice (some ⟨wA.heap.size, 0, none⟩) 0 0) := fun k hk => Nat.le_of_eq (by simpa [Value.ownBlock] using hk)
            rw [hwa]
            clear hwa
            refine hK.out _ _ ?_ (fun hHeld => ?_)
            · trivial
            clear hK K
            try simp only [Act.put, List.setIfInBounds_toArray, List.set_cons_zero, List.set_cons_succ]
            refine wpAnyH_ready (rs := [9]) (by kernel_rfl) (by simp) ?_
            refine AllReadyH.cons (o := { dst := some 63, op := Op.call { callee := Callee.builtin Builtin.append, args := #[Operand.tmp 61, Operand.tmp 62], argTypes := #[26, 26] }, type := 26, pos := "law.go:218", after := #[{ on := 7, ground := Ground.data }, { on := 8, ground := Ground.data }], guard := none }) rfl (fun K hK => ?_) AllReadyH.nil
            refine tabs_wp (.tmp 61) (.tmp 62) rfl _ _ gm [] mA rfl rfl hE (HMa.out.moves mWa (by simp)) hb1.out ?_
            intro v63 w63 hO63 m63 hla63
            have hF63 : Fresh wA v63 := lain_fresh hFE mWa.size hla63
            have M63 : Moves [] wA w63 := fresh_trans mWa hFE m63
            obtain ⟨ad63, n63, cap63, rfl, hn63⟩ := hO63.open
            rw [List.nil_append] at hO63
            refine hK.out _ _ ?_ (fun hHeld => ?_)
            · trivial
            clear hK K
            try simp only [Act.put, List.setIfInBounds_toArray, List.set_cons_zero, List.set_cons_succ]
            refine wpAnyH_ready (rs := [11]) (by kernel_rfl) (by simp) ?_
            refine AllReadyH.cons (o := { dst := some 65, op := Op.call { callee := Callee.builtin Builtin.append, args := #[Operand.tmp 63, Operand.tmp 64], argTypes := #[26, 26] }, type := 26, pos := "law.go:218", after := #[{ on := 9, ground := Ground.data }, { on := 10, ground := Ground.data }, { on := 9, ground := Ground.chain }], guard := none }) rfl (fun K hK => ?_) AllReadyH.nil
            refine tabs_wp (.tmp 63) (.tmp 64) rfl _ _ g0 mA (ls0.take 5) rfl rfl hO63 (HLa.out.moves M63 (by simp)) hb2.out ?_
            intro v65 w65 hO65 m65 hla65
            have hF65 : Fresh wA v65 := lain_fresh hF63 M63.size hla65
            have M65 : Moves [] wA w65 := fresh_trans M63 hF63 m65
            obtain ⟨ad65, n65, cap65, rfl, hn65⟩ := hO65.open
            refine hK.out _ _ ?_ (fun hHeld => ?_)
            · trivial
            clear hK K
            try simp only [Act.put, List.setIfInBounds_toArray, List.set_cons_zero, List.set_cons_succ]
            refine wpAnyH_ready (rs := [12]) (by kernel_rfl) (by simp) ?_
            refine AllReadyH.cons (o := { dst := some 66, op := Op.buildSlice 27 4 #[(0, Operand.tmp 54), (1, Operand.tmp 55), (2, Operand.tmp 60), (3, Operand.tmp 65)], type := 27, pos := "law.go:218", after := #[{ on := 0, ground := Ground.data }, { on := 1, ground := Ground.data }, { on := 6, ground := Ground.data }, { on := 11, ground := Ground.data }], guard := none }) rfl (fun K hK => ?_) AllReadyH.nil
            go_simp
            refine hK.out _ _ ?_ (fun hHeld => ?_)
            · trivial
            clear hK K
            try simp only [Act.put, List.setIfInBounds_toArray, List.set_cons_zero, List.set_cons_succ]
            refine wpAnyH_take (i := 13) (oi := { dst := some 67, op := Op.call { callee := Callee.builtin Builtin.len, args := #[Operand.tmp 66], argTypes := #[27] }, type := 3, pos := "law.go:218", after := #[{ on := 12, ground := Ground.data }], guard := none }) (v := ?_) rfl (by kernel_rfl) (by kernel_rfl) (by kernel_rfl) (fun _ _ _ h => h) (Or.inl ⟨by rfl, ?_⟩) (by assumption) ?_
            rotate_left
            · (intro w hSw; (try dsimp only at hSw); go_simp; try (with_reducible rfl))
            try simp only [Act.put, List.setIfInBounds_toArray, List.set_cons_zero, List.set_cons_succ]
            refine wpAnyH_done (by kernel_rfl) ?_ _
            refine NoPanic.normal ?_
            exact ⟨rfl, by kernel_rfl, w65, ad65, n65, cap65, by kernel_rfl, by kernel_rfl, by kernel_rfl, rfl, hO65, hF65, M65⟩
          · rintro u wC ⟨wB, ad65, n65, cap65, hu66, hu67, hu68, rfl, hO65, hF65, MB⟩
            simp only [List.foldl_cons, List.foldl_nil, List.setIfInBounds_toArray, List.set_cons_zero, List.set_cons_succ, hu66, hu67, hu68]
            clear hu66 hu67 hu68
            generalize u 54 = u54
            generalize u 55 = u55
            generalize u 56 = u56
            generalize u 57 = u57
            generalize u 58 = u58
            generalize u 59 = u59
            generalize u 60 = u60
            generalize u 61 = u61
            generalize u 62 = u62
            generalize u 63 = u63
            generalize u 64 = u64
            generalize u 65 = u65
            have HLLs := HLL
            obtain ⟨g65, hT65, _⟩ := hO65.ex (B := 0) (fun _ _ => Nat.zero_le _)
            obtain ⟨wC, hwC⟩ : ∃ wC, wB.alloc (.cells #[.slice ad0 5 cap0, .slice adA (nm1 + 1) capA, .slice adA nm1 capA, .slice ad65 n65 cap65] 26) = wC := ⟨_, rfl⟩
            have mC : Moves [] wB wC := by rw [← hwC]; exact (Moves.refl _ _).alloc _
            have hb4 : wC.heap[wB.heap.size]? = some (.cells #[.slice ad0 5 cap0, .slice adA (nm1 + 1) capA, .slice adA nm1 capA, .slice ad65 n65 cap65] 26 (0, 0)) := by rw [← hwC]; exact heap_alloc_new wB _
            rw [hwC]
            have MC : Moves [] w wC := (MA.then MB).then mC
            have HC4 : Hid (∀ j, j < 4 → ∃ g adX nX capX X, wC.cell? ⟨wB.heap.size, j, none⟩ = some (.slice adX nX capX) ∧ TbL wC g (.slice adX nX capX) X ∧ X.length ≤ 12) := by
              obtain ⟨c0, c1, c2, c3, _⟩ := four_cells hb4
              have e7 := HmL.out
              have e5 := HLL.out
              intro j hj
              obtain rfl | rfl | rfl | rfl : j = 0 ∨ j = 1 ∨ j = 2 ∨ j = 3 := by omega
              · exact ⟨g0, _, _, _, _, c0, HLa.out.moves (MB.then mC) (by simp), by omega⟩
              · exact ⟨gm, _, _, _, _, c1, HMa.out.moves (MB.then mC) (by simp), by omega⟩
              · exact ⟨gm, _, _, _, _, c2, HMb.out.moves (MB.then mC) (by simp), by rw [List.length_take]; omega⟩
              · exact ⟨g65, _, _, _, _, c3, hT65.moves mC (by simp), by rw [List.length_append]; omega⟩
            clear hb4 hwC mC MB hO65 hT65 hF65 HMa HMb HLa HmL HLLs hb1 hb2 hcA hcI hwr
            generalize wB.heap.size = bb at HC4 ⊢
            go_wp2_with fail
            go_loopw [68] (fun vj wr => ∃ j : Nat, j ≤ 4 ∧ vj = .int .i64 (j : Nat) ∧ Moves [] wC wr) (fun vj _ => 4 - (intOf vj).toNat)
            case atStart => exact ⟨0, Nat.zero_le _, rfl, Moves.refl _ _⟩
            case round =>
              obtain ⟨j, hj4, rfl, mr⟩ := hrel
              by_cases hgo : j < 4
              · have hk : (j : Int) < 4 := by omega
                obtain ⟨g, adX, nX, capX, X, cX, hTX, hX12⟩ := HC4.out j hgo
                replace cX := mr.cell cX
                have HX : Hid (TbL _ g (.slice adX nX capX) X) := hTX.moves mr (by simp)
                have HX12 : Hid (X.length ≤ 12) := hX12
                clear hTX hX12
                by_cases hm : mayT X = 0
                · obtain ⟨hcov, hbad, _⟩ := may_cov hm
                  have hnew := mtNew_yes _ g _ X HX.out (by have := HX12.out; omega) hm
                  have HMY : Hid (mayT X = 0) := hm
                  have HCV : Hid (spCov (X.map Ptb.sp) = true) := hcov
                  have HBD : Hid (X.any tbBad = false) := hbad
                  clear hm hcov hbad
                  go_wp2_with fail
                  refine hnew.mono ?_
                  rintro _ w5 ⟨q, rfl, hM, hq, m5⟩
                  have HNE : Hid ( ∀ w1 : World, (binOp .neq 28 (.pointer (some ⟨q, 0, none⟩)) (.pointer none)).run Try.prog w1 = .ok (.bool true) w1) := by intro w1; kernel_rfl
                  have HM : Hid (MtIs w5 q X) := hM
                  have hsp := lawSpans_w w5 g _ X (HX.out.moves m5 (by simp)) (by have := HX12.out; omega)
                  clear hM hnew hq
                  go_wp2_with fail
                  refine hsp.mono ?_
                  rintro _ w6 ⟨vs, rfl, hOS, m6⟩
                  obtain ⟨ads, caps, rfl, hcs, _, hSs⟩ := hOS.at
                  have hco := rfCover7_w w6 ads _ caps (X.map Ptb.sp) hSs rfl (by have := HX12.out; rw [List.length_map]; omega)
                  rw [HCV.out] at hco
                  clear hOS hSs hsp hcs
                  generalize (X.map Ptb.sp).length = ns at hco ⊢
                  go_wp2_with fail
                  refine hco.mono ?_
                  rintro _ w7 ⟨rfl, m7⟩
                  have hri := lawRight_w w7 g _ X (HX.out.moves ((m5.then m6).then m7) (by simp)) (by have := HX12.out; omega)
                  rw [HBD.out] at hri
                  clear hco
                  go_wp2_with fail
                  refine hri.mono ?_
                  rintro _ w8 ⟨rfl, m8⟩
                  have hte := tells11_w w8 q X (HM.out.moves0 ((m6.then m7).then m8)) HMY.out g _ (HX.out.moves (((m5.then m6).then m7).then m8) (by simp)) ⟨#[109]⟩
                  have hne := HNE.out; clear hri
                  go_wp2_with fail
                  refine hte.mono ?_
                  rintro _ w9 ⟨rfl, m9⟩
                  go_wp2_with fail
                  go_roundw
                  case rel => exact ⟨j + 1, by omega, by go_num, ((((mr.then m5).then m6).then m7).then m8).then m9⟩
                  case measure => simp [intOf]; omega
                · have hm1 : mayT X = 1 := by have := may_iff (xs := X) (by have := HX12.out; omega); rw [this] at hm ⊢; split <;> simp_all
                  have hnew := mtNew_no _ g _ X HX.out (by have := HX12.out; omega) hm
                  rw [hm1] at hnew
                  have hne : ∀ w1 : World, (binOp .neq 28 (.pointer none) (.pointer none)).run Try.prog w1 = .ok (.bool false) w1 := by intro w1; kernel_rfl
                  go_wp2_with fail
                  refine hnew.mono ?_
                  rintro _ w5 ⟨rfl, m5⟩
                  have hsp := lawSpans_w w5 g _ X (HX.out.moves m5 (by simp)) (by have := HX12.out; omega)
                  clear hnew
                  go_wp2_with fail
                  refine hsp.mono ?_
                  rintro _ w6 ⟨vs, rfl, hOS, m6⟩
                  obtain ⟨ads, caps, rfl, hcs, _, hSs⟩ := hOS.at
                  have hco := rfCover7_w w6 ads _ caps (X.map Ptb.sp) hSs rfl (by have := HX12.out; rw [List.length_map]; omega)
                  clear hOS hSs hsp hcs
                  generalize (X.map Ptb.sp).length = ns at hco ⊢
                  cases hcov : spCov (X.map Ptb.sp) with
                  | false =>
                    rw [hcov] at hco
                    go_wp2_with fail
                    refine hco.mono ?_
                    rintro _ w7 ⟨rfl, m7⟩
                    clear hco
                    go_wp2_with fail
                    go_roundw
                    case rel => exact ⟨j + 1, by omega, by go_num, ((mr.then m5).then m6).then m7⟩
                    case measure => simp [intOf]; omega
                  | true =>
                    have hbad : X.any tbBad = true := by have := may_iff (xs := X) (by have := HX12.out; omega); rw [hcov, hm1] at this; cases hb : X.any tbBad with | true => rfl | false => rw [hb] at this; simp at this
                    rw [hcov] at hco
                    go_wp2_with fail
                    refine hco.mono ?_
                    rintro _ w7 ⟨rfl, m7⟩
                    have hri := lawRight_w w7 g _ X (HX.out.moves ((m5.then m6).then m7) (by simp)) (by have := HX12.out; omega)
                    rw [hbad] at hri
                    clear hco
                    go_wp2_with fail
                    refine hri.mono ?_
                    rintro _ w8 ⟨rfl, m8⟩
                    clear hri
                    go_wp2_with fail
                    go_roundw
                    case rel => exact ⟨j + 1, by omega, by go_num, (((mr.then m5).then m6).then m7).then m8⟩
                    case measure => simp [intOf]; omega
              · have hk : ¬ (j : Int) < 4 := by omega
                go_wp2_with fail
                refine (known11_w _).mono ?_
                rintro _ w5 ⟨rfl, m5⟩
                go_wp2_with fail
                go_ret
                exact ⟨rfl, (MC.then mr).then m5⟩
  · have h5I : ¬ (5 : Int) < n0 := by omega
    have HL : Hid (TbL w g0 (.slice ad0 n0 cap0) ls0) := HT0.out
    have HLL : Hid (ls0.length ≤ 5) := by unfold Hid; rw [← hn0.out]; omega
    go_enter Try.func5, Try.ntmps5
    go_wp2_with fail
    go_loopw [5, 6, 7] (fun vm vlo vi wr => ∃ (i : Nat) (u : Value) (lo : ByteArray) (ms : List Ptb), i ≤ 6 ∧ u = vm ∧ vlo = .string lo ∧ vi = .int .i64 (i : Nat) ∧ Hid (OwnT wr u ms ∧ ms.length ≤ i) ∧ Fresh w u ∧ Moves [] w wr) (fun _ _ vi _ => 6 - (intOf vi).toNat)
    case atStart => exact ⟨0, _, _, [], Nat.zero_le _, rfl, rfl, rfl, ⟨OwnT.nil _, Nat.le_refl _⟩, Fresh.nil _, Moves.refl _ _⟩
    case round =>
      obtain ⟨i, vo, lo, ms, hi6, rfl, rfl, rfl, hO, hF, mr⟩ := hrel
      by_cases hgo : i < lenc ∧ i < 6
      · have hk1 : (i : Int) < lenc := by omega
        have hk2 : (i : Int) < 6 := by omega
        obtain ⟨bc, oc, z, eadc, cz⟩ := HI.out i hgo.1
        subst eadc
        replace cz := mr.cell cz
        obtain ⟨nm, _, hrow⟩ := row_ds z
        obtain ⟨ado, no, capo, rfl, hno⟩ := hO.out.1.open
        go_wp2_with fail
        refine (hrow _).mono ?_
        rintro _ w2 ⟨rfl, m2⟩
        have M2 : Moves [] w w2 := mr.then m2
        cases h1 : Op.bytesLess nm.toList lo.toList with
        | false =>
          cases h2 : (nm.toList == lo.toList) with
          | false =>
            have mB : Moves [] w2 (w2.alloc (.cells #[.string lo, .string nm, .int .i64 (i : Int), .int .i64 ((i : Int) + 1)] 25)) := (Moves.refl _ _).alloc _
            have hO2 : Hid (OwnT (w2.alloc (.cells #[.string lo, .string nm, .int .i64 (i : Int), .int .i64 ((i : Int) + 1)] 25)) (.slice ado no capo) ms) := hO.out.1.moves (m2.then mB) (by simp)
            have hN : Hid (TbL (w2.alloc (.cells #[.string lo, .string nm, .int .i64 (i : Int), .int .i64 ((i : Int) + 1)] 25)) w2.heap.size (.slice (some ⟨w2.heap.size, 0, none⟩) 1 1) [⟨lo, nm, i, (i : Int) + 1⟩]) := tb_new w2 ⟨lo, nm, i, (i : Int) + 1⟩
            have hbd : Hid (ms.length + [(⟨lo, nm, i, (i : Int) + 1⟩ : Ptb)].length ≤ 1048576) := by unfold Hid; have := hO.out.2; simp only [List.length_cons, List.length_nil]; omega
            go_wp2_with (at_builtin; refine tabs_append _ _ rfl _ _ w2.heap.size ms [⟨lo, nm, i, (i : Int) + 1⟩] rfl rfl rfl hO2.out hN.out hbd.out ?_; intro v' w4 hO4 m4 hla; obtain ⟨ad5, n5, cap5, rfl, hn5⟩ := hO4.open)
            go_roundw
            case rel => exact ⟨i + 1, _, nm, _, by omega, rfl, rfl, by go_num, ⟨hO4, by have := hO.out.2; simp; omega⟩, lain_fresh hF (M2.then mB).size hla, fresh_trans (M2.then mB) hF m4⟩
            case measure => simp [intOf]; omega
          | true =>
            go_wp2_with fail
            go_roundw
            case rel => exact ⟨i + 1, _, lo, ms, by omega, rfl, rfl, by go_num, ⟨hO.out.1.moves m2 (by simp), by have := hO.out.2; omega⟩, hF, M2⟩
            case measure => simp [intOf]; omega
        | true =>
          go_wp2_with fail
          go_roundw
          case rel => exact ⟨i + 1, _, lo, ms, by omega, rfl, rfl, by go_num, ⟨hO.out.1.moves m2 (by simp), by have := hO.out.2; omega⟩, hF, M2⟩
          case measure => simp [intOf]; omega
      · have hend : ¬ (i : Int) < lenc ∨ ((i : Int) < lenc ∧ ¬ (i : Int) < 6) := by omega
        obtain ⟨ado, no, capo, rfl, hno⟩ := hO.out.1.open
        have mB : Moves [] wr (wr.alloc (.cells #[.string lo, .string ⟨#[]⟩, .int .i64 0, .int .i64 9] 25)) := (Moves.refl _ _).alloc _
        have hO2 : Hid (OwnT (wr.alloc (.cells #[.string lo, .string ⟨#[]⟩, .int .i64 0, .int .i64 9] 25)) (.slice ado no capo) ms) := hO.out.1.moves mB (by simp)
        have hN : Hid (TbL (wr.alloc (.cells #[.string lo, .string ⟨#[]⟩, .int .i64 0, .int .i64 9] 25)) wr.heap.size (.slice (some ⟨wr.heap.size, 0, none⟩) 1 1) [⟨lo, ⟨#[]⟩, 0, 9⟩]) := tb_new wr ⟨lo, ⟨#[]⟩, 0, 9⟩
        have hbd : Hid (ms.length + [(⟨lo, ⟨#[]⟩, 0, 9⟩ : Ptb)].length ≤ 1048576) := by unfold Hid; have := hO.out.2; simp only [List.length_cons, List.length_nil]; omega
        rcases hend with hk | ⟨hk1, hk2⟩
        · skip
          go_wp2_with (at_builtin; refine tabs_append _ _ rfl _ _ wr.heap.size ms [⟨lo, ⟨#[]⟩, 0, 9⟩] rfl rfl rfl hO2.out hN.out hbd.out ?_; intro v' wA hO4 m4 hla; obtain ⟨adA, nA, capA, rfl, hnA⟩ := hO4.open)
          have hFA : Fresh w (.slice adA nA capA) := lain_fresh hF (mr.then mB).size hla
          have MA : Moves [] w wA := fresh_trans (mr.then mB) hF m4
          obtain ⟨mA, hmA⟩ : ∃ mA, ms ++ [(⟨lo, ⟨#[]⟩, 0, 9⟩ : Ptb)] = mA := ⟨_, rfl⟩
          have hlA : mA.length = ms.length + 1 := by rw [← hmA]; simp
          rw [hmA] at hO4 hnA
          have hms6 : ms.length ≤ 6 := by have := hO.out.2; omega
          obtain ⟨nm1, hnm⟩ : ∃ nm1, nA = nm1 + 1 := ⟨ms.length, by rw [hnA.out, hlA]⟩
          subst hnm
          have hnm6 : nm1 ≤ 6 := by have := hnA.out; omega
          obtain ⟨gm, hTm, _⟩ := hO4.ex (B := 0) (fun _ _ => Nat.zero_le _)
          have hcA : nm1 + 1 ≤ capA := hTm.len.2.1
          have hcI : (nm1 : Int) ≤ capA := by omega
          have hwr : IntKind.i64.wrap (nm1 : Int) = (nm1 : Int) := by rw [IntWalk.i64_in _ (by omega)]
          have HMa : Hid (TbL wA gm (.slice adA (nm1 + 1) capA) mA) := hTm
          have HMb : Hid (TbL wA gm (.slice adA nm1 capA) (mA.take nm1)) := by
            obtain ⟨e1, e2, e3, e4⟩ := hTm.len
            exact ⟨_, _, _, rfl, by rw [List.length_take]; omega, by omega, e3, e4.first nm1⟩
          have HLa : Hid (TbL wA g0 (.slice ad0 n0 cap0) ls0) := HL.out.moves MA (by simp)
          have HmL : Hid (mA.length ≤ 7) := by unfold Hid; omega
          have hb1 : Hid (([] : List Ptb).length + mA.length ≤ 1048576) := by unfold Hid; simp only [List.length_nil]; omega
          have hb2 : Hid (mA.length + (ls0).length ≤ 1048576) := by unfold Hid; have := HLL.out; omega
          clear hO4 hTm hO2 hN hbd hO hF mr mB m4 hla hnA hlA hmA hno
          refine wp_some7 [54, 55, 56, 57, 58, 59, 60, 61, 62, 63, 64, 65, 66, 67, 68] (fun u w' => ∃ (wB : World) (ad65 : Option Addr) (n65 cap65 : Nat), u 66 = .slice (some ⟨wB.heap.size, 0, none⟩) 4 4 ∧ u 67 = .int .i64 4 ∧ u 68 = .int .i64 0 ∧ w' = wB.alloc (.cells #[.slice ad0 n0 cap0, .slice adA (nm1 + 1) capA, .slice adA nm1 capA, .slice ad65 n65 cap65] 26) ∧ OwnT wB (.slice ad65 n65 cap65) (mA ++ ls0) ∧ Fresh wA (.slice ad65 n65 cap65) ∧ Moves [] wA wB) ?_ ?_
          · skip
            refine wp_region_noPanic ?_
            refine wp_region_held_drew (S := (fun _ => True)) (by kernel_rfl) ?_ (fun hHeld => ?_)
            · first | (go_keep; done) | trivial
            refine wpAnyH_take (i := 0) (oi := { dst := some 54, op := Op.move (Operand.tmp 0), type := 26, pos := "law.go:218", after := #[], guard := none }) (v := ?_) rfl (by kernel_rfl) (by kernel_rfl) (by kernel_rfl) (fun _ _ _ h => h) (Or.inl ⟨by rfl, ?_⟩) (by assumption) ?_
            rotate_left
            · (intro w hSw; (try dsimp only at hSw); go_simp; try (with_reducible rfl))
            try simp only [Act.put, List.setIfInBounds_toArray, List.set_cons_zero, List.set_cons_succ]
            refine wpAnyH_take (i := 1) (oi := { dst := some 55, op := Op.move (Operand.tmp 5), type := 26, pos := "law.go:218", after := #[], guard := none }) (v := ?_) rfl (by kernel_rfl) (by kernel_rfl) (by kernel_rfl) (fun _ _ _ h => h) (Or.inl ⟨by rfl, ?_⟩) (by assumption) ?_
            rotate_left
            · (intro w hSw; (try dsimp only at hSw); go_simp; try (with_reducible rfl))
            try simp only [Act.put, List.setIfInBounds_toArray, List.set_cons_zero, List.set_cons_succ]
            refine wpAnyH_take (i := 2) (oi := { dst := some 56, op := Op.move (Operand.tmp 5), type := 26, pos := "law.go:218", after := #[], guard := none }) (v := ?_) rfl (by kernel_rfl) (by kernel_rfl) (by kernel_rfl) (fun _ _ _ h => h) (Or.inl ⟨by rfl, ?_⟩) (by assumption) ?_
            rotate_left
            · (intro w hSw; (try dsimp only at hSw); go_simp; try (with_reducible rfl))
            try simp only [Act.put, List.setIfInBounds_toArray, List.set_cons_zero, List.set_cons_succ]
            refine wpAnyH_take (i := 3) (oi := { dst := some 57, op := Op.move (Operand.tmp 5), type := 26, pos := "law.go:218", after := #[], guard := none }) (v := ?_) rfl (by kernel_rfl) (by kernel_rfl) (by kernel_rfl) (fun _ _ _ h => h) (Or.inl ⟨by rfl, ?_⟩) (by assumption) ?_
            rotate_left
            · (intro w hSw; (try dsimp only at hSw); go_simp; try (with_reducible rfl))
            try simp only [Act.put, List.setIfInBounds_toArray, List.set_cons_zero, List.set_cons_succ]
            refine wpAnyH_take (i := 4) (oi := { dst := some 58, op := Op.call { callee := Callee.builtin Builtin.len, args := #[Operand.tmp 57], argTypes := #[26] }, type := 3, pos := "law.go:218", after := #[{ on := 3, ground := Ground.data }], guard := none }) (v := ?_) rfl (by kernel_rfl) (by kernel_rfl) (by kernel_rfl) (fun _ _ _ h => h) (Or.inl ⟨by rfl, ?_⟩) (by assumption) ?_
            rotate_left
            · (intro w hSw; (try dsimp only at hSw); go_simp; try (with_reducible rfl))
            try simp only [Act.put, List.setIfInBounds_toArray, List.set_cons_zero, List.set_cons_succ]
            refine wpAnyH_take (i := 5) (oi := { dst := some 59, op := Op.binOp BinOp.sub 3 (Operand.tmp 58) (Operand.const (Value.int IntKind.i64 1)) 3, type := 3, pos := "law.go:218", after := #[{ on := 4, ground := Ground.data }], guard := none }) (v := ?_) rfl (by kernel_rfl) (by kernel_rfl) (by kernel_rfl) (fun _ _ _ h => h) (Or.inl ⟨by rfl, ?_⟩) (by assumption) ?_
            rotate_left
            · (intro w hSw; (try dsimp only at hSw); go_simp; try (with_reducible rfl))
            try simp only [Act.put, List.setIfInBounds_toArray, List.set_cons_zero, List.set_cons_succ]
            refine wpAnyH_take (i := 6) (oi := { dst := some 60, op := Op.slice 26 (Operand.tmp 56) none (some (Operand.tmp 59)) none, type := 26, pos := "law.go:218", after := #[{ on := 2, ground := Ground.data }, { on := 5, ground := Ground.data }], guard := none }) (v := ?_) rfl (by kernel_rfl) (by kernel_rfl) (by kernel_rfl) (fun _ _ _ h => h) (Or.inl ⟨by rfl, ?_⟩) (by assumption) ?_
            rotate_left
            · (intro w hSw; (try dsimp only at hSw); go_simp; try (with_reducible rfl))
            try simp only [Act.put, List.setIfInBounds_toArray, List.set_cons_zero, List.set_cons_succ]
            refine wpAnyH_take (i := 8) (oi := { dst := some 62, op := Op.move (Operand.tmp 5), type := 26, pos := "law.go:218", after := #[], guard := none }) (v := ?_) rfl (by kernel_rfl) (by kernel_rfl) (by kernel_rfl) (fun _ _ _ h => h) (Or.inl ⟨by rfl, ?_⟩) (by assumption) ?_
            rotate_left
            · (intro w hSw; (try dsimp only at hSw); go_simp; try (with_reducible rfl))
            try simp only [Act.put, List.setIfInBounds_toArray, List.set_cons_zero, List.set_cons_succ]
            refine wpAnyH_take (i := 10) (oi := { dst := some 64, op := Op.move (Operand.tmp 0), type := 26, pos := "law.go:218", after := #[], guard := none }) (v := ?_) rfl (by kernel_rfl) (by kernel_rfl) (by kernel_rfl) (fun _ _ _ h => h) (Or.inl ⟨by rfl, ?_⟩) (by assumption) ?_
            rotate_left
            · (intro w hSw; (try dsimp only at hSw); go_simp; try (with_reducible rfl))
            try simp only [Act.put, List.setIfInBounds_toArray, List.set_cons_zero, List.set_cons_succ]
            refine wpAnyH_take (i := 14) (oi := { dst := some 68, op := Op.move (Operand.const (Value.int IntKind.i64 0)), type := 3, pos := "law.go:218", after := #[], guard := none }) (v := ?_) rfl (by kernel_rfl) (by kernel_rfl) (by kernel_rfl) (fun _ _ _ h => h) (Or.inl ⟨by rfl, ?_⟩) (by assumption) ?_
            rotate_left
            · (intro w hSw; (try dsimp only at hSw); go_simp; try (with_reducible rfl))
            try simp only [Act.put, List.setIfInBounds_toArray, List.set_cons_zero, List.set_cons_succ]
            refine wpAnyH_ready (rs := [7]) (by kernel_rfl) (by simp) ?_
            refine AllReadyH.cons (o := { dst := some 61, op := Op.buildSlice 26 0 #[], type := 26, pos := "law.go:218", after := #[], guard := none }) rfl (fun K hK => ?_) AllReadyH.nil
            go_simp
            obtain ⟨wa, hwa⟩ : ∃ wa, (wA.alloc (.cells #[] 25)).drew = wa := ⟨_, rfl⟩
            have hE : OwnT wa (.slice (some ⟨wA.heap.size, 0, none⟩) 0 0) [] := by rw [← hwa]; exact OwnT.empty (heap_alloc_new wA _)
            have mWa : Moves [] wA wa := by rw [← hwa]; exact ((Moves.refl _ _).alloc _).drew
            have hFE : Fresh wA (.slice (some ⟨wA.heap.size, 0, none⟩) 0 0) := fun k hk => Nat.le_of_eq (by simpa [Value.ownBlock] using hk)
            rw [hwa]
            clear hwa
            refine hK.out _ _ ?_ (fun hHeld => ?_)
            · trivial
            clear hK K
            try simp only [Act.put, List.setIfInBounds_toArray, List.set_cons_zero, List.set_cons_succ]
            refine wpAnyH_ready (rs := [9]) (by kernel_rfl) (by simp) ?_
            refine AllReadyH.cons (o := { dst := some 63, op := Op.call { callee := Callee.builtin Builtin.append, args := #[Operand.tmp 61, Operand.tmp 62], argTypes := #[26, 26] }, type := 26, pos := "law.go:218", after := #[{ on := 7, ground := Ground.data }, { on := 8, ground := Ground.data }], guard := none }) rfl (fun K hK => ?_) AllReadyH.nil
            refine tabs_wp (.tmp 61) (.tmp 62) rfl _ _ gm [] mA rfl rfl hE (HMa.out.moves mWa (by simp)) hb1.out ?_
            intro v63 w63 hO63 m63 hla63
            have hF63 : Fresh wA v63 := lain_fresh hFE mWa.size hla63
            have M63 : Moves [] wA w63 := fresh_trans mWa hFE m63
            obtain ⟨ad63, n63, cap63, rfl, hn63⟩ := hO63.open
            rw [List.nil_append] at hO63
            refine hK.out _ _ ?_ (fun hHeld => ?_)
            · trivial
            clear hK K
            try simp only [Act.put, List.setIfInBounds_toArray, List.set_cons_zero, List.set_cons_succ]
            refine wpAnyH_ready (rs := [11]) (by kernel_rfl) (by simp) ?_
            refine AllReadyH.cons (o := { dst := some 65, op := Op.call { callee := Callee.builtin Builtin.append, args := #[Operand.tmp 63, Operand.tmp 64], argTypes := #[26, 26] }, type := 26, pos := "law.go:218", after := #[{ on := 9, ground := Ground.data }, { on := 10, ground := Ground.data }, { on := 9, ground := Ground.chain }], guard := none }) rfl (fun K hK => ?_) AllReadyH.nil
            refine tabs_wp (.tmp 63) (.tmp 64) rfl _ _ g0 mA ls0 rfl rfl hO63 (HLa.out.moves M63 (by simp)) hb2.out ?_
            intro v65 w65 hO65 m65 hla65
            have hF65 : Fresh wA v65 := lain_fresh hF63 M63.size hla65
            have M65 : Moves [] wA w65 := fresh_trans M63 hF63 m65
            obtain ⟨ad65, n65, cap65, rfl, hn65⟩ := hO65.open
            refine hK.out _ _ ?_ (fun hHeld => ?_)
            · trivial
            clear hK K
            try simp only [Act.put, List.setIfInBounds_toArray, List.set_cons_zero, List.set_cons_succ]
            refine wpAnyH_ready (rs := [12]) (by kernel_rfl) (by simp) ?_
            refine AllReadyH.cons (o := { dst := some 66, op := Op.buildSlice 27 4 #[(0, Operand.tmp 54), (1, Operand.tmp 55), (2, Operand.tmp 60), (3, Operand.tmp 65)], type := 27, pos := "law.go:218", after := #[{ on := 0, ground := Ground.data }, { on := 1, ground := Ground.data }, { on := 6, ground := Ground.data }, { on := 11, ground := Ground.data }], guard := none }) rfl (fun K hK => ?_) AllReadyH.nil
            go_simp
            refine hK.out _ _ ?_ (fun hHeld => ?_)
            · trivial
            clear hK K
            try simp only [Act.put, List.setIfInBounds_toArray, List.set_cons_zero, List.set_cons_succ]
            refine wpAnyH_take (i := 13) (oi := { dst := some 67, op := Op.call { callee := Callee.builtin Builtin.len, args := #[Operand.tmp 66], argTypes := #[27] }, type := 3, pos := "law.go:218", after := #[{ on := 12, ground := Ground.data }], guard := none }) (v := ?_) rfl (by kernel_rfl) (by kernel_rfl) (by kernel_rfl) (fun _ _ _ h => h) (Or.inl ⟨by rfl, ?_⟩) (by assumption) ?_
            rotate_left
            · (intro w hSw; (try dsimp only at hSw); go_simp; try (with_reducible rfl))
            try simp only [Act.put, List.setIfInBounds_toArray, List.set_cons_zero, List.set_cons_succ]
            refine wpAnyH_done (by kernel_rfl) ?_ _
            refine NoPanic.normal ?_
            exact ⟨rfl, by kernel_rfl, w65, ad65, n65, cap65, by kernel_rfl, by kernel_rfl, by kernel_rfl, rfl, hO65, hF65, M65⟩
          · rintro u wC ⟨wB, ad65, n65, cap65, hu66, hu67, hu68, rfl, hO65, hF65, MB⟩
            simp only [List.foldl_cons, List.foldl_nil, List.setIfInBounds_toArray, List.set_cons_zero, List.set_cons_succ, hu66, hu67, hu68]
            clear hu66 hu67 hu68
            generalize u 54 = u54
            generalize u 55 = u55
            generalize u 56 = u56
            generalize u 57 = u57
            generalize u 58 = u58
            generalize u 59 = u59
            generalize u 60 = u60
            generalize u 61 = u61
            generalize u 62 = u62
            generalize u 63 = u63
            generalize u 64 = u64
            generalize u 65 = u65
            have HLLs := HLL
            obtain ⟨g65, hT65, _⟩ := hO65.ex (B := 0) (fun _ _ => Nat.zero_le _)
            obtain ⟨wC, hwC⟩ : ∃ wC, wB.alloc (.cells #[.slice ad0 n0 cap0, .slice adA (nm1 + 1) capA, .slice adA nm1 capA, .slice ad65 n65 cap65] 26) = wC := ⟨_, rfl⟩
            have mC : Moves [] wB wC := by rw [← hwC]; exact (Moves.refl _ _).alloc _
            have hb4 : wC.heap[wB.heap.size]? = some (.cells #[.slice ad0 n0 cap0, .slice adA (nm1 + 1) capA, .slice adA nm1 capA, .slice ad65 n65 cap65] 26 (0, 0)) := by rw [← hwC]; exact heap_alloc_new wB _
            rw [hwC]
            have MC : Moves [] w wC := (MA.then MB).then mC
            have HC4 : Hid (∀ j, j < 4 → ∃ g adX nX capX X, wC.cell? ⟨wB.heap.size, j, none⟩ = some (.slice adX nX capX) ∧ TbL wC g (.slice adX nX capX) X ∧ X.length ≤ 12) := by
              obtain ⟨c0, c1, c2, c3, _⟩ := four_cells hb4
              have e7 := HmL.out
              have e5 := HLL.out
              intro j hj
              obtain rfl | rfl | rfl | rfl : j = 0 ∨ j = 1 ∨ j = 2 ∨ j = 3 := by omega
              · exact ⟨g0, _, _, _, _, c0, HLa.out.moves (MB.then mC) (by simp), by omega⟩
              · exact ⟨gm, _, _, _, _, c1, HMa.out.moves (MB.then mC) (by simp), by omega⟩
              · exact ⟨gm, _, _, _, _, c2, HMb.out.moves (MB.then mC) (by simp), by rw [List.length_take]; omega⟩
              · exact ⟨g65, _, _, _, _, c3, hT65.moves mC (by simp), by rw [List.length_append]; omega⟩
            clear hb4 hwC mC MB hO65 hT65 hF65 HMa HMb HLa HmL HLLs hb1 hb2 hcA hcI hwr
            generalize wB.heap.size = bb at HC4 ⊢
            go_wp2_with fail
            go_loopw [68] (fun vj wr => ∃ j : Nat, j ≤ 4 ∧ vj = .int .i64 (j : Nat) ∧ Moves [] wC wr) (fun vj _ => 4 - (intOf vj).toNat)
            case atStart => exact ⟨0, Nat.zero_le _, rfl, Moves.refl _ _⟩
            case round =>
              obtain ⟨j, hj4, rfl, mr⟩ := hrel
              by_cases hgo : j < 4
              · have hk : (j : Int) < 4 := by omega
                obtain ⟨g, adX, nX, capX, X, cX, hTX, hX12⟩ := HC4.out j hgo
                replace cX := mr.cell cX
                have HX : Hid (TbL _ g (.slice adX nX capX) X) := hTX.moves mr (by simp)
                have HX12 : Hid (X.length ≤ 12) := hX12
                clear hTX hX12
                by_cases hm : mayT X = 0
                · obtain ⟨hcov, hbad, _⟩ := may_cov hm
                  have hnew := mtNew_yes _ g _ X HX.out (by have := HX12.out; omega) hm
                  have HMY : Hid (mayT X = 0) := hm
                  have HCV : Hid (spCov (X.map Ptb.sp) = true) := hcov
                  have HBD : Hid (X.any tbBad = false) := hbad
                  clear hm hcov hbad
                  go_wp2_with fail
                  refine hnew.mono ?_
                  rintro _ w5 ⟨q, rfl, hM, hq, m5⟩
                  have HNE : Hid ( ∀ w1 : World, (binOp .neq 28 (.pointer (some ⟨q, 0, none⟩)) (.pointer none)).run Try.prog w1 = .ok (.bool true) w1) := by intro w1; kernel_rfl
                  have HM : Hid (MtIs w5 q X) := hM
                  have hsp := lawSpans_w w5 g _ X (HX.out.moves m5 (by simp)) (by have := HX12.out; omega)
                  clear hM hnew hq
                  go_wp2_with fail
                  refine hsp.mono ?_
                  rintro _ w6 ⟨vs, rfl, hOS, m6⟩
                  obtain ⟨ads, caps, rfl, hcs, _, hSs⟩ := hOS.at
                  have hco := rfCover7_w w6 ads _ caps (X.map Ptb.sp) hSs rfl (by have := HX12.out; rw [List.length_map]; omega)
                  rw [HCV.out] at hco
                  clear hOS hSs hsp hcs
                  generalize (X.map Ptb.sp).length = ns at hco ⊢
                  go_wp2_with fail
                  refine hco.mono ?_
                  rintro _ w7 ⟨rfl, m7⟩
                  have hri := lawRight_w w7 g _ X (HX.out.moves ((m5.then m6).then m7) (by simp)) (by have := HX12.out; omega)
                  rw [HBD.out] at hri
                  clear hco
                  go_wp2_with fail
                  refine hri.mono ?_
                  rintro _ w8 ⟨rfl, m8⟩
                  have hte := tells11_w w8 q X (HM.out.moves0 ((m6.then m7).then m8)) HMY.out g _ (HX.out.moves (((m5.then m6).then m7).then m8) (by simp)) ⟨#[109]⟩
                  have hne := HNE.out; clear hri
                  go_wp2_with fail
                  refine hte.mono ?_
                  rintro _ w9 ⟨rfl, m9⟩
                  go_wp2_with fail
                  go_roundw
                  case rel => exact ⟨j + 1, by omega, by go_num, ((((mr.then m5).then m6).then m7).then m8).then m9⟩
                  case measure => simp [intOf]; omega
                · have hm1 : mayT X = 1 := by have := may_iff (xs := X) (by have := HX12.out; omega); rw [this] at hm ⊢; split <;> simp_all
                  have hnew := mtNew_no _ g _ X HX.out (by have := HX12.out; omega) hm
                  rw [hm1] at hnew
                  have hne : ∀ w1 : World, (binOp .neq 28 (.pointer none) (.pointer none)).run Try.prog w1 = .ok (.bool false) w1 := by intro w1; kernel_rfl
                  go_wp2_with fail
                  refine hnew.mono ?_
                  rintro _ w5 ⟨rfl, m5⟩
                  have hsp := lawSpans_w w5 g _ X (HX.out.moves m5 (by simp)) (by have := HX12.out; omega)
                  clear hnew
                  go_wp2_with fail
                  refine hsp.mono ?_
                  rintro _ w6 ⟨vs, rfl, hOS, m6⟩
                  obtain ⟨ads, caps, rfl, hcs, _, hSs⟩ := hOS.at
                  have hco := rfCover7_w w6 ads _ caps (X.map Ptb.sp) hSs rfl (by have := HX12.out; rw [List.length_map]; omega)
                  clear hOS hSs hsp hcs
                  generalize (X.map Ptb.sp).length = ns at hco ⊢
                  cases hcov : spCov (X.map Ptb.sp) with
                  | false =>
                    rw [hcov] at hco
                    go_wp2_with fail
                    refine hco.mono ?_
                    rintro _ w7 ⟨rfl, m7⟩
                    clear hco
                    go_wp2_with fail
                    go_roundw
                    case rel => exact ⟨j + 1, by omega, by go_num, ((mr.then m5).then m6).then m7⟩
                    case measure => simp [intOf]; omega
                  | true =>
                    have hbad : X.any tbBad = true := by have := may_iff (xs := X) (by have := HX12.out; omega); rw [hcov, hm1] at this; cases hb : X.any tbBad with | true => rfl | false => rw [hb] at this; simp at this
                    rw [hcov] at hco
                    go_wp2_with fail
                    refine hco.mono ?_
                    rintro _ w7 ⟨rfl, m7⟩
                    have hri := lawRight_w w7 g _ X (HX.out.moves ((m5.then m6).then m7) (by simp)) (by have := HX12.out; omega)
                    rw [hbad] at hri
                    clear hco
                    go_wp2_with fail
                    refine hri.mono ?_
                    rintro _ w8 ⟨rfl, m8⟩
                    clear hri
                    go_wp2_with fail
                    go_roundw
                    case rel => exact ⟨j + 1, by omega, by go_num, (((mr.then m5).then m6).then m7).then m8⟩
                    case measure => simp [intOf]; omega
              · have hk : ¬ (j : Int) < 4 := by omega
                go_wp2_with fail
                refine (known11_w _).mono ?_
                rintro _ w5 ⟨rfl, m5⟩
                go_wp2_with fail
                go_ret
                exact ⟨rfl, (MC.then mr).then m5⟩
        · skip
          go_wp2_with (at_builtin; refine tabs_append _ _ rfl _ _ wr.heap.size ms [⟨lo, ⟨#[]⟩, 0, 9⟩] rfl rfl rfl hO2.out hN.out hbd.out ?_; intro v' wA hO4 m4 hla; obtain ⟨adA, nA, capA, rfl, hnA⟩ := hO4.open)
          have hFA : Fresh w (.slice adA nA capA) := lain_fresh hF (mr.then mB).size hla
          have MA : Moves [] w wA := fresh_trans (mr.then mB) hF m4
          obtain ⟨mA, hmA⟩ : ∃ mA, ms ++ [(⟨lo, ⟨#[]⟩, 0, 9⟩ : Ptb)] = mA := ⟨_, rfl⟩
          have hlA : mA.length = ms.length + 1 := by rw [← hmA]; simp
          rw [hmA] at hO4 hnA
          have hms6 : ms.length ≤ 6 := by have := hO.out.2; omega
          obtain ⟨nm1, hnm⟩ : ∃ nm1, nA = nm1 + 1 := ⟨ms.length, by rw [hnA.out, hlA]⟩
          subst hnm
          have hnm6 : nm1 ≤ 6 := by have := hnA.out; omega
          obtain ⟨gm, hTm, _⟩ := hO4.ex (B := 0) (fun _ _ => Nat.zero_le _)
          have hcA : nm1 + 1 ≤ capA := hTm.len.2.1
          have hcI : (nm1 : Int) ≤ capA := by omega
          have hwr : IntKind.i64.wrap (nm1 : Int) = (nm1 : Int) := by rw [IntWalk.i64_in _ (by omega)]
          have HMa : Hid (TbL wA gm (.slice adA (nm1 + 1) capA) mA) := hTm
          have HMb : Hid (TbL wA gm (.slice adA nm1 capA) (mA.take nm1)) := by
            obtain ⟨e1, e2, e3, e4⟩ := hTm.len
            exact ⟨_, _, _, rfl, by rw [List.length_take]; omega, by omega, e3, e4.first nm1⟩
          have HLa : Hid (TbL wA g0 (.slice ad0 n0 cap0) ls0) := HL.out.moves MA (by simp)
          have HmL : Hid (mA.length ≤ 7) := by unfold Hid; omega
          have hb1 : Hid (([] : List Ptb).length + mA.length ≤ 1048576) := by unfold Hid; simp only [List.length_nil]; omega
          have hb2 : Hid (mA.length + (ls0).length ≤ 1048576) := by unfold Hid; have := HLL.out; omega
          clear hO4 hTm hO2 hN hbd hO hF mr mB m4 hla hnA hlA hmA hno
          refine wp_some7 [54, 55, 56, 57, 58, 59, 60, 61, 62, 63, 64, 65, 66, 67, 68] (fun u w' => ∃ (wB : World) (ad65 : Option Addr) (n65 cap65 : Nat), u 66 = .slice (some ⟨wB.heap.size, 0, none⟩) 4 4 ∧ u 67 = .int .i64 4 ∧ u 68 = .int .i64 0 ∧ w' = wB.alloc (.cells #[.slice ad0 n0 cap0, .slice adA (nm1 + 1) capA, .slice adA nm1 capA, .slice ad65 n65 cap65] 26) ∧ OwnT wB (.slice ad65 n65 cap65) (mA ++ ls0) ∧ Fresh wA (.slice ad65 n65 cap65) ∧ Moves [] wA wB) ?_ ?_
          · skip
            refine wp_region_noPanic ?_
            refine wp_region_held_drew (S := (fun _ => True)) (by kernel_rfl) ?_ (fun hHeld => ?_)
            · first | (go_keep; done) | trivial
            refine wpAnyH_take (i := 0) (oi := { dst := some 54, op := Op.move (Operand.tmp 0), type := 26, pos := "law.go:218", after := #[], guard := none }) (v := ?_) rfl (by kernel_rfl) (by kernel_rfl) (by kernel_rfl) (fun _ _ _ h => h) (Or.inl ⟨by rfl, ?_⟩) (by assumption) ?_
            rotate_left
            · (intro w hSw; (try dsimp only at hSw); go_simp; try (with_reducible rfl))
            try simp only [Act.put, List.setIfInBounds_toArray, List.set_cons_zero, List.set_cons_succ]
            refine wpAnyH_take (i := 1) (oi := { dst := some 55, op := Op.move (Operand.tmp 5), type := 26, pos := "law.go:218", after := #[], guard := none }) (v := ?_) rfl (by kernel_rfl) (by kernel_rfl) (by kernel_rfl) (fun _ _ _ h => h) (Or.inl ⟨by rfl, ?_⟩) (by assumption) ?_
            rotate_left
            · (intro w hSw; (try dsimp only at hSw); go_simp; try (with_reducible rfl))
            try simp only [Act.put, List.setIfInBounds_toArray, List.set_cons_zero, List.set_cons_succ]
            refine wpAnyH_take (i := 2) (oi := { dst := some 56, op := Op.move (Operand.tmp 5), type := 26, pos := "law.go:218", after := #[], guard := none }) (v := ?_) rfl (by kernel_rfl) (by kernel_rfl) (by kernel_rfl) (fun _ _ _ h => h) (Or.inl ⟨by rfl, ?_⟩) (by assumption) ?_
            rotate_left
            · (intro w hSw; (try dsimp only at hSw); go_simp; try (with_reducible rfl))
            try simp only [Act.put, List.setIfInBounds_toArray, List.set_cons_zero, List.set_cons_succ]
            refine wpAnyH_take (i := 3) (oi := { dst := some 57, op := Op.move (Operand.tmp 5), type := 26, pos := "law.go:218", after := #[], guard := none }) (v := ?_) rfl (by kernel_rfl) (by kernel_rfl) (by kernel_rfl) (fun _ _ _ h => h) (Or.inl ⟨by rfl, ?_⟩) (by assumption) ?_
            rotate_left
            · (intro w hSw; (try dsimp only at hSw); go_simp; try (with_reducible rfl))
            try simp only [Act.put, List.setIfInBounds_toArray, List.set_cons_zero, List.set_cons_succ]
            refine wpAnyH_take (i := 4) (oi := { dst := some 58, op := Op.call { callee := Callee.builtin Builtin.len, args := #[Operand.tmp 57], argTypes := #[26] }, type := 3, pos := "law.go:218", after := #[{ on := 3, ground := Ground.data }], guard := none }) (v := ?_) rfl (by kernel_rfl) (by kernel_rfl) (by kernel_rfl) (fun _ _ _ h => h) (Or.inl ⟨by rfl, ?_⟩) (by assumption) ?_
            rotate_left
            · (intro w hSw; (try dsimp only at hSw); go_simp; try (with_reducible rfl))
            try simp only [Act.put, List.setIfInBounds_toArray, List.set_cons_zero, List.set_cons_succ]
            refine wpAnyH_take (i := 5) (oi := { dst := some 59, op := Op.binOp BinOp.sub 3 (Operand.tmp 58) (Operand.const (Value.int IntKind.i64 1)) 3, type := 3, pos := "law.go:218", after := #[{ on := 4, ground := Ground.data }], guard := none }) (v := ?_) rfl (by kernel_rfl) (by kernel_rfl) (by kernel_rfl) (fun _ _ _ h => h) (Or.inl ⟨by rfl, ?_⟩) (by assumption) ?_
            rotate_left
            · (intro w hSw; (try dsimp only at hSw); go_simp; try (with_reducible rfl))
            try simp only [Act.put, List.setIfInBounds_toArray, List.set_cons_zero, List.set_cons_succ]
            refine wpAnyH_take (i := 6) (oi := { dst := some 60, op := Op.slice 26 (Operand.tmp 56) none (some (Operand.tmp 59)) none, type := 26, pos := "law.go:218", after := #[{ on := 2, ground := Ground.data }, { on := 5, ground := Ground.data }], guard := none }) (v := ?_) rfl (by kernel_rfl) (by kernel_rfl) (by kernel_rfl) (fun _ _ _ h => h) (Or.inl ⟨by rfl, ?_⟩) (by assumption) ?_
            rotate_left
            · (intro w hSw; (try dsimp only at hSw); go_simp; try (with_reducible rfl))
            try simp only [Act.put, List.setIfInBounds_toArray, List.set_cons_zero, List.set_cons_succ]
            refine wpAnyH_take (i := 8) (oi := { dst := some 62, op := Op.move (Operand.tmp 5), type := 26, pos := "law.go:218", after := #[], guard := none }) (v := ?_) rfl (by kernel_rfl) (by kernel_rfl) (by kernel_rfl) (fun _ _ _ h => h) (Or.inl ⟨by rfl, ?_⟩) (by assumption) ?_
            rotate_left
            · (intro w hSw; (try dsimp only at hSw); go_simp; try (with_reducible rfl))
            try simp only [Act.put, List.setIfInBounds_toArray, List.set_cons_zero, List.set_cons_succ]
            refine wpAnyH_take (i := 10) (oi := { dst := some 64, op := Op.move (Operand.tmp 0), type := 26, pos := "law.go:218", after := #[], guard := none }) (v := ?_) rfl (by kernel_rfl) (by kernel_rfl) (by kernel_rfl) (fun _ _ _ h => h) (Or.inl ⟨by rfl, ?_⟩) (by assumption) ?_
            rotate_left
            · (intro w hSw; (try dsimp only at hSw); go_simp; try (with_reducible rfl))
            try simp only [Act.put, List.setIfInBounds_toArray, List.set_cons_zero, List.set_cons_succ]
            refine wpAnyH_take (i := 14) (oi := { dst := some 68, op := Op.move (Operand.const (Value.int IntKind.i64 0)), type := 3, pos := "law.go:218", after := #[], guard := none }) (v := ?_) rfl (by kernel_rfl) (by kernel_rfl) (by kernel_rfl) (fun _ _ _ h => h) (Or.inl ⟨by rfl, ?_⟩) (by assumption) ?_
            rotate_left
            · (intro w hSw; (try dsimp only at hSw); go_simp; try (with_reducible rfl))
            try simp only [Act.put, List.setIfInBounds_toArray, List.set_cons_zero, List.set_cons_succ]
            refine wpAnyH_ready (rs := [7]) (by kernel_rfl) (by simp) ?_
            refine AllReadyH.cons (o := { dst := some 61, op := Op.buildSlice 26 0 #[], type := 26, pos := "law.go:218", after := #[], guard := none }) rfl (fun K hK => ?_) AllReadyH.nil
            go_simp
            obtain ⟨wa, hwa⟩ : ∃ wa, (wA.alloc (.cells #[] 25)).drew = wa := ⟨_, rfl⟩
            have hE : OwnT wa (.slice (some ⟨wA.heap.size, 0, none⟩) 0 0) [] := by rw [← hwa]; exact OwnT.empty (heap_alloc_new wA _)
            have mWa : Moves [] wA wa := by rw [← hwa]; exact ((Moves.refl _ _).alloc _).drew
            have hFE : Fresh wA (.slice (some ⟨wA.heap.size, 0, none⟩) 0 0) := fun k hk => Nat.le_of_eq (by simpa [Value.ownBlock] using hk)
            rw [hwa]
            clear hwa
            refine hK.out _ _ ?_ (fun hHeld => ?_)
            · trivial
            clear hK K
            try simp only [Act.put, List.setIfInBounds_toArray, List.set_cons_zero, List.set_cons_succ]
            refine wpAnyH_ready (rs := [9]) (by kernel_rfl) (by simp) ?_
            refine AllReadyH.cons (o := { dst := some 63, op := Op.call { callee := Callee.builtin Builtin.append, args := #[Operand.tmp 61, Operand.tmp 62], argTypes := #[26, 26] }, type := 26, pos := "law.go:218", after := #[{ on := 7, ground := Ground.data }, { on := 8, ground := Ground.data }], guard := none }) rfl (fun K hK => ?_) AllReadyH.nil
            refine tabs_wp (.tmp 61) (.tmp 62) rfl _ _ gm [] mA rfl rfl hE (HMa.out.moves mWa (by simp)) hb1.out ?_
            intro v63 w63 hO63 m63 hla63
            have hF63 : Fresh wA v63 := lain_fresh hFE mWa.size hla63
            have M63 : Moves [] wA w63 := fresh_trans mWa hFE m63
            obtain ⟨ad63, n63, cap63, rfl, hn63⟩ := hO63.open
            rw [List.nil_append] at hO63
            refine hK.out _ _ ?_ (fun hHeld => ?_)
            · trivial
            clear hK K
            try simp only [Act.put, List.setIfInBounds_toArray, List.set_cons_zero, List.set_cons_succ]
            refine wpAnyH_ready (rs := [11]) (by kernel_rfl) (by simp) ?_
            refine AllReadyH.cons (o := { dst := some 65, op := Op.call { callee := Callee.builtin Builtin.append, args := #[Operand.tmp 63, Operand.tmp 64], argTypes := #[26, 26] }, type := 26, pos := "law.go:218", after := #[{ on := 9, ground := Ground.data }, { on := 10, ground := Ground.data }, { on := 9, ground := Ground.chain }], guard := none }) rfl (fun K hK => ?_) AllReadyH.nil
            refine tabs_wp (.tmp 63) (.tmp 64) rfl _ _ g0 mA ls0 rfl rfl hO63 (HLa.out.moves M63 (by simp)) hb2.out ?_
            intro v65 w65 hO65 m65 hla65
            have hF65 : Fresh wA v65 := lain_fresh hF63 M63.size hla65
            have M65 : Moves [] wA w65 := fresh_trans M63 hF63 m65
            obtain ⟨ad65, n65, cap65, rfl, hn65⟩ := hO65.open
            refine hK.out _ _ ?_ (fun hHeld => ?_)
            · trivial
            clear hK K
            try simp only [Act.put, List.setIfInBounds_toArray, List.set_cons_zero, List.set_cons_succ]
            refine wpAnyH_ready (rs := [12]) (by kernel_rfl) (by simp) ?_
            refine AllReadyH.cons (o := { dst := some 66, op := Op.buildSlice 27 4 #[(0, Operand.tmp 54), (1, Operand.tmp 55), (2, Operand.tmp 60), (3, Operand.tmp 65)], type := 27, pos := "law.go:218", after := #[{ on := 0, ground := Ground.data }, { on := 1, ground := Ground.data }, { on := 6, ground := Ground.data }, { on := 11, ground := Ground.data }], guard := none }) rfl (fun K hK => ?_) AllReadyH.nil
            go_simp
            refine hK.out _ _ ?_ (fun hHeld => ?_)
            · trivial
            clear hK K
            try simp only [Act.put, List.setIfInBounds_toArray, List.set_cons_zero, List.set_cons_succ]
            refine wpAnyH_take (i := 13) (oi := { dst := some 67, op := Op.call { callee := Callee.builtin Builtin.len, args := #[Operand.tmp 66], argTypes := #[27] }, type := 3, pos := "law.go:218", after := #[{ on := 12, ground := Ground.data }], guard := none }) (v := ?_) rfl (by kernel_rfl) (by kernel_rfl) (by kernel_rfl) (fun _ _ _ h => h) (Or.inl ⟨by rfl, ?_⟩) (by assumption) ?_
            rotate_left
            · (intro w hSw; (try dsimp only at hSw); go_simp; try (with_reducible rfl))
            try simp only [Act.put, List.setIfInBounds_toArray, List.set_cons_zero, List.set_cons_succ]
            refine wpAnyH_done (by kernel_rfl) ?_ _
            refine NoPanic.normal ?_
            exact ⟨rfl, by kernel_rfl, w65, ad65, n65, cap65, by kernel_rfl, by kernel_rfl, by kernel_rfl, rfl, hO65, hF65, M65⟩
          · rintro u wC ⟨wB, ad65, n65, cap65, hu66, hu67, hu68, rfl, hO65, hF65, MB⟩
            simp only [List.foldl_cons, List.foldl_nil, List.setIfInBounds_toArray, List.set_cons_zero, List.set_cons_succ, hu66, hu67, hu68]
            clear hu66 hu67 hu68
            generalize u 54 = u54
            generalize u 55 = u55
            generalize u 56 = u56
            generalize u 57 = u57
            generalize u 58 = u58
            generalize u 59 = u59
            generalize u 60 = u60
            generalize u 61 = u61
            generalize u 62 = u62
            generalize u 63 = u63
            generalize u 64 = u64
            generalize u 65 = u65
            have HLLs := HLL
            obtain ⟨g65, hT65, _⟩ := hO65.ex (B := 0) (fun _ _ => Nat.zero_le _)
            obtain ⟨wC, hwC⟩ : ∃ wC, wB.alloc (.cells #[.slice ad0 n0 cap0, .slice adA (nm1 + 1) capA, .slice adA nm1 capA, .slice ad65 n65 cap65] 26) = wC := ⟨_, rfl⟩
            have mC : Moves [] wB wC := by rw [← hwC]; exact (Moves.refl _ _).alloc _
            have hb4 : wC.heap[wB.heap.size]? = some (.cells #[.slice ad0 n0 cap0, .slice adA (nm1 + 1) capA, .slice adA nm1 capA, .slice ad65 n65 cap65] 26 (0, 0)) := by rw [← hwC]; exact heap_alloc_new wB _
            rw [hwC]
            have MC : Moves [] w wC := (MA.then MB).then mC
            have HC4 : Hid (∀ j, j < 4 → ∃ g adX nX capX X, wC.cell? ⟨wB.heap.size, j, none⟩ = some (.slice adX nX capX) ∧ TbL wC g (.slice adX nX capX) X ∧ X.length ≤ 12) := by
              obtain ⟨c0, c1, c2, c3, _⟩ := four_cells hb4
              have e7 := HmL.out
              have e5 := HLL.out
              intro j hj
              obtain rfl | rfl | rfl | rfl : j = 0 ∨ j = 1 ∨ j = 2 ∨ j = 3 := by omega
              · exact ⟨g0, _, _, _, _, c0, HLa.out.moves (MB.then mC) (by simp), by omega⟩
              · exact ⟨gm, _, _, _, _, c1, HMa.out.moves (MB.then mC) (by simp), by omega⟩
              · exact ⟨gm, _, _, _, _, c2, HMb.out.moves (MB.then mC) (by simp), by rw [List.length_take]; omega⟩
              · exact ⟨g65, _, _, _, _, c3, hT65.moves mC (by simp), by rw [List.length_append]; omega⟩
            clear hb4 hwC mC MB hO65 hT65 hF65 HMa HMb HLa HmL HLLs hb1 hb2 hcA hcI hwr
            generalize wB.heap.size = bb at HC4 ⊢
            go_wp2_with fail
            go_loopw [68] (fun vj wr => ∃ j : Nat, j ≤ 4 ∧ vj = .int .i64 (j : Nat) ∧ Moves [] wC wr) (fun vj _ => 4 - (intOf vj).toNat)
            case atStart => exact ⟨0, Nat.zero_le _, rfl, Moves.refl _ _⟩
            case round =>
              obtain ⟨j, hj4, rfl, mr⟩ := hrel
              by_cases hgo : j < 4
              · have hk : (j : Int) < 4 := by omega
                obtain ⟨g, adX, nX, capX, X, cX, hTX, hX12⟩ := HC4.out j hgo
                replace cX := mr.cell cX
                have HX : Hid (TbL _ g (.slice adX nX capX) X) := hTX.moves mr (by simp)
                have HX12 : Hid (X.length ≤ 12) := hX12
                clear hTX hX12
                by_cases hm : mayT X = 0
                · obtain ⟨hcov, hbad, _⟩ := may_cov hm
                  have hnew := mtNew_yes _ g _ X HX.out (by have := HX12.out; omega) hm
                  have HMY : Hid (mayT X = 0) := hm
                  have HCV : Hid (spCov (X.map Ptb.sp) = true) := hcov
                  have HBD : Hid (X.any tbBad = false) := hbad
                  clear hm hcov hbad
                  go_wp2_with fail
                  refine hnew.mono ?_
                  rintro _ w5 ⟨q, rfl, hM, hq, m5⟩
                  have HNE : Hid ( ∀ w1 : World, (binOp .neq 28 (.pointer (some ⟨q, 0, none⟩)) (.pointer none)).run Try.prog w1 = .ok (.bool true) w1) := by intro w1; kernel_rfl
                  have HM : Hid (MtIs w5 q X) := hM
                  have hsp := lawSpans_w w5 g _ X (HX.out.moves m5 (by simp)) (by have := HX12.out; omega)
                  clear hM hnew hq
                  go_wp2_with fail
                  refine hsp.mono ?_
                  rintro _ w6 ⟨vs, rfl, hOS, m6⟩
                  obtain ⟨ads, caps, rfl, hcs, _, hSs⟩ := hOS.at
                  have hco := rfCover7_w w6 ads _ caps (X.map Ptb.sp) hSs rfl (by have := HX12.out; rw [List.length_map]; omega)
                  rw [HCV.out] at hco
                  clear hOS hSs hsp hcs
                  generalize (X.map Ptb.sp).length = ns at hco ⊢
                  go_wp2_with fail
                  refine hco.mono ?_
                  rintro _ w7 ⟨rfl, m7⟩
                  have hri := lawRight_w w7 g _ X (HX.out.moves ((m5.then m6).then m7) (by simp)) (by have := HX12.out; omega)
                  rw [HBD.out] at hri
                  clear hco
                  go_wp2_with fail
                  refine hri.mono ?_
                  rintro _ w8 ⟨rfl, m8⟩
                  have hte := tells11_w w8 q X (HM.out.moves0 ((m6.then m7).then m8)) HMY.out g _ (HX.out.moves (((m5.then m6).then m7).then m8) (by simp)) ⟨#[109]⟩
                  have hne := HNE.out; clear hri
                  go_wp2_with fail
                  refine hte.mono ?_
                  rintro _ w9 ⟨rfl, m9⟩
                  go_wp2_with fail
                  go_roundw
                  case rel => exact ⟨j + 1, by omega, by go_num, ((((mr.then m5).then m6).then m7).then m8).then m9⟩
                  case measure => simp [intOf]; omega
                · have hm1 : mayT X = 1 := by have := may_iff (xs := X) (by have := HX12.out; omega); rw [this] at hm ⊢; split <;> simp_all
                  have hnew := mtNew_no _ g _ X HX.out (by have := HX12.out; omega) hm
                  rw [hm1] at hnew
                  have hne : ∀ w1 : World, (binOp .neq 28 (.pointer none) (.pointer none)).run Try.prog w1 = .ok (.bool false) w1 := by intro w1; kernel_rfl
                  go_wp2_with fail
                  refine hnew.mono ?_
                  rintro _ w5 ⟨rfl, m5⟩
                  have hsp := lawSpans_w w5 g _ X (HX.out.moves m5 (by simp)) (by have := HX12.out; omega)
                  clear hnew
                  go_wp2_with fail
                  refine hsp.mono ?_
                  rintro _ w6 ⟨vs, rfl, hOS, m6⟩
                  obtain ⟨ads, caps, rfl, hcs, _, hSs⟩ := hOS.at
                  have hco := rfCover7_w w6 ads _ caps (X.map Ptb.sp) hSs rfl (by have := HX12.out; rw [List.length_map]; omega)
                  clear hOS hSs hsp hcs
                  generalize (X.map Ptb.sp).length = ns at hco ⊢
                  cases hcov : spCov (X.map Ptb.sp) with
                  | false =>
                    rw [hcov] at hco
                    go_wp2_with fail
                    refine hco.mono ?_
                    rintro _ w7 ⟨rfl, m7⟩
                    clear hco
                    go_wp2_with fail
                    go_roundw
                    case rel => exact ⟨j + 1, by omega, by go_num, ((mr.then m5).then m6).then m7⟩
                    case measure => simp [intOf]; omega
                  | true =>
                    have hbad : X.any tbBad = true := by have := may_iff (xs := X) (by have := HX12.out; omega); rw [hcov, hm1] at this; cases hb : X.any tbBad with | true => rfl | false => rw [hb] at this; simp at this
                    rw [hcov] at hco
                    go_wp2_with fail
                    refine hco.mono ?_
                    rintro _ w7 ⟨rfl, m7⟩
                    have hri := lawRight_w w7 g _ X (HX.out.moves ((m5.then m6).then m7) (by simp)) (by have := HX12.out; omega)
                    rw [hbad] at hri
                    clear hco
                    go_wp2_with fail
                    refine hri.mono ?_
                    rintro _ w8 ⟨rfl, m8⟩
                    clear hri
                    go_wp2_with fail
                    go_roundw
                    case rel => exact ⟨j + 1, by omega, by go_num, (((mr.then m5).then m6).then m7).then m8⟩
                    case measure => simp [intOf]; omega
              · have hk : ¬ (j : Int) < 4 := by omega
                go_wp2_with fail
                refine (known11_w _).mono ?_
                rintro _ w5 ⟨rfl, m5⟩
                go_wp2_with fail
                go_ret
                exact ⟨rfl, (MC.then mr).then m5⟩
end Go.Proofs.Ytbjbljkcodkebaa
