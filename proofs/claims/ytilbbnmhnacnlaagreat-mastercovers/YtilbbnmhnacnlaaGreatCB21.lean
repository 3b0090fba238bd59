/- ours -/
import Derived.Test.YtilbbnmhnacnlaaGreatCTk4
import Derived.Test.YtilbbnmhnacnlaaGreatCB19
/-
  row.Take, whole: of any bytes the call takes a row that may be, and else leaves by the Reader's own panic; nothing else that was there is written.
-/
namespace Go.Proofs.YtilbbnmhnacnlaaGreat
open Go.RowKit

theorem Took_ok {w w' : World} {p g : Nat} {bs rest : List Nat} {c : Pcol} {e : Ending} (h : TookC w w' p g bs e) (hd : dCol tAny bs = some (c, rest)) : ∃ ad n cap, e = .returned (.agg #[.string c.name, .slice ad n cap]) ∧ GrowV w w' (.slice ad n cap) c.l ∧ RdIs w' p g rest false ∧ Moves [p] w w' := by
  rcases h with ⟨c', rest', ad, n, cap, h1, h2⟩ | ⟨h1, _⟩
  · rw [hd] at h1
    simp only [Option.some.injEq, Prod.mk.injEq] at h1
    obtain ⟨rfl, rfl⟩ := h1
    exact ⟨ad, n, cap, h2⟩
  · rw [hd] at h1; simp at h1
theorem Took_no {w w' : World} {p g : Nat} {bs : List Nat} {e : Ending} (h : TookC w w' p g bs e) (hd : dCol tAny bs = none) : e = .panicked (stop p) ∧ ∃ bs', RdIs w' p g bs' true ∧ Moves [p] w w' := by
  rcases h with ⟨c', rest', ad, n, cap, h1, h2⟩ | ⟨_, h2⟩
  · rw [hd] at h1; simp at h1
  · exact h2
theorem takeR_fin {w wq w5 w6 w8 : World} {p g pb : Nat} {ad4 ad8 : Option Addr} {n4 cap4 n8 cap8 : Nat} {l : List Pcol} {x : Pcol} {b3 : List Nat} {cs : Array Value} (hg : g < w.heap.size) (hp : p < w.heap.size) (hpb : w.heap.size < pb)
    (hbox : wq.heap[pb]? = some (.cells #[.slice ad4 n4 cap4] 97 (0, 0))) (hres : wq.heap[w.heap.size]? = some (.cells cs 97 (0, 0))) (hM : Moves [p] w wq) (hG4 : GrowC w wq (.slice ad4 n4 cap4) l)
    (hr5 : RdIs w5 p g b3 false) (m5 : Moves [p] wq w5) (m6 : Moves [] w5 w6) (m8 : Moves (Value.slice ad4 n4 cap4).ownBlock.toList w6 w8) (hG8 : GrowC w w8 (.slice ad8 n8 cap8) (l ++ [x])) :
    w8.heap[pb]? = some (.cells #[.slice ad4 n4 cap4] 97 (0, 0)) ∧ GrowC w (w8.setCell ⟨pb, 0, none⟩ (.slice ad8 n8 cap8)) (.slice ad8 n8 cap8) (l ++ [x]) ∧ (w8.setCell ⟨pb, 0, none⟩ (.slice ad8 n8 cap8)).heap[pb]? = some (.cells #[.slice ad8 n8 cap8] 97 (0, 0)) ∧ RdIs (w8.setCell ⟨pb, 0, none⟩ (.slice ad8 n8 cap8)) p g b3 false ∧ Moves [p] w (w8.setCell ⟨pb, 0, none⟩ (.slice ad8 n8 cap8)) ∧ (w8.setCell ⟨pb, 0, none⟩ (.slice ad8 n8 cap8)).heap[w.heap.size]? = some (.cells cs 97 (0, 0)) := by
  have hnb : pb ∉ (Value.slice ad4 n4 cap4).ownBlock.toList := Grow.neT hG4 hbox (by decide)
  have hnr : w.heap.size ∉ (Value.slice ad4 n4 cap4).ownBlock.toList := Grow.neT hG4 hres (by decide)
  have h8 := m8.at (m6.at (m5.at hbox (by simp; omega)) (by simp)) hnb
  have hst : Stay (fun t => t = 5 ∨ t = 146) w8 (w8.setCell ⟨pb, 0, none⟩ (.slice ad8 n8 cap8)) := Stay.set h8 (by decide) _
  have hp8 : p ∉ (Value.slice ad4 n4 cap4).ownBlock.toList := Grow.notP hG4 hp
  have hg8 : g ∉ (Value.slice ad4 n4 cap4).ownBlock.toList := Grow.notP hG4 hg
  refine ⟨h8, hG8.moves (moves_set _ _ _ _) ?_ hst, set_one h8 _, ?_, ?_, ?_⟩
  · intro k hk hx
    simp at hx
    subst hx
    exact (Grow.neT hG8 h8 (by decide)) (by rw [hk]; simp)
  · exact ((hr5.moves m6 (by simp) (by simp)).moves m8 hp8 hg8).moves (moves_set _ _ _ _) (by simp; omega) (by simp; omega)
  · refine Moves.setCell ?_ (.inr (by show w.heap.size ≤ pb; omega)) _
    refine ((hM.then m5).then (m6.mono (by simp))).trans m8 (fun k hk => .inr ?_)
    exact hG4.1 k (by cases hq : (Value.slice ad4 n4 cap4).ownBlock <;> simp_all)
  · exact (moves_set _ _ _ _).at (m8.at (m6.at (m5.at hres (by simp; omega)) (by simp)) hnr) (by simp; omega)

def TookR (w w' : World) (p g : Nat) (bs : List Nat) (e : Ending) : Prop :=
  (∃ R rest ad n cap, dGood tAny bs = some (R, rest) ∧ e = .returned (.agg #[.slice ad n cap]) ∧ GrowC w w' (.slice ad n cap) R ∧ RdIs w' p g rest false ∧ Moves [p] w w') ∨ (dGood tAny bs = none ∧ e = .panicked (stop p) ∧ ∃ bs', RdIs w' p g bs' true ∧ Moves [p] w w')

theorem dRow_no {T : Nat → Bool} {bs : List Nat} (h : ¬ 1 ≤ bs.length) : dRow T bs = none := by
  unfold dRow
  rw [if_neg h]
theorem dRow_of {T : Nat → Bool} {bs : List Nat} (h : 1 ≤ bs.length) : dRow T bs = iter (dCol T) (val (bs.take 1)) (bs.drop 1) := by
  unfold dRow
  rw [if_pos h]

set_option maxRecDepth 100000 in
set_option maxHeartbeats 4000000 in
theorem rowTake_w (N : Nat) (p g : Nat) (bs : List Nat) (w : World) (h : RdIs w p g bs false) (ho : OctN N bs) (hg : g < w.heap.size) :
    Calls Tryz.prog 137 #[.pointer (some ⟨p, 0, none⟩)] w fun e w' => TookR w w' p g bs e := by
  have hp := h.ltp
  have hpe : ∀ w1 : World, (binOp .eql 176 (.pointer (some ⟨p, 0, none⟩)) (.pointer none)).run Tryz.prog w1 = .ok (.bool false) w1 := by intro w1; kernel_rfl
  have m0 : Moves [] w ((w.alloc (.cells #[.slice none 0 0] 97)).alloc (.cells #[.slice none 0 0] 97)) := ((Moves.refl _ _).alloc _).alloc _
  have hr0 := h.moves m0 (by simp) (by simp)
  obtain ⟨q0, qb0, _⟩ := boxes (w := w) (A := #[.slice none 0 0]) (B := #[.slice none 0 0]) (t := 97) (u := 97) (Moves.refl [] _)
  have hbx : w.heap.size ∉ [p] := by simp; omega
  have hbx1 : w.heap.size + 1 ∉ [p] := by simp; omega
  by_cases hb : 1 ≤ bs.length
  · have hv1 := val_lt ho.2 1
    obtain ⟨cnt, hcnt⟩ : ∃ cnt, val (bs.take 1) = cnt := ⟨_, rfl⟩
    have HC : Hid (val (bs.take 1) = cnt) := hcnt
    rw [hcnt] at hv1
    have hcn : cnt < 256 := hv1
    have hcn' : (cnt : Int) < 256 := by omega
    obtain ⟨b1, hb1⟩ : ∃ b1, Hid (bs.drop 1 = b1) := ⟨_, rfl⟩
    have ho1 : OctN N b1 := by rw [← hb1.out]; exact ho.drop 1
    have HROW : Hid (dRow tAny bs = iter (dCol tAny) cnt b1) := by unfold Hid; rw [dRow_of hb, hcnt, hb1.out]
    clear hcnt hv1
    go_enter Tryz.func137, Tryz.ntmps137
    go_wp2_with (go_at_call 135; refine (rbyte_w _ g bs _ hr0 hb ho.2).mono ?_; rintro _ w3 ⟨rfl, hr3, m3⟩; rw [HC.out]; rw [hb1.out] at hr3)
    have q3 := m3.at q0 hbx
    have qb3 := m3.at qb0 hbx1
    have M3 : Moves [p] w w3 := (m0.mono (by simp)).then m3
    have hpb0 : w.heap.size < w.heap.size + 1 := by omega
    obtain ⟨pb, hpb⟩ : ∃ pb, w.heap.size + 1 = pb := ⟨_, rfl⟩
    rw [hpb] at qb3 hpb0 hbx1 ⊢
    clear q0 qb0 m0 m3 hr0 h hpb
    go_loopw [9] (fun i wr => ∃ (j : Nat) (l : List Pcol) (b2 : List Nat) (lv : Value), j ≤ cnt ∧ i = .int .u8 (j : Int) ∧ iter (dCol tAny) j b1 = some (l, b2) ∧ RdIs wr p g b2 false ∧ Moves [p] w wr ∧ wr.heap[w.heap.size]? = some (.cells #[.slice none 0 0] 97 (0, 0)) ∧ wr.heap[pb]? = some (.cells #[lv] 97 (0, 0)) ∧ GrowC w wr lv l) (fun i _ => cnt - (intOf i).toNat)
    case atStart => exact ⟨0, [], b1, _, Nat.zero_le _, rfl, rfl, hr3, M3, q3, qb3, GrowC.nil _ _⟩
    case round =>
      obtain ⟨j, l, b2, lv, hj, rfl, hit, hr4, M4, q4, hbox, hG4⟩ := hrel
      clear hr3 M3 q3 qb3
      have ho2 : OctN N b2 := iter_rest (P := OctN N) (fun b x c => dCol_rest) hit ho1
      obtain ⟨ad4, n4, cap4, rfl, hn4⟩ := hG4.open
      have HIT : Hid (iter (dCol tAny) j b1 = some (l, b2)) := hit
      have HG : Hid (GrowC w wr (.slice ad4 n4 cap4) l) := hG4
      have hll : Hid (l.length = j) := iter_len hit
      have hsw := M4.size
      clear hit hG4
      by_cases hlt : j < cnt
      · have hj3 : (j : Int) < cnt := by omega
        have hj4 : (j : Int) + 1 < 256 := by omega
        obtain ⟨hq1, hfz1⟩ := one_cell hbox
        have hrd : RdIs wr.drew p g b2 false := hr4
        have hgr : g < wr.drew.heap.size := Nat.lt_of_lt_of_le hg M4.size
        obtain ⟨cQ, hcQ⟩ := hr4.block
        have HM : Hid (Moves [p] w wr) := M4
        cases hdc : dCol tAny b2 with
        | none =>
          have HNO : Hid (dGood tAny bs = none) := dGood_none (by rw [HROW.out]; exact iter_none (iter_stop HIT.out hdc) (by omega))
          clear hr4 M4 q4 hbox
          go_wp2_with fail
          refine wp_region_held_drew (S := (fun w' => w'.cell? ⟨pb, 0, none⟩ = some (.slice ad4 n4 cap4))) (by kernel_rfl) ?_ (fun hHeld => ?_)
          · first | (go_keep; done) | first | exact hq1 | exact k5 | exact k6 | exact k8
          refine wpT 0 ⟨some 11, .fieldAddr 97 (.tmp 3) 0, 0, "row.go:150", #[], none⟩ ?_
          refine wpT 1 ⟨some 12, .load 95 (.tmp 11), 95, "row.go:150", #[⟨0, .data⟩], none⟩ ?_
          refine wpT 2 ⟨some 13, .move (.tmp 0), 176, "row.go:150", #[], none⟩ ?_
          refine wpR 3 ⟨some 14, .call ⟨.value (.func 169), #[.tmp 13], #[176]⟩, 144, "row.go:150", #[⟨2, .data⟩], none⟩ (fun K hK => ?_)
          go_simp
          (go_at_call 169; refine (takeColumn_w N _ g b2 _ hrd ho2 hgr).mono ?_; intro e5 w6 hT; obtain ⟨rfl, bs', hr6, m6⟩ := Took_no hT hdc)
          exact ⟨rfl, .inr ⟨HNO.out, rfl, bs', hr6, HM.out.drew.then m6⟩⟩
        | some q =>
          obtain ⟨x, b3⟩ := q
          have HIT2 : Hid (iter (dCol tAny) (j + 1) b1 = some (l ++ [x], b3)) := iter_step HIT.out hdc
          have hbd : l.length + [x].length ≤ 1048576 := by have := hll.out; simp; omega
          have HNB : Hid (pb ∉ (Value.slice ad4 n4 cap4).ownBlock.toList) := Grow.neT HG.out hbox (by decide)
          clear hr4
          go_wp2_with fail
          refine wp_some [11, 12, 13, 14, 15, 16, 17] (fun _ w' => ∃ ad n cap, GrowC w w' (.slice ad n cap) (l ++ [x]) ∧ w'.heap[pb]? = some (.cells #[.slice ad n cap] 97 (0, 0)) ∧ RdIs w' p g b3 false ∧ Moves [p] w w' ∧ w'.heap[w.heap.size]? = some (.cells #[.slice none 0 0] 97 (0, 0))) ?_ ?_
          · skip
            refine wp_region_noPanic ?_
            refine region_peel (S := (fun w' => w'.cell? ⟨pb, 0, none⟩ = some (.slice ad4 n4 cap4))) (pre := #[⟨some 11, .fieldAddr 97 (.tmp 3) 0, 0, "row.go:150", #[], none⟩, ⟨some 12, .load 95 (.tmp 11), 95, "row.go:150", #[⟨0, .data⟩], none⟩, ⟨some 13, .move (.tmp 0), 176, "row.go:150", #[], none⟩, ⟨some 14, .call ⟨.value (.func 169), #[.tmp 13], #[176]⟩, 144, "row.go:150", #[⟨2, .data⟩], none⟩, ⟨some 15, .buildSlice 95 1 #[(0, .tmp 14)], 95, "row.go:150", #[⟨3, .data⟩], none⟩, ⟨some 16, .call ⟨.builtin .append, #[.tmp 12, .tmp 15], #[95, 95]⟩, 95, "row.go:150", #[⟨1, .data⟩, ⟨4, .data⟩, ⟨3, .chain⟩], none⟩, ⟨some 17, .fieldAddr 97 (.tmp 3) 0, 0, "row.go:150", #[⟨0, .phase⟩, ⟨1, .phase⟩, ⟨2, .phase⟩, ⟨3, .phase⟩, ⟨4, .phase⟩, ⟨5, .phase⟩], none⟩]) (o := ⟨none, .store 95 (.tmp 17) (.tmp 16), 0, "row.go:150", #[⟨6, .data⟩, ⟨5, .data⟩, ⟨5, .chain⟩, ⟨0, .phase⟩, ⟨1, .phase⟩, ⟨2, .phase⟩, ⟨3, .phase⟩, ⟨4, .phase⟩, ⟨5, .phase⟩], none⟩) (by kernel_rfl) (by kernel_rfl) (by kernel_rfl) ?_ (fun hHeld => ?_)
            · first | exact hq1 | exact k5 | exact k6 | exact k8
            refine wpT 0 ⟨some 11, .fieldAddr 97 (.tmp 3) 0, 0, "row.go:150", #[], none⟩ ?_
            refine wpT 1 ⟨some 12, .load 95 (.tmp 11), 95, "row.go:150", #[⟨0, .data⟩], none⟩ ?_
            refine wpT 2 ⟨some 13, .move (.tmp 0), 176, "row.go:150", #[], none⟩ ?_
            refine wpR 3 ⟨some 14, .call ⟨.value (.func 169), #[.tmp 13], #[176]⟩, 144, "row.go:150", #[⟨2, .data⟩], none⟩ (fun K hK => ?_)
            go_simp
            (go_at_call 169; refine (takeColumn_w N _ g b2 _ hrd ho2 hgr).mono ?_; intro e5 w6 hT; obtain ⟨ad5, n5, cap5, rfl, hG5', hr5, m5⟩ := Took_ok hT hdc)
            replace m5 := ((Moves.refl [p] wr).drew).then m5
            have k5 := m5.cellOf hq1 hbx1
            have hG5 := HG.out.movesP m5 hp hcQ (by decide) (by decide)
            have hCC : ColC w6 [.string x.name, .slice ad5 n5 cap5] x := ⟨_, rfl, hG5'.at⟩
            refine hK.out _ _ ?_ (fun hHeld => ?_)
            · first | exact hq1 | exact k5 | exact k6 | exact k8
            clear hK K
            refine wpR 4 ⟨some 15, .buildSlice 95 1 #[(0, .tmp 14)], 95, "row.go:150", #[⟨3, .data⟩], none⟩ (fun K hK => ?_)
            go_simp
            have k6 := ((Moves.refl [] w6).alloc (.cells #[.string x.name, .slice ad5 n5 cap5] 144)).cell k5
            refine hK.out _ _ ?_ (fun hHeld => ?_)
            · first | exact hq1 | exact k5 | exact k6 | exact k8
            clear hK K
            refine wpR 5 ⟨some 16, .call ⟨.builtin .append, #[.tmp 12, .tmp 15], #[95, 95]⟩, 95, "row.go:150", #[⟨1, .data⟩, ⟨4, .data⟩, ⟨3, .chain⟩], none⟩ (fun K hK => ?_)
            refine growC_stepS (.tmp 12) (.tmp 15) rfl _ _ l [x] rfl rfl (by rfl) (hG5.moves0 ((Moves.refl _ _).alloc _)) (cols_new w6 _ _ x hCC) (by have := m5.size; simp; omega) hbd ?_
            intro v8 w8 hG8 m8 s8 l8
            have hsl := hG8.open
            obtain ⟨ad8, n8, cap8, rfl, hn8⟩ := hsl
            have hnb8 : pb ∉ (Value.slice ad4 n4 cap4).ownBlock.toList := HNB.out
            have k8 := m8.cellOf k6 hnb8
            obtain ⟨F0, F1, F2, F3, F4, F5⟩ := takeR_fin hg hp hpb0 hbox q4 M4 HG.out hr5 m5 ((Moves.refl [] w6).alloc _) m8 hG8
            have fz8 : w8.frozen? ⟨pb, 0, none⟩ = false := by simp [World.frozen?, F0]
            refine hK.out _ _ ?_ (fun hHeld => ?_)
            · first | exact hq1 | exact k5 | exact k6 | exact k8
            clear hK K
            try simp only [Act.put, sp1, sp2, sp3]
            refine wpT 6 ⟨some 17, .fieldAddr 97 (.tmp 3) 0, 0, "row.go:150", #[⟨0, .phase⟩, ⟨1, .phase⟩, ⟨2, .phase⟩, ⟨3, .phase⟩, ⟨4, .phase⟩, ⟨5, .phase⟩], none⟩ ?_
            refine wpAnyH_done (by kernel_rfl) ?_ _
            unfold PeelQ
            refine wpOp_of_wp rfl rfl ?_
            go_simp
            exact NoPanic.normal ⟨rfl, by kernel_rfl, _, _, _, F1, F2, F3, F4, F5⟩
          · rintro u w9 ⟨ad9, n9, cap9, hG9, hbox9, hr9, M9, q9⟩
            simp only [List.foldl_cons, List.foldl_nil, List.setIfInBounds_toArray, List.set_cons_zero, List.set_cons_succ]
            generalize u 11 = u11
            generalize u 12 = u12
            generalize u 13 = u13
            generalize u 14 = u14
            generalize u 15 = u15
            generalize u 16 = u16
            generalize u 17 = u17
            clear hrd hbox hq1 hfz1 M4 q4 hcQ HG
            go_wp2_with fail
            go_roundw
            case rel => exact ⟨j + 1, l ++ [x], b3, _, by omega, by go_num, HIT2.out, hr9, M9, q9, hbox9, hG9⟩
            case measure => simp [intOf]; omega
      · have hj3 : ¬ (j : Int) < cnt := by omega
        obtain rfl : j = cnt := by omega
        have HRW : Hid (dRow tAny bs = some (l, b2)) := by unfold Hid; rw [HROW.out, HIT.out]
        obtain ⟨s0, s1⟩ := one_cell q4
        obtain ⟨k0, k1⟩ := one_cell hbox
        have hRA : RowAt wr (.agg #[.slice ad4 n4 cap4]) l := ⟨_, rfl, HG.out.at⟩
        cases hpr : pright l with
        | false =>
          have HNO : Hid (dGood tAny bs = none) := dGood_bad HRW.out hpr
          have hR := right_w wr wr _ l hRA (Moves.refl _ _)
          rw [hpr] at hR
          clear hpr
          go_wp2_with (first | (go_at_call 170; refine hR.mono ?_; rintro _ w5 ⟨rfl, m5⟩) | (go_at_call 142; refine (rfail_w _ g b2 _ (hr4.moves m5 (by simp) (by simp))).mono ?_; rintro _ w6 ⟨rfl, hr6, m6⟩))
          exact ⟨rfl, .inr ⟨HNO.out, rfl, b2, hr6, (M4.then (m5.mono (by simp))).then m6⟩⟩
        | true =>
          have HYES : Hid (dGood tAny bs = some (l, b2)) := dGood_of HRW.out hpr
          have hR := right_w wr wr _ l hRA (Moves.refl _ _)
          rw [hpr] at hR
          clear hpr
          go_wp2_with (go_at_call 170; refine hR.mono ?_; rintro _ w5 ⟨rfl, m5⟩; have q5 := m5.at q4 (by simp); obtain ⟨t0, t1⟩ := one_cell q5; have hb5 := m5.at hbox (by simp); obtain ⟨v0, v1⟩ := one_cell hb5)
          try simp only [Exit.inBlock, Exit.then]
          have s2 : Moves [w.heap.size] w5 (w5.setCell ⟨w.heap.size, 0, none⟩ (.slice ad4 n4 cap4)) := moves_set _ _ _ _
          have HG5 := HG.out.moves0 m5
          have sst : Stay (fun t => t = 5 ∨ t = 146) w5 (w5.setCell ⟨w.heap.size, 0, none⟩ (.slice ad4 n4 cap4)) := Stay.set q5 (by decide) _
          refine bodyPost_ret (ret_row rfl _ _ _ _ rfl (set_one q5 _)) rfl (.inl ⟨l, b2, ad4, n4, cap4, HYES.out, rfl, HG5.moves s2 ?_ sst, (hr4.moves m5 (by simp) (by simp)).moves s2 (by simp; omega) (by simp; omega), (M4.then (m5.mono (by simp))).trans s2 (fun k hk => .inr (by simp at hk; omega))⟩)
          intro k hk hx
          simp at hx
          subst hx
          exact (Grow.neT HG5 q5 (by decide)) (by rw [hk]; simp)
  · have HNO : Hid (dGood tAny bs = none) := dGood_none (dRow_no hb)
    go_enter Tryz.func137, Tryz.ntmps137
    go_wp2_with (go_at_call 135; refine (rbyte_fail_w _ g bs _ hr0 (by omega)).mono ?_; rintro _ w3 ⟨rfl, hr3, m3⟩)
    exact ⟨rfl, .inr ⟨HNO.out, rfl, bs, hr3, (m0.mono (by simp)).then m3⟩⟩
end Go.Proofs.YtilbbnmhnacnlaaGreat
/-
  The document's own Put of a row that may be: the call returns what its words come to, and writes nothing that was there.
-/
namespace Go.Proofs.YtilbbnmhnacnlaaGreat
open Go.RowKit

end Go.Proofs.YtilbbnmhnacnlaaGreat
/-
  Rows that may be, as plain data: names rise, so that a row is parted by a name; what the document's own words and the program's come to.
-/
namespace Go.Proofs.YtilbbnmhnacnlaaGreat
open Go.RowKit

theorem nlt_trans {a b c : ByteArray} (h1 : nlt a b = true) (h2 : nlt b c = true) : nlt a c = true := by
  unfold nlt at *
  rw [bytesLess_eq] at *
  simp only [decide_eq_true_eq] at *
  exact List.lt_trans h1 h2
def Rise (R : List Pcol) : Prop := R.Pairwise (fun a b => nlt a.name b.name = true)

theorem rise_of_steps {R : List Pcol} (h : ∀ k x y, R[k]? = some x → R[k + 1]? = some y → nlt x.name y.name = true) : Rise R := by
  induction R with
  | nil => exact List.Pairwise.nil
  | cons a t ih =>
    have ht : Rise t := ih fun k x y hx hy => h (k + 1) x y (by simpa using hx) (by simpa using hy)
    refine List.Pairwise.cons (fun b hb => ?_) ht
    cases t with
    | nil => simp at hb
    | cons c t =>
      have h1 := h 0 a c rfl rfl
      rcases List.mem_cons.1 hb with rfl | hb
      · exact h1
      · exact nlt_trans h1 ((List.pairwise_cons.1 ht).1 b hb)
theorem pright_iff {R : List Pcol} : pright R = true ↔ R.length ≤ 4 ∧ Rise R ∧ ∀ x ∈ R, pname x.name = true ∧ prightV x.l = true := by
  constructor
  · intro h
    refine ⟨pright_len4 h, rise_of_steps fun k x y hx hy => ?_, fun x hx => pright_at h hx⟩
    have hl := (List.getElem?_eq_some_iff.1 hy).1
    have := pright_col h hl
    unfold colGood at this
    rw [hy] at this
    simp only [Nat.add_sub_cancel, hx, Bool.and_eq_true] at this
    simpa using this.2
  · rintro ⟨h1, h2, h3⟩
    refine pright_yes h1 fun j hj => ?_
    unfold colGood
    rw [List.getElem?_eq_getElem hj]
    have h4 := h3 _ (List.getElem_mem hj)
    simp only [h4.1, h4.2, Bool.true_and]
    cases j with
    | zero => rfl
    | succ j =>
      have hj' : j < R.length := by omega
      simp only [Nat.add_sub_cancel, List.getElem?_eq_getElem hj']
      simp
      exact List.pairwise_iff_getElem.1 h2 j (j + 1) hj' hj (by omega)

theorem pright_canon {R : List Pcol} (h : pright R = true) : pright (R.map pcanonC) = true := by
  obtain ⟨h1, h2, h3⟩ := pright_iff.1 h
  refine pright_iff.2 ⟨by simpa using h1, ?_, fun x hx => ?_⟩
  · unfold Rise
    rw [List.pairwise_map]
    exact h2
  · obtain ⟨y, hy, rfl⟩ := List.mem_map.1 hx
    exact ⟨(h3 y hy).1, prightV_canon (h3 y hy).2⟩
theorem pasked_of {R : List Pcol} (h : pright R = true) : pasked R = R := by unfold pasked; rw [h]; rfl
end Go.Proofs.YtilbbnmhnacnlaaGreat
