/-
  RowsNumbers: what the law does.
-/
import Derived.Test.YtcngllcifcpbkaaCNN6
namespace Go.Proofs.Ytcngllcifcpbkaa
open Go.RowKit

set_option maxRecDepth 100000 in
set_option maxHeartbeats 2000000 in
theorem made_nil (w : World) : Calls Try.prog 16 #[.slice none 0 0] w fun e w' => e = .returned (.agg #[.slice none 0 0]) ∧ Moves [] w w' := by
  go_enter Try.func16, Try.ntmps16
  go_wp2_with fail
  obtain ⟨w1, hw1⟩ : ∃ w1, (w.alloc (.cells #[.slice none 0 0] 36)).alloc (.cells #[.slice none 0 0] 36) = w1 := ⟨_, rfl⟩
  obtain ⟨p0, p1, m1⟩ : w1.heap[w.heap.size]? = some (.cells #[.slice none 0 0] 36 (0, 0)) ∧ w1.heap[w.heap.size + 1]? = some (.cells #[.slice none 0 0] 36 (0, 0)) ∧ Moves [] w w1 := by rw [← hw1]; exact boxes (Moves.refl _ _)
  rw [hw1]
  clear hw1
  go_loopw [4] (fun i wr => i = .int .i64 0 ∧ Moves [] w wr ∧ wr.heap[w.heap.size]? = some (.cells #[.slice none 0 0] 36 (0, 0)) ∧ wr.heap[w.heap.size + 1]? = some (.cells #[.slice none 0 0] 36 (0, 0))) (fun _ _ => 0)
  case atStart => exact ⟨rfl, m1, p0, p1⟩
  case round =>
    obtain ⟨rfl, mr, q0, q1⟩ := hrel
    obtain ⟨r0, r1⟩ := one_cell q1
    obtain ⟨f0, f1⟩ := one_cell q0
    clear p0 p1
    go_wp2_with fail
    try simp only [Exit.inBlock, Exit.then]
    exact bodyPost_ret (ret_row rfl _ _ _ _ rfl (set_one q0 _)) rfl ⟨rfl, mr.setCell (.inr (Nat.le_refl _)) _⟩

/-- The forty-five calls. -/
def Asks45 (W : World) (v : Value) : Prop := ∃ ad cap, v = .slice ad 45 cap ∧ 45 ≤ cap ∧ ∀ k, k < 45 → ∃ b off, ad = some ⟨b, off, none⟩ ∧ W.cell? ⟨b, off + k * 5, none⟩ = some (.int .i64 1) ∧ W.cell? ⟨b, off + k * 5 + 1, none⟩ = some (.int .i64 ((k * 7 % 45 : Nat) : Int)) ∧ W.cell? ⟨b, off + k * 5 + 2, none⟩ = some (.bool (k % 11 != 10)) ∧ W.cell? ⟨b, off + k * 5 + 3, none⟩ = some (.string ⟨#[]⟩) ∧ W.cell? ⟨b, off + k * 5 + 4, none⟩ = some (.slice none 0 0)

set_option maxRecDepth 100000 in
set_option maxHeartbeats 16000000 in
theorem play45_w (W w : World) (u0 : Value) (h0 : Asks45 W u0) (m : Moves [] W w) :
    Calls Try.prog 5 #[u0] w fun e w' => ∃ p a ad n cap, e = .returned (.tuple #[.pointer (some ⟨p, 0, none⟩), .slice ad n cap, .bool true]) ∧ TabIs w w' p a (pf 45) ∧ NamsAt w' (.slice ad n cap) (pf 45) ∧ w.heap.size ≤ p ∧ Moves [] w w' := by
  obtain ⟨adv, cv, rfl, hcv, hV⟩ := h0
  have HVs := hV
  have MW : Hid (Moves [] W w) := m
  obtain ⟨P, hP⟩ : ∃ P, w.heap.size = P := ⟨_, rfl⟩
  have hPP : w.heap.size ≤ P := by omega
  have hnew := tnew_w w
  rw [hP] at hnew
  clear hV m hP
  go_enter Try.func5, Try.ntmps5
  go_wp2_with (go_at_call 15; refine hnew.mono ?_; rintro _ w1 ⟨rfl, hT1, m1⟩)
  go_loopw [6, 7] (fun l i wr => ∃ (k : Nat) (lv : Value) (a : Option Nat), k ≤ 45 ∧ (l = lv ∧ i = .int .i64 k) ∧ Moves [] w wr ∧ TabIs w wr P a (pf k) ∧ GrowN w wr lv (pf k) ∧ Hid (∀ b, lv.ownBlock = some b → b ∉ P :: a.toList)) (fun _ i _ => 45 - (intOf i).toNat)
  case atStart => exact ⟨0, _, none, by omega, ⟨rfl, rfl⟩, m1, hT1, GrowN.nil _ _, fun b hb => by simp [Value.ownBlock] at hb⟩
  case round =>
    obtain ⟨k, lv, a, hk2, ⟨rfl, rfl⟩, mr, hTr, hGr, HAP⟩ := hrel
    have HI0 : Hid (InvN (pf k)) := pf_inv k
    obtain ⟨xs, HXS⟩ : ∃ xs, Hid (pf k = xs) := ⟨_, rfl⟩
    rw [HXS.out] at hTr hGr
    have HI : Hid (InvN xs) := by rw [← HXS.out]; exact HI0.out
    obtain ⟨ad6, n6, cap6, rfl, hn6, hc6⟩ := hGr.open
    clear hT1 hnew HI0
    by_cases hc : k < 45
    · have hc1' : (k : Int) < 45 := by omega
      have hc2' : (k : Int) < 60 := by omega
      obtain ⟨b, off, rfl, v0, v1, v2, v3, v4⟩ := HVs k hc
      have hname := fun w1 => name_e k _ rfl w1
      obtain ⟨s, HSN⟩ : ∃ s, Hid (nmOf k = s) := ⟨_, rfl⟩
      simp only [HSN.out] at hname
      obtain ⟨tr, htr⟩ : ∃ tr : Int, Hid (((k * 7 % 45 : Nat) : Int) = tr) := ⟨_, rfl⟩
      rw [htr.out] at v1 hname
      obtain ⟨tm, htm⟩ : ∃ tm : Bool, Hid ((k % 11 != 10) = tm) := ⟨_, rfl⟩
      rw [htm.out] at v2 hname
      clear HVs
      obtain ⟨r0, r1, r2, r3, r4⟩ : wr.cell? ⟨b, off + k * 5, none⟩ = some (.int .i64 1) ∧ wr.cell? ⟨b, off + k * 5 + 1, none⟩ = some (.int .i64 tr) ∧ wr.cell? ⟨b, off + k * 5 + 2, none⟩ = some (.bool tm) ∧ wr.cell? ⟨b, off + k * 5 + 3, none⟩ = some (.string ⟨#[]⟩) ∧ wr.cell? ⟨b, off + k * 5 + 4, none⟩ = some (.slice none 0 0) := ⟨(MW.out.then mr).cell v0, (MW.out.then mr).cell v1, (MW.out.then mr).cell v2, (MW.out.then mr).cell v3, (MW.out.then mr).cell v4⟩
      have HTr : Hid (TabIs w wr P a xs) := hTr
      have HGr : Hid (GrowN w wr (.slice ad6 n6 cap6) xs) := hGr
      obtain ⟨pb, hpb⟩ : ∃ pb, wr.heap.size = pb := ⟨_, rfl⟩
      have hbx0 := heap_alloc_new wr (.cells #[.slice none 0 0] 36)
      rw [hpb] at hbx0
      have hma : Moves [] wr (wr.alloc (.cells #[.slice none 0 0] 36)) := (Moves.refl _ _).alloc _
      have q0 := hma.cell r0
      have q4 := hma.cell r4
      clear hTr hGr
      go_wp2_with (first | (go_at_call 16; refine (made_nil _).mono ?_; rintro _ w4 ⟨rfl, m4⟩; have bx4 := m4.at hbx0 (by simp); obtain ⟨z1, z2⟩ := one_cell bx4; have mS := (hma.then m4).setCell (p := ⟨pb, 0, none⟩) (.inr (by show wr.heap.size ≤ pb; omega)) (.slice none 0 0); have bS := set_one bx4 (.slice none 0 0); obtain ⟨s0, s1⟩ := one_cell bS; have e0 := mS.cell r0) | (go_at_call 9; refine (some6_w _).mono ?_; rintro _ w6 ⟨ad7, n7, cap7, rfl, hR7, m6⟩; have bx6 := m6.at bS (by simp); obtain ⟨y1, y2⟩ := one_cell bx6; have mS2 := (mS.then m6).setCell (p := ⟨pb, 0, none⟩) (.inr (by show wr.heap.size ≤ pb; omega)) (.slice ad7 n7 cap7); have bS2 := set_one bx6 (.slice ad7 n7 cap7); have HR7' : Hid (RowAt (w6.setCell ⟨pb, 0, none⟩ (.slice ad7 n7 cap7)) (.agg #[.slice ad7 n7 cap7]) psome) := hR7.setRow bx6 _; clear hR7))
      obtain ⟨tk, htk⟩ : ∃ tk : Int, Hid ((1 : Int) = tk) := ⟨_, rfl⟩
      rw [htk.out] at v0 hname
      obtain ⟨tn, htn⟩ : ∃ tn : ByteArray, Hid ((⟨#[]⟩ : ByteArray) = tn) := ⟨_, rfl⟩
      rw [htn.out] at v3 hname
      obtain ⟨a2, l2, c2, h2⟩ : ∃ (a2 : Option Addr) (l2 c2 : Nat), Hid (Value.slice none 0 0 = .slice a2 l2 c2) := ⟨_, _, _, rfl⟩
      rw [h2.out] at v4 hname
      obtain ⟨wq, adr, nr, capr, R, hwq, hbx, hrow, mrq, HNR⟩ : ∃ wq adr nr capr R, w6.setCell ⟨pb, 0, none⟩ (.slice ad7 n7 cap7) = wq ∧ wq.heap[pb]? = some (.cells #[.slice adr nr capr] 36 (0, 0)) ∧ RowAt wq (.agg #[.slice adr nr capr]) R ∧ Moves [] wr wq ∧ Hid (R = psome) := ⟨_, ad7, n7, cap7, psome, rfl, bS2, HR7'.out, mS2, rfl⟩
      rw [hwq]
      clear hwq
      have HPF : Hid (psetN xs s R = pf (k + 1)) := by
        show psetN xs s R = pf (k + 1)
        rw [HNR.out, ← HXS.out, ← HSN.out]
        rfl
      have mq := mr.then mrq
      have hTq := HTr.out.moves0 mrq
      have hGq := HGr.out.moves0 mrq
      have HR : Hid (RowAt wq (.agg #[.slice adr nr capr]) R) := hrow
      have HT : Hid (TabIs w wq P a xs) := hTq
      have HG : Hid (GrowN w wq (.slice ad6 n6 cap6) xs) := hGq
      have hpbn : pb ∉ P :: a.toList := by
        intro hm
        rcases List.mem_cons.1 hm with e | hm
        · obtain ⟨_, hp0, _⟩ := HT.out
          rw [← e, hbx] at hp0
          simp at hp0
        · obtain ⟨_, _, e, hg0⟩ := HT.out
          obtain ⟨cur, hc⟩ := hg0.blk (e.trans (Option.mem_toList.1 hm))
          rw [hbx] at hc
          simp at hc
      have HSS : Hid (∀ w', Moves [] w w' → w'.heap[pb]? = some (.cells #[.slice adr nr capr] 36 (0, 0)) → w'.cell? ⟨b, off + k * 5, none⟩ = some (.int .i64 tk) ∧ w'.cell? ⟨b, off + k * 5 + 1, none⟩ = some (.int .i64 tr) ∧ w'.cell? ⟨b, off + k * 5 + 2, none⟩ = some (.bool tm) ∧ w'.cell? ⟨b, off + k * 5 + 3, none⟩ = some (.string tn) ∧ w'.cell? ⟨b, off + k * 5 + 4, none⟩ = some (.slice a2 l2 c2) ∧ w'.cell? ⟨pb, 0, none⟩ = some (.slice adr nr capr)) := fun w' mw hb => ⟨(MW.out.then mw).cell v0, (MW.out.then mw).cell v1, (MW.out.then mw).cell v2, (MW.out.then mw).cell v3, (MW.out.then mw).cell v4, (one_cell hb).1⟩
      have S0 := HSS.out wq mq hbx
      clear hrow hTq hGq
      refine wp_region_noPanic ?_
      refine wp_region_held_drew (S := (fun w' => w'.cell? ⟨b, off + k * 5, none⟩ = some (.int .i64 tk) ∧ w'.cell? ⟨b, off + k * 5 + 1, none⟩ = some (.int .i64 tr) ∧ w'.cell? ⟨b, off + k * 5 + 2, none⟩ = some (.bool tm) ∧ w'.cell? ⟨b, off + k * 5 + 3, none⟩ = some (.string tn) ∧ w'.cell? ⟨b, off + k * 5 + 4, none⟩ = some (.slice a2 l2 c2) ∧ w'.cell? ⟨pb, 0, none⟩ = some (.slice adr nr capr))) (by kernel_rfl) ?_ (fun hHeld => ?_)
      · first | (go_keep; done) | first | exact S0 | exact S5 | exact S7
      refine wpAnyH_take (i := 0) (oi := { dst := some 51, op := Op.move (Operand.tmp 5), type := 26, pos := "law.go:90", after := #[], guard := none }) (v := ?_) rfl (by kernel_rfl) (by kernel_rfl) (by kernel_rfl) (fun _ _ _ h => h) (Or.inl ⟨by rfl, ?_⟩) (by assumption) ?_
      rotate_left
      · (intro w hSw; (try dsimp only at hSw); go_simp; try (with_reducible rfl))
      try simp only [Act.put, List.setIfInBounds_toArray, List.set_cons_zero, List.set_cons_succ]
      refine wpAnyH_take (i := 1) (oi := { dst := some 52, op := Op.move (Operand.tmp 0), type := 22, pos := "law.go:90", after := #[], guard := none }) (v := ?_) rfl (by kernel_rfl) (by kernel_rfl) (by kernel_rfl) (fun _ _ _ h => h) (Or.inl ⟨by rfl, ?_⟩) (by assumption) ?_
      rotate_left
      · (intro w hSw; (try dsimp only at hSw); go_simp; try (with_reducible rfl))
      try simp only [Act.put, List.setIfInBounds_toArray, List.set_cons_zero, List.set_cons_succ]
      refine wpAnyH_take (i := 2) (oi := { dst := some 53, op := Op.move (Operand.tmp 7), type := 3, pos := "law.go:90", after := #[], guard := none }) (v := ?_) rfl (by kernel_rfl) (by kernel_rfl) (by kernel_rfl) (fun _ _ _ h => h) (Or.inl ⟨by rfl, ?_⟩) (by assumption) ?_
      rotate_left
      · (intro w hSw; (try dsimp only at hSw); go_simp; try (with_reducible rfl))
      try simp only [Act.put, List.setIfInBounds_toArray, List.set_cons_zero, List.set_cons_succ]
      refine wpAnyH_take (i := 3) (oi := { dst := some 54, op := Op.indexAddr 22 (Operand.tmp 52) (Operand.tmp 53), type := 0, pos := "law.go:90", after := #[{ on := 1, ground := Ground.data }, { on := 2, ground := Ground.data }], guard := none }) (v := ?_) rfl (by kernel_rfl) (by kernel_rfl) (by kernel_rfl) (fun _ _ _ h => h) (Or.inl ⟨by rfl, ?_⟩) (by assumption) ?_
      rotate_left
      · (intro w hSw; (try dsimp only at hSw); go_simp; try (with_reducible rfl))
      try simp only [Act.put, List.setIfInBounds_toArray, List.set_cons_zero, List.set_cons_succ]
      refine wpAnyH_take (i := 4) (oi := { dst := some 55, op := Op.load 25 (Operand.tmp 54), type := 25, pos := "law.go:90", after := #[{ on := 3, ground := Ground.data }], guard := none }) (v := ?_) rfl (by kernel_rfl) (by kernel_rfl) (by kernel_rfl) (fun _ _ _ h => h) (Or.inl ⟨by rfl, ?_⟩) (by assumption) ?_
      rotate_left
      · (intro w hSw; (try dsimp only at hSw); go_simp; try (with_reducible rfl))
      try simp only [Act.put, List.setIfInBounds_toArray, List.set_cons_zero, List.set_cons_succ]
      refine wpAnyH_take (i := 6) (oi := { dst := some 57, op := Op.load 36 (Operand.tmp 8), type := 36, pos := "law.go:90", after := #[], guard := none }) (v := ?_) rfl (by kernel_rfl) (by kernel_rfl) (by kernel_rfl) (fun _ _ _ h => h) (Or.inl ⟨by rfl, ?_⟩) (by assumption) ?_
      rotate_left
      · (intro w hSw; (try dsimp only at hSw); go_simp; try (with_reducible rfl))
      try simp only [Act.put, List.setIfInBounds_toArray, List.set_cons_zero, List.set_cons_succ]
      refine wpAnyH_ready (rs := [5]) (by kernel_rfl) (by simp) ?_
      refine AllReadyH.cons (o := { dst := some 56, op := Op.call { callee := Callee.value (Operand.func 17), args := #[Operand.tmp 55], argTypes := #[25] }, type := 9, pos := "law.go:90", after := #[{ on := 4, ground := Ground.data }], guard := none }) rfl (fun K hK => ?_) AllReadyH.nil
      go_simp
      (go_at_call 17; refine (hname _).mono ?_; rintro _ w5 ⟨rfl, m5'⟩)
      have m5 : Moves [] wq w5 := (Moves.refl [] wq).drew.then m5'
      have S5 := HSS.out w5 (mq.then m5) (m5.at hbx (by simp))
      refine hK.out _ _ ?_ (fun hHeld => ?_)
      · first | exact S0 | exact S5 | exact S7
      clear hK K
      try simp only [Act.put, List.setIfInBounds_toArray, List.set_cons_zero, List.set_cons_succ]
      refine wpAnyH_ready (rs := [7]) (by kernel_rfl) (by simp) ?_
      refine AllReadyH.cons (o := { dst := some 58, op := Op.call { callee := Callee.value (Operand.func 8), args := #[Operand.tmp 51, Operand.tmp 56, Operand.tmp 57], argTypes := #[26, 9, 36] }, type := 38, pos := "law.go:90", after := #[{ on := 0, ground := Ground.data }, { on := 5, ground := Ground.data }, { on := 6, ground := Ground.data }, { on := 5, ground := Ground.chain }], guard := none }) rfl (fun K hK => ?_) AllReadyH.nil
      go_simp
      (go_at_call 8; refine (tset_w w _ P a xs _ _ R (HT.out.moves0 m5) HI.out.rise (by have := HI.out.len; omega) (HR.out.moves m5) ((mq.then m5).size)).mono ?_; rintro _ w7 ⟨rfl, a7, ⟨hT7, m7, hb7⟩, st7⟩)
      have M7 : Moves [] w w7 := tab_moves (HT.out.moves0 m5) hPP (mq.then m5) m7
      have hbx7 := m7.at (m5.at hbx (by simp)) hpbn
      have S7 := HSS.out w7 M7 hbx7
      have hG7 : GrowN w w7 (.slice ad6 n6 cap6) xs := (HG.out.moves0 m5).moves m7 HAP.out st7
      have hr7 : RowAt w7 (.agg #[.slice adr nr capr]) R := (HR.out.moves m5).stay3 st7
      have HT7 : Hid (TabIs w w7 P a7 (psetN xs s R)) := hT7
      have HG7 : Hid (GrowN w w7 (.slice ad6 n6 cap6) xs) := hG7
      have HR7 : Hid (RowAt w7 (.agg #[.slice adr nr capr]) R) := hr7
      have HB7 : Hid (a7 = a ∨ ∃ k, a7 = some k ∧ w5.heap.size ≤ k) := hb7
      have HLT : Hid (wq.heap.size ≤ w5.heap.size) := m5.size
      clear hT7 hG7 hr7 hb7 st7
      refine hK.out _ _ ?_ (fun hHeld => ?_)
      · first | exact S0 | exact S5 | exact S7
      clear hK K
      try simp only [Act.put, List.setIfInBounds_toArray, List.set_cons_zero, List.set_cons_succ]
      refine wpAnyH_take (i := 8) (oi := { dst := some 9, op := Op.assign (Operand.tmp 58), type := 38, pos := "law.go:90", after := #[{ on := 7, ground := Ground.data }, { on := 7, ground := Ground.chain }, { on := 0, ground := Ground.phase }, { on := 1, ground := Ground.phase }, { on := 2, ground := Ground.phase }, { on := 3, ground := Ground.phase }, { on := 4, ground := Ground.phase }, { on := 5, ground := Ground.phase }, { on := 6, ground := Ground.phase }, { on := 7, ground := Ground.phase }], guard := none }) (v := ?_) rfl (by kernel_rfl) (by kernel_rfl) (by kernel_rfl) (fun _ _ _ h => h) (Or.inl ⟨by rfl, ?_⟩) (by assumption) ?_
      rotate_left
      · (intro w hSw; (try dsimp only at hSw); go_simp; try (with_reducible rfl))
      try simp only [Act.put, List.setIfInBounds_toArray, List.set_cons_zero, List.set_cons_succ]
      refine wpAnyH_done (by kernel_rfl) ?_ _
      refine NoPanic.normal ?_
      go_wp2_with fail
      refine wp_region_noPanic ?_
      refine wp_region_held_drew (S := (fun w' => w'.cell? ⟨b, off + k * 5, none⟩ = some (.int .i64 tk) ∧ w'.cell? ⟨b, off + k * 5 + 1, none⟩ = some (.int .i64 tr) ∧ w'.cell? ⟨b, off + k * 5 + 2, none⟩ = some (.bool tm) ∧ w'.cell? ⟨b, off + k * 5 + 3, none⟩ = some (.string tn) ∧ w'.cell? ⟨b, off + k * 5 + 4, none⟩ = some (.slice a2 l2 c2) ∧ w'.cell? ⟨pb, 0, none⟩ = some (.slice adr nr capr))) (by kernel_rfl) ?_ (fun hHeld => ?_)
      · first | (go_keep; done) | first | exact S7 | exact S8 | exact S9
      refine wpAnyH_take (i := 0) (oi := { dst := some 60, op := Op.move (Operand.tmp 6), type := 27, pos := "law.go:91", after := #[], guard := none }) (v := ?_) rfl (by kernel_rfl) (by kernel_rfl) (by kernel_rfl) (fun _ _ _ h => h) (Or.inl ⟨by rfl, ?_⟩) (by assumption) ?_
      rotate_left
      · (intro w hSw; (try dsimp only at hSw); go_simp; try (with_reducible rfl))
      try simp only [Act.put, List.setIfInBounds_toArray, List.set_cons_zero, List.set_cons_succ]
      refine wpAnyH_take (i := 1) (oi := { dst := some 61, op := Op.move (Operand.tmp 0), type := 22, pos := "law.go:91", after := #[], guard := none }) (v := ?_) rfl (by kernel_rfl) (by kernel_rfl) (by kernel_rfl) (fun _ _ _ h => h) (Or.inl ⟨by rfl, ?_⟩) (by assumption) ?_
      rotate_left
      · (intro w hSw; (try dsimp only at hSw); go_simp; try (with_reducible rfl))
      try simp only [Act.put, List.setIfInBounds_toArray, List.set_cons_zero, List.set_cons_succ]
      refine wpAnyH_take (i := 2) (oi := { dst := some 62, op := Op.move (Operand.tmp 7), type := 3, pos := "law.go:91", after := #[], guard := none }) (v := ?_) rfl (by kernel_rfl) (by kernel_rfl) (by kernel_rfl) (fun _ _ _ h => h) (Or.inl ⟨by rfl, ?_⟩) (by assumption) ?_
      rotate_left
      · (intro w hSw; (try dsimp only at hSw); go_simp; try (with_reducible rfl))
      try simp only [Act.put, List.setIfInBounds_toArray, List.set_cons_zero, List.set_cons_succ]
      refine wpAnyH_take (i := 3) (oi := { dst := some 63, op := Op.indexAddr 22 (Operand.tmp 61) (Operand.tmp 62), type := 0, pos := "law.go:91", after := #[{ on := 1, ground := Ground.data }, { on := 2, ground := Ground.data }], guard := none }) (v := ?_) rfl (by kernel_rfl) (by kernel_rfl) (by kernel_rfl) (fun _ _ _ h => h) (Or.inl ⟨by rfl, ?_⟩) (by assumption) ?_
      rotate_left
      · (intro w hSw; (try dsimp only at hSw); go_simp; try (with_reducible rfl))
      try simp only [Act.put, List.setIfInBounds_toArray, List.set_cons_zero, List.set_cons_succ]
      refine wpAnyH_take (i := 4) (oi := { dst := some 64, op := Op.load 25 (Operand.tmp 63), type := 25, pos := "law.go:91", after := #[{ on := 3, ground := Ground.data }], guard := none }) (v := ?_) rfl (by kernel_rfl) (by kernel_rfl) (by kernel_rfl) (fun _ _ _ h => h) (Or.inl ⟨by rfl, ?_⟩) (by assumption) ?_
      rotate_left
      · (intro w hSw; (try dsimp only at hSw); go_simp; try (with_reducible rfl))
      try simp only [Act.put, List.setIfInBounds_toArray, List.set_cons_zero, List.set_cons_succ]
      refine wpAnyH_take (i := 6) (oi := { dst := some 66, op := Op.load 36 (Operand.tmp 8), type := 36, pos := "law.go:91", after := #[], guard := none }) (v := ?_) rfl (by kernel_rfl) (by kernel_rfl) (by kernel_rfl) (fun _ _ _ h => h) (Or.inl ⟨by rfl, ?_⟩) (by assumption) ?_
      rotate_left
      · (intro w hSw; (try dsimp only at hSw); go_simp; try (with_reducible rfl))
      try simp only [Act.put, List.setIfInBounds_toArray, List.set_cons_zero, List.set_cons_succ]
      refine wpAnyH_ready (rs := [5]) (by kernel_rfl) (by simp) ?_
      refine AllReadyH.cons (o := { dst := some 65, op := Op.call { callee := Callee.value (Operand.func 17), args := #[Operand.tmp 64], argTypes := #[25] }, type := 9, pos := "law.go:91", after := #[{ on := 4, ground := Ground.data }], guard := none }) rfl (fun K hK => ?_) AllReadyH.nil
      go_simp
      (go_at_call 17; refine (hname _).mono ?_; rintro _ w8 ⟨rfl, m8'⟩)
      have m8 : Moves [] w7 w8 := (Moves.refl [] w7).drew.then m8'
      have S8 := HSS.out w8 (M7.then m8) (m8.at hbx7 (by simp))
      refine hK.out _ _ ?_ (fun hHeld => ?_)
      · first | exact S7 | exact S8 | exact S9
      clear hK K
      try simp only [Act.put, List.setIfInBounds_toArray, List.set_cons_zero, List.set_cons_succ]
      refine wpAnyH_ready (rs := [7]) (by kernel_rfl) (by simp) ?_
      refine AllReadyH.cons (o := { dst := some 67, op := Op.call { callee := Callee.value (Operand.func 18), args := #[Operand.tmp 60, Operand.tmp 65, Operand.tmp 66], argTypes := #[27, 9, 36] }, type := 57, pos := "law.go:91", after := #[{ on := 0, ground := Ground.data }, { on := 5, ground := Ground.data }, { on := 6, ground := Ground.data }, { on := 5, ground := Ground.chain }], guard := none }) rfl (fun K hK => ?_) AllReadyH.nil
      go_simp
      (go_at_call 18; refine (nset_w w8 _ _ xs _ _ R ((HG7.out.at).moves m8) (HR7.out.moves m8) (Moves.refl _ _) (by have := HI.out.len; omega) HI.out.right HI.out.rise).mono ?_; rintro _ w9 ⟨ad9, n9, cap9, rfl, hN9, m9, hv9⟩)
      have S9 := HSS.out w9 ((M7.then m8).then m9) ((m8.then m9).at hbx7 (by simp))
      have HN9 : Hid (NamsAt w9 (.slice ad9 n9 cap9) (psetN xs s R)) := hN9
      have HV9 : Hid ((Value.slice ad9 n9 cap9 = .slice ad6 n6 cap6 ∧ psetE xs s R ≠ 0) ∨ GrowN w8 w9 (.slice ad9 n9 cap9) (psetN xs s R)) := hv9
      clear hN9 hv9
      refine hK.out _ _ ?_ (fun hHeld => ?_)
      · first | exact S7 | exact S8 | exact S9
      clear hK K
      try simp only [Act.put, List.setIfInBounds_toArray, List.set_cons_zero, List.set_cons_succ]
      refine wpAnyH_take (i := 8) (oi := { dst := some 59, op := Op.move (Operand.tmp 67), type := 57, pos := "law.go:91", after := #[{ on := 7, ground := Ground.data }], guard := none }) (v := ?_) rfl (by kernel_rfl) (by kernel_rfl) (by kernel_rfl) (fun _ _ _ h => h) (Or.inl ⟨by rfl, ?_⟩) (by assumption) ?_
      rotate_left
      · (intro w hSw; (try dsimp only at hSw); go_simp; try (with_reducible rfl))
      try simp only [Act.put, List.setIfInBounds_toArray, List.set_cons_zero, List.set_cons_succ]
      refine wpAnyH_take (i := 9) (oi := { dst := some 68, op := Op.extract (Operand.tmp 59) 0, type := 27, pos := "law.go:91", after := #[{ on := 8, ground := Ground.data }], guard := none }) (v := ?_) rfl (by kernel_rfl) (by kernel_rfl) (by kernel_rfl) (fun _ _ _ h => h) (Or.inl ⟨by rfl, ?_⟩) (by assumption) ?_
      rotate_left
      · (intro w hSw; (try dsimp only at hSw); go_simp; try (with_reducible rfl))
      try simp only [Act.put, List.setIfInBounds_toArray, List.set_cons_zero, List.set_cons_succ]
      refine wpAnyH_take (i := 10) (oi := { dst := some 69, op := Op.extract (Operand.tmp 59) 1, type := 38, pos := "law.go:91", after := #[{ on := 8, ground := Ground.data }, { on := 11, ground := Ground.gcOnly Departure.lateStores }], guard := none }) (v := ?_) rfl (by kernel_rfl) (by kernel_rfl) (by kernel_rfl) (fun _ _ _ h => h) (Or.inl ⟨by rfl, ?_⟩) (by assumption) ?_
      rotate_left
      · (intro w hSw; (try dsimp only at hSw); go_simp; try (with_reducible rfl))
      try simp only [Act.put, List.setIfInBounds_toArray, List.set_cons_zero, List.set_cons_succ]
      refine wpAnyH_take (i := 11) (oi := { dst := some 10, op := Op.assign (Operand.tmp 68), type := 27, pos := "law.go:91", after := #[{ on := 9, ground := Ground.data }, { on := 7, ground := Ground.chain }, { on := 0, ground := Ground.phase }, { on := 1, ground := Ground.phase }, { on := 2, ground := Ground.phase }, { on := 3, ground := Ground.phase }, { on := 4, ground := Ground.phase }, { on := 5, ground := Ground.phase }, { on := 6, ground := Ground.phase }, { on := 7, ground := Ground.phase }, { on := 8, ground := Ground.phase }, { on := 9, ground := Ground.phase }, { on := 10, ground := Ground.textOnly Departure.lateStores }], guard := none }) (v := ?_) rfl (by kernel_rfl) (by kernel_rfl) (by kernel_rfl) (fun _ _ _ h => h) (Or.inl ⟨by rfl, ?_⟩) (by assumption) ?_
      rotate_left
      · (intro w hSw; (try dsimp only at hSw); go_simp; try (with_reducible rfl))
      try simp only [Act.put, List.setIfInBounds_toArray, List.set_cons_zero, List.set_cons_succ]
      refine wpAnyH_take (i := 12) (oi := { dst := some 11, op := Op.assign (Operand.tmp 69), type := 38, pos := "law.go:91", after := #[{ on := 10, ground := Ground.data }, { on := 11, ground := Ground.chain }, { on := 0, ground := Ground.phase }, { on := 1, ground := Ground.phase }, { on := 2, ground := Ground.phase }, { on := 3, ground := Ground.phase }, { on := 4, ground := Ground.phase }, { on := 5, ground := Ground.phase }, { on := 6, ground := Ground.phase }, { on := 7, ground := Ground.phase }, { on := 8, ground := Ground.phase }, { on := 9, ground := Ground.phase }, { on := 10, ground := Ground.phase }, { on := 11, ground := Ground.phase }], guard := none }) (v := ?_) rfl (by kernel_rfl) (by kernel_rfl) (by kernel_rfl) (fun _ _ _ h => h) (Or.inl ⟨by rfl, ?_⟩) (by assumption) ?_
      rotate_left
      · (intro w hSw; (try dsimp only at hSw); go_simp; try (with_reducible rfl))
      try simp only [Act.put, List.setIfInBounds_toArray, List.set_cons_zero, List.set_cons_succ]
      refine wpAnyH_done (by kernel_rfl) ?_ _
      refine NoPanic.normal ?_
      obtain ⟨GPN, GAP⟩ := play_keep HG.out HG7.out HT7.out HLT.out m8 m9 (M7.then m8).size HV9.out HAP.out HB7.out
      go_wp2_with fail
      go_roundw
      case rel => exact ⟨k + 1, _, a7, by omega, ⟨rfl, by go_num⟩, (M7.then m8).then m9, (by rw [← HPF.out]; exact HT7.out.moves0 (m8.then m9)), (by rw [← HPF.out]; exact GPN), GAP⟩
      case measure => simp [intOf]; omega
    · obtain rfl : k = 45 := by omega
      rw [← HXS.out] at hTr hGr
      go_wp2_with fail
      go_ret3
      exact ⟨_, _, _, _, _, rfl, hTr, hGr.at, hPP, mr⟩
end Go.Proofs.Ytcngllcifcpbkaa
