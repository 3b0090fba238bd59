/- ours -/
import Derived.Test.YtfhdodopjgfedaaGreatCAm2
namespace Go.Proofs.YtfhdodopjgfedaaGreat
open Go.RowKit

set_option maxRecDepth 100000 in
set_option maxHeartbeats 8000000 in
theorem cencA_w (W w : World) (c : List Value) (A : Pans) (h : AnsC W c A) (m : Moves [] W w) :
    Calls Tryz.prog 107 #[.agg c.toArray] w fun e w' => ∃ v', e = .returned (.tuple #[v', .int .i64 (if rAns A then 0 else 1)]) ∧ Own w' v' (if rAns A then encA A else []) ∧ Moves [] w w' := by
  have HA : Hid (AnsC W c A) := h
  obtain ⟨ar, nr, cr, sa, ns, cs, gs, rfl, -, -, -, -⟩ := h
  have hlenA : rAns A = true → (encA A).length ≤ 1100000 := fun hr => by
    obtain ⟨r0, r1, r2, r3, r4, r5, r6, r7, r8, r9⟩ := rAns_iff.1 hr
    obtain ⟨sl, sh, _⟩ := spR_parts r2
    have hlo : A.lo.size ≤ 16 := of_decide_eq_true sl
    have hhi : A.hi.size ≤ 16 := of_decide_eq_true sh
    have hat : A.at'.size ≤ 16 := of_decide_eq_true r8
    unfold rRows at r1
    rw [Bool.and_eq_true] at r1
    have q1 : A.rows.length ≤ 16 := of_decide_eq_true r1.1
    have q2 := encNs_len (xs := A.rows) (fun x hx => by
      have := List.all_eq_true.1 r1.2 x hx
      unfold rRow at this
      rw [Bool.and_eq_true] at this
      exact this)
    unfold encA encX
    simp only [List.length_append, List.length_singleton, be_length, zbs_length]
    omega
  have ma : Moves [] w (w.alloc (.cells #[.int .i64 A.code, .slice ar nr cr, .string A.lo, .string A.hi, .int .i64 A.grp, .int .i64 A.gen, .int .i64 A.old, .int .i64 A.to, .int .i64 A.act, .string A.at', .slice sa ns cs] 48)) := (Moves.refl [] w).alloc _
  have hbox := heap_alloc_new w (.cells #[.int .i64 A.code, .slice ar nr cr, .string A.lo, .string A.hi, .int .i64 A.grp, .int .i64 A.gen, .int .i64 A.old, .int .i64 A.to, .int .i64 A.act, .string A.at', .slice sa ns cs] 48)
  have hright := crightA_w W _ _ A HA.out (m.then ma)
  obtain ⟨code, rows, lo, hi, grp, gen, old, to, act, at', st⟩ := A
  dsimp only at hright hbox ma
  obtain ⟨P, hP⟩ : ∃ P, w.heap.size = P := ⟨_, rfl⟩
  rw [hP] at hbox
  cases hr : rAns ⟨code, rows, lo, hi, grp, gen, old, to, act, at', st⟩ with
  | false =>
    rw [hr] at hright
    go_enter Tryz.func107, Tryz.ntmps107
    go_wp2_with fail
    refine hright.mono ?_
    rintro _ w2 ⟨rfl, m2⟩
    go_wp2_with fail
    go_ret2
    exact ⟨_, rfl, Own.nil _, ma.then m2⟩
  | true =>
    rw [hr] at hright
    have hlA := hlenA hr
    go_enter Tryz.func107, Tryz.ntmps107
    go_wp2_with fail
    refine hright.mono ?_
    rintro _ w2 ⟨rfl, m2⟩
    go_wp2_with fail
    refine (new_w w2).mono ?_
    rintro _ w3 ⟨rfl, hW3, m3⟩
    have sz := ((m.then ma).then m2).size
    obtain ⟨q, hq⟩ : ∃ q, w2.heap.size = q := ⟨_, rfl⟩
    rw [hq] at hW3 ⊢
    have hS3 : WrS w2 w3 q none [] := ⟨hW3, m3, by omega, by simp⟩
    have hwr := cwriteA_w w2 w3 q none _ _ (HA.out.moves ((m.then ma).then m2)) hS3 hr
    obtain ⟨k0, k1, k2, k3, k4, k5, k6, k7, k8, k9, k10⟩ := eleven_cells ((m2.then m3).at hbox (by simp))
    go_wp2_with fail
    refine hwr.mono ?_
    rintro _ w4 ⟨rfl, a4, hS4⟩
    have hdn := done_w q a4 _ w4 hS4.wr (by omega)
    clear hwr
    go_wp2_with fail
    refine hdn.mono ?_
    rintro _ w5 ⟨v5, rfl, hO5, m5, f5⟩
    clear hdn
    have M45 : Moves [] w w4 := (ma.then m2).then hS4.moves
    go_wp2_with fail
    go_ret2
    exact ⟨_, rfl, hO5, M45.then m5⟩
theorem cname_w (N r g : Nat) (bs : List Nat) (w : World) (h : RdIs w r g bs false) (ho : OctN N bs) :
    Calls Tryz.prog 136 #[.pointer (some ⟨r, 0, none⟩)] w fun e w' => match dText 16 bs with
      | some (tx, rest) => e = .returned (.string (strOf tx)) ∧ RdIs w' r g rest false ∧ Moves [r] w w'
      | none => e = .panicked (stop r) ∧ RdIs w' r g bs true ∧ Moves [r] w w' := by
  cases hd : dText 16 bs with
  | some pr =>
    obtain ⟨tx, rest⟩ := pr
    obtain ⟨h1, h2, h3⟩ := dText_yes hd
    have hR := rtextr_w r g bs 16 w h ho.2 h1
    rw [h2, h3] at hR
    have hz := (dText_text hd ho).1
    clear h1 h2 h3 hd
    dsimp only
    obtain ⟨z, hzz⟩ : ∃ z, strOf tx = z := ⟨_, rfl⟩
    rw [hzz]
    go_enter Tryz.func136, Tryz.ntmps136
    go_wp2_with fail
    refine hR.mono ?_
    rintro _ w2 ⟨v, rfl, hO, hr, m, _⟩
    have hrun := run_str hO.isB hz
    rw [hzz] at hrun
    go_wp2_with fail
    go_ret
    exact ⟨rfl, hr, m⟩
  | none =>
    have hR := rtextr_fail_w r g bs 16 w h ho.2 (dText_no hd)
    go_enter Tryz.func136, Tryz.ntmps136
    go_wp2_with fail
    refine hR.mono ?_
    rintro _ w2 ⟨rfl, hr, m⟩
    exact ⟨rfl, rfl, hr, m⟩
theorem stakeEnd_w (N r g : Nat) (bs : List Nat) (w : World) (h : RdIs w r g bs false) (ho : OctN N bs) :
    Calls Tryz.prog 171 #[.pointer (some ⟨r, 0, none⟩)] w fun e w' => match dText 16 bs with
      | some (tx, rest) => e = .returned (.string (strOf tx)) ∧ RdIs w' r g rest false ∧ Moves [r] w w'
      | none => e = .panicked (stop r) ∧ RdIs w' r g bs true ∧ Moves [r] w w' := by
  cases hd : dText 16 bs with
  | some pr =>
    obtain ⟨tx, rest⟩ := pr
    obtain ⟨h1, h2, h3⟩ := dText_yes hd
    have hR := rtextr_w r g bs 16 w h ho.2 h1
    rw [h2, h3] at hR
    have hz := (dText_text hd ho).1
    clear h1 h2 h3 hd
    dsimp only
    obtain ⟨z, hzz⟩ : ∃ z, strOf tx = z := ⟨_, rfl⟩
    rw [hzz]
    go_enter Tryz.func171, Tryz.ntmps171
    go_wp2_with fail
    refine hR.mono ?_
    rintro _ w2 ⟨v, rfl, hO, hr, m, _⟩
    have hrun := run_str hO.isB hz
    rw [hzz] at hrun
    go_wp2_with fail
    go_ret
    exact ⟨rfl, hr, m⟩
  | none =>
    have hR := rtextr_fail_w r g bs 16 w h ho.2 (dText_no hd)
    go_enter Tryz.func171, Tryz.ntmps171
    go_wp2_with fail
    refine hR.mono ?_
    rintro _ w2 ⟨rfl, hr, m⟩
    exact ⟨rfl, rfl, hr, m⟩

def TookS (w0 : World) (r g : Nat) (o : Option (Psp × List Nat)) (e : Ending) (w' : World) : Prop := match o with
  | some (s, rest) => e = .returned (.agg #[.string s.lo, .string s.hi]) ∧ RdIs w' r g rest false ∧ Moves [r] w0 w'
  | none => e = .panicked (stop r) ∧ (∃ bs', RdIs w' r g bs' true) ∧ Moves [r] w0 w'

set_option maxRecDepth 100000 in
set_option maxHeartbeats 4000000 in
theorem spTakeF_w (N r g : Nat) (bs : List Nat) (w : World) (h : RdIs w r g bs false) (ho : OctN N bs) (hg : g < w.heap.size) :
    Calls Tryz.prog 138 #[.pointer (some ⟨r, 0, none⟩)] w fun e w' => TookS w r g (dSpan bs) e w' := by
  have lp : r < w.heap.size := h.ltp
  have hb := heap_alloc_new w (.cells #[.string ⟨#[]⟩, .string ⟨#[]⟩] 37)
  have m0 : Moves [] w (w.alloc (.cells #[.string ⟨#[]⟩, .string ⟨#[]⟩] 37)) := (Moves.refl _ _).alloc _
  have h0 := h.moves m0 (by simp) (by simp)
  obtain ⟨P, hP⟩ : ∃ P, w.heap.size = P := ⟨_, rfl⟩
  rw [hP] at hb
  have hpe : ∀ w1 : World, (binOp .eql 176 (.pointer (some ⟨r, 0, none⟩)) (.pointer none)).run Tryz.prog w1 = .ok (.bool false) w1 := by intro w1; kernel_rfl
  have hE := stakeEnd_w N r g bs _ h0 ho
  cases h1 : dText 16 bs with
  | none =>
    rw [h1] at hE
    have e0 : dSpan bs = none := pbn_none h1
    rw [e0]
    go_enter Tryz.func138, Tryz.ntmps138
    go_wp2_with fail
    refine hE.mono ?_
    rintro _ w2 ⟨rfl, hr2, m2⟩
    exact ⟨rfl, rfl, ⟨_, hr2⟩, (m0.mono (by simp)).then m2⟩
  | some pr =>
    obtain ⟨lo, b1⟩ := pr
    rw [h1] at hE
    have ho1 := dText_rest h1 ho
    have HD1 : Hid (dSpan bs = _) := pbn_some h1
    cases h2 : dText 16 b1 with
    | none =>
      have e0 : dSpan bs = none := by rw [HD1.out]; exact pbn_none h2
      rw [e0]
      clear HD1 e0
      go_enter Tryz.func138, Tryz.ntmps138
      go_wp2_with fail
      refine hE.mono ?_
      rintro _ w2 ⟨rfl, hr2, m2⟩
      have hE2 := stakeEnd_w N r g b1 w2 hr2 ho1
      rw [h2] at hE2
      go_wp2_with fail
      refine hE2.mono ?_
      rintro _ w3 ⟨rfl, hr3, m3⟩
      exact ⟨rfl, rfl, ⟨_, hr3⟩, ((m0.mono (by simp)).then m2).then m3⟩
    | some pr2 =>
      obtain ⟨hi, b2⟩ := pr2
      have HD2 : dSpan bs = if spR ⟨strOf lo, strOf hi⟩ then some (⟨strOf lo, strOf hi⟩, b2) else none := by rw [HD1.out]; exact pbn_some h2
      rw [HD2]
      clear HD1 HD2
      obtain ⟨zl, hzl⟩ : ∃ zl, strOf lo = zl := ⟨_, rfl⟩
      obtain ⟨zh, hzh⟩ : ∃ zh, strOf hi = zh := ⟨_, rfl⟩
      dsimp only at hE
      rw [hzl] at hE ⊢
      rw [hzh]
      cases hR : spR ⟨zl, zh⟩ with
      | false =>
        rw [if_neg (by simp)]
        go_enter Tryz.func138, Tryz.ntmps138
        go_wp2_with fail
        refine hE.mono ?_
        rintro _ w2 ⟨rfl, hr2, m2⟩
        have hE2 := stakeEnd_w N r g b1 w2 hr2 ho1
        rw [h2] at hE2
        dsimp only at hE2
        rw [hzh] at hE2
        have hb2 := m2.at hb (by simp; omega)
        go_wp2_with fail
        refine hE2.mono ?_
        rintro _ w3 ⟨rfl, hr3, m3⟩
        have hb3 := m3.at hb2 (by simp; omega)
        have hq := heap_alloc_new w3 (.cells #[.string zl, .string zh] 37)
        have mq : Moves [] w3 (w3.alloc (.cells #[.string zl, .string zh] 37)) := (Moves.refl _ _).alloc _
        have hr4 := hr3.moves mq (by simp) (by simp)
        obtain ⟨Q, hQ⟩ : ∃ Q, w3.heap.size = Q := ⟨_, rfl⟩
        rw [hQ] at hq
        go_wp2_with fail
        refine (spRight_w _ _ _).mono ?_
        rintro _ w5 ⟨rfl, m5⟩
        rw [hR]
        have hr5 := hr4.moves m5 (by simp) (by simp)
        obtain ⟨c0, c1, _, _⟩ := sp_cells (m5.at hq (by simp))
        go_wp2_with fail
        refine (rfail_w r g _ _ hr5).mono ?_
        rintro _ w6 ⟨rfl, hr6, m6⟩
        exact ⟨rfl, rfl, ⟨_, hr6⟩, (((m0.mono (by simp)).then (m2.then m3)).then ((mq.then m5).mono (by simp))).then m6⟩
      | true =>
        rw [if_pos rfl]
        go_enter Tryz.func138, Tryz.ntmps138
        go_wp2_with fail
        refine hE.mono ?_
        rintro _ w2 ⟨rfl, hr2, m2⟩
        have hE2 := stakeEnd_w N r g b1 w2 hr2 ho1
        rw [h2] at hE2
        dsimp only at hE2
        rw [hzh] at hE2
        have hb2 := m2.at hb (by simp; omega)
        go_wp2_with fail
        refine hE2.mono ?_
        rintro _ w3 ⟨rfl, hr3, m3⟩
        have hb3 := m3.at hb2 (by simp; omega)
        have hq := heap_alloc_new w3 (.cells #[.string zl, .string zh] 37)
        have mq : Moves [] w3 (w3.alloc (.cells #[.string zl, .string zh] 37)) := (Moves.refl _ _).alloc _
        have hb4 := mq.at hb3 (by simp)
        have hr4 := hr3.moves mq (by simp) (by simp)
        obtain ⟨Q, hQ⟩ : ∃ Q, w3.heap.size = Q := ⟨_, rfl⟩
        rw [hQ] at hq
        have lp3 : P < w3.heap.size := lt_of_block hb3
        go_wp2_with fail
        refine (spRight_w _ _ _).mono ?_
        rintro _ w5 ⟨rfl, m5⟩
        rw [hR]
        have hb5 := m5.at hb4 (by simp)
        have hr5 := hr4.moves m5 (by simp) (by simp)
        obtain ⟨c0, c1, _, _⟩ := sp_cells (m5.at hq (by simp))
        obtain ⟨d0, d1, f0, f1⟩ := sp_cells hb5
        go_wp2_with fail
        try simp only [Exit.inBlock, Exit.then]
        have st := spStored1 (a := .string zl) (b := .string zh) hb5
        refine bodyPost_ret (ret_span rfl _ _ _ _ _ rfl st.1) rfl ⟨rfl, hr5.moves st.2 (by simp; omega) (by simp; omega), ?_⟩
        have M : Moves [r] w w5 := ((m0.mono (by simp)).then (m2.then m3)).then ((mq.then m5).mono (by simp))
        exact M.trans st.2 (fun x hx => .inr (by simp at hx; omega))
end Go.Proofs.YtfhdodopjgfedaaGreat
