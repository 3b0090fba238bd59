/- ours -/
import Derived.Test.YtilbbnmhnacnlaaGreatCMs7
namespace Go.Proofs.YtilbbnmhnacnlaaGreat
open Go.RowKit

theorem lpErr_row {xs ys : List Ptb} (h : lpErr xs ys = 0) : ys ≠ [] ∧ inRow ys = true := by
  unfold lpErr at h
  split at h
  · simp at h
  · rename_i hn
    simp only [Bool.or_eq_true, not_or, Bool.not_eq_true] at hn
    obtain ⟨⟨h1, h2⟩, _⟩ := hn
    cases ys with
    | nil => simp at h2
    | cons y t => exact ⟨by simp, (lpBad_no h1).1⟩
set_option maxRecDepth 100000 in
set_option maxHeartbeats 16000000 in
theorem mtPutB_w (w : World) (p : Nat) (xs : List Ptb) (h : MtIs w p xs) (hmay : mayT xs = 0) (g : Nat) (v : Value) (ys : List Ptb) (hy : TbL w g v ys) (hyl : ys.length ≤ 4) (he : lpErr xs ys = 0) :
    Calls Tryz.prog 70 #[.pointer (some ⟨p, 0, none⟩), v] w fun e w' => e = .returned (.int .i64 0) ∧ MtB w.heap.size w' p (lpTo xs ys) ∧ Moves [p] w w' := by
  obtain ⟨hyn, hr⟩ := lpErr_row he
  have hne := may_ne hmay
  have hl := (may_cov hmay).2.2
  have hpe : ∀ w1 : World, (binOp .eql 69 (.pointer (some ⟨p, 0, none⟩)) (.pointer none)).run Tryz.prog w1 = .ok (.bool false) w1 := by intro w1; kernel_rfl
  have hin := mtInRow_w w g v ys hy (by omega) hyn
  have hwi := fun w1 (m : Moves [] w w1) => mtWith_w w1 p xs (h.moves0 m) hne hl g v ys (hy.moves m (by simp)) hyl hyn
  obtain ⟨v0, hp, _⟩ := h
  obtain ⟨ad, n, cap, rfl, hn, hc, HL⟩ := hy.open
  have hn0 : ¬ (n : Int) = 0 := by have := hn.out; have := List.length_pos_iff.2 hyn; omega
  have hn1 : ((n : Int) == 0) = false := by simpa using hn0
  have HYN : Hid (ys ≠ []) := hyn
  rw [hr] at hin
  have HR : Hid (inRow ys = true) := hr
  have HE : Hid (lpErr xs ys = 0) := he
  have HMY : Hid (mayT xs = 0) := hmay
  have HLX : Hid (xs.length ≤ 16 ∧ ys.length ≤ 4) := ⟨hl, hyl⟩
  clear hr hy hyn he hmay hne hl hyl
  go_enter Tryz.func70, Tryz.ntmps70
  go_wp2_with fail
  refine hin.mono ?_
  rintro _ w2 ⟨rfl, m2⟩
  go_wp2_with fail
  refine (hwi w2 m2).mono ?_
  rintro _ w3 ⟨v3, rfl, ⟨zs, hO3, hpz, hsz⟩, hF3, m3⟩
  have hzl : zs.length ≤ 20 := by
    rw [hpz.length_eq]
    unfold tbWith
    rw [List.length_append]
    have h1 := List.length_filter_le (fun x => !tbMeet ys x) xs
    have := HLX.out
    omega
  have hzn : zs ≠ [] := by
    rintro rfl
    have e := hpz.length_eq
    unfold tbWith at e
    rw [List.length_append] at e
    have := List.length_pos_iff.2 HYN.out
    simp at e
    omega
  have hput : PutIs xs ys (mayT zs) (if mayT zs = 0 then zs else xs) := .inr ⟨HYN.out, HR.out, zs, hpz, hsz, rfl, rfl⟩
  obtain ⟨pl1, pl2⟩ := put_law HMY.out hput
  rw [HE.out] at pl1
  rw [pl1, if_pos rfl] at pl2
  obtain ⟨g3, hT3, hg3⟩ := hO3.ex hF3
  have hma := mtMayBe_w w3 g3 v3 zs hT3 (by omega)
  have hinm := fun w1 (m : Moves [] w3 w1) => mtInMetas_w w1 g3 v3 zs (hT3.moves m (by simp)) (by omega) hzn
  obtain ⟨ad3, n3, cap3, rfl, hn3⟩ := hO3.open
  have m23 : Moves [] w w3 := m2.then m3
  rw [pl1] at hma
  have HZ : Hid (zs = lpTo xs ys) := pl2
  clear hT3 hO3 hF3 hpz hsz hin hwi pl1 pl2 hput
  go_wp2_with fail
  refine hma.mono ?_
  rintro _ w4 ⟨rfl, m4⟩
  go_wp2_with fail
  refine (hinm w4 m4).mono ?_
  rintro _ w5 ⟨v5, rfl, hMs, m5⟩
  obtain ⟨ad5, n5, cap5, rfl, hn5, _, HMs⟩ := hMs.open
  have M5 : Moves [] w w5 := (m23.then m4).then m5
  have hp5 := M5.at hp (by simp)
  obtain ⟨c0, f0⟩ := one_cell hp5
  clear hMs
  go_wp2_with fail
  go_ret
  have hlt : p < w4.heap.size := lt_of_block ((m23.then m4).at hp (by simp))
  have ms := moves_set w5 p 0 (.slice ad5 n5 cap5)
  refine ⟨rfl, ?_, (M5.mono (by simp)).then ms⟩
  rw [← HZ.out]
  exact ⟨_, set_one hp5 _, (HMs.out.moves ms (fun k hk => by simp at hk; omega)).weak ((m23.then m4).size)⟩

set_option maxRecDepth 100000 in
set_option maxHeartbeats 16000000 in
theorem mmade_w (P : Pans) (hc : P.act = 2 → spC ⟨P.lo, P.hi⟩ P.at' = true) (w : World) : Calls Tryz.prog 71 #[.agg (ansV P)] w fun e w' => ∃ v g, e = .returned v ∧ TbL w' g v (mMade P) ∧ Moves [] w w' := by
  unfold ansV
  have b := heap_alloc_new w (.cells #[.int .i64 P.code, .slice none 0 0, .string P.lo, .string P.hi, .int .i64 P.grp, .int .i64 P.gen, .int .i64 P.old, .int .i64 P.to, .int .i64 P.act, .string P.at', .slice none 0 0] 48)
  have m : Moves [] w (w.alloc (.cells #[.int .i64 P.code, .slice none 0 0, .string P.lo, .string P.hi, .int .i64 P.grp, .int .i64 P.gen, .int .i64 P.old, .int .i64 P.to, .int .i64 P.act, .string P.at', .slice none 0 0] 48)) := (Moves.refl _ _).alloc _
  obtain ⟨w1, hw1⟩ : ∃ w1, w.alloc (.cells #[.int .i64 P.code, .slice none 0 0, .string P.lo, .string P.hi, .int .i64 P.grp, .int .i64 P.gen, .int .i64 P.old, .int .i64 P.to, .int .i64 P.act, .string P.at', .slice none 0 0] 48) = w1 := ⟨_, rfl⟩
  rw [hw1] at b m
  obtain ⟨z0, z1, z2, z3, z4, z5, z6, z7, z8, z9, z10⟩ := eleven_cells b
  have HB : Hid _ := b
  have HM : Hid _ := m
  clear b m z0 z1 z6 z10
  by_cases h1 : P.act = 1
  · have e : mMade P = [⟨P.lo, P.hi, P.to, P.gen⟩] := by unfold mMade; rw [if_pos h1]
    have h1' : (P.act == 1) = true := beq_iff_eq.2 h1
    rw [e]
    clear e h1 hc
    go_enter Tryz.func71, Tryz.ntmps71
    go_wp2_with fail
    go_ret
    try rw [hw1]
    exact ⟨_, _, rfl, tb_new w1 ⟨P.lo, P.hi, P.to, P.gen⟩, HM.out.then ((Moves.refl _ _).alloc _)⟩
  · have h1' : (P.act == 1) = false := beq_eq_false_iff_ne.2 h1
    by_cases h2 : P.act = 2
    · have e : mMade P = [⟨P.lo, P.at', P.grp, P.gen⟩, ⟨P.at', P.hi, P.grp, P.gen⟩] := by unfold mMade; rw [if_neg h1, if_pos h2]
      have h2' : (P.act == 2) = true := beq_iff_eq.2 h2
      have hsp := spSplit_yes P.lo P.hi P.at' w1 (hc h2)
      rw [e]
      clear e h1 h2 hc
      go_enter Tryz.func71, Tryz.ntmps71
      go_wp2_with fail
      try rw [hw1]
      refine hsp.mono ?_
      rintro _ w2 ⟨rfl, m2⟩
      have b2 := m2.at HB.out (by simp)
      have bx := spBoxes2 w2 #[.string P.lo, .string P.at'] #[.string P.at', .string P.hi] 37
      have b3 := bx.1.at b2 (by simp)
      have M3 : Hid _ := (HM.out.then m2).then bx.1
      obtain ⟨e0, e1, _, _⟩ := sp_cells bx.2.1
      obtain ⟨f0, f1, _, _⟩ := sp_cells bx.2.2
      clear z2 z3 z4 z5 z7 z8 z9
      obtain ⟨z0, z1, z2, z3, z4, z5, z6, z7, z8, z9, z10⟩ := eleven_cells b3
      clear b3 b2 bx z0 z1 z6 z10 m2 hsp
      go_wp2_with fail
      go_ret
      have htb := tb_new2 ((w2.alloc (.cells #[.string P.lo, .string P.at'] 37)).alloc (.cells #[.string P.at', .string P.hi] 37)) ⟨P.lo, P.at', P.grp, P.gen⟩ ⟨P.at', P.hi, P.grp, P.gen⟩
      have hs : ((w2.alloc (.cells #[.string P.lo, .string P.at'] 37)).alloc (.cells #[.string P.at', .string P.hi] 37)).heap.size = w2.heap.size + 1 + 1 := by simp
      rw [hs] at htb
      exact ⟨_, _, rfl, htb, M3.out.then ((Moves.refl _ _).alloc _)⟩
    · have e : mMade P = [⟨P.lo, P.hi, P.grp, P.gen⟩] := by unfold mMade; rw [if_neg h1, if_neg h2]
      have h2' : (P.act == 2) = false := beq_eq_false_iff_ne.2 h2
      rw [e]
      clear e h1 h2 hc
      go_enter Tryz.func71, Tryz.ntmps71
      go_wp2_with fail
      go_ret
      try rw [hw1]
      exact ⟨_, _, rfl, tb_new w1 ⟨P.lo, P.hi, P.grp, P.gen⟩, HM.out.then ((Moves.refl _ _).alloc _)⟩

theorem MrG.put {W w w1 w2 : World} {p q c : Nat} {a : Option Nat} {S S' : Pms} (h : MrIs W w p q c a S) (m1 : Moves [q] w w1) (hB : MtB w.heap.size w1 q S'.xs) (m2 : Moves [p] w1 w2) (h2 : w2.heap[p]? = some (.cells (mrCells q c S') 76 (0, 0))) (hc : S'.ca = S.ca) : MrG W w p q c a S w2 a S' := by
  obtain ⟨l1, l2, l3, l4⟩ := h.lt
  obtain ⟨n1, n2, n3, n4, n5, n6⟩ := h.ne
  have key : ∀ Y : List Nat, (∀ k ∈ Y, k < w.heap.size) → MtZ (Y ++ (p :: q :: c :: a.toList)) w2 q S'.xs := by
    intro Y hY
    refine (MtZ.ofB hB ?_).moves m2 (by simp) (by simpa using fun e => n1 e.symm)
    intro k hk
    simp only [List.mem_append, List.mem_cons] at hk
    rcases hk with e | e | e | e | e
    · exact hY k e
    · omega
    · omega
    · omega
    · exact l4 k (Option.mem_toList.1 e)
  refine ⟨⟨h2, by simpa using key [] (by simp), ?_, h.hp, h.hq, h.hc⟩, (m1.mono (by simp)).then (m2.mono (by simp)), .inl rfl, fun Y hY _ => key Y hY⟩
  rw [hc]
  refine (h.cac.moves m1 (by simpa using fun e => n3 e.symm) (fun k hk hm => n5 ?_)).moves m2 (by simpa using fun e => n2 e.symm) (fun k hk hm => n4 ?_)
  · simp at hm; subst hm; simp [hk]
  · simp at hm; subst hm; simp [hk]
set_option maxRecDepth 100000 in
set_option maxHeartbeats 16000000 in
theorem mpub_w (W w : World) (p q c : Nat) (a : Option Nat) (S : Pms) (h : MrIs W w p q c a S) (ok : OkM S) (C : Pcmd) (ca : Option Addr) (cn cc : Nat) (la : Option Addr) (ln lc : Nat) (sa : Option Addr) (sn sc : Nat) (hg : 1 ≤ C.gen) :
    Calls Tryz.prog 38 #[.pointer (some ⟨p, 0, none⟩), .agg #[.int .i64 C.kind, .int .i64 C.op.kind, .string C.op.row, .string C.op.hi, .bool C.op.cd.has, .bool C.op.cd.want, .string C.op.cd.col, .int .i64 C.op.cd.v.kind, .slice ca cn cc, .float .f64 C.op.cd.v.n, .slice la ln lc, .int .i64 C.op.most, .string C.lo, .string C.hi, .int .i64 C.gen, .string C.at', .int .i64 C.to, .int .i64 C.act, .slice sa sn sc]] w fun e w' => e = .returned (.int .i64 (mPub S C.gen C.to).1.code) ∧ MrG W w p q c a S w' a (mPub S C.gen C.to).2 := by
  have hmx : Tryz.prog.follows .mixedOrders = true := by kernel_rfl
  have a1 := heap_alloc_new w (.cells #[.int .i64 C.kind, .int .i64 C.op.kind, .string C.op.row, .string C.op.hi, .bool C.op.cd.has, .bool C.op.cd.want, .string C.op.cd.col, .int .i64 C.op.cd.v.kind, .slice ca cn cc, .float .f64 C.op.cd.v.n, .slice la ln lc, .int .i64 C.op.most, .string C.lo, .string C.hi, .int .i64 C.gen, .string C.at', .int .i64 C.to, .int .i64 C.act, .slice sa sn sc] 39)
  obtain ⟨w1, hw1⟩ : ∃ w1, w.alloc (.cells #[.int .i64 C.kind, .int .i64 C.op.kind, .string C.op.row, .string C.op.hi, .bool C.op.cd.has, .bool C.op.cd.want, .string C.op.cd.col, .int .i64 C.op.cd.v.kind, .slice ca cn cc, .float .f64 C.op.cd.v.n, .slice la ln lc, .int .i64 C.op.most, .string C.lo, .string C.hi, .int .i64 C.gen, .string C.at', .int .i64 C.to, .int .i64 C.act, .slice sa sn sc] 39) = w1 := ⟨_, rfl⟩
  have n1 : Moves [] w w1 := by rw [← hw1]; exact (Moves.refl _ _).alloc _
  rw [hw1] at a1
  have HI : Hid (MrIs W w1 p q c a S) := h.moves0 n1
  have HG0 : Hid (MrG W w p q c a S w1 a S) := MrG.same h n1
  obtain ⟨_, _, _, _, _, _, _, _, _, _, _, _, _, _, y14, _, y16, _, _⟩ := c19 a1
  have hbx := n1.at h.box (by simp)
  obtain ⟨_, k1, k2, k3, k4, k5, k6, k7, k8, k9, k10, k11, k12, k13, _⟩ := c15 hbx
  have HX : Hid _ := hbx
  have hpd := ok.pe
  have HOK : Hid (OkM S) := ok
  obtain ⟨R, hR⟩ : ∃ R, mPub S C.gen C.to = R := ⟨_, rfl⟩
  rw [hR]
  unfold mPub at hR
  clear a1 n1 h hbx ok
  by_cases h1 : S.last < C.gen
  · rw [if_pos h1] at hR
    have HE1 : Hid (R.1.code = 22 ∧ R.2 = S) := by unfold Hid; rw [← hR]; exact ⟨rfl, rfl⟩
    clear hR hpd hg k1 k3 k4 k5 k6 k7 k9 k10 k11 k12 k13 y16
    go_enter Tryz.func38, Tryz.ntmps38
    go_wp2_with fail
    try rw [hw1]
    go_region
    go_wp2_with fail
    go_ret
    exact ⟨by rw [HE1.out.1]; rfl, by rw [HE1.out.2]; exact HG0.out.step (MrG.same HI.out (Moves.refl [] w1).drew)⟩
  · rw [if_neg h1] at hR
    have h1' : ¬ C.gen > S.last := by omega
    by_cases h2 : C.gen ≠ S.pend.gen
    · rw [if_pos h2] at hR
      have HE1 : Hid (R.1.code = 0 ∧ R.2 = S) := by unfold Hid; rw [← hR]; exact ⟨rfl, rfl⟩
      have h2' : (C.gen == S.pend.gen) = false := beq_eq_false_iff_ne.2 h2
      clear hR hpd hg k1 k3 k4 k5 k6 k7 k9 k10 k11 k12 k13 y16 h2 h1'
      go_enter Tryz.func38, Tryz.ntmps38
      go_wp2_with fail
      try rw [hw1]
      go_region
      go_wp2_with fail
      go_region
      go_wp2_with fail
      go_ret
      exact ⟨by rw [HE1.out.1]; rfl, by rw [HE1.out.2]; exact HG0.out.step (MrG.same HI.out (Moves.refl [] w1).drew.drew)⟩
    · rw [if_neg h2] at hR
      have h2e : C.gen = S.pend.gen := by omega
      have h2' : (C.gen == S.pend.gen) = true := beq_iff_eq.2 h2e
      have hP : PlanOf S.xs S.grps S.pend ∧ S.pend.gen = S.last := by
        rcases hpd with e | e
        · rw [e] at h2e
          have : (pTold 0).gen = 0 := rfl
          omega
        · exact e
      have HPP : Hid (PlanOf S.xs S.grps S.pend ∧ S.pend.gen = S.last) := hP
      clear hP hpd h2 h1' h2e hg
      by_cases h3 : C.to ≠ -1
      · have HE1 : Hid (R.1.code = 0 ∧ R.2 = { S with xs := lpTo S.xs (mMade S.pend), pend := pTold 0 }) := by unfold Hid; rw [← hR, if_pos h3]; exact ⟨rfl, rfl⟩
        have h3' : (C.to == -1) = false := beq_eq_false_iff_ne.2 h3
        have hl0 := HOK.out.l0
        have hl1 := HOK.out.l1
        obtain ⟨A, B, D, -, ⟨hE, -, -⟩, -, -, hlen, -⟩ := plan_next HPP.out.1 HOK.out.may HOK.out.g1 (fun x hx => (HOK.out.ins x hx).1) (by rw [HPP.out.2]; omega) (by rw [HPP.out.2]; omega)
        have hmade := mmade_w S.pend (by
          intro h2
          have := HPP.out.1
          revert h2
          generalize S.pend = P at this
          cases this with
          | move => intro h2; simp [pPl] at h2
          | split A D t gen s h hc hl => intro _; exact hc
          | merge => intro h2; simp [pPl] at h2)
        have HNE : Hid (p ≠ q) := HI.out.ne.1
        clear hR h3 hl0 hl1
        go_enter Tryz.func38, Tryz.ntmps38
        go_wp2_with fail
        try rw [hw1]
        go_region
        go_wp2_with fail
        go_region
        go_wp2_with fail
        clear k1 k2 k3 k4 k5 k6 k7 k8 k9 k10 k11 k12 k13 y14 y16 h1 h2' h3' hw1
        generalize (C.gen != S.pend.gen) = zb
        generalize (C.to != -1) = zc
        generalize decide (S.last < C.gen) = zd
        have HI2 : Hid (MrIs W w1.drew.drew p q c a S) := HI.out.moves0 (Moves.refl [] w1).drew.drew
        have HG2 : Hid (MrG W w p q c a S w1.drew.drew a S) := HG0.out.step (MrG.same HI.out (Moves.refl [] w1).drew.drew)
        clear HI HG0 HX
        obtain ⟨wr, hwr⟩ : ∃ wr, wr = w1.drew.drew := ⟨_, rfl⟩
        rw [← hwr] at HI2 HG2 ⊢
        clear hwr
        have hbx : wr.drew.heap[p]? = some (.cells (mrCells q c S) 76 (0, 0)) := HI2.out.box
        have mW : Moves [] wr wr.drew := (Moves.refl _ _).drew
        have hS : ∀ w' : World, w'.heap[p]? = some (.cells (mrCells q c S) 76 (0, 0)) → (w'.cell? ⟨p, 1, none⟩ = some (.pointer (some ⟨q, 0, none⟩)) ∧ w'.cell? ⟨p, 3, none⟩ = some (.int .i64 S.pend.code) ∧ w'.cell? ⟨p, 4, none⟩ = some (.slice none 0 0) ∧ w'.cell? ⟨p, 5, none⟩ = some (.string S.pend.lo) ∧ w'.cell? ⟨p, 6, none⟩ = some (.string S.pend.hi) ∧ w'.cell? ⟨p, 7, none⟩ = some (.int .i64 S.pend.grp) ∧ w'.cell? ⟨p, 8, none⟩ = some (.int .i64 S.pend.gen) ∧ w'.cell? ⟨p, 9, none⟩ = some (.int .i64 S.pend.old) ∧ w'.cell? ⟨p, 10, none⟩ = some (.int .i64 S.pend.to) ∧ w'.cell? ⟨p, 11, none⟩ = some (.int .i64 S.pend.act) ∧ w'.cell? ⟨p, 12, none⟩ = some (.string S.pend.at') ∧ w'.cell? ⟨p, 13, none⟩ = some (.slice none 0 0)) := by
          intro w' hb
          obtain ⟨_, k1, _, k3, k4, k5, k6, k7, k8, k9, k10, k11, k12, k13, _⟩ := c15 hb
          exact ⟨k1, k3, k4, k5, k6, k7, k8, k9, k10, k11, k12, k13⟩
        have hput : ∀ w8 (m8 : Moves [] wr w8) g8 v8 (hT8 : TbL w8 g8 v8 (mMade S.pend)), Calls Tryz.prog 70 #[.pointer (some ⟨q, 0, none⟩), v8] w8 fun e w' => e = .returned (.int .i64 0) ∧ MtB w8.heap.size w' q (lpTo S.xs (mMade S.pend)) ∧ Moves [q] w8 w' :=
          fun w8 m8 g8 v8 hT8 => mtPutB_w w8 q S.xs (HI2.out.moves0 m8).tab.is HOK.out.may g8 v8 (mMade S.pend) hT8 (by omega) hE
        clear hE hlen
        refine wp_some7 [25, 26, 27, 28, 29, 30, 31, 32, 33, 34] (fun v w' => MtB wr.heap.size w' q (lpTo S.xs (mMade S.pend)) ∧ Moves [q] wr w' ∧ w'.heap[p]? = some (.cells (mrCells q c S) 76 (0, 0))) ?_ ?_
        · rename_i ax
          clear ax
          refine wp_region_noPanic ?_
          refine wp_region_held_drew (S := (fun w' => w'.cell? ⟨p, 1, none⟩ = some (.pointer (some ⟨q, 0, none⟩)) ∧ w'.cell? ⟨p, 3, none⟩ = some (.int .i64 S.pend.code) ∧ w'.cell? ⟨p, 4, none⟩ = some (.slice none 0 0) ∧ w'.cell? ⟨p, 5, none⟩ = some (.string S.pend.lo) ∧ w'.cell? ⟨p, 6, none⟩ = some (.string S.pend.hi) ∧ w'.cell? ⟨p, 7, none⟩ = some (.int .i64 S.pend.grp) ∧ w'.cell? ⟨p, 8, none⟩ = some (.int .i64 S.pend.gen) ∧ w'.cell? ⟨p, 9, none⟩ = some (.int .i64 S.pend.old) ∧ w'.cell? ⟨p, 10, none⟩ = some (.int .i64 S.pend.to) ∧ w'.cell? ⟨p, 11, none⟩ = some (.int .i64 S.pend.act) ∧ w'.cell? ⟨p, 12, none⟩ = some (.string S.pend.at') ∧ w'.cell? ⟨p, 13, none⟩ = some (.slice none 0 0))) (by kernel_rfl) ?_ (fun hHeld => ?_)
          · first | (go_keep; done) | first | exact hS _ hbx9 | exact hS _ hbx8 | exact hS _ hbx
          refine wpT 0 ⟨some 25, .move (.tmp 0), 23, "master.go:133", #[], none⟩ ?_
          refine wpT 1 ⟨some 26, .nilCheck (.tmp 25), 0, "master.go:133", #[⟨0, .data⟩], none⟩ ?_
          refine wpT 2 ⟨some 27, .fieldAddr 76 (.tmp 26) 1, 0, "master.go:133", #[⟨1, .data⟩], none⟩ ?_
          refine wpT 3 ⟨some 28, .load 69 (.tmp 27), 69, "master.go:133", #[⟨2, .data⟩], none⟩ ?_
          refine wpT 4 ⟨some 29, .move (.tmp 0), 23, "master.go:133", #[], none⟩ ?_
          refine wpT 5 ⟨some 30, .nilCheck (.tmp 29), 0, "master.go:133", #[⟨4, .data⟩], none⟩ ?_
          refine wpT 6 ⟨some 31, .fieldAddr 76 (.tmp 30) 3, 0, "master.go:133", #[⟨5, .data⟩], none⟩ ?_
          refine wpT 7 ⟨some 32, .load 48 (.tmp 31), 48, "master.go:133", #[⟨6, .data⟩], none⟩ ?_
          refine wpR 8 ⟨some 33, .call ⟨.value (.func 71), #[.tmp 32], #[48]⟩, 51, "master.go:133", #[⟨7, .data⟩], none⟩ (fun K hK => ?_)
          go_simp
          refine (hmade _).mono ?_
          rintro _ w8 ⟨v8, g8, rfl, hT8, m8⟩
          obtain ⟨ad8, n8, cap8, rfl, hn8, _, HT8⟩ := hT8.open
          have hbx8 := m8.at hbx (by simp)
          have mW8 : Moves [] wr w8 := mW.then m8
          clear hT8
          refine hK.out _ _ ?_ (fun hHeld => ?_)
          · first | exact hS _ hbx9 | exact hS _ hbx8 | exact hS _ hbx
          clear hK K
          refine wpR 9 ⟨some 34, .call ⟨.value (.func 70), #[.tmp 28, .tmp 33], #[69, 51]⟩, 45, "master.go:133", #[⟨3, .data⟩, ⟨8, .data⟩, ⟨8, .chain⟩], none⟩ (fun K hK => ?_)
          go_simp
          refine (hput w8 mW8 g8 _ HT8.out).mono ?_
          rintro _ w9 ⟨rfl, hM9, m9⟩
          have hbx9 := m9.at hbx8 (by simpa using HNE.out)
          have mW9 : Moves [q] wr w9 := (mW8.mono (by simp)).then m9
          have hM99 := hM9.weak mW8.size
          refine hK.out _ _ ?_ (fun hHeld => ?_)
          · first | exact hS _ hbx9 | exact hS _ hbx8 | exact hS _ hbx
          clear hK K
          refine wpAnyH_done (by kernel_rfl) ?_ _
          refine NoPanic.normal ?_
          exact ⟨rfl, by kernel_rfl, hM99, mW9, hbx9⟩
        · rintro v wx ⟨hMB, mx, hbxx⟩
          simp only [List.foldl_cons, List.foldl_nil, List.setIfInBounds_toArray, List.set_cons_zero, List.set_cons_succ]
          clear hbx mW hS hput hmade
          have HMB : Hid _ := hMB
          have HMX : Hid _ := mx
          have HBX : Hid _ := hbxx
          clear hMB mx hbxx
          go_wp2_with (with_reducible refine stopA _ _ rfl ?_)
          unfold Hid
          refine wpList_storeAt rfl _ _ _ rfl p 3 _ (ansV (pTold 0)).toList rfl rfl rfl (by rw [show (ansV (pTold 0)).toList.length = 11 from rfl]; exact Tryz.size48) HBX.out (by show 14 ≤ 15; omega) (ansV_one _) (mrCells q c { S with xs := lpTo S.xs (mMade S.pend), pend := pTold 0 }) rfl ?_
          intro w9 h9 m9
          go_wp2_with fail
          go_ret
          refine ⟨by rw [HE1.out.1]; rfl, ?_⟩
          rw [HE1.out.2]
          exact HG2.out.step (MrG.put HI2.out HMX.out HMB.out m9 h9 rfl)
      · have h3e : C.to = -1 := by omega
        have h3' : (C.to == -1) = true := beq_iff_eq.2 h3e
        have HE1 : Hid (R.1.code = 0 ∧ R.2 = { S with pend := pTold 0 }) := by unfold Hid; rw [← hR, if_neg h3]; exact ⟨rfl, rfl⟩
        clear hR h3 h3e
        go_enter Tryz.func38, Tryz.ntmps38
        go_wp2_with fail
        try rw [hw1]
        go_region
        go_wp2_with fail
        go_region
        clear k1 k3 k4 k5 k6 k7 k8 k9 k10 k11 k12 k13
        go_wp2_with (with_reducible refine stopA _ _ rfl ?_)
        unfold Hid
        refine wpList_storeAt rfl _ _ _ rfl p 3 _ (ansV (pTold 0)).toList rfl rfl rfl (by rw [show (ansV (pTold 0)).toList.length = 11 from rfl]; exact Tryz.size48) (show w1.drew.drew.heap[p]? = _ from HX.out) (by show 14 ≤ 15; omega) (ansV_one _) (mrCells q c { S with pend := pTold 0 }) rfl ?_
        intro w9 h9 m9
        go_wp2_with fail
        go_ret
        refine ⟨by rw [HE1.out.1]; rfl, ?_⟩
        rw [HE1.out.2]
        have hI2 := HI.out.moves0 (Moves.refl [] w1).drew.drew
        exact (HG0.out.step (MrG.same HI.out (Moves.refl [] w1).drew.drew)).step (MrG.wrote hI2 (hI2.wrote m9 h9 rfl rfl) m9 rfl)
end Go.Proofs.YtilbbnmhnacnlaaGreat
