/-
  What was written of a command is read as itself, as far as its Kind asks.
-/
import Derived.Test.YtcamhlnkcoicpaaGreatCEn8
import Derived.Test.YtcamhlnkcoicpaaGreatCDc8
import Derived.Test.YtcamhlnkcoicpaaGreatCB23
namespace Go.Proofs.YtcamhlnkcoicpaaGreat
open Go.RowKit

def canCh (c : Pchg) : Pchg := if c.kind = 4 then ⟨c.kind, ⟨#[]⟩, 0, pz⟩ else if c.kind = 3 then ⟨c.kind, c.col, 0, pz⟩ else if c.kind = 2 then ⟨c.kind, c.col, c.t, pz⟩ else ⟨c.kind, c.col, c.t, pcanon c.v⟩
def canCd (c : Pcd) : Pcd := if c.has = false then cdz else if c.want = false then ⟨true, false, c.col, pz⟩ else ⟨true, true, c.col, pcanon c.v⟩
def canO (o : Pop) : Pop := if o.kind = 2 then ⟨o.kind, o.row, ⟨#[]⟩, canCd o.cd, o.l.map canCh, 0⟩ else if o.kind = 3 then ⟨o.kind, o.row, o.hi, cdz, [], o.most⟩ else ⟨o.kind, o.row, ⟨#[]⟩, cdz, [], 0⟩
def canM (P : Pcmd) : Pcmd := if P.kind = 1 then ⟨P.kind, canO P.op, ⟨#[]⟩, ⟨#[]⟩, 0, ⟨#[]⟩, 0, 0, []⟩ else if P.kind = 2 ∨ P.kind = 4 then ⟨P.kind, opz, P.lo, P.hi, P.gen, ⟨#[]⟩, 0, 0, []⟩ else if P.kind = 3 then ⟨P.kind, opz, P.lo, P.hi, P.gen, ⟨#[]⟩, 0, 0, P.st⟩ else if P.kind = 5 ∨ P.kind = 6 then ⟨P.kind, opz, P.lo, P.hi, P.gen, P.at', 0, 0, []⟩ else if P.kind = 7 then ⟨P.kind, opz, ⟨#[]⟩, ⟨#[]⟩, 0, P.at', 0, 0, []⟩ else if P.kind = 8 then (if P.act = 0 then ⟨P.kind, opz, ⟨#[]⟩, ⟨#[]⟩, 0, ⟨#[]⟩, 0, 0, []⟩ else ⟨P.kind, opz, ⟨#[]⟩, ⟨#[]⟩, 0, P.at', P.to, P.act, []⟩) else if P.kind = 9 then ⟨P.kind, opz, ⟨#[]⟩, ⟨#[]⟩, P.gen, ⟨#[]⟩, P.to, 0, []⟩ else ⟨P.kind, opz, ⟨#[]⟩, ⟨#[]⟩, 0, ⟨#[]⟩, 0, 0, []⟩
theorem strOf_zbsM (s : ByteArray) : strOf (zbs s) = s := zbs_back s
theorem dNum_be8 {n : Nat} (h : n < 1099511627777) (r : List Nat) : dNum 8 (be 8 n ++ r) = some (n, r) := by
  obtain ⟨u1, u2, u3⟩ := take_of (bs := be 8 n ++ r) (hd := be 8 n) (rest := r) (n := 8) rfl (be_length _ _)
  unfold dNum
  rw [if_pos u3, u1, u2, val_be (by omega)]
theorem i64of_toNat {t : Int} (h : 0 ≤ t ∧ t ≤ 1099511627776) : i64of t.toNat = t := by
  unfold i64of
  rw [Int.toNat_of_nonneg h.1, IntWalk.i64_in _ (by omega)]
theorem cRight_time {c : Pchg} (h : cRight c = 0) (hk : c.kind = 1 ∨ c.kind = 2 ∨ c.kind = 5) : 0 ≤ c.t ∧ c.t ≤ 1099511627776 := by
  have q : ptime c.t = true := by
    have hw := cway c
    rw [h] at hw
    generalize hE : (0 : Int) = E at hw
    cases hw with
    | bad h => omega
    | row h => omega
    | name h h1 => omega
    | col h h1 => omega
    | time h h1 h2 => omega
    | drop h h1 h2 => exact h2
    | value h h1 h2 h3 => omega
    | put h h1 h2 h3 => exact h2
    | kind h h1 h2 h3 h4 => omega
    | add h h1 h2 h3 h4 => exact h2
  unfold ptime at q
  simpa using q
theorem pcanon_kind {v : Pv} (h : pvr v = true) : (pcanon v).kind = v.kind := by
  unfold pcanon
  show kd v.kind = v.kind
  unfold pvr vright Pv.vm at h
  unfold kd
  simp at h ⊢
  rcases h with h | h <;> omega
theorem cRight_can {c : Pchg} (h : cRight c = 0) : cRight (canCh c) = 0 := by
  obtain ⟨h1, h2, h3⟩ := cRight_parts h
  have hh := h
  unfold cRight at hh
  unfold canCh
  by_cases k4 : c.kind = 4
  · rw [if_pos k4]
    unfold cRight
    rw [if_neg (by simp only; omega), if_pos k4]
  · have hn := h2 k4
    rw [if_neg k4]
    by_cases k3 : c.kind = 3
    · rw [if_pos k3]
      unfold cRight
      rw [if_neg (by simp only; omega), if_neg k4, if_neg (by simp [hn]), if_pos k3]
    · rw [if_neg k3]
      by_cases k2 : c.kind = 2
      · rw [if_pos k2]
        rw [if_neg (by omega), if_neg k4, if_neg (by simp [hn]), if_neg k3] at hh
        unfold cRight
        rw [if_neg (by simp only; omega), if_neg k4, if_neg (by simp [hn]), if_neg k3]
        by_cases ht : ptime c.t = false
        · rw [if_pos ht] at hh
          simp at hh
        · rw [if_neg ht, if_pos k2]
      · rw [if_neg k2]
        have hv := h3 (by omega)
        rw [if_neg (by omega), if_neg k4, if_neg (by simp [hn]), if_neg k3] at hh
        unfold cRight
        rw [if_neg (by simp only; omega), if_neg k4, if_neg (by simp [hn]), if_neg k3]
        by_cases ht : ptime c.t = false
        · rw [if_pos ht] at hh
          simp at hh
        · rw [if_neg ht, if_neg k2, if_neg (by simp [hv])] at hh
          rw [if_neg ht, if_neg k2, if_neg (by simp [pvr_canon, hv])]
          by_cases k5 : c.kind = 5 ∧ c.v.kind ≠ 2
          · rw [if_pos k5] at hh
            simp at hh
          · rw [if_neg (by rw [pcanon_kind hv]; exact k5)]
theorem dChg_enc {c : Pchg} (h : cRight c = 0) (hf : Pl.Fits c.v.n) (r : List Nat) : dChg (cenc c ++ r) = some (canCh c, r) := by
  obtain ⟨h1, h2, h3⟩ := cRight_parts h
  have hc := cRight_can h
  obtain ⟨kn, hkn⟩ : ∃ n : Nat, c.kind = (n : Int) := ⟨c.kind.toNat, by omega⟩
  unfold dChg cenc
  rw [hkn]
  unfold canCh at hc ⊢
  by_cases k4 : c.kind = 4
  · rw [if_pos (by omega)]
    rw [if_pos k4] at hc ⊢
    simp only [Int.toNat_natCast, List.append_nil]
    rw [pbn_some (dNum_one _ _), dChgK4 (by omega), chgGuard_yes (by rw [← hkn]; exact hc), ← hkn]
  · have hsz := pname_size (h2 k4)
    rw [if_neg (by omega)]
    rw [if_neg k4] at hc ⊢
    by_cases k3 : c.kind = 3
    · rw [if_pos (by omega)]
      rw [if_pos k3] at hc ⊢
      simp only [Int.toNat_natCast, List.append_nil, List.append_assoc, sbs_zbs]
      rw [pbn_some (dNum_one _ _), dChgK3 (by omega), pbn_some (dText_str _ _ hsz), strOf_zbsM, chgGuard_yes (by rw [← hkn]; exact hc), ← hkn]
    · rw [if_neg (by omega)]
      rw [if_neg k3] at hc ⊢
      by_cases k2 : c.kind = 2
      · rw [if_pos (by omega)]
        rw [if_pos k2] at hc ⊢
        have ht := cRight_time h (by omega)
        simp only [Int.toNat_natCast, List.append_nil, List.append_assoc, sbs_zbs]
        rw [pbn_some (dNum_one _ _), dChgK2 (by omega), pbn_some (dText_str _ _ hsz), pbn_some (dNum_be8 (by omega) _), strOf_zbsM, i64of_toNat ht, chgGuard_yes (by rw [← hkn]; exact hc), ← hkn]
      · rw [if_neg (by omega)]
        rw [if_neg k2] at hc ⊢
        have ht := cRight_time h (by omega)
        simp only [Int.toNat_natCast, List.append_assoc, sbs_zbs]
        rw [pbn_some (dNum_one _ _), dChgK15 (by omega), pbn_some (dText_str _ _ hsz), pbn_some (dNum_be8 (by omega) _), pbn_some (dVal_enc (h3 (by omega)) hf _), strOf_zbsM, i64of_toNat ht, chgGuard_yes (by rw [← hkn]; exact hc), ← hkn]
theorem dCd_enc {c : Pcd} (h : rCd c = true) (hf : Pl.Fits c.v.n) (r : List Nat) : dCd (cdenc c.has c.want c.col c.v ++ r) = some (canCd c, r) := by
  obtain ⟨has, want, col, v⟩ := c
  unfold rCd at h
  unfold dCd cdenc canCd
  cases has with
  | false =>
    simp only [Bool.false_eq_true, if_false, if_true]
    rw [pbn_some (dNum_one _ _), dCdK0 rfl]
  | true =>
    simp only [Bool.not_true, Bool.false_or, Bool.and_eq_true] at h
    have hsz := pname_size h.1
    cases want with
    | false =>
      simp only [Bool.false_eq_true, if_false, if_true, Bool.true_eq_false, List.append_assoc, sbs_zbs]
      rw [pbn_some (dNum_one _ _), dCdK1 rfl, pbn_some (dText_str _ _ hsz), strOf_zbsM, cdGuard_yes h.1]
    | true =>
      have h2 : pvr v = true := by simpa using h.2
      simp only [if_true, Bool.true_eq_false, if_false, List.append_assoc, sbs_zbs]
      rw [pbn_some (dNum_one _ _), dCdK2 rfl, pbn_some (dText_str _ _ hsz), pbn_some (dVal_enc h2 hf _), strOf_zbsM, cdGuard_yes h.1]
/-- Numbers of an operation are words. -/
def FitO (o : Pop) : Prop := Pl.Fits o.cd.v.n ∧ ∀ c ∈ o.l, Pl.Fits c.v.n
theorem dOp_enc {o : Pop} (h : rOp o = true) (hf : FitO o) (r : List Nat) : dOp (encOp o ++ r) = some (canO o, r) := by
  unfold rOp at h
  unfold dOp encOp canO
  by_cases k1 : o.kind = 1
  · rw [if_pos k1] at h
    have hsz := pname_size h
    rw [if_neg (by omega), if_neg (by omega), if_neg (by omega), if_neg (by omega), k1]
    unfold encX
    simp only [List.append_nil, List.append_assoc]
    rw [pbn_some (dNum_one _ _), pbn_some (dText_str _ _ hsz), strOf_zbsM, dOpK0 (by decide)]
    rfl
  · rw [if_neg k1] at h
    by_cases k2 : o.kind = 2
    · rw [if_pos k2] at h
      simp only [Bool.and_eq_true] at h
      obtain ⟨⟨h1, h2⟩, h3⟩ := h
      have hsz := pname_size h1
      unfold rChs at h3
      rw [Bool.and_eq_true, wi_iff] at h3
      have hit := iter_enc (f := dChg) cenc canCh o.l.length o.l rfl (fun x hx r => dChg_enc (of_decide_eq_true (List.all_eq_true.1 h3.2 x hx)) (hf.2 x hx) r) r
      rw [if_pos k2, if_pos k2, k2]
      unfold encX
      simp only [List.append_assoc]
      rw [pbn_some (dNum_one _ _), pbn_some (dText_str _ _ hsz), strOf_zbsM, dOpK2 (by decide), pbn_some (dCd_enc h2 hf.1 _), pbn_some (dNum_one _ _), pbn_some hit]
      rfl
    · rw [if_neg k2] at h
      by_cases k3 : o.kind = 3
      · rw [if_pos k3, Bool.and_eq_true, wi_iff] at h
        have hsz := spR_size h.1
        obtain ⟨mn, hmn⟩ : ∃ n : Nat, o.most = (n : Int) := ⟨o.most.toNat, by omega⟩
        rw [if_neg k2, if_pos k3, if_neg k2, if_pos k3, k3, hmn]
        unfold encX
        simp only [List.append_assoc, Int.toNat_natCast]
        rw [pbn_some (dNum_one _ _), pbn_some (dText_str _ _ hsz.1), strOf_zbsM, dOpK3 (by decide), pbn_some (dText_str _ _ hsz.2), pbn_some (dNum_one _ _), strOf_zbsM]
        rfl
      · rw [if_neg k3] at h
        simp at h
theorem rCd_can {c : Pcd} (h : rCd c = true) : rCd (canCd c) = true := by
  obtain ⟨has, want, col, v⟩ := c
  unfold rCd at h
  unfold canCd
  cases has with
  | false => rfl
  | true =>
    simp only [Bool.not_true, Bool.false_or, Bool.and_eq_true] at h
    cases want with
    | false =>
      unfold rCd
      simp [h.1]
    | true =>
      have h2 : pvr v = true := by simpa using h.2
      unfold rCd
      simp [h.1, pvr_canon, h2]
theorem rOp_can {o : Pop} (h : rOp o = true) : rOp (canO o) = true := by
  have hh := h
  unfold rOp at h
  unfold canO
  by_cases k1 : o.kind = 1
  · rw [if_pos k1] at h
    rw [if_neg (by omega), if_neg (by omega)]
    unfold rOp
    rw [if_pos k1]
    exact h
  · rw [if_neg k1] at h
    by_cases k2 : o.kind = 2
    · rw [if_pos k2] at h
      simp only [Bool.and_eq_true] at h
      obtain ⟨⟨h1, h2⟩, h3⟩ := h
      rw [if_pos k2]
      unfold rOp
      rw [if_neg k1, if_pos k2]
      simp only [Bool.and_eq_true]
      refine ⟨⟨h1, rCd_can h2⟩, ?_⟩
      unfold rChs at h3 ⊢
      rw [Bool.and_eq_true] at h3 ⊢
      refine ⟨by rw [List.length_map]; exact h3.1, List.all_eq_true.2 fun x hx => ?_⟩
      obtain ⟨y, hy, rfl⟩ := List.mem_map.1 hx
      exact decide_eq_true (cRight_can (of_decide_eq_true (List.all_eq_true.1 h3.2 y hy)))
    · rw [if_neg k2] at h
      by_cases k3 : o.kind = 3
      · rw [if_neg k2, if_pos k3]
        unfold rOp
        rw [if_neg k1, if_neg k2, if_pos k3]
        rw [if_pos k3] at h
        exact h
      · rw [if_neg k3] at h
        simp at h
theorem dTbl_enc {P : Pcmd} (h : rTab P = true) (r : List Nat) : dTbl (encTab P ++ r) = some ((⟨P.lo, P.hi⟩, P.gen.toNat), r) := by
  unfold rTab at h
  rw [Bool.and_eq_true, wi_iff] at h
  have hsz := spR_size h.1
  unfold dTbl encTab
  simp only [List.append_assoc]
  rw [pbn_some (dSpan_enc h.1 hsz.1 hsz.2 _), pbn_some (dNum_be (by omega) _)]
theorem rTab_gen {P : Pcmd} (h : rTab P = true) : ((P.gen.toNat : Nat) : Int) = P.gen := by
  unfold rTab at h
  rw [Bool.and_eq_true, wi_iff] at h
  omega
theorem dPlan_enc {P : Pcmd} (h : rPlan P = true) (r : List Nat) : dPlan (encPlan P ++ r) = some ((if P.act = 0 then (0, ⟨#[]⟩, 0) else (P.act.toNat, P.at', P.to.toNat)), r) := by
  unfold rPlan at h
  unfold dPlan encPlan
  by_cases ha : P.act = 0
  · rw [if_pos ha, if_pos ha, pbn_some (dNum_one _ _), dPlanK0 rfl]
  · have h2 : (wi P.act 1 3 = true ∧ rPlace P.at' = true) ∧ wi P.to 0 255 = true := by simpa [ha] using h
    have hat : P.at'.size ≤ 16 := of_decide_eq_true h2.1.2
    have h1 := wi_iff.1 h2.1.1
    rw [if_neg ha, if_neg ha]
    unfold encX
    simp only [List.append_assoc]
    rw [pbn_some (dNum_one _ _), dPlanK1 (by omega), pbn_some (dText_str _ _ hat), pbn_some (dNum_one _ _), strOf_zbsM]
theorem rCmd_can {P : Pcmd} (h : rCmd P = true) : rCmd (canM P) = true := by
  unfold rCmd at h
  unfold canM
  by_cases k1 : P.kind = 1
  · rw [if_pos k1] at h ⊢
    unfold rCmd
    rw [if_pos k1]
    exact rOp_can h
  · rw [if_neg k1] at h ⊢
    by_cases k2 : P.kind = 2 ∨ P.kind = 4
    · rw [if_pos k2] at h ⊢
      unfold rCmd
      rw [if_neg k1, if_pos k2]
      exact h
    · rw [if_neg k2] at h ⊢
      by_cases k3 : P.kind = 3
      · rw [if_pos k3] at h ⊢
        unfold rCmd
        rw [if_neg k1, if_neg k2, if_pos k3]
        exact h
      · rw [if_neg k3] at h ⊢
        by_cases k5 : P.kind = 5 ∨ P.kind = 6
        · rw [if_pos k5] at h ⊢
          unfold rCmd
          rw [if_neg k1, if_neg k2, if_neg k3, if_pos k5]
          exact h
        · rw [if_neg k5] at h ⊢
          by_cases k7 : P.kind = 7
          · rw [if_pos k7] at h ⊢
            unfold rCmd
            rw [if_neg k1, if_neg k2, if_neg k3, if_neg k5, if_pos k7]
            exact h
          · rw [if_neg k7] at h ⊢
            by_cases k8 : P.kind = 8
            · rw [if_pos k8] at h ⊢
              by_cases ha : P.act = 0
              · rw [if_pos ha]
                unfold rCmd
                rw [if_neg k1, if_neg k2, if_neg k3, if_neg k5, if_neg k7, if_pos k8]
                rfl
              · rw [if_neg ha]
                unfold rCmd
                rw [if_neg k1, if_neg k2, if_neg k3, if_neg k5, if_neg k7, if_pos k8]
                exact h
            · rw [if_neg k8] at h ⊢
              by_cases k9 : P.kind = 9
              · rw [if_pos k9] at h ⊢
                unfold rCmd
                rw [if_neg k1, if_neg k2, if_neg k3, if_neg k5, if_neg k7, if_neg k8, if_pos k9]
                exact h
              · rw [if_neg k9] at h ⊢
                unfold rCmd
                rw [if_neg k1, if_neg k2, if_neg k3, if_neg k5, if_neg k7, if_neg k8, if_neg k9]
                exact h
theorem dCmd_enc {P : Pcmd} (h : rCmd P = true) (hf : FitO P.op) (r : List Nat) : dCmd (encCmd P ++ r) = some (canM P, r) := by
  have hc := rCmd_can h
  have hkk : 1 ≤ P.kind ∧ P.kind ≤ 10 := by
    by_cases hk : 1 ≤ P.kind ∧ P.kind ≤ 10
    · exact hk
    · unfold rCmd at h
      rw [if_neg (by omega), if_neg (by omega), if_neg (by omega), if_neg (by omega), if_neg (by omega), if_neg (by omega), if_neg (by omega)] at h
      have := of_decide_eq_true h
      omega
  have hkn : ((P.kind.toNat : Nat) : Int) = P.kind := by omega
  unfold rCmd at h
  unfold dCmd encCmd encCmdK
  unfold canM at hc ⊢
  by_cases k1 : P.kind = 1
  · rw [if_pos k1] at h hc ⊢
    rw [if_pos k1]
    simp only [List.append_assoc]
    rw [pbn_some (dNum_one _ _), dCmdK1 (by omega), pbn_some (dOp_enc h hf _), hkn, cmdGuard_yes hc]
  · rw [if_neg k1] at h hc ⊢
    rw [if_neg k1]
    by_cases k2 : P.kind = 2 ∨ P.kind = 4
    · rw [if_pos k2] at h hc ⊢
      rw [if_pos k2]
      simp only [List.append_assoc]
      rw [pbn_some (dNum_one _ _), dCmdK2 (by omega), pbn_some (dTbl_enc h _), rTab_gen h, hkn, cmdGuard_yes hc]
    · rw [if_neg k2] at h hc ⊢
      rw [if_neg k2]
      by_cases k3 : P.kind = 3
      · rw [if_pos k3] at h hc ⊢
        rw [if_pos k3]
        rw [Bool.and_eq_true] at h
        simp only [List.append_assoc]
        rw [pbn_some (dNum_one _ _), dCmdK3 (by omega), pbn_some (dTbl_enc h.1 _), pbn_some (dText_enc (Nat.le_refl _) _ _ (of_decide_eq_true h.2)), rTab_gen h.1, hkn, cmdGuard_yes hc]
      · rw [if_neg k3] at h hc ⊢
        rw [if_neg k3]
        by_cases k5 : P.kind = 5 ∨ P.kind = 6
        · rw [if_pos k5] at h hc ⊢
          rw [if_pos k5]
          rw [Bool.and_eq_true] at h
          unfold encX
          simp only [List.append_assoc]
          rw [pbn_some (dNum_one _ _), dCmdK5 (by omega), pbn_some (dTbl_enc h.1 _), pbn_some (dText_str _ _ (spC_size h.2)), strOf_zbsM, rTab_gen h.1, hkn, cmdGuard_yes hc]
        · rw [if_neg k5] at h hc ⊢
          rw [if_neg k5]
          by_cases k7 : P.kind = 7
          · rw [if_pos k7] at h hc ⊢
            rw [if_pos k7]
            unfold encX
            simp only [List.append_assoc]
            rw [pbn_some (dNum_one _ _), dCmdK7 (by omega), pbn_some (dText_str _ _ (of_decide_eq_true h)), strOf_zbsM, hkn, cmdGuard_yes hc]
          · rw [if_neg k7] at h hc ⊢
            rw [if_neg k7]
            by_cases k8 : P.kind = 8
            · rw [if_pos k8] at h hc ⊢
              rw [if_pos k8]
              simp only [List.append_assoc]
              rw [pbn_some (dNum_one _ _), dCmdK8 (by omega), pbn_some (dPlan_enc h _)]
              by_cases ha : P.act = 0
              · rw [if_pos ha] at hc ⊢
                rw [if_pos ha]
                simp only [hkn, Int.ofNat_zero]
                exact cmdGuard_yes hc _
              · rw [if_neg ha] at hc ⊢
                rw [if_neg ha]
                have h2 : (wi P.act 1 3 = true ∧ rPlace P.at' = true) ∧ wi P.to 0 255 = true := by unfold rPlan at h; simpa [ha] using h
                have e1 : ((P.act.toNat : Nat) : Int) = P.act := by have := wi_iff.1 h2.1.1; omega
                have e2 : ((P.to.toNat : Nat) : Int) = P.to := by have := wi_iff.1 h2.2; omega
                simp only [hkn, e1, e2]
                exact cmdGuard_yes hc _
            · rw [if_neg k8] at h hc ⊢
              rw [if_neg k8]
              by_cases k9 : P.kind = 9
              · rw [if_pos k9] at h hc ⊢
                rw [if_pos k9]
                unfold rPub at h
                rw [Bool.and_eq_true, wi_iff] at h
                have r3 : P.to = 0 ∨ P.to = -1 := by simpa using h.2
                have e1 : ((P.gen.toNat : Nat) : Int) = P.gen := by omega
                have e2 : -(((-P.to).toNat : Nat) : Int) = P.to := by omega
                simp only [List.append_assoc]
                rw [pbn_some (dNum_one _ _), dCmdK9 (by omega), pbn_some (dNum_be (by omega) _), pbn_some (dNum_one _ _), e1, e2, hkn, cmdGuard_yes hc]
              · rw [if_neg k9] at h hc ⊢
                rw [if_neg k9]
                simp only [List.append_nil]
                rw [pbn_some (dNum_one _ _), dCmdK0 (by omega), hkn, cmdGuard_yes hc]
theorem dWholeM_enc {P : Pcmd} (h : rCmd P = true) (hf : FitO P.op) : dWholeM (encCmd P) = some (canM P) := by
  have q := dCmd_enc h hf []
  rw [List.append_nil] at q
  exact dWholeM_yes q rfl
end Go.Proofs.YtcamhlnkcoicpaaGreat
