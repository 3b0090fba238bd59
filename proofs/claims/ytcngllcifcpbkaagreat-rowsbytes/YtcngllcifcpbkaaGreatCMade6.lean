/- ours -/
import Derived.Test.YtcngllcifcpbkaaGreatCKeep5
import Derived.Test.YtcngllcifcpbkaaGreatCOpen5
namespace Go.Proofs.YtcngllcifcpbkaaGreat
open Go.RowKit

set_option maxRecDepth 100000 in
set_option maxHeartbeats 16000000 in
theorem made6_n (W w : World) (u0 : Value) (h0 : ChArgs W u0) (m : Moves [] W w) :
  Calls Tryz.prog 21 #[u0] w fun e w' => ∃ ad n cap R, e = .returned (.agg #[.slice ad n cap]) ∧ RowAt w' (.agg #[.slice ad n cap]) R ∧ pright R = true ∧ NT R ∧ Moves [] w w' := by
 obtain ⟨adv, nv, cv, rfl, hcv, hV⟩ := h0
 have HVs := hV
 have HW : Hid (Moves [] W w) := m
 clear hV m
 go_enter Tryz.func21, Tryz.ntmps21
 go_wp2_with fail
 obtain ⟨w1, hw1⟩ : ∃ w1, (w.alloc (.cells #[.slice none 0 0] 52)).alloc (.cells #[.slice none 0 0] 52) = w1 := ⟨_, rfl⟩
 obtain ⟨p0, p1, m1⟩ : w1.heap[w.heap.size]? = some (.cells #[.slice none 0 0] 52 (0, 0)) ∧ w1.heap[w.heap.size + 1]? = some (.cells #[.slice none 0 0] 52 (0, 0)) ∧ Moves [] w w1 := by rw [← hw1]; exact boxes (Moves.refl _ _)
 rw [hw1]
 obtain ⟨pm, hpm⟩ : ∃ pm, w.heap.size + 1 = pm := ⟨_, rfl⟩
 rw [hpm] at p1 ⊢
 have hpm' : w.heap.size < pm := by omega
 clear hw1 hpm
 go_loopw [4] (fun i wr => ∃ (k : Nat) (lv : Value) (R : List Pcol), (k ≤ 5 ∧ k ≤ nv) ∧ i = .int .i64 k ∧ Moves [] w wr ∧ wr.heap[w.heap.size]? = some (.cells #[.slice none 0 0] 52 (0, 0)) ∧ wr.heap[pm]? = some (.cells #[lv] 52 (0, 0)) ∧ RowAt wr (.agg #[lv]) R ∧ pright R = true ∧ NT R) (fun i _ => 5 - (intOf i).toNat)
 case atStart => exact ⟨0, _, [], ⟨by omega, by omega⟩, rfl, m1, p0, p1, RowAt.nil _, pright_nil, NT.nil⟩
 case round =>
  obtain ⟨k, lv, R, ⟨hk1, hk2⟩, rfl, mr, q0, q1, hR, hPr, hNT⟩ := hrel
  obtain ⟨_, elv, hCols⟩ := id hR
  simp at elv
  subst elv
  obtain ⟨adm, capm, elv, _⟩ := hCols.slice
  obtain ⟨nm, hnr⟩ : ∃ nm, Hid (nm = R.length) := ⟨_, rfl⟩
  rw [← hnr.out] at elv
  subst elv
  have HR : Hid (RowAt wr (.agg #[.slice adm nm capm]) R) := hR
  have HPr : Hid (pright R = true) := hPr
  have HNT : Hid (NT R) := hNT
  obtain ⟨r0, r1⟩ := one_cell q1
  clear hR hPr hNT hCols p0 p1
  by_cases hc : k < nv ∧ k < 5
  ·obtain ⟨hc1, hc2⟩ := hc
   have hc1' : (k : Int) < nv := by omega
   have hc2' : (k : Int) < 5 := by omega
   obtain ⟨b, off, tk, tc, tm, tb, tn, tx, a2, l2, c2, rfl, v0, v1, v2, v3, v4, v5, v6, hK⟩ := HVs k hc1
   have MWr : Hid (Moves [] W wr) := HW.out.then mr
   have vr0 := MWr.out.cell v0
   have vr1 := MWr.out.cell v1
   have vr2 := MWr.out.cell v2
   have vr3 := MWr.out.cell v3
   have vr4 := MWr.out.cell v4
   have vr5 := MWr.out.cell v5
   have vr6 := MWr.out.cell v6
   have HK : Hid (KArg W (.agg #[.bool tb, .int .i64 tn, .float .f64 tx, .slice a2 l2 c2])) := hK
   have hS : ∀ w', Moves [] wr w' → ((fun w' => w'.cell? ⟨pm, 0, none⟩ = some (.slice adm nm capm) ∧ w'.cell? ⟨b, off + k * 7, none⟩ = some (.int .i64 tk) ∧ w'.cell? ⟨b, off + k * 7 + 1, none⟩ = some (.int .i64 tc) ∧ w'.cell? ⟨b, off + k * 7 + 2, none⟩ = some (.int .i64 tm) ∧ w'.cell? ⟨b, off + k * 7 + 3, none⟩ = some (.bool tb) ∧ w'.cell? ⟨b, off + k * 7 + 4, none⟩ = some (.int .i64 tn) ∧ w'.cell? ⟨b, off + k * 7 + 5, none⟩ = some (.float .f64 tx) ∧ w'.cell? ⟨b, off + k * 7 + 6, none⟩ = some (.slice a2 l2 c2)) w') := fun w' m' => ⟨m'.cell r0, m'.cell vr0, m'.cell vr1, m'.cell vr2, m'.cell vr3, m'.cell vr4, m'.cell vr5, m'.cell vr6⟩
   have mW : Moves [] wr wr.drew := (Moves.refl _ _).drew
   clear v0 v1 v2 v3 v4 v5 v6 hK
   go_wp2_with fail
   refine wp_some [17, 18, 19, 20, 21, 22, 23, 24, 25, 26, 27, 5, 6] (fun u w' => ∃ (cc : Pchg) (pb : Nat) (ad : Option Addr) (n cap : Nat), Hid (cc.col ≠ bTurned) ∧ u 6 = .int .i64 (cApplyE R [cc]) ∧ u 5 = .pointer (some ⟨pb, 0, none⟩) ∧ w'.heap[pb]? = some (.cells #[.slice ad n cap] 52 (0, 0)) ∧ RowAt w' (.agg #[.slice ad n cap]) (cApply R [cc]) ∧ wr.heap.size ≤ pb ∧ Moves [] wr w') ?_ ?_
   ·refine wp_region_noPanic ?_
    refine wp_region_held_drew (S := (fun w' => w'.cell? ⟨pm, 0, none⟩ = some (.slice adm nm capm) ∧ w'.cell? ⟨b, off + k * 7, none⟩ = some (.int .i64 tk) ∧ w'.cell? ⟨b, off + k * 7 + 1, none⟩ = some (.int .i64 tc) ∧ w'.cell? ⟨b, off + k * 7 + 2, none⟩ = some (.int .i64 tm) ∧ w'.cell? ⟨b, off + k * 7 + 3, none⟩ = some (.bool tb) ∧ w'.cell? ⟨b, off + k * 7 + 4, none⟩ = some (.int .i64 tn) ∧ w'.cell? ⟨b, off + k * 7 + 5, none⟩ = some (.float .f64 tx) ∧ w'.cell? ⟨b, off + k * 7 + 6, none⟩ = some (.slice a2 l2 c2))) (by kernel_rfl) ?_ (fun hHeld => ?_)
    ·first | (go_keep; done) | first | exact hS _ mW | exact hS _ (mW.setCell (.inr (by show wr.heap.size ≤ pb; omega)) _)
    refine wpT 0 ⟨some 18, .load 52 (.tmp 3), 52, "law.go:37", #[], none⟩ ?_
    refine wpT 1 ⟨some 19, .move (.tmp 0), 53, "law.go:37", #[], none⟩ ?_
    refine wpT 2 ⟨some 20, .move (.tmp 4), 3, "law.go:37", #[], none⟩ ?_
    refine wpT 3 ⟨some 21, .indexAddr 53 (.tmp 19) (.tmp 20), 0, "law.go:37", #[⟨1, .data⟩, ⟨2, .data⟩], none⟩ ?_
    refine wpT 4 ⟨some 22, .load 106 (.tmp 21), 106, "law.go:37", #[⟨3, .data⟩], none⟩ ?_
    refine wpAnyH_ready (rs := [5, 11]) (by kernel_rfl) (by simp) ?_
    refine AllReadyH.cons (o := ⟨some 23, .call ⟨.value (.func 49), #[.tmp 22], #[106]⟩, 101, "law.go:37", #[⟨4, .data⟩], none⟩) rfl (fun K hK => ?_) (AllReadyH.cons (o := ⟨some 5, .alloc 52, 0, "law.go:37", #[], none⟩) rfl (fun K hK => ?_) AllReadyH.nil)
    ·go_simp
     go_at_call 49
     refine (keepChange_n W _ _ _ _ _ _ _ _ _ _ HK.out).mono ?_
     rintro _ w5 ⟨cc, a, n, cap, rfl, hva, hcr, hcn, m5⟩
     have HVA : Hid (VA W [.int .i64 cc.v.kind, .slice a n cap, .float .f64 cc.v.n] cc.v) := hva
     have HCR : Hid (cRight cc = 0) := hcr
     have HCN : Hid (cc.col ≠ bTurned) := hcn
     clear hva hcr hcn
     replace mW := mW.then m5
     refine hK.out _ _ ?_ (fun hHeld => ?_)
     ·first | exact hS _ mW | exact hS _ (mW.setCell (.inr (by show wr.heap.size ≤ pb; omega)) _)
     clear hK K
     refine wpAnyH_ready (rs := [6, 11]) (by kernel_rfl) (by simp) ?_
     refine AllReadyH.cons (o := ⟨some 24, .buildSlice 107 1 #[(0, .tmp 23)], 107, "law.go:37", #[⟨5, .data⟩], none⟩) rfl (fun K hK => ?_) (AllReadyH.cons (o := ⟨some 5, .alloc 52, 0, "law.go:37", #[], none⟩) rfl (fun K hK => ?_) AllReadyH.nil)
     ·go_simp
      have hCA := chgs_one w5 cc a n cap (HVA.out.moves (MWr.out.then mW))
      obtain ⟨w6, hw6⟩ : ∃ w6, w5.alloc (.cells #[.int .i64 cc.kind, .string cc.col, .int .i64 cc.t, .int .i64 cc.v.kind, .slice a n cap, .float .f64 cc.v.n] 101) = w6 := ⟨_, rfl⟩
      have m6 : Moves [] w5 w6 := by rw [← hw6]; exact (Moves.refl _ _).alloc _
      rw [hw6] at hCA ⊢
      have HCA : Hid (ChgsAt w6 _ [cc]) := hCA
      clear hCA hw6
      replace mW := mW.then m6
      refine hK.out _ _ ?_ (fun hHeld => ?_)
      ·first | exact hS _ mW | exact hS _ (mW.setCell (.inr (by show wr.heap.size ≤ pb; omega)) _)
      clear hK K
      refine wpAnyH_ready (rs := [7, 11]) (by kernel_rfl) (by simp) ?_
      refine AllReadyH.cons (o := ⟨some 25, .call ⟨.value (.func 48), #[.tmp 18, .tmp 24], #[52, 107]⟩, 95, "law.go:37", #[⟨0, .data⟩, ⟨6, .data⟩, ⟨5, .chain⟩], none⟩) rfl (fun K hK => ?_) (AllReadyH.cons (o := ⟨some 5, .alloc 52, 0, "law.go:37", #[], none⟩) rfl (fun K hK => ?_) AllReadyH.nil)
      ·go_simp
       go_at_call 48
       refine (rfApply_w w6 _ _ R _ _ _ _ (HR.out.moves mW) HPr.out HCA.out rfl (by simp) (Moves.refl _ _)).mono ?_
       rintro _ w7 ⟨ad1, n1, cap1, rfl, hc1, m7⟩
       have HC : Hid (RowAt w7 (.agg #[.slice ad1 n1 cap1]) (cApply R [cc])) := ⟨_, rfl, hc1⟩
       clear hc1
       replace mW := mW.then m7
       refine hK.out _ _ ?_ (fun hHeld => ?_)
       ·first | exact hS _ mW | exact hS _ (mW.setCell (.inr (by show wr.heap.size ≤ pb; omega)) _)
       clear hK K
       refine wpT 8 ⟨some 17, .move (.tmp 25), 95, "law.go:37", #[⟨7, .data⟩], none⟩ ?_
       refine wpT 9 ⟨some 26, .extract (.tmp 17) 0, 52, "law.go:37", #[⟨8, .data⟩], none⟩ ?_
       refine wpT 10 ⟨some 27, .extract (.tmp 17) 1, 34, "law.go:37", #[⟨8, .data⟩, { on := 12, ground := Ground.gcOnly Departure.lateStores }], none⟩ ?_
       refine wpR 11 ⟨some 5, .alloc 52, 0, "law.go:37", #[], none⟩ (fun K hK => ?_)
       go_simp
       have hle := mW.size
       obtain ⟨w11, hwa⟩ : ∃ w11, w7.alloc (.cells #[.slice none 0 0] 52) = w11 := ⟨_, rfl⟩
       have hb : w11.heap[w7.heap.size]? = some (.cells #[.slice none 0 0] 52 (0, 0)) := by rw [← hwa]; exact heap_alloc_new w7 _
       have mA : Moves [] w7 w11 := by rw [← hwa]; exact (Moves.refl _ _).alloc _
       rw [hwa]
       obtain ⟨pb, hpb⟩ : ∃ pb, w7.heap.size = pb := ⟨_, rfl⟩
       rw [hpb] at hb ⊢
       have hle : wr.heap.size ≤ pb := by rw [← hpb]; first | exact hle | exact Nat.le_refl _
       replace mW := mW.then mA
       replace HC : Hid (RowAt w11 (.agg #[.slice ad1 n1 cap1]) (cApply R [cc])) := HC.out.moves mA
       clear hwa hpb
       refine hK.out _ _ ?_ (fun hHeld => ?_)
       ·first | exact hS _ mW | exact hS _ (mW.setCell (.inr (by show wr.heap.size ≤ pb; omega)) _)
       clear hK K
       refine wpR 12 ⟨none, .store 52 (.tmp 5) (.tmp 26), 0, "law.go:37", #[⟨11, .data⟩, ⟨9, .data⟩, ⟨7, .chain⟩, ⟨0, .phase⟩, ⟨1, .phase⟩, ⟨2, .phase⟩, ⟨3, .phase⟩, ⟨4, .phase⟩, ⟨5, .phase⟩, ⟨6, .phase⟩, ⟨7, .phase⟩, ⟨8, .phase⟩, ⟨9, .phase⟩, { on := 10, ground := Ground.textOnly Departure.lateStores }, ⟨11, .phase⟩], none⟩ (fun K hK => ?_)
       obtain ⟨f0, f1⟩ := one_cell hb
       go_simp
       refine hK.out _ _ ?_ (fun hHeld => ?_)
       ·first | exact hS _ mW | exact hS _ (mW.setCell (.inr (by show wr.heap.size ≤ pb; omega)) _)
       clear hK K
       refine wpT 13 ⟨some 6, .assign (.tmp 27), 34, "law.go:37", #[⟨10, .data⟩, ⟨12, .chain⟩, ⟨0, .phase⟩, ⟨1, .phase⟩, ⟨2, .phase⟩, ⟨3, .phase⟩, ⟨4, .phase⟩, ⟨5, .phase⟩, ⟨6, .phase⟩, ⟨7, .phase⟩, ⟨8, .phase⟩, ⟨9, .phase⟩, ⟨10, .phase⟩, ⟨11, .phase⟩, ⟨12, .phase⟩], none⟩ ?_
       refine wpAnyH_done (by kernel_rfl) ?_ _
       refine NoPanic.normal ?_
       exact ⟨rfl, by kernel_rfl, cc, pb, ad1, n1, cap1, HCN, by kernel_rfl, by kernel_rfl, set_one hb _, HC.out.setRow hb _, hle, mW.setCell (.inr (by show wr.heap.size ≤ pb; omega)) _⟩
      ·go_simp
       have hle := mW.size
       obtain ⟨w11, hwa⟩ : ∃ w11, w6.alloc (.cells #[.slice none 0 0] 52) = w11 := ⟨_, rfl⟩
       have hb : w11.heap[w6.heap.size]? = some (.cells #[.slice none 0 0] 52 (0, 0)) := by rw [← hwa]; exact heap_alloc_new w6 _
       have mA : Moves [] w6 w11 := by rw [← hwa]; exact (Moves.refl _ _).alloc _
       rw [hwa]
       obtain ⟨pb, hpb⟩ : ∃ pb, w6.heap.size = pb := ⟨_, rfl⟩
       rw [hpb] at hb ⊢
       have hle : wr.heap.size ≤ pb := by rw [← hpb]; first | exact hle | exact Nat.le_refl _
       replace mW := mW.then mA
       clear hwa hpb
       refine hK.out _ _ ?_ (fun hHeld => ?_)
       ·first | exact hS _ mW | exact hS _ (mW.setCell (.inr (by show wr.heap.size ≤ pb; omega)) _)
       clear hK K
       refine wpR 7 ⟨some 25, .call ⟨.value (.func 48), #[.tmp 18, .tmp 24], #[52, 107]⟩, 95, "law.go:37", #[⟨0, .data⟩, ⟨6, .data⟩, ⟨5, .chain⟩], none⟩ (fun K hK => ?_)
       go_simp
       go_at_call 48
       refine (rfApply_w w11 _ _ R _ _ _ _ (HR.out.moves mW) HPr.out (HCA.out.moves mA) rfl (by simp) (Moves.refl _ _)).mono ?_
       rintro _ w7 ⟨ad1, n1, cap1, rfl, hc1, m7⟩
       have HC : Hid (RowAt w7 (.agg #[.slice ad1 n1 cap1]) (cApply R [cc])) := ⟨_, rfl, hc1⟩
       clear hc1
       replace mW := mW.then m7
       have hb := m7.at hb (by simp)
       refine hK.out _ _ ?_ (fun hHeld => ?_)
       ·first | exact hS _ mW | exact hS _ (mW.setCell (.inr (by show wr.heap.size ≤ pb; omega)) _)
       clear hK K
       refine wpT 8 ⟨some 17, .move (.tmp 25), 95, "law.go:37", #[⟨7, .data⟩], none⟩ ?_
       refine wpT 9 ⟨some 26, .extract (.tmp 17) 0, 52, "law.go:37", #[⟨8, .data⟩], none⟩ ?_
       refine wpT 10 ⟨some 27, .extract (.tmp 17) 1, 34, "law.go:37", #[⟨8, .data⟩, { on := 12, ground := Ground.gcOnly Departure.lateStores }], none⟩ ?_
       refine wpR 12 ⟨none, .store 52 (.tmp 5) (.tmp 26), 0, "law.go:37", #[⟨11, .data⟩, ⟨9, .data⟩, ⟨7, .chain⟩, ⟨0, .phase⟩, ⟨1, .phase⟩, ⟨2, .phase⟩, ⟨3, .phase⟩, ⟨4, .phase⟩, ⟨5, .phase⟩, ⟨6, .phase⟩, ⟨7, .phase⟩, ⟨8, .phase⟩, ⟨9, .phase⟩, { on := 10, ground := Ground.textOnly Departure.lateStores }, ⟨11, .phase⟩], none⟩ (fun K hK => ?_)
       obtain ⟨f0, f1⟩ := one_cell hb
       go_simp
       refine hK.out _ _ ?_ (fun hHeld => ?_)
       ·first | exact hS _ mW | exact hS _ (mW.setCell (.inr (by show wr.heap.size ≤ pb; omega)) _)
       clear hK K
       refine wpT 13 ⟨some 6, .assign (.tmp 27), 34, "law.go:37", #[⟨10, .data⟩, ⟨12, .chain⟩, ⟨0, .phase⟩, ⟨1, .phase⟩, ⟨2, .phase⟩, ⟨3, .phase⟩, ⟨4, .phase⟩, ⟨5, .phase⟩, ⟨6, .phase⟩, ⟨7, .phase⟩, ⟨8, .phase⟩, ⟨9, .phase⟩, ⟨10, .phase⟩, ⟨11, .phase⟩, ⟨12, .phase⟩], none⟩ ?_
       refine wpAnyH_done (by kernel_rfl) ?_ _
       refine NoPanic.normal ?_
       exact ⟨rfl, by kernel_rfl, cc, pb, ad1, n1, cap1, HCN, by kernel_rfl, by kernel_rfl, set_one hb _, HC.out.setRow hb _, hle, mW.setCell (.inr (by show wr.heap.size ≤ pb; omega)) _⟩
     ·go_simp
      have hle := mW.size
      obtain ⟨w11, hwa⟩ : ∃ w11, w5.alloc (.cells #[.slice none 0 0] 52) = w11 := ⟨_, rfl⟩
      have hb : w11.heap[w5.heap.size]? = some (.cells #[.slice none 0 0] 52 (0, 0)) := by rw [← hwa]; exact heap_alloc_new w5 _
      have mA : Moves [] w5 w11 := by rw [← hwa]; exact (Moves.refl _ _).alloc _
      rw [hwa]
      obtain ⟨pb, hpb⟩ : ∃ pb, w5.heap.size = pb := ⟨_, rfl⟩
      rw [hpb] at hb ⊢
      have hle : wr.heap.size ≤ pb := by rw [← hpb]; first | exact hle | exact Nat.le_refl _
      replace mW := mW.then mA
      clear hwa hpb
      refine hK.out _ _ ?_ (fun hHeld => ?_)
      ·first | exact hS _ mW | exact hS _ (mW.setCell (.inr (by show wr.heap.size ≤ pb; omega)) _)
      clear hK K
      refine wpR 6 ⟨some 24, .buildSlice 107 1 #[(0, .tmp 23)], 107, "law.go:37", #[⟨5, .data⟩], none⟩ (fun K hK => ?_)
      go_simp
      have hCA := chgs_one w11 cc a n cap (HVA.out.moves (MWr.out.then mW))
      obtain ⟨w6, hw6⟩ : ∃ w6, w11.alloc (.cells #[.int .i64 cc.kind, .string cc.col, .int .i64 cc.t, .int .i64 cc.v.kind, .slice a n cap, .float .f64 cc.v.n] 101) = w6 := ⟨_, rfl⟩
      have m6 : Moves [] w11 w6 := by rw [← hw6]; exact (Moves.refl _ _).alloc _
      rw [hw6] at hCA ⊢
      have HCA : Hid (ChgsAt w6 _ [cc]) := hCA
      clear hCA hw6
      replace mW := mW.then m6
      have hb := m6.at hb (by simp)
      refine hK.out _ _ ?_ (fun hHeld => ?_)
      ·first | exact hS _ mW | exact hS _ (mW.setCell (.inr (by show wr.heap.size ≤ pb; omega)) _)
      clear hK K
      refine wpR 7 ⟨some 25, .call ⟨.value (.func 48), #[.tmp 18, .tmp 24], #[52, 107]⟩, 95, "law.go:37", #[⟨0, .data⟩, ⟨6, .data⟩, ⟨5, .chain⟩], none⟩ (fun K hK => ?_)
      go_simp
      go_at_call 48
      refine (rfApply_w w6 _ _ R _ _ _ _ (HR.out.moves mW) HPr.out HCA.out rfl (by simp) (Moves.refl _ _)).mono ?_
      rintro _ w7 ⟨ad1, n1, cap1, rfl, hc1, m7⟩
      have HC : Hid (RowAt w7 (.agg #[.slice ad1 n1 cap1]) (cApply R [cc])) := ⟨_, rfl, hc1⟩
      clear hc1
      replace mW := mW.then m7
      have hb := m7.at hb (by simp)
      refine hK.out _ _ ?_ (fun hHeld => ?_)
      ·first | exact hS _ mW | exact hS _ (mW.setCell (.inr (by show wr.heap.size ≤ pb; omega)) _)
      clear hK K
      refine wpT 8 ⟨some 17, .move (.tmp 25), 95, "law.go:37", #[⟨7, .data⟩], none⟩ ?_
      refine wpT 9 ⟨some 26, .extract (.tmp 17) 0, 52, "law.go:37", #[⟨8, .data⟩], none⟩ ?_
      refine wpT 10 ⟨some 27, .extract (.tmp 17) 1, 34, "law.go:37", #[⟨8, .data⟩, { on := 12, ground := Ground.gcOnly Departure.lateStores }], none⟩ ?_
      refine wpR 12 ⟨none, .store 52 (.tmp 5) (.tmp 26), 0, "law.go:37", #[⟨11, .data⟩, ⟨9, .data⟩, ⟨7, .chain⟩, ⟨0, .phase⟩, ⟨1, .phase⟩, ⟨2, .phase⟩, ⟨3, .phase⟩, ⟨4, .phase⟩, ⟨5, .phase⟩, ⟨6, .phase⟩, ⟨7, .phase⟩, ⟨8, .phase⟩, ⟨9, .phase⟩, { on := 10, ground := Ground.textOnly Departure.lateStores }, ⟨11, .phase⟩], none⟩ (fun K hK => ?_)
      obtain ⟨f0, f1⟩ := one_cell hb
      go_simp
      refine hK.out _ _ ?_ (fun hHeld => ?_)
      ·first | exact hS _ mW | exact hS _ (mW.setCell (.inr (by show wr.heap.size ≤ pb; omega)) _)
      clear hK K
      refine wpT 13 ⟨some 6, .assign (.tmp 27), 34, "law.go:37", #[⟨10, .data⟩, ⟨12, .chain⟩, ⟨0, .phase⟩, ⟨1, .phase⟩, ⟨2, .phase⟩, ⟨3, .phase⟩, ⟨4, .phase⟩, ⟨5, .phase⟩, ⟨6, .phase⟩, ⟨7, .phase⟩, ⟨8, .phase⟩, ⟨9, .phase⟩, ⟨10, .phase⟩, ⟨11, .phase⟩, ⟨12, .phase⟩], none⟩ ?_
      refine wpAnyH_done (by kernel_rfl) ?_ _
      refine NoPanic.normal ?_
      exact ⟨rfl, by kernel_rfl, cc, pb, ad1, n1, cap1, HCN, by kernel_rfl, by kernel_rfl, set_one hb _, HC.out.setRow hb _, hle, mW.setCell (.inr (by show wr.heap.size ≤ pb; omega)) _⟩
    ·go_simp
     have hle := mW.size
     obtain ⟨w11, hwa⟩ : ∃ w11, (wr.alloc (.cells #[.slice none 0 0] 52)).drew = w11 := ⟨_, rfl⟩
     have hb : w11.heap[wr.heap.size]? = some (.cells #[.slice none 0 0] 52 (0, 0)) := by rw [← hwa]; exact heap_alloc_new wr _
     have mA : Moves [] wr w11 := by rw [← hwa]; exact ((Moves.refl _ _).alloc _).drew
     rw [hwa]
     obtain ⟨pb, hpb⟩ : ∃ pb, wr.heap.size = pb := ⟨_, rfl⟩
     rw [hpb] at hb ⊢
     have hle : wr.heap.size ≤ pb := by rw [← hpb]; first | exact hle | exact Nat.le_refl _
     replace mW := mA
     clear hwa hpb
     refine hK.out _ _ ?_ (fun hHeld => ?_)
     ·first | exact hS _ mW | exact hS _ (mW.setCell (.inr (by show wr.heap.size ≤ pb; omega)) _)
     clear hK K
     refine wpR 5 ⟨some 23, .call ⟨.value (.func 49), #[.tmp 22], #[106]⟩, 101, "law.go:37", #[⟨4, .data⟩], none⟩ (fun K hK => ?_)
     go_simp
     go_at_call 49
     refine (keepChange_n W _ _ _ _ _ _ _ _ _ _ HK.out).mono ?_
     rintro _ w5 ⟨cc, a, n, cap, rfl, hva, hcr, hcn, m5⟩
     have HVA : Hid (VA W [.int .i64 cc.v.kind, .slice a n cap, .float .f64 cc.v.n] cc.v) := hva
     have HCR : Hid (cRight cc = 0) := hcr
     have HCN : Hid (cc.col ≠ bTurned) := hcn
     clear hva hcr hcn
     replace mW := mW.then m5
     have hb := m5.at hb (by simp)
     refine hK.out _ _ ?_ (fun hHeld => ?_)
     ·first | exact hS _ mW | exact hS _ (mW.setCell (.inr (by show wr.heap.size ≤ pb; omega)) _)
     clear hK K
     refine wpR 6 ⟨some 24, .buildSlice 107 1 #[(0, .tmp 23)], 107, "law.go:37", #[⟨5, .data⟩], none⟩ (fun K hK => ?_)
     go_simp
     have hCA := chgs_one w5 cc a n cap (HVA.out.moves (MWr.out.then mW))
     obtain ⟨w6, hw6⟩ : ∃ w6, w5.alloc (.cells #[.int .i64 cc.kind, .string cc.col, .int .i64 cc.t, .int .i64 cc.v.kind, .slice a n cap, .float .f64 cc.v.n] 101) = w6 := ⟨_, rfl⟩
     have m6 : Moves [] w5 w6 := by rw [← hw6]; exact (Moves.refl _ _).alloc _
     rw [hw6] at hCA ⊢
     have HCA : Hid (ChgsAt w6 _ [cc]) := hCA
     clear hCA hw6
     replace mW := mW.then m6
     have hb := m6.at hb (by simp)
     refine hK.out _ _ ?_ (fun hHeld => ?_)
     ·first | exact hS _ mW | exact hS _ (mW.setCell (.inr (by show wr.heap.size ≤ pb; omega)) _)
     clear hK K
     refine wpR 7 ⟨some 25, .call ⟨.value (.func 48), #[.tmp 18, .tmp 24], #[52, 107]⟩, 95, "law.go:37", #[⟨0, .data⟩, ⟨6, .data⟩, ⟨5, .chain⟩], none⟩ (fun K hK => ?_)
     go_simp
     go_at_call 48
     refine (rfApply_w w6 _ _ R _ _ _ _ (HR.out.moves mW) HPr.out HCA.out rfl (by simp) (Moves.refl _ _)).mono ?_
     rintro _ w7 ⟨ad1, n1, cap1, rfl, hc1, m7⟩
     have HC : Hid (RowAt w7 (.agg #[.slice ad1 n1 cap1]) (cApply R [cc])) := ⟨_, rfl, hc1⟩
     clear hc1
     replace mW := mW.then m7
     have hb := m7.at hb (by simp)
     refine hK.out _ _ ?_ (fun hHeld => ?_)
     ·first | exact hS _ mW | exact hS _ (mW.setCell (.inr (by show wr.heap.size ≤ pb; omega)) _)
     clear hK K
     refine wpT 8 ⟨some 17, .move (.tmp 25), 95, "law.go:37", #[⟨7, .data⟩], none⟩ ?_
     refine wpT 9 ⟨some 26, .extract (.tmp 17) 0, 52, "law.go:37", #[⟨8, .data⟩], none⟩ ?_
     refine wpT 10 ⟨some 27, .extract (.tmp 17) 1, 34, "law.go:37", #[⟨8, .data⟩, { on := 12, ground := Ground.gcOnly Departure.lateStores }], none⟩ ?_
     refine wpR 12 ⟨none, .store 52 (.tmp 5) (.tmp 26), 0, "law.go:37", #[⟨11, .data⟩, ⟨9, .data⟩, ⟨7, .chain⟩, ⟨0, .phase⟩, ⟨1, .phase⟩, ⟨2, .phase⟩, ⟨3, .phase⟩, ⟨4, .phase⟩, ⟨5, .phase⟩, ⟨6, .phase⟩, ⟨7, .phase⟩, ⟨8, .phase⟩, ⟨9, .phase⟩, { on := 10, ground := Ground.textOnly Departure.lateStores }, ⟨11, .phase⟩], none⟩ (fun K hK => ?_)
     obtain ⟨f0, f1⟩ := one_cell hb
     go_simp
     refine hK.out _ _ ?_ (fun hHeld => ?_)
     ·first | exact hS _ mW | exact hS _ (mW.setCell (.inr (by show wr.heap.size ≤ pb; omega)) _)
     clear hK K
     refine wpT 13 ⟨some 6, .assign (.tmp 27), 34, "law.go:37", #[⟨10, .data⟩, ⟨12, .chain⟩, ⟨0, .phase⟩, ⟨1, .phase⟩, ⟨2, .phase⟩, ⟨3, .phase⟩, ⟨4, .phase⟩, ⟨5, .phase⟩, ⟨6, .phase⟩, ⟨7, .phase⟩, ⟨8, .phase⟩, ⟨9, .phase⟩, ⟨10, .phase⟩, ⟨11, .phase⟩, ⟨12, .phase⟩], none⟩ ?_
     refine wpAnyH_done (by kernel_rfl) ?_ _
     refine NoPanic.normal ?_
     exact ⟨rfl, by kernel_rfl, cc, pb, ad1, n1, cap1, HCN, by kernel_rfl, by kernel_rfl, set_one hb _, HC.out.setRow hb _, hle, mW.setCell (.inr (by show wr.heap.size ≤ pb; omega)) _⟩
   ·rintro u wx ⟨cc, pb, ad, n, cap, HCN, hu6, hu5, qb, hRx, hle, mx⟩
    simp only [List.foldl_cons, List.foldl_nil, List.setIfInBounds_toArray, List.set_cons_zero, List.set_cons_succ, hu5, hu6]
    clear hu5 hu6
    generalize u 17 = u17
    generalize u 18 = u18
    generalize u 19 = u19
    generalize u 20 = u20
    generalize u 21 = u21
    generalize u 22 = u22
    generalize u 23 = u23
    generalize u 24 = u24
    generalize u 25 = u25
    generalize u 26 = u26
    generalize u 27 = u27
    have hPx : Hid (pright (cApply R [cc]) = true) := cApply_right R [cc]
    have hNx : Hid (NT (cApply R [cc])) := HNT.out.apply HCN.out
    obtain ⟨E, hE⟩ : ∃ E, cApplyE R [cc] = E := ⟨_, rfl⟩
    obtain ⟨P, hP⟩ : ∃ P, cApply R [cc] = P := ⟨_, rfl⟩
    rw [hP] at hRx hPx hNx
    rw [hE]
    have HRx : Hid (RowAt wx (.agg #[.slice ad n cap]) P) := hRx
    have qm := mx.at q1 (by simp)
    have q0x := mx.at q0 (by simp)
    obtain ⟨x0, _⟩ := one_cell qb
    obtain ⟨y0, y1⟩ := one_cell qm
    have hlp : pm < wr.heap.size := lt_of_block q1
    have hne : ¬ pb = pm := by omega
    have hne' : ¬ pm = pb := by omega
    clear hE hP hRx hS mW vr0 vr1 vr2 vr3 vr4 vr5 vr6 r0 r1
    by_cases hE0 : E = 0
    ·subst hE0
     go_wp2_with fail
     go_roundw
     case rel => exact ⟨k + 1, _, P, ⟨by omega, by omega⟩, by go_num, (mr.then mx).setCell (.inr (by show w.heap.size ≤ pm; omega)) _, (moves_set _ _ _ _).at q0x (by simp; omega), set_one qm _, HRx.out.setRow qm _, hPx.out, hNx.out⟩
     case measure => simp [intOf]; omega
    ·go_wp2_with fail
     go_roundw
     case rel => exact ⟨k + 1, _, R, ⟨by omega, by omega⟩, by go_num, mr.then mx, q0x, qm, HR.out.moves mx, HPr.out, HNT.out⟩
     case measure => simp [intOf]; omega
  ·have hways : (¬ (k : Int) < nv) ∨ ((k : Int) < nv ∧ ¬ (k : Int) < 5) := by omega
   obtain ⟨f0, f1⟩ := one_cell q0
   clear HVs
   rcases hways with g1 | ⟨g1, g2⟩
   all_goals go_wp2_with fail
   all_goals try simp only [Exit.inBlock, Exit.then]
   all_goals exact bodyPost_ret (ret_row rfl _ _ _ _ rfl (set_one q0 _)) rfl ⟨_, _, _, rfl, R, HR.out.setRow q0 _, HPr.out, HNT.out, mr.setCell (.inr (Nat.le_refl _)) _⟩
end Go.Proofs.YtcngllcifcpbkaaGreat
