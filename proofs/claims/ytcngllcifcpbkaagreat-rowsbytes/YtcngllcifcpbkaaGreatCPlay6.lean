/- ours -/
import Derived.Test.YtcngllcifcpbkaaGreatCBaseO
import Derived.Test.YtcngllcifcpbkaaGreatCMade6
namespace Go.Proofs.YtcngllcifcpbkaaGreat
open Go.RowKit

def AArgs (W : World) (v : Value) : Prop := ∃ ad len cap, v = .slice ad len cap ∧ len ≤ cap ∧ ∀ k, k < len → ∃ b off kind row many nm a2 l2 c2, ad = some ⟨b, off, none⟩ ∧ W.cell? ⟨b, off + k * 5, none⟩ = some (.int .i64 kind) ∧ W.cell? ⟨b, off + k * 5 + 1, none⟩ = some (.int .i64 row) ∧ W.cell? ⟨b, off + k * 5 + 2, none⟩ = some (.bool many) ∧ W.cell? ⟨b, off + k * 5 + 3, none⟩ = some (.string nm) ∧ W.cell? ⟨b, off + k * 5 + 4, none⟩ = some (.slice a2 l2 c2) ∧ ChArgs W (.slice a2 l2 c2)

theorem RowAt.stay3 {w w' : World} {v : Value} {R : List Pcol} (h : RowAt w v R) (st : Stay (fun t => t = 5 ∨ t = 126 ∨ t = 124) w w') : RowAt w' v R := by
 obtain ⟨_, e, hc⟩ := h
 exact ⟨_, e, hc.stayX st (.inl rfl) (.inr (.inl rfl)) (.inr (.inr rfl))⟩
theorem InvN.nil : InvN [] := ⟨by simp [RiseN], by simp, by simp, by simp, by simp⟩
theorem psetE_zero {xs : List Pnam} {s : ByteArray} {R : List Pcol} (h : psetE xs s R = 0) : pname s = true ∧ pright R = true ∧ (R = [] ∨ phasN xs s = true ∨ xs.length < 32) := by
 unfold psetE at h
 split at h
 ·simp at h
 ·rename_i h1
  have h1' : pname s = true ∧ pright R = true := by simpa using h1
  split at h
  ·simp at h
  ·rename_i h2
   refine ⟨h1'.1, h1'.2, ?_⟩
   cases hR : R with
   | nil => exact .inl rfl
   | cons c R' =>
    cases hh : phasN xs s with
    | true => exact .inr (.inl rfl)
    | false =>
     refine .inr (.inr ?_)
     rw [hR, hh] at h2
     simp at h2
     exact h2
theorem InvN.set {xs : List Pnam} {s : ByteArray} {R : List Pcol} (h : InvN xs) : InvN (psetN xs s R) := by
 unfold psetN
 split
 ·rename_i h0
  obtain ⟨hs, hR, hor⟩ := psetE_zero h0
  have hC := pright_canon hR
  have hcc : (R.map pcanonC).map pcanonC = R.map pcanonC := by rw [List.map_map]; exact List.map_congr_left (fun c _ => pcanonC_twice c)
  have hmem : ∀ x ∈ pputN xs s (R.map pcanonC), x ∈ xs ∨ x = ⟨s, R.map pcanonC⟩ := by
   intro x hx
   unfold pputN at hx
   rcases List.mem_append.1 hx with hx | hx
   ·exact .inl (List.mem_filter.1 hx).1
   ·rcases List.mem_append.1 hx with hx | hx
    ·split at hx
     ·simp at hx
     ·simp at hx; exact .inr hx
    ·exact .inl (List.mem_filter.1 hx).1
  refine ⟨?_, ?_, fun x hx => ?_, fun x hx => ?_, fun x hx => ?_⟩
  ·unfold pputN RiseN
   have r1 : (xs.filter (fun x => nlt x.name s)).Pairwise (fun a b => nlt a.name b.name = true) := List.Pairwise.sublist List.filter_sublist h.rise
   have r2 : (xs.filter (fun x => nlt s x.name)).Pairwise (fun a b => nlt a.name b.name = true) := List.Pairwise.sublist List.filter_sublist h.rise
   rw [List.pairwise_append, List.pairwise_append]
   refine ⟨r1, ⟨by split <;> simp, r2, ?_⟩, ?_⟩
   ·intro x hx y hy
    split at hx
    ·simp at hx
    ·simp at hx
     rw [hx]
     exact (List.mem_filter.1 hy).2
   ·intro x hx y hy
    have hxs := (List.mem_filter.1 hx).2
    rcases List.mem_append.1 hy with hy | hy
    ·split at hy
     ·simp at hy
     ·simp at hy
      rw [hy]
      exact hxs
    ·exact nlt_trans hxs (List.mem_filter.1 hy).2
  ·obtain ⟨i, hP, e1, e2, e3⟩ := place_ex h.rise s
   have hile := hP.le
   have hl := h.len
   unfold pputN
   rw [e1, e2]
   cases hh : hasAt xs s i with
   | true =>
    have hi : i < xs.length := by
     unfold hasAt at hh
     split at hh
     ·rename_i y hy
      exact (List.getElem?_eq_some_iff.1 hy).1
     ·simp at hh
    simp only [List.length_append, List.length_take, if_true, List.length_drop]
    split <;> simp <;> omega
   | false =>
    simp only [List.length_append, List.length_take, Bool.false_eq_true, if_false, List.length_drop]
    rcases hor with hor | hor | hor
    ·subst hor
     simp
     omega
    ·rw [e3, hh] at hor
     simp at hor
    ·split <;> simp <;> omega
  ·rcases hmem x hx with hx | rfl
   ·exact h.right x hx
   ·exact hC
  ·rcases hmem x hx with hx | rfl
   ·exact h.canon x hx
   ·exact hcc
  ·rcases hmem x hx with hx | rfl
   ·exact h.name x hx
   ·exact hs
 ·exact h
theorem play_keep {w w5 w7 w8 w9 wq : World} {P : Nat} {a a7 : Option Nat} {v v9 : Value} {xs : List Pnam} {s : ByteArray} {R : List Pcol} (hq : GrowN w wq v xs) (hG : GrowN w w7 v xs) (hT : TabIs w w7 P a7 (psetN xs s R)) (h57 : wq.heap.size ≤ w5.heap.size) (m78 : Moves [] w7 w8) (m89 : Moves [] w8 w9) (M8 : w.heap.size ≤ w8.heap.size)
  (hv : (v9 = v ∧ psetE xs s R ≠ 0) ∨ GrowN w8 w9 v9 (psetN xs s R)) (hap : ∀ b, v.ownBlock = some b → b ∉ P :: a.toList) (hb : a7 = a ∨ ∃ k, a7 = some k ∧ w5.heap.size ≤ k) : GrowN w w9 v9 (psetN xs s R) ∧ Hid (∀ b, v9.ownBlock = some b → b ∉ P :: a7.toList) := by
 rcases hv with ⟨rfl, he⟩ | hv
 ·have e : psetN xs s R = xs := by unfold psetN; rw [if_neg he]
  rw [e]
  refine ⟨hG.moves0 (m78.then m89), fun b hbk hm => ?_⟩
  have h1 := hap b hbk
  obtain ⟨cur, hc⟩ := hq.blk hbk
  have h2 := lt_of_block hc
  rcases hb with rfl | ⟨k, rfl, hk⟩
  ·exact h1 hm
  ·simp at hm h1
   rcases hm with hm | hm
   ·exact h1.1 hm
   ·omega
 ·refine ⟨hv.elder M8, fun b hbk hm => ?_⟩
  have h1 := hv.1 b hbk
  have h2 := m78.size
  rcases List.mem_cons.1 hm with rfl | hm
  ·have := hT.ltp
   omega
  ·obtain ⟨u, _, rfl, hGu⟩ := hT
   obtain ⟨cur, hc⟩ := hGu.blk (Option.mem_toList.1 hm)
   have := lt_of_block hc
   omega

def NTs (xs : List Pnam) : Prop := ∀ x ∈ xs, NT x.r
theorem NTs.nil : NTs [] := fun _ h => by simp at h
theorem psome_nt : NT psome := NT.nil.put (by decide) _ _
theorem NT.canon {R : List Pcol} (h : NT R) : NT (R.map pcanonC) := fun c hc => by
 obtain ⟨y, hy, rfl⟩ := List.mem_map.1 hc
 exact h y hy
theorem NTs.set {xs : List Pnam} {s : ByteArray} {R : List Pcol} (h : NTs xs) (hR : NT R) : NTs (psetN xs s R) := by
 unfold psetN
 split
 ·intro x hx
  unfold pputN at hx
  simp only [List.mem_append] at hx
  rcases hx with hx | hx | hx
  ·exact h x (List.mem_filter.1 hx).1
  ·split at hx
   ·simp at hx
   ·simp at hx
    rw [hx]
    exact hR.canon
  ·exact h x (List.mem_filter.1 hx).1
 ·exact h

set_option maxRecDepth 100000 in
set_option maxHeartbeats 16000000 in
theorem play6_n (W w : World) (u0 : Value) (h0 : AArgs W u0) (m : Moves [] W w) :
  Calls Tryz.prog 5 #[u0] w fun e w' => ∃ p a xs ad n cap, e = .returned (.tuple #[.pointer (some ⟨p, 0, none⟩), .slice ad n cap, .bool true]) ∧ TabIs w w' p a xs ∧ NamsAt w' (.slice ad n cap) xs ∧ InvN xs ∧ NTs xs ∧ Moves [] w w' := by
 obtain ⟨adv, nv, cv, rfl, hcv, hV⟩ := h0
 have HVs := hV
 have MW : Hid (Moves [] W w) := m
 obtain ⟨P, hP⟩ : ∃ P, w.heap.size = P := ⟨_, rfl⟩
 have hPP : w.heap.size ≤ P := by omega
 have hnew := tnew_w w
 rw [hP] at hnew
 clear hV m hP
 go_enter Tryz.func5, Tryz.ntmps5
 go_wp2_with (go_at_call 20; refine hnew.mono ?_; rintro _ w1 ⟨rfl, hT1, m1⟩)
 go_loopw [6, 7] (fun l i wr => ∃ (k : Nat) (lv : Value) (a : Option Nat) (xs : List Pnam), (k ≤ 60 ∧ k ≤ nv) ∧ (l = lv ∧ i = .int .i64 k) ∧ Moves [] w wr ∧ TabIs w wr P a xs ∧ GrowN w wr lv xs ∧ InvN xs ∧ Hid (NTs xs) ∧ Hid (∀ b, lv.ownBlock = some b → b ∉ P :: a.toList)) (fun _ i _ => 60 - (intOf i).toNat)
 case atStart => exact ⟨0, _, none, [], ⟨by omega, by omega⟩, ⟨rfl, rfl⟩, m1, hT1, GrowN.nil _ _, InvN.nil, NTs.nil, fun b hb => by simp [Value.ownBlock] at hb⟩
 case round =>
  obtain ⟨k, lv, a, xs, ⟨hk1, hk2⟩, ⟨rfl, rfl⟩, mr, hTr, hGr, hI, HNS, HAP⟩ := hrel
  obtain ⟨ad6, n6, cap6, rfl, hn6, hc6⟩ := hGr.open
  have HI : Hid (InvN xs) := hI
  clear hI hT1 hnew
  by_cases hc : k < nv ∧ k < 60
  ·obtain ⟨hc1, hc2⟩ := hc
   have hc1' : (k : Int) < nv := by omega
   have hc2' : (k : Int) < 60 := by omega
   obtain ⟨b, off, tk, tr, tm, tn, a2, l2, c2, rfl, v0, v1, v2, v3, v4, hCh⟩ := HVs k hc1
   obtain ⟨s, hname⟩ := name6_d tk tr tm tn a2 l2 c2
   have HCh : Hid (ChArgs W (.slice a2 l2 c2)) := hCh
   clear hCh HVs
   obtain ⟨r0, r1, r2, r3, r4⟩ : wr.cell? ⟨b, off + k * 5, none⟩ = some (.int .i64 tk) ∧ wr.cell? ⟨b, off + k * 5 + 1, none⟩ = some (.int .i64 tr) ∧ wr.cell? ⟨b, off + k * 5 + 2, none⟩ = some (.bool tm) ∧ wr.cell? ⟨b, off + k * 5 + 3, none⟩ = some (.string tn) ∧ wr.cell? ⟨b, off + k * 5 + 4, none⟩ = some (.slice a2 l2 c2) := ⟨(MW.out.then mr).cell v0, (MW.out.then mr).cell v1, (MW.out.then mr).cell v2, (MW.out.then mr).cell v3, (MW.out.then mr).cell v4⟩
   have HTr : Hid (TabIs w wr P a xs) := hTr
   have HGr : Hid (GrowN w wr (.slice ad6 n6 cap6) xs) := hGr
   obtain ⟨pb, hpb⟩ : ∃ pb, wr.heap.size = pb := ⟨_, rfl⟩
   have hbx0 := heap_alloc_new wr (.cells #[.slice none 0 0] 52)
   rw [hpb] at hbx0
   have hma : Moves [] wr (wr.alloc (.cells #[.slice none 0 0] 52)) := (Moves.refl _ _).alloc _
   have q0 := hma.cell r0
   have q4 := hma.cell r4
   clear hTr hGr
   by_cases hk : tk = 2
   ·subst hk
    go_wp2_with fail
    obtain ⟨tk, htk⟩ : ∃ tk : Int, Hid ((2 : Int) = tk) := ⟨_, rfl⟩
    rw [htk.out] at v0 hname
    obtain ⟨wq, adr, nr, capr, R, hwq, hbx, hrow, mrq, HNR⟩ : ∃ wq adr nr capr R, wr.alloc (.cells #[.slice none 0 0] 52) = wq ∧ wq.heap[pb]? = some (.cells #[.slice adr nr capr] 52 (0, 0)) ∧ RowAt wq (.agg #[.slice adr nr capr]) R ∧ Moves [] wr wq ∧ Hid (NT R) := ⟨_, none, 0, 0, [], rfl, hbx0, RowAt.nil _, hma, NT.nil⟩
    rw [hwq]
    clear hwq
    have mq := mr.then mrq
    have hTq := HTr.out.moves0 mrq
    have hGq := HGr.out.moves0 mrq
    have HR : Hid (RowAt wq (.agg #[.slice adr nr capr]) R) := hrow
    have HT : Hid (TabIs w wq P a xs) := hTq
    have HG : Hid (GrowN w wq (.slice ad6 n6 cap6) xs) := hGq
    have hpbn : pb ∉ P :: a.toList := by
     intro hm
     rcases List.mem_cons.1 hm with e | hm
     ·obtain ⟨_, hp0, _⟩ := HT.out
      rw [← e, hbx] at hp0
      simp at hp0
     ·obtain ⟨_, _, e, hg0⟩ := HT.out
      obtain ⟨cur, hc⟩ := hg0.blk (e.trans (Option.mem_toList.1 hm))
      rw [hbx] at hc
      simp at hc
    have HSS : Hid (∀ w', Moves [] w w' → w'.heap[pb]? = some (.cells #[.slice adr nr capr] 52 (0, 0)) → w'.cell? ⟨b, off + k * 5, none⟩ = some (.int .i64 tk) ∧ w'.cell? ⟨b, off + k * 5 + 1, none⟩ = some (.int .i64 tr) ∧ w'.cell? ⟨b, off + k * 5 + 2, none⟩ = some (.bool tm) ∧ w'.cell? ⟨b, off + k * 5 + 3, none⟩ = some (.string tn) ∧ w'.cell? ⟨b, off + k * 5 + 4, none⟩ = some (.slice a2 l2 c2) ∧ w'.cell? ⟨pb, 0, none⟩ = some (.slice adr nr capr)) := fun w' mw hb => ⟨(MW.out.then mw).cell v0, (MW.out.then mw).cell v1, (MW.out.then mw).cell v2, (MW.out.then mw).cell v3, (MW.out.then mw).cell v4, (one_cell hb).1⟩
    have S0 := HSS.out wq mq hbx
    clear hrow hTq hGq
    refine wp_region_noPanic ?_
    refine wp_region_held_drew (S := (fun w' => w'.cell? ⟨b, off + k * 5, none⟩ = some (.int .i64 tk) ∧ w'.cell? ⟨b, off + k * 5 + 1, none⟩ = some (.int .i64 tr) ∧ w'.cell? ⟨b, off + k * 5 + 2, none⟩ = some (.bool tm) ∧ w'.cell? ⟨b, off + k * 5 + 3, none⟩ = some (.string tn) ∧ w'.cell? ⟨b, off + k * 5 + 4, none⟩ = some (.slice a2 l2 c2) ∧ w'.cell? ⟨pb, 0, none⟩ = some (.slice adr nr capr))) (by kernel_rfl) ?_ (fun hHeld => ?_)
    ·first | (go_keep; done) | first | exact S0 | exact S5 | exact S7
    refine wpT 0 ⟨some 51, .move (.tmp 5), 23, "law.go:90", #[], none⟩ ?_
    refine wpT 1 ⟨some 52, .move (.tmp 0), 22, "law.go:90", #[], none⟩ ?_
    refine wpT 2 ⟨some 53, .move (.tmp 7), 3, "law.go:90", #[], none⟩ ?_
    refine wpT 3 ⟨some 54, .indexAddr 22 (.tmp 52) (.tmp 53), 0, "law.go:90", #[⟨1, .data⟩, ⟨2, .data⟩], none⟩ ?_
    refine wpT 4 ⟨some 55, .load 55 (.tmp 54), 55, "law.go:90", #[⟨3, .data⟩], none⟩ ?_
    refine wpT 6 ⟨some 57, .load 52 (.tmp 8), 52, "law.go:90", #[], none⟩ ?_
    refine wpR 5 ⟨some 56, .call ⟨.value (.func 24), #[.tmp 55], #[55]⟩, 9, "law.go:90", #[⟨4, .data⟩], none⟩ (fun K hK => ?_)
    go_simp
    (go_at_call 24; refine (hname _).mono ?_; rintro _ w5 ⟨rfl, m5'⟩)
    have m5 : Moves [] wq w5 := (Moves.refl [] wq).drew.then m5'
    have S5 := HSS.out w5 (mq.then m5) (m5.at hbx (by simp))
    refine hK.out _ _ ?_ (fun hHeld => ?_)
    ·first | exact S0 | exact S5 | exact S7
    clear hK K
    refine wpR 7 ⟨some 58, .call ⟨.value (.func 23), #[.tmp 51, .tmp 56, .tmp 57], #[23, 9, 52]⟩, 34, "law.go:90", #[⟨0, .data⟩, ⟨5, .data⟩, ⟨6, .data⟩, ⟨5, .chain⟩], none⟩ (fun K hK => ?_)
    go_simp
    (go_at_call 23; refine (tset_w w _ P a xs _ _ R (HT.out.moves0 m5) HI.out.rise (by have := HI.out.len; omega) (HR.out.moves m5) ((mq.then m5).size)).mono ?_; rintro _ w7 ⟨rfl, a7, ⟨hT7, m7, hb7⟩, st7⟩)
    have M7 : Moves [] w w7 := tab_moves (HT.out.moves0 m5) hPP (mq.then m5) m7
    have hbx7 := m7.at (m5.at hbx (by simp)) hpbn
    have S7 := HSS.out w7 M7 hbx7
    have hG7 : GrowN w w7 (.slice ad6 n6 cap6) xs := (HG.out.moves0 m5).moves m7 HAP.out st7
    have hr7 : RowAt w7 (.agg #[.slice adr nr capr]) R := (HR.out.moves m5).stay3 st7
    have HT7 : Hid (TabIs w w7 P a7 (psetN xs s R)) := hT7
    have HG7 : Hid (GrowN w w7 (.slice ad6 n6 cap6) xs) := hG7
    have HR7 : Hid (RowAt w7 (.agg #[.slice adr nr capr]) R) := hr7
    have HB7 : Hid (a7 = a ∨ ∃ k, a7 = some k ∧ w5.heap.size ≤ k) := hb7
    have HLT : Hid (wq.heap.size ≤ w5.heap.size) := m5.size
    clear hT7 hG7 hr7 hb7 st7
    refine hK.out _ _ ?_ (fun hHeld => ?_)
    ·first | exact S0 | exact S5 | exact S7
    clear hK K
    refine wpT 8 ⟨some 9, .assign (.tmp 58), 34, "law.go:90", #[⟨7, .data⟩, ⟨7, .chain⟩, ⟨0, .phase⟩, ⟨1, .phase⟩, ⟨2, .phase⟩, ⟨3, .phase⟩, ⟨4, .phase⟩, ⟨5, .phase⟩, ⟨6, .phase⟩, ⟨7, .phase⟩], none⟩ ?_
    refine wpAnyH_done (by kernel_rfl) ?_ _
    refine NoPanic.normal ?_
    go_wp2_with fail
    refine wp_region_noPanic ?_
    refine wp_region_held_drew (S := (fun w' => w'.cell? ⟨b, off + k * 5, none⟩ = some (.int .i64 tk) ∧ w'.cell? ⟨b, off + k * 5 + 1, none⟩ = some (.int .i64 tr) ∧ w'.cell? ⟨b, off + k * 5 + 2, none⟩ = some (.bool tm) ∧ w'.cell? ⟨b, off + k * 5 + 3, none⟩ = some (.string tn) ∧ w'.cell? ⟨b, off + k * 5 + 4, none⟩ = some (.slice a2 l2 c2) ∧ w'.cell? ⟨pb, 0, none⟩ = some (.slice adr nr capr))) (by kernel_rfl) ?_ (fun hHeld => ?_)
    ·first | (go_keep; done) | first | exact S7 | exact S8 | exact S9
    refine wpT 0 ⟨some 60, .move (.tmp 6), 24, "law.go:91", #[], none⟩ ?_
    refine wpT 1 ⟨some 61, .move (.tmp 0), 22, "law.go:91", #[], none⟩ ?_
    refine wpT 2 ⟨some 62, .move (.tmp 7), 3, "law.go:91", #[], none⟩ ?_
    refine wpT 3 ⟨some 63, .indexAddr 22 (.tmp 61) (.tmp 62), 0, "law.go:91", #[⟨1, .data⟩, ⟨2, .data⟩], none⟩ ?_
    refine wpT 4 ⟨some 64, .load 55 (.tmp 63), 55, "law.go:91", #[⟨3, .data⟩], none⟩ ?_
    refine wpT 6 ⟨some 66, .load 52 (.tmp 8), 52, "law.go:91", #[], none⟩ ?_
    refine wpR 5 ⟨some 65, .call ⟨.value (.func 24), #[.tmp 64], #[55]⟩, 9, "law.go:91", #[⟨4, .data⟩], none⟩ (fun K hK => ?_)
    go_simp
    (go_at_call 24; refine (hname _).mono ?_; rintro _ w8 ⟨rfl, m8'⟩)
    have m8 : Moves [] w7 w8 := (Moves.refl [] w7).drew.then m8'
    have S8 := HSS.out w8 (M7.then m8) (m8.at hbx7 (by simp))
    refine hK.out _ _ ?_ (fun hHeld => ?_)
    ·first | exact S7 | exact S8 | exact S9
    clear hK K
    refine wpR 7 ⟨some 67, .call ⟨.value (.func 25), #[.tmp 60, .tmp 65, .tmp 66], #[24, 9, 52]⟩, 60, "law.go:91", #[⟨0, .data⟩, ⟨5, .data⟩, ⟨6, .data⟩, ⟨5, .chain⟩], none⟩ (fun K hK => ?_)
    go_simp
    (go_at_call 25; refine (nset_w w8 _ _ xs _ _ R ((HG7.out.at).moves m8) (HR7.out.moves m8) (Moves.refl _ _) (by have := HI.out.len; omega) HI.out.right HI.out.rise).mono ?_; rintro _ w9 ⟨ad9, n9, cap9, rfl, hN9, m9, hv9⟩)
    have S9 := HSS.out w9 ((M7.then m8).then m9) ((m8.then m9).at hbx7 (by simp))
    have HN9 : Hid (NamsAt w9 (.slice ad9 n9 cap9) (psetN xs s R)) := hN9
    have HV9 : Hid ((Value.slice ad9 n9 cap9 = .slice ad6 n6 cap6 ∧ psetE xs s R ≠ 0) ∨ GrowN w8 w9 (.slice ad9 n9 cap9) (psetN xs s R)) := hv9
    clear hN9 hv9
    refine hK.out _ _ ?_ (fun hHeld => ?_)
    ·first | exact S7 | exact S8 | exact S9
    clear hK K
    refine wpT 8 ⟨some 59, .move (.tmp 67), 60, "law.go:91", #[⟨7, .data⟩], none⟩ ?_
    refine wpT 9 ⟨some 68, .extract (.tmp 59) 0, 24, "law.go:91", #[⟨8, .data⟩], none⟩ ?_
    refine wpT 10 ⟨some 69, .extract (.tmp 59) 1, 34, "law.go:91", #[⟨8, .data⟩, { on := 11, ground := Ground.gcOnly Departure.lateStores }], none⟩ ?_
    refine wpT 11 ⟨some 10, .assign (.tmp 68), 24, "law.go:91", #[⟨9, .data⟩, ⟨7, .chain⟩, ⟨0, .phase⟩, ⟨1, .phase⟩, ⟨2, .phase⟩, ⟨3, .phase⟩, ⟨4, .phase⟩, ⟨5, .phase⟩, ⟨6, .phase⟩, ⟨7, .phase⟩, ⟨8, .phase⟩, ⟨9, .phase⟩, { on := 10, ground := Ground.textOnly Departure.lateStores }], none⟩ ?_
    refine wpT 12 ⟨some 11, .assign (.tmp 69), 34, "law.go:91", #[⟨10, .data⟩, ⟨11, .chain⟩, ⟨0, .phase⟩, ⟨1, .phase⟩, ⟨2, .phase⟩, ⟨3, .phase⟩, ⟨4, .phase⟩, ⟨5, .phase⟩, ⟨6, .phase⟩, ⟨7, .phase⟩, ⟨8, .phase⟩, ⟨9, .phase⟩, ⟨10, .phase⟩, ⟨11, .phase⟩], none⟩ ?_
    refine wpAnyH_done (by kernel_rfl) ?_ _
    refine NoPanic.normal ?_
    obtain ⟨GPN, GAP⟩ := play_keep HG.out HG7.out HT7.out HLT.out m8 m9 (M7.then m8).size HV9.out HAP.out HB7.out
    go_wp2_with fail
    go_roundw
    case rel => exact ⟨k + 1, _, a7, psetN xs s R, ⟨by omega, by omega⟩, ⟨rfl, by go_num⟩, (M7.then m8).then m9, (HT7.out.moves0 (m8.then m9)), GPN, HI.out.set, HNS.out.set HNR.out, GAP⟩
    case measure => simp [intOf]; omega
   ·by_cases hk1 : tk = 1
    ·subst hk1
     go_wp2_with (first | (go_at_call 21; refine (made6_n W _ _ HCh.out ((MW.out.then mr).then hma)).mono ?_; rintro _ w4 ⟨ad4, n4, cap4, R4, rfl, hR4, hP4, hT4, m4⟩; have HT4 : Hid (NT R4) := hT4; clear hT4; have bx4 := m4.at hbx0 (by simp); obtain ⟨z1, z2⟩ := one_cell bx4; have mS := (hma.then m4).setCell (p := ⟨pb, 0, none⟩) (.inr (by show wr.heap.size ≤ pb; omega)) (.slice ad4 n4 cap4); have bS := set_one bx4 (.slice ad4 n4 cap4); obtain ⟨s0, s1⟩ := one_cell bS; have e0 := mS.cell r0; have HR4 : Hid (RowAt (w4.setCell ⟨pb, 0, none⟩ (.slice ad4 n4 cap4)) (.agg #[.slice ad4 n4 cap4]) R4) := hR4.setRow bx4 _; have HN4 : Hid (n4 = R4.length) := (by obtain ⟨_, e1, hc4⟩ := hR4; simp at e1; subst e1; obtain ⟨_, _, e2, _⟩ := hc4.slice; simp at e2; exact e2.2.1); clear hR4 hP4; rcases (show n4 = 0 ∨ (0 < n4 ∧ ¬ ((n4 : Int) = 0)) from (by omega)) with rfl | ⟨hz4, hz5⟩) | (go_at_call 22; refine (some6_w _).mono ?_; rintro _ w6 ⟨ad7, n7, cap7, rfl, hR7, m6⟩; have bx6 := m6.at bS (by simp); obtain ⟨y1, y2⟩ := one_cell bx6; have mS2 := (mS.then m6).setCell (p := ⟨pb, 0, none⟩) (.inr (by show wr.heap.size ≤ pb; omega)) (.slice ad7 n7 cap7); have bS2 := set_one bx6 (.slice ad7 n7 cap7); have HR7' : Hid (RowAt (w6.setCell ⟨pb, 0, none⟩ (.slice ad7 n7 cap7)) (.agg #[.slice ad7 n7 cap7]) psome) := hR7.setRow bx6 _; clear hR7))
     ·obtain ⟨tk, htk⟩ : ∃ tk : Int, Hid ((1 : Int) = tk) := ⟨_, rfl⟩
      rw [htk.out] at v0 hname
      obtain ⟨wq, adr, nr, capr, R, hwq, hbx, hrow, mrq, HNR⟩ : ∃ wq adr nr capr R, w6.setCell ⟨pb, 0, none⟩ (.slice ad7 n7 cap7) = wq ∧ wq.heap[pb]? = some (.cells #[.slice adr nr capr] 52 (0, 0)) ∧ RowAt wq (.agg #[.slice adr nr capr]) R ∧ Moves [] wr wq ∧ Hid (NT R) := ⟨_, ad7, n7, cap7, psome, rfl, bS2, HR7'.out, mS2, psome_nt⟩
      rw [hwq]
      clear hwq
      have mq := mr.then mrq
      have hTq := HTr.out.moves0 mrq
      have hGq := HGr.out.moves0 mrq
      have HR : Hid (RowAt wq (.agg #[.slice adr nr capr]) R) := hrow
      have HT : Hid (TabIs w wq P a xs) := hTq
      have HG : Hid (GrowN w wq (.slice ad6 n6 cap6) xs) := hGq
      have hpbn : pb ∉ P :: a.toList := by
       intro hm
       rcases List.mem_cons.1 hm with e | hm
       ·obtain ⟨_, hp0, _⟩ := HT.out
        rw [← e, hbx] at hp0
        simp at hp0
       ·obtain ⟨_, _, e, hg0⟩ := HT.out
        obtain ⟨cur, hc⟩ := hg0.blk (e.trans (Option.mem_toList.1 hm))
        rw [hbx] at hc
        simp at hc
      have HSS : Hid (∀ w', Moves [] w w' → w'.heap[pb]? = some (.cells #[.slice adr nr capr] 52 (0, 0)) → w'.cell? ⟨b, off + k * 5, none⟩ = some (.int .i64 tk) ∧ w'.cell? ⟨b, off + k * 5 + 1, none⟩ = some (.int .i64 tr) ∧ w'.cell? ⟨b, off + k * 5 + 2, none⟩ = some (.bool tm) ∧ w'.cell? ⟨b, off + k * 5 + 3, none⟩ = some (.string tn) ∧ w'.cell? ⟨b, off + k * 5 + 4, none⟩ = some (.slice a2 l2 c2) ∧ w'.cell? ⟨pb, 0, none⟩ = some (.slice adr nr capr)) := fun w' mw hb => ⟨(MW.out.then mw).cell v0, (MW.out.then mw).cell v1, (MW.out.then mw).cell v2, (MW.out.then mw).cell v3, (MW.out.then mw).cell v4, (one_cell hb).1⟩
      have S0 := HSS.out wq mq hbx
      clear hrow hTq hGq
      refine wp_region_noPanic ?_
      refine wp_region_held_drew (S := (fun w' => w'.cell? ⟨b, off + k * 5, none⟩ = some (.int .i64 tk) ∧ w'.cell? ⟨b, off + k * 5 + 1, none⟩ = some (.int .i64 tr) ∧ w'.cell? ⟨b, off + k * 5 + 2, none⟩ = some (.bool tm) ∧ w'.cell? ⟨b, off + k * 5 + 3, none⟩ = some (.string tn) ∧ w'.cell? ⟨b, off + k * 5 + 4, none⟩ = some (.slice a2 l2 c2) ∧ w'.cell? ⟨pb, 0, none⟩ = some (.slice adr nr capr))) (by kernel_rfl) ?_ (fun hHeld => ?_)
      ·first | (go_keep; done) | first | exact S0 | exact S5 | exact S7
      refine wpT 0 ⟨some 51, .move (.tmp 5), 23, "law.go:90", #[], none⟩ ?_
      refine wpT 1 ⟨some 52, .move (.tmp 0), 22, "law.go:90", #[], none⟩ ?_
      refine wpT 2 ⟨some 53, .move (.tmp 7), 3, "law.go:90", #[], none⟩ ?_
      refine wpT 3 ⟨some 54, .indexAddr 22 (.tmp 52) (.tmp 53), 0, "law.go:90", #[⟨1, .data⟩, ⟨2, .data⟩], none⟩ ?_
      refine wpT 4 ⟨some 55, .load 55 (.tmp 54), 55, "law.go:90", #[⟨3, .data⟩], none⟩ ?_
      refine wpT 6 ⟨some 57, .load 52 (.tmp 8), 52, "law.go:90", #[], none⟩ ?_
      refine wpR 5 ⟨some 56, .call ⟨.value (.func 24), #[.tmp 55], #[55]⟩, 9, "law.go:90", #[⟨4, .data⟩], none⟩ (fun K hK => ?_)
      go_simp
      (go_at_call 24; refine (hname _).mono ?_; rintro _ w5 ⟨rfl, m5'⟩)
      have m5 : Moves [] wq w5 := (Moves.refl [] wq).drew.then m5'
      have S5 := HSS.out w5 (mq.then m5) (m5.at hbx (by simp))
      refine hK.out _ _ ?_ (fun hHeld => ?_)
      ·first | exact S0 | exact S5 | exact S7
      clear hK K
      refine wpR 7 ⟨some 58, .call ⟨.value (.func 23), #[.tmp 51, .tmp 56, .tmp 57], #[23, 9, 52]⟩, 34, "law.go:90", #[⟨0, .data⟩, ⟨5, .data⟩, ⟨6, .data⟩, ⟨5, .chain⟩], none⟩ (fun K hK => ?_)
      go_simp
      (go_at_call 23; refine (tset_w w _ P a xs _ _ R (HT.out.moves0 m5) HI.out.rise (by have := HI.out.len; omega) (HR.out.moves m5) ((mq.then m5).size)).mono ?_; rintro _ w7 ⟨rfl, a7, ⟨hT7, m7, hb7⟩, st7⟩)
      have M7 : Moves [] w w7 := tab_moves (HT.out.moves0 m5) hPP (mq.then m5) m7
      have hbx7 := m7.at (m5.at hbx (by simp)) hpbn
      have S7 := HSS.out w7 M7 hbx7
      have hG7 : GrowN w w7 (.slice ad6 n6 cap6) xs := (HG.out.moves0 m5).moves m7 HAP.out st7
      have hr7 : RowAt w7 (.agg #[.slice adr nr capr]) R := (HR.out.moves m5).stay3 st7
      have HT7 : Hid (TabIs w w7 P a7 (psetN xs s R)) := hT7
      have HG7 : Hid (GrowN w w7 (.slice ad6 n6 cap6) xs) := hG7
      have HR7 : Hid (RowAt w7 (.agg #[.slice adr nr capr]) R) := hr7
      have HB7 : Hid (a7 = a ∨ ∃ k, a7 = some k ∧ w5.heap.size ≤ k) := hb7
      have HLT : Hid (wq.heap.size ≤ w5.heap.size) := m5.size
      clear hT7 hG7 hr7 hb7 st7
      refine hK.out _ _ ?_ (fun hHeld => ?_)
      ·first | exact S0 | exact S5 | exact S7
      clear hK K
      refine wpT 8 ⟨some 9, .assign (.tmp 58), 34, "law.go:90", #[⟨7, .data⟩, ⟨7, .chain⟩, ⟨0, .phase⟩, ⟨1, .phase⟩, ⟨2, .phase⟩, ⟨3, .phase⟩, ⟨4, .phase⟩, ⟨5, .phase⟩, ⟨6, .phase⟩, ⟨7, .phase⟩], none⟩ ?_
      refine wpAnyH_done (by kernel_rfl) ?_ _
      refine NoPanic.normal ?_
      go_wp2_with fail
      refine wp_region_noPanic ?_
      refine wp_region_held_drew (S := (fun w' => w'.cell? ⟨b, off + k * 5, none⟩ = some (.int .i64 tk) ∧ w'.cell? ⟨b, off + k * 5 + 1, none⟩ = some (.int .i64 tr) ∧ w'.cell? ⟨b, off + k * 5 + 2, none⟩ = some (.bool tm) ∧ w'.cell? ⟨b, off + k * 5 + 3, none⟩ = some (.string tn) ∧ w'.cell? ⟨b, off + k * 5 + 4, none⟩ = some (.slice a2 l2 c2) ∧ w'.cell? ⟨pb, 0, none⟩ = some (.slice adr nr capr))) (by kernel_rfl) ?_ (fun hHeld => ?_)
      ·first | (go_keep; done) | first | exact S7 | exact S8 | exact S9
      refine wpT 0 ⟨some 60, .move (.tmp 6), 24, "law.go:91", #[], none⟩ ?_
      refine wpT 1 ⟨some 61, .move (.tmp 0), 22, "law.go:91", #[], none⟩ ?_
      refine wpT 2 ⟨some 62, .move (.tmp 7), 3, "law.go:91", #[], none⟩ ?_
      refine wpT 3 ⟨some 63, .indexAddr 22 (.tmp 61) (.tmp 62), 0, "law.go:91", #[⟨1, .data⟩, ⟨2, .data⟩], none⟩ ?_
      refine wpT 4 ⟨some 64, .load 55 (.tmp 63), 55, "law.go:91", #[⟨3, .data⟩], none⟩ ?_
      refine wpT 6 ⟨some 66, .load 52 (.tmp 8), 52, "law.go:91", #[], none⟩ ?_
      refine wpR 5 ⟨some 65, .call ⟨.value (.func 24), #[.tmp 64], #[55]⟩, 9, "law.go:91", #[⟨4, .data⟩], none⟩ (fun K hK => ?_)
      go_simp
      (go_at_call 24; refine (hname _).mono ?_; rintro _ w8 ⟨rfl, m8'⟩)
      have m8 : Moves [] w7 w8 := (Moves.refl [] w7).drew.then m8'
      have S8 := HSS.out w8 (M7.then m8) (m8.at hbx7 (by simp))
      refine hK.out _ _ ?_ (fun hHeld => ?_)
      ·first | exact S7 | exact S8 | exact S9
      clear hK K
      refine wpR 7 ⟨some 67, .call ⟨.value (.func 25), #[.tmp 60, .tmp 65, .tmp 66], #[24, 9, 52]⟩, 60, "law.go:91", #[⟨0, .data⟩, ⟨5, .data⟩, ⟨6, .data⟩, ⟨5, .chain⟩], none⟩ (fun K hK => ?_)
      go_simp
      (go_at_call 25; refine (nset_w w8 _ _ xs _ _ R ((HG7.out.at).moves m8) (HR7.out.moves m8) (Moves.refl _ _) (by have := HI.out.len; omega) HI.out.right HI.out.rise).mono ?_; rintro _ w9 ⟨ad9, n9, cap9, rfl, hN9, m9, hv9⟩)
      have S9 := HSS.out w9 ((M7.then m8).then m9) ((m8.then m9).at hbx7 (by simp))
      have HN9 : Hid (NamsAt w9 (.slice ad9 n9 cap9) (psetN xs s R)) := hN9
      have HV9 : Hid ((Value.slice ad9 n9 cap9 = .slice ad6 n6 cap6 ∧ psetE xs s R ≠ 0) ∨ GrowN w8 w9 (.slice ad9 n9 cap9) (psetN xs s R)) := hv9
      clear hN9 hv9
      refine hK.out _ _ ?_ (fun hHeld => ?_)
      ·first | exact S7 | exact S8 | exact S9
      clear hK K
      refine wpT 8 ⟨some 59, .move (.tmp 67), 60, "law.go:91", #[⟨7, .data⟩], none⟩ ?_
      refine wpT 9 ⟨some 68, .extract (.tmp 59) 0, 24, "law.go:91", #[⟨8, .data⟩], none⟩ ?_
      refine wpT 10 ⟨some 69, .extract (.tmp 59) 1, 34, "law.go:91", #[⟨8, .data⟩, { on := 11, ground := Ground.gcOnly Departure.lateStores }], none⟩ ?_
      refine wpT 11 ⟨some 10, .assign (.tmp 68), 24, "law.go:91", #[⟨9, .data⟩, ⟨7, .chain⟩, ⟨0, .phase⟩, ⟨1, .phase⟩, ⟨2, .phase⟩, ⟨3, .phase⟩, ⟨4, .phase⟩, ⟨5, .phase⟩, ⟨6, .phase⟩, ⟨7, .phase⟩, ⟨8, .phase⟩, ⟨9, .phase⟩, { on := 10, ground := Ground.textOnly Departure.lateStores }], none⟩ ?_
      refine wpT 12 ⟨some 11, .assign (.tmp 69), 34, "law.go:91", #[⟨10, .data⟩, ⟨11, .chain⟩, ⟨0, .phase⟩, ⟨1, .phase⟩, ⟨2, .phase⟩, ⟨3, .phase⟩, ⟨4, .phase⟩, ⟨5, .phase⟩, ⟨6, .phase⟩, ⟨7, .phase⟩, ⟨8, .phase⟩, ⟨9, .phase⟩, ⟨10, .phase⟩, ⟨11, .phase⟩], none⟩ ?_
      refine wpAnyH_done (by kernel_rfl) ?_ _
      refine NoPanic.normal ?_
      obtain ⟨GPN, GAP⟩ := play_keep HG.out HG7.out HT7.out HLT.out m8 m9 (M7.then m8).size HV9.out HAP.out HB7.out
      go_wp2_with fail
      go_roundw
      case rel => exact ⟨k + 1, _, a7, psetN xs s R, ⟨by omega, by omega⟩, ⟨rfl, by go_num⟩, (M7.then m8).then m9, (HT7.out.moves0 (m8.then m9)), GPN, HI.out.set, HNS.out.set HNR.out, GAP⟩
      case measure => simp [intOf]; omega
     ·obtain ⟨tk, htk⟩ : ∃ tk : Int, Hid ((1 : Int) = tk) := ⟨_, rfl⟩
      rw [htk.out] at v0 hname
      obtain ⟨wq, adr, nr, capr, R, hwq, hbx, hrow, mrq, HNR⟩ : ∃ wq adr nr capr R, w4.setCell ⟨pb, 0, none⟩ (.slice ad4 n4 cap4) = wq ∧ wq.heap[pb]? = some (.cells #[.slice adr nr capr] 52 (0, 0)) ∧ RowAt wq (.agg #[.slice adr nr capr]) R ∧ Moves [] wr wq ∧ Hid (NT R) := ⟨_, ad4, n4, cap4, R4, rfl, bS, HR4.out, mS, HT4⟩
      rw [hwq]
      clear hwq
      have mq := mr.then mrq
      have hTq := HTr.out.moves0 mrq
      have hGq := HGr.out.moves0 mrq
      have HR : Hid (RowAt wq (.agg #[.slice adr nr capr]) R) := hrow
      have HT : Hid (TabIs w wq P a xs) := hTq
      have HG : Hid (GrowN w wq (.slice ad6 n6 cap6) xs) := hGq
      have hpbn : pb ∉ P :: a.toList := by
       intro hm
       rcases List.mem_cons.1 hm with e | hm
       ·obtain ⟨_, hp0, _⟩ := HT.out
        rw [← e, hbx] at hp0
        simp at hp0
       ·obtain ⟨_, _, e, hg0⟩ := HT.out
        obtain ⟨cur, hc⟩ := hg0.blk (e.trans (Option.mem_toList.1 hm))
        rw [hbx] at hc
        simp at hc
      have HSS : Hid (∀ w', Moves [] w w' → w'.heap[pb]? = some (.cells #[.slice adr nr capr] 52 (0, 0)) → w'.cell? ⟨b, off + k * 5, none⟩ = some (.int .i64 tk) ∧ w'.cell? ⟨b, off + k * 5 + 1, none⟩ = some (.int .i64 tr) ∧ w'.cell? ⟨b, off + k * 5 + 2, none⟩ = some (.bool tm) ∧ w'.cell? ⟨b, off + k * 5 + 3, none⟩ = some (.string tn) ∧ w'.cell? ⟨b, off + k * 5 + 4, none⟩ = some (.slice a2 l2 c2) ∧ w'.cell? ⟨pb, 0, none⟩ = some (.slice adr nr capr)) := fun w' mw hb => ⟨(MW.out.then mw).cell v0, (MW.out.then mw).cell v1, (MW.out.then mw).cell v2, (MW.out.then mw).cell v3, (MW.out.then mw).cell v4, (one_cell hb).1⟩
      have S0 := HSS.out wq mq hbx
      clear hrow hTq hGq
      refine wp_region_noPanic ?_
      refine wp_region_held_drew (S := (fun w' => w'.cell? ⟨b, off + k * 5, none⟩ = some (.int .i64 tk) ∧ w'.cell? ⟨b, off + k * 5 + 1, none⟩ = some (.int .i64 tr) ∧ w'.cell? ⟨b, off + k * 5 + 2, none⟩ = some (.bool tm) ∧ w'.cell? ⟨b, off + k * 5 + 3, none⟩ = some (.string tn) ∧ w'.cell? ⟨b, off + k * 5 + 4, none⟩ = some (.slice a2 l2 c2) ∧ w'.cell? ⟨pb, 0, none⟩ = some (.slice adr nr capr))) (by kernel_rfl) ?_ (fun hHeld => ?_)
      ·first | (go_keep; done) | first | exact S0 | exact S5 | exact S7
      refine wpT 0 ⟨some 51, .move (.tmp 5), 23, "law.go:90", #[], none⟩ ?_
      refine wpT 1 ⟨some 52, .move (.tmp 0), 22, "law.go:90", #[], none⟩ ?_
      refine wpT 2 ⟨some 53, .move (.tmp 7), 3, "law.go:90", #[], none⟩ ?_
      refine wpT 3 ⟨some 54, .indexAddr 22 (.tmp 52) (.tmp 53), 0, "law.go:90", #[⟨1, .data⟩, ⟨2, .data⟩], none⟩ ?_
      refine wpT 4 ⟨some 55, .load 55 (.tmp 54), 55, "law.go:90", #[⟨3, .data⟩], none⟩ ?_
      refine wpT 6 ⟨some 57, .load 52 (.tmp 8), 52, "law.go:90", #[], none⟩ ?_
      refine wpR 5 ⟨some 56, .call ⟨.value (.func 24), #[.tmp 55], #[55]⟩, 9, "law.go:90", #[⟨4, .data⟩], none⟩ (fun K hK => ?_)
      go_simp
      (go_at_call 24; refine (hname _).mono ?_; rintro _ w5 ⟨rfl, m5'⟩)
      have m5 : Moves [] wq w5 := (Moves.refl [] wq).drew.then m5'
      have S5 := HSS.out w5 (mq.then m5) (m5.at hbx (by simp))
      refine hK.out _ _ ?_ (fun hHeld => ?_)
      ·first | exact S0 | exact S5 | exact S7
      clear hK K
      refine wpR 7 ⟨some 58, .call ⟨.value (.func 23), #[.tmp 51, .tmp 56, .tmp 57], #[23, 9, 52]⟩, 34, "law.go:90", #[⟨0, .data⟩, ⟨5, .data⟩, ⟨6, .data⟩, ⟨5, .chain⟩], none⟩ (fun K hK => ?_)
      go_simp
      (go_at_call 23; refine (tset_w w _ P a xs _ _ R (HT.out.moves0 m5) HI.out.rise (by have := HI.out.len; omega) (HR.out.moves m5) ((mq.then m5).size)).mono ?_; rintro _ w7 ⟨rfl, a7, ⟨hT7, m7, hb7⟩, st7⟩)
      have M7 : Moves [] w w7 := tab_moves (HT.out.moves0 m5) hPP (mq.then m5) m7
      have hbx7 := m7.at (m5.at hbx (by simp)) hpbn
      have S7 := HSS.out w7 M7 hbx7
      have hG7 : GrowN w w7 (.slice ad6 n6 cap6) xs := (HG.out.moves0 m5).moves m7 HAP.out st7
      have hr7 : RowAt w7 (.agg #[.slice adr nr capr]) R := (HR.out.moves m5).stay3 st7
      have HT7 : Hid (TabIs w w7 P a7 (psetN xs s R)) := hT7
      have HG7 : Hid (GrowN w w7 (.slice ad6 n6 cap6) xs) := hG7
      have HR7 : Hid (RowAt w7 (.agg #[.slice adr nr capr]) R) := hr7
      have HB7 : Hid (a7 = a ∨ ∃ k, a7 = some k ∧ w5.heap.size ≤ k) := hb7
      have HLT : Hid (wq.heap.size ≤ w5.heap.size) := m5.size
      clear hT7 hG7 hr7 hb7 st7
      refine hK.out _ _ ?_ (fun hHeld => ?_)
      ·first | exact S0 | exact S5 | exact S7
      clear hK K
      refine wpT 8 ⟨some 9, .assign (.tmp 58), 34, "law.go:90", #[⟨7, .data⟩, ⟨7, .chain⟩, ⟨0, .phase⟩, ⟨1, .phase⟩, ⟨2, .phase⟩, ⟨3, .phase⟩, ⟨4, .phase⟩, ⟨5, .phase⟩, ⟨6, .phase⟩, ⟨7, .phase⟩], none⟩ ?_
      refine wpAnyH_done (by kernel_rfl) ?_ _
      refine NoPanic.normal ?_
      go_wp2_with fail
      refine wp_region_noPanic ?_
      refine wp_region_held_drew (S := (fun w' => w'.cell? ⟨b, off + k * 5, none⟩ = some (.int .i64 tk) ∧ w'.cell? ⟨b, off + k * 5 + 1, none⟩ = some (.int .i64 tr) ∧ w'.cell? ⟨b, off + k * 5 + 2, none⟩ = some (.bool tm) ∧ w'.cell? ⟨b, off + k * 5 + 3, none⟩ = some (.string tn) ∧ w'.cell? ⟨b, off + k * 5 + 4, none⟩ = some (.slice a2 l2 c2) ∧ w'.cell? ⟨pb, 0, none⟩ = some (.slice adr nr capr))) (by kernel_rfl) ?_ (fun hHeld => ?_)
      ·first | (go_keep; done) | first | exact S7 | exact S8 | exact S9
      refine wpT 0 ⟨some 60, .move (.tmp 6), 24, "law.go:91", #[], none⟩ ?_
      refine wpT 1 ⟨some 61, .move (.tmp 0), 22, "law.go:91", #[], none⟩ ?_
      refine wpT 2 ⟨some 62, .move (.tmp 7), 3, "law.go:91", #[], none⟩ ?_
      refine wpT 3 ⟨some 63, .indexAddr 22 (.tmp 61) (.tmp 62), 0, "law.go:91", #[⟨1, .data⟩, ⟨2, .data⟩], none⟩ ?_
      refine wpT 4 ⟨some 64, .load 55 (.tmp 63), 55, "law.go:91", #[⟨3, .data⟩], none⟩ ?_
      refine wpT 6 ⟨some 66, .load 52 (.tmp 8), 52, "law.go:91", #[], none⟩ ?_
      refine wpR 5 ⟨some 65, .call ⟨.value (.func 24), #[.tmp 64], #[55]⟩, 9, "law.go:91", #[⟨4, .data⟩], none⟩ (fun K hK => ?_)
      go_simp
      (go_at_call 24; refine (hname _).mono ?_; rintro _ w8 ⟨rfl, m8'⟩)
      have m8 : Moves [] w7 w8 := (Moves.refl [] w7).drew.then m8'
      have S8 := HSS.out w8 (M7.then m8) (m8.at hbx7 (by simp))
      refine hK.out _ _ ?_ (fun hHeld => ?_)
      ·first | exact S7 | exact S8 | exact S9
      clear hK K
      refine wpR 7 ⟨some 67, .call ⟨.value (.func 25), #[.tmp 60, .tmp 65, .tmp 66], #[24, 9, 52]⟩, 60, "law.go:91", #[⟨0, .data⟩, ⟨5, .data⟩, ⟨6, .data⟩, ⟨5, .chain⟩], none⟩ (fun K hK => ?_)
      go_simp
      (go_at_call 25; refine (nset_w w8 _ _ xs _ _ R ((HG7.out.at).moves m8) (HR7.out.moves m8) (Moves.refl _ _) (by have := HI.out.len; omega) HI.out.right HI.out.rise).mono ?_; rintro _ w9 ⟨ad9, n9, cap9, rfl, hN9, m9, hv9⟩)
      have S9 := HSS.out w9 ((M7.then m8).then m9) ((m8.then m9).at hbx7 (by simp))
      have HN9 : Hid (NamsAt w9 (.slice ad9 n9 cap9) (psetN xs s R)) := hN9
      have HV9 : Hid ((Value.slice ad9 n9 cap9 = .slice ad6 n6 cap6 ∧ psetE xs s R ≠ 0) ∨ GrowN w8 w9 (.slice ad9 n9 cap9) (psetN xs s R)) := hv9
      clear hN9 hv9
      refine hK.out _ _ ?_ (fun hHeld => ?_)
      ·first | exact S7 | exact S8 | exact S9
      clear hK K
      refine wpT 8 ⟨some 59, .move (.tmp 67), 60, "law.go:91", #[⟨7, .data⟩], none⟩ ?_
      refine wpT 9 ⟨some 68, .extract (.tmp 59) 0, 24, "law.go:91", #[⟨8, .data⟩], none⟩ ?_
      refine wpT 10 ⟨some 69, .extract (.tmp 59) 1, 34, "law.go:91", #[⟨8, .data⟩, { on := 11, ground := Ground.gcOnly Departure.lateStores }], none⟩ ?_
      refine wpT 11 ⟨some 10, .assign (.tmp 68), 24, "law.go:91", #[⟨9, .data⟩, ⟨7, .chain⟩, ⟨0, .phase⟩, ⟨1, .phase⟩, ⟨2, .phase⟩, ⟨3, .phase⟩, ⟨4, .phase⟩, ⟨5, .phase⟩, ⟨6, .phase⟩, ⟨7, .phase⟩, ⟨8, .phase⟩, ⟨9, .phase⟩, { on := 10, ground := Ground.textOnly Departure.lateStores }], none⟩ ?_
      refine wpT 12 ⟨some 11, .assign (.tmp 69), 34, "law.go:91", #[⟨10, .data⟩, ⟨11, .chain⟩, ⟨0, .phase⟩, ⟨1, .phase⟩, ⟨2, .phase⟩, ⟨3, .phase⟩, ⟨4, .phase⟩, ⟨5, .phase⟩, ⟨6, .phase⟩, ⟨7, .phase⟩, ⟨8, .phase⟩, ⟨9, .phase⟩, ⟨10, .phase⟩, ⟨11, .phase⟩], none⟩ ?_
      refine wpAnyH_done (by kernel_rfl) ?_ _
      refine NoPanic.normal ?_
      obtain ⟨GPN, GAP⟩ := play_keep HG.out HG7.out HT7.out HLT.out m8 m9 (M7.then m8).size HV9.out HAP.out HB7.out
      go_wp2_with fail
      go_roundw
      case rel => exact ⟨k + 1, _, a7, psetN xs s R, ⟨by omega, by omega⟩, ⟨rfl, by go_num⟩, (M7.then m8).then m9, (HT7.out.moves0 (m8.then m9)), GPN, HI.out.set, HNS.out.set HNR.out, GAP⟩
      case measure => simp [intOf]; omega
    ·go_wp2_with (go_at_call 21; refine (made6_n W _ _ HCh.out ((MW.out.then mr).then hma)).mono ?_; rintro _ w4 ⟨ad4, n4, cap4, R4, rfl, hR4, hP4, hT4, m4⟩; have HT4 : Hid (NT R4) := hT4; clear hT4; have bx4 := m4.at hbx0 (by simp); obtain ⟨z1, z2⟩ := one_cell bx4; have mS := (hma.then m4).setCell (p := ⟨pb, 0, none⟩) (.inr (by show wr.heap.size ≤ pb; omega)) (.slice ad4 n4 cap4); have bS := set_one bx4 (.slice ad4 n4 cap4); obtain ⟨s0, s1⟩ := one_cell bS; have e0 := mS.cell r0; have HR4 : Hid (RowAt (w4.setCell ⟨pb, 0, none⟩ (.slice ad4 n4 cap4)) (.agg #[.slice ad4 n4 cap4]) R4) := hR4.setRow bx4 _; have HN4 : Hid (n4 = R4.length) := (by obtain ⟨_, e1, hc4⟩ := hR4; simp at e1; subst e1; obtain ⟨_, _, e2, _⟩ := hc4.slice; simp at e2; exact e2.2.1); clear hR4 hP4)
     obtain ⟨wq, adr, nr, capr, R, hwq, hbx, hrow, mrq, HNR⟩ : ∃ wq adr nr capr R, w4.setCell ⟨pb, 0, none⟩ (.slice ad4 n4 cap4) = wq ∧ wq.heap[pb]? = some (.cells #[.slice adr nr capr] 52 (0, 0)) ∧ RowAt wq (.agg #[.slice adr nr capr]) R ∧ Moves [] wr wq ∧ Hid (NT R) := ⟨_, ad4, n4, cap4, R4, rfl, bS, HR4.out, mS, HT4⟩
     rw [hwq]
     clear hwq
     have mq := mr.then mrq
     have hTq := HTr.out.moves0 mrq
     have hGq := HGr.out.moves0 mrq
     have HR : Hid (RowAt wq (.agg #[.slice adr nr capr]) R) := hrow
     have HT : Hid (TabIs w wq P a xs) := hTq
     have HG : Hid (GrowN w wq (.slice ad6 n6 cap6) xs) := hGq
     have hpbn : pb ∉ P :: a.toList := by
      intro hm
      rcases List.mem_cons.1 hm with e | hm
      ·obtain ⟨_, hp0, _⟩ := HT.out
       rw [← e, hbx] at hp0
       simp at hp0
      ·obtain ⟨_, _, e, hg0⟩ := HT.out
       obtain ⟨cur, hc⟩ := hg0.blk (e.trans (Option.mem_toList.1 hm))
       rw [hbx] at hc
       simp at hc
     have HSS : Hid (∀ w', Moves [] w w' → w'.heap[pb]? = some (.cells #[.slice adr nr capr] 52 (0, 0)) → w'.cell? ⟨b, off + k * 5, none⟩ = some (.int .i64 tk) ∧ w'.cell? ⟨b, off + k * 5 + 1, none⟩ = some (.int .i64 tr) ∧ w'.cell? ⟨b, off + k * 5 + 2, none⟩ = some (.bool tm) ∧ w'.cell? ⟨b, off + k * 5 + 3, none⟩ = some (.string tn) ∧ w'.cell? ⟨b, off + k * 5 + 4, none⟩ = some (.slice a2 l2 c2) ∧ w'.cell? ⟨pb, 0, none⟩ = some (.slice adr nr capr)) := fun w' mw hb => ⟨(MW.out.then mw).cell v0, (MW.out.then mw).cell v1, (MW.out.then mw).cell v2, (MW.out.then mw).cell v3, (MW.out.then mw).cell v4, (one_cell hb).1⟩
     have S0 := HSS.out wq mq hbx
     clear hrow hTq hGq
     refine wp_region_noPanic ?_
     refine wp_region_held_drew (S := (fun w' => w'.cell? ⟨b, off + k * 5, none⟩ = some (.int .i64 tk) ∧ w'.cell? ⟨b, off + k * 5 + 1, none⟩ = some (.int .i64 tr) ∧ w'.cell? ⟨b, off + k * 5 + 2, none⟩ = some (.bool tm) ∧ w'.cell? ⟨b, off + k * 5 + 3, none⟩ = some (.string tn) ∧ w'.cell? ⟨b, off + k * 5 + 4, none⟩ = some (.slice a2 l2 c2) ∧ w'.cell? ⟨pb, 0, none⟩ = some (.slice adr nr capr))) (by kernel_rfl) ?_ (fun hHeld => ?_)
     ·first | (go_keep; done) | first | exact S0 | exact S5 | exact S7
     refine wpT 0 ⟨some 51, .move (.tmp 5), 23, "law.go:90", #[], none⟩ ?_
     refine wpT 1 ⟨some 52, .move (.tmp 0), 22, "law.go:90", #[], none⟩ ?_
     refine wpT 2 ⟨some 53, .move (.tmp 7), 3, "law.go:90", #[], none⟩ ?_
     refine wpT 3 ⟨some 54, .indexAddr 22 (.tmp 52) (.tmp 53), 0, "law.go:90", #[⟨1, .data⟩, ⟨2, .data⟩], none⟩ ?_
     refine wpT 4 ⟨some 55, .load 55 (.tmp 54), 55, "law.go:90", #[⟨3, .data⟩], none⟩ ?_
     refine wpT 6 ⟨some 57, .load 52 (.tmp 8), 52, "law.go:90", #[], none⟩ ?_
     refine wpR 5 ⟨some 56, .call ⟨.value (.func 24), #[.tmp 55], #[55]⟩, 9, "law.go:90", #[⟨4, .data⟩], none⟩ (fun K hK => ?_)
     go_simp
     (go_at_call 24; refine (hname _).mono ?_; rintro _ w5 ⟨rfl, m5'⟩)
     have m5 : Moves [] wq w5 := (Moves.refl [] wq).drew.then m5'
     have S5 := HSS.out w5 (mq.then m5) (m5.at hbx (by simp))
     refine hK.out _ _ ?_ (fun hHeld => ?_)
     ·first | exact S0 | exact S5 | exact S7
     clear hK K
     refine wpR 7 ⟨some 58, .call ⟨.value (.func 23), #[.tmp 51, .tmp 56, .tmp 57], #[23, 9, 52]⟩, 34, "law.go:90", #[⟨0, .data⟩, ⟨5, .data⟩, ⟨6, .data⟩, ⟨5, .chain⟩], none⟩ (fun K hK => ?_)
     go_simp
     (go_at_call 23; refine (tset_w w _ P a xs _ _ R (HT.out.moves0 m5) HI.out.rise (by have := HI.out.len; omega) (HR.out.moves m5) ((mq.then m5).size)).mono ?_; rintro _ w7 ⟨rfl, a7, ⟨hT7, m7, hb7⟩, st7⟩)
     have M7 : Moves [] w w7 := tab_moves (HT.out.moves0 m5) hPP (mq.then m5) m7
     have hbx7 := m7.at (m5.at hbx (by simp)) hpbn
     have S7 := HSS.out w7 M7 hbx7
     have hG7 : GrowN w w7 (.slice ad6 n6 cap6) xs := (HG.out.moves0 m5).moves m7 HAP.out st7
     have hr7 : RowAt w7 (.agg #[.slice adr nr capr]) R := (HR.out.moves m5).stay3 st7
     have HT7 : Hid (TabIs w w7 P a7 (psetN xs s R)) := hT7
     have HG7 : Hid (GrowN w w7 (.slice ad6 n6 cap6) xs) := hG7
     have HR7 : Hid (RowAt w7 (.agg #[.slice adr nr capr]) R) := hr7
     have HB7 : Hid (a7 = a ∨ ∃ k, a7 = some k ∧ w5.heap.size ≤ k) := hb7
     have HLT : Hid (wq.heap.size ≤ w5.heap.size) := m5.size
     clear hT7 hG7 hr7 hb7 st7
     refine hK.out _ _ ?_ (fun hHeld => ?_)
     ·first | exact S0 | exact S5 | exact S7
     clear hK K
     refine wpT 8 ⟨some 9, .assign (.tmp 58), 34, "law.go:90", #[⟨7, .data⟩, ⟨7, .chain⟩, ⟨0, .phase⟩, ⟨1, .phase⟩, ⟨2, .phase⟩, ⟨3, .phase⟩, ⟨4, .phase⟩, ⟨5, .phase⟩, ⟨6, .phase⟩, ⟨7, .phase⟩], none⟩ ?_
     refine wpAnyH_done (by kernel_rfl) ?_ _
     refine NoPanic.normal ?_
     go_wp2_with fail
     refine wp_region_noPanic ?_
     refine wp_region_held_drew (S := (fun w' => w'.cell? ⟨b, off + k * 5, none⟩ = some (.int .i64 tk) ∧ w'.cell? ⟨b, off + k * 5 + 1, none⟩ = some (.int .i64 tr) ∧ w'.cell? ⟨b, off + k * 5 + 2, none⟩ = some (.bool tm) ∧ w'.cell? ⟨b, off + k * 5 + 3, none⟩ = some (.string tn) ∧ w'.cell? ⟨b, off + k * 5 + 4, none⟩ = some (.slice a2 l2 c2) ∧ w'.cell? ⟨pb, 0, none⟩ = some (.slice adr nr capr))) (by kernel_rfl) ?_ (fun hHeld => ?_)
     ·first | (go_keep; done) | first | exact S7 | exact S8 | exact S9
     refine wpT 0 ⟨some 60, .move (.tmp 6), 24, "law.go:91", #[], none⟩ ?_
     refine wpT 1 ⟨some 61, .move (.tmp 0), 22, "law.go:91", #[], none⟩ ?_
     refine wpT 2 ⟨some 62, .move (.tmp 7), 3, "law.go:91", #[], none⟩ ?_
     refine wpT 3 ⟨some 63, .indexAddr 22 (.tmp 61) (.tmp 62), 0, "law.go:91", #[⟨1, .data⟩, ⟨2, .data⟩], none⟩ ?_
     refine wpT 4 ⟨some 64, .load 55 (.tmp 63), 55, "law.go:91", #[⟨3, .data⟩], none⟩ ?_
     refine wpT 6 ⟨some 66, .load 52 (.tmp 8), 52, "law.go:91", #[], none⟩ ?_
     refine wpR 5 ⟨some 65, .call ⟨.value (.func 24), #[.tmp 64], #[55]⟩, 9, "law.go:91", #[⟨4, .data⟩], none⟩ (fun K hK => ?_)
     go_simp
     (go_at_call 24; refine (hname _).mono ?_; rintro _ w8 ⟨rfl, m8'⟩)
     have m8 : Moves [] w7 w8 := (Moves.refl [] w7).drew.then m8'
     have S8 := HSS.out w8 (M7.then m8) (m8.at hbx7 (by simp))
     refine hK.out _ _ ?_ (fun hHeld => ?_)
     ·first | exact S7 | exact S8 | exact S9
     clear hK K
     refine wpR 7 ⟨some 67, .call ⟨.value (.func 25), #[.tmp 60, .tmp 65, .tmp 66], #[24, 9, 52]⟩, 60, "law.go:91", #[⟨0, .data⟩, ⟨5, .data⟩, ⟨6, .data⟩, ⟨5, .chain⟩], none⟩ (fun K hK => ?_)
     go_simp
     (go_at_call 25; refine (nset_w w8 _ _ xs _ _ R ((HG7.out.at).moves m8) (HR7.out.moves m8) (Moves.refl _ _) (by have := HI.out.len; omega) HI.out.right HI.out.rise).mono ?_; rintro _ w9 ⟨ad9, n9, cap9, rfl, hN9, m9, hv9⟩)
     have S9 := HSS.out w9 ((M7.then m8).then m9) ((m8.then m9).at hbx7 (by simp))
     have HN9 : Hid (NamsAt w9 (.slice ad9 n9 cap9) (psetN xs s R)) := hN9
     have HV9 : Hid ((Value.slice ad9 n9 cap9 = .slice ad6 n6 cap6 ∧ psetE xs s R ≠ 0) ∨ GrowN w8 w9 (.slice ad9 n9 cap9) (psetN xs s R)) := hv9
     clear hN9 hv9
     refine hK.out _ _ ?_ (fun hHeld => ?_)
     ·first | exact S7 | exact S8 | exact S9
     clear hK K
     refine wpT 8 ⟨some 59, .move (.tmp 67), 60, "law.go:91", #[⟨7, .data⟩], none⟩ ?_
     refine wpT 9 ⟨some 68, .extract (.tmp 59) 0, 24, "law.go:91", #[⟨8, .data⟩], none⟩ ?_
     refine wpT 10 ⟨some 69, .extract (.tmp 59) 1, 34, "law.go:91", #[⟨8, .data⟩, { on := 11, ground := Ground.gcOnly Departure.lateStores }], none⟩ ?_
     refine wpT 11 ⟨some 10, .assign (.tmp 68), 24, "law.go:91", #[⟨9, .data⟩, ⟨7, .chain⟩, ⟨0, .phase⟩, ⟨1, .phase⟩, ⟨2, .phase⟩, ⟨3, .phase⟩, ⟨4, .phase⟩, ⟨5, .phase⟩, ⟨6, .phase⟩, ⟨7, .phase⟩, ⟨8, .phase⟩, ⟨9, .phase⟩, { on := 10, ground := Ground.textOnly Departure.lateStores }], none⟩ ?_
     refine wpT 12 ⟨some 11, .assign (.tmp 69), 34, "law.go:91", #[⟨10, .data⟩, ⟨11, .chain⟩, ⟨0, .phase⟩, ⟨1, .phase⟩, ⟨2, .phase⟩, ⟨3, .phase⟩, ⟨4, .phase⟩, ⟨5, .phase⟩, ⟨6, .phase⟩, ⟨7, .phase⟩, ⟨8, .phase⟩, ⟨9, .phase⟩, ⟨10, .phase⟩, ⟨11, .phase⟩], none⟩ ?_
     refine wpAnyH_done (by kernel_rfl) ?_ _
     refine NoPanic.normal ?_
     obtain ⟨GPN, GAP⟩ := play_keep HG.out HG7.out HT7.out HLT.out m8 m9 (M7.then m8).size HV9.out HAP.out HB7.out
     go_wp2_with fail
     go_roundw
     case rel => exact ⟨k + 1, _, a7, psetN xs s R, ⟨by omega, by omega⟩, ⟨rfl, by go_num⟩, (M7.then m8).then m9, (HT7.out.moves0 (m8.then m9)), GPN, HI.out.set, HNS.out.set HNR.out, GAP⟩
     case measure => simp [intOf]; omega
  ·have hways : (¬ (k : Int) < nv) ∨ ((k : Int) < nv ∧ ¬ (k : Int) < 60) := by omega
   have HTr : Hid (TabIs w wr P a xs) := hTr
   have HGr : Hid (GrowN w wr (.slice ad6 n6 cap6) xs) := hGr
   clear HVs hTr hGr
   rcases hways with g1 | ⟨g1, g2⟩
   all_goals go_wp2_with fail
   all_goals go_ret3
   all_goals exact ⟨_, _, _, _, _, _, rfl, HTr.out, HGr.out.at, HI.out, HNS.out, mr⟩
theorem play6_w (W w : World) (u0 : Value) (h0 : AArgs W u0) (m : Moves [] W w) :
  Calls Tryz.prog 5 #[u0] w fun e w' => ∃ p a xs ad n cap, e = .returned (.tuple #[.pointer (some ⟨p, 0, none⟩), .slice ad n cap, .bool true]) ∧ TabIs w w' p a xs ∧ NamsAt w' (.slice ad n cap) xs ∧ InvN xs ∧ Moves [] w w' :=
 (play6_n W w u0 h0 m).mono (by
  rintro e w' ⟨p, a, xs, ad, n, cap, h1, h2, h3, h4, _, h6⟩
  exact ⟨p, a, xs, ad, n, cap, h1, h2, h3, h4, h6⟩)
end Go.Proofs.YtcngllcifcpbkaaGreat
