/-
  The walk of DiskCopies.
-/
import Derived.Test.YtedehhnhmkeglaaCB06
namespace Go.Proofs.Ytedehhnhmkeglaa
open Go.RowKit

/-- The beginnings of rows. -/
def cut20 (bss : List (List Nat)) : List (List Nat) := bss.map (·.take 20)
theorem cut20_len (bss : List (List Nat)) : ∀ s ∈ cut20 bss, s.length ≤ 1000 := by
  intro s hs
  simp only [cut20, List.mem_map] at hs
  obtain ⟨b, _, rfl⟩ := hs
  rw [List.length_take]
  omega
theorem take_oct {bs : List Nat} (h : ∀ b ∈ bs, b < 256) (n : Nat) : ∀ b ∈ bs.take n, b < 256 := fun b hb => h b (List.mem_of_mem_take hb)
theorem BsV.one {w : World} {vs : List Value} {bss : List (List Nat)} (h : BsV w vs bss) : ∀ u ∈ vs, u.oneCell' = true := All2.mem (p := fun u => u.oneCell' = true) (fun a b ⟨⟨g, q⟩, _⟩ => by obtain ⟨_, _, _, rfl, _⟩ := q; rfl) h

theorem bb_empty (w : World) : OwnBB (w.alloc (.cells #[] 30)) (.slice (some ⟨w.heap.size, 0, none⟩) 0 0) [] := OwnBB.empty (heap_alloc_new w _)
/-- Cut of a row that lay in an elder world: so does what it answers. -/
theorem cut_old (v : Value) (g : Nat) (bs : List Nat) (W w : World) (h : IsB W g v bs) :
    Calls Try.prog 11 #[v, .int .i64 20] w fun e w' => ∃ v', e = .returned v' ∧ IsB W g v' (bs.take 20) ∧ w = w' := by
  have h0 := h
  obtain ⟨ad, len, cap, rfl, h1, h2, h3, h4⟩ := h
  by_cases hlt : 20 < len
  · have hlt1 : (20 : Int) < (len : Int) := by omega
    have hlt2 : (20 : Int) ≤ (cap : Int) := by omega
    go_enter Try.func11, Try.ntmps11
    go_wp2
    go_ret
    refine ⟨_, rfl, ⟨ad, 20, cap, rfl, by rw [List.length_take]; omega, by omega, h3, ?_⟩, rfl⟩
    exact h4.take 20
  · have hlt1 : ¬ (20 : Int) < (len : Int) := by omega
    go_enter Try.func11, Try.ntmps11
    go_wp2
    go_ret
    exact ⟨_, rfl, by rw [List.take_of_length_le (by omega)]; exact h0, rfl⟩
/-- A list of this one row of bytes, which was just laid. -/
theorem lsb_one {W w : World} {x : Value} {g : Nat} {bs : List Nat} (h : IsB W g x bs) (m : Moves [] W w) (ho : ∀ b ∈ bs, b < 256) : LsB (w.alloc (.cells #[x] 30)) (.slice (some ⟨w.heap.size, 0, none⟩) 1 1) [bs] :=
  ⟨_, [x], _, rfl, Nat.le_refl _, fun h => by simp at h, vals_new _ _, ⟨⟨g, h.moves (m.alloc _) (by simp)⟩, ho⟩, trivial⟩
set_option maxRecDepth 100000 in
set_option maxHeartbeats 16000000 in
theorem diskCopies_w (lv bv : Value) (w : World) (hl : ∃ bss, LsB w lv bss) (gb : Nat) (bb : List Nat) (hbv : IsB w gb bv bb) (hob : ∀ z ∈ bb, z < 256) : Calls Try.prog 5 #[lv, bv] w fun e w' => e = .returned (.bool true) ∧ Moves [] w w' := by
  obtain ⟨bss, ad, vs, cap, rfl, hc, hnil, hV, hB⟩ := hl
  have L := hB.length
  obtain ⟨n, Hn⟩ : ∃ n, Hid (bss.length = n) := ⟨_, rfl⟩
  rw [Hn.out] at L
  rw [L] at hc ⊢
  have HV : Hid (ValsAt w ad vs) := hV
  have HB : Hid (BsV w vs bss) := hB
  have HBV : Hid (IsB w gb bv bb) := hbv
  have hob2 := take_oct hob 20
  obtain ⟨adb, nb, capb, rfl, -⟩ := id hbv
  clear hV hB L hbv
  go_enter Try.func5, Try.ntmps5
  go_wp2_with fail
  refine (dkNew_w _).mono ?_
  rintro _ w1 ⟨rfl, hD1, m1⟩
  obtain ⟨p, hp⟩ : ∃ p, w.heap.size = p := ⟨_, rfl⟩
  rw [hp] at hD1 ⊢
  have Hp : Hid (w.heap.size = p) := hp
  clear hp
  go_wp2_with fail
  go_loopw [6, 7] (fun mv i wr => ∃ k : Nat, k ≤ n ∧ k ≤ 15 ∧ i = .int .i64 k ∧ ∃ a us, DkIs wr p a ((cut20 (bss.take k)).map strOf) ∧ OwnBB wr mv us ∧ BsV w us (cut20 (bss.take k)) ∧ Moves [] w wr ∧ (∀ j ∈ p :: a.toList, w.heap.size ≤ j) ∧ Fresh w mv) (fun _ i _ => n - (intOf i).toNat)
  case atStart => exact ⟨0, Nat.zero_le _, Nat.zero_le _, rfl, none, [], hD1, OwnBB.nil _, trivial, m1, fun j hj => by simp at hj; have := Hp.out; omega, Fresh.nil _⟩
  case round =>
    obtain ⟨k, hk, hk15, rfl, a, us, hD, hO, hU, mr, hf, hfm⟩ := hrel
    obtain ⟨wo, hwo⟩ : ∃ wo, wo = wr := ⟨_, rfl⟩
    subst hwo
    have LU : us.length = k := by rw [hU.length, cut20, List.length_map, List.length_take, Hn.out]; omega
    have HU1 : Hid (∀ u ∈ us, u.oneCell' = true) := hU.one
    obtain ⟨ad6, cap6, rfl, hc6, hn6, -, -⟩ := hO.at
    rw [LU] at hc6 hO hfm ⊢
    have HO : Hid (OwnBB wo (.slice ad6 k cap6) us) := hO
    have HU : Hid (BsV w us (cut20 (bss.take k))) := hU
    have HD : Hid (DkIs wo p a ((cut20 (bss.take k)).map strOf)) := hD
    have LC : Hid ((cut20 (bss.take k)).length = k) := by unfold Hid; rw [cut20, List.length_map, List.length_take, Hn.out]; omega
    have HLU : Hid (us.length = k) := LU
    clear hO hU hD LU
    by_cases hgo : k < n ∧ k < 15
    · obtain ⟨hlt, h15⟩ := hgo
      have hlt' : (k : Int) < n := by omega
      have h15' : (k : Int) < 15 := by omega
      obtain ⟨bs, hbs⟩ : ∃ bs, bss[k]? = some bs := ⟨_, List.getElem?_eq_getElem (by have := Hn.out; omega)⟩
      obtain ⟨x, hx, ⟨gx, hxB⟩, ho⟩ := HB.out.get hbs
      obtain ⟨g, off, rfl, hcell⟩ := HV.out k x hx
      have hcell := mr.cell hcell
      have HXB : Hid (IsB w gx x bs) := hxB
      obtain ⟨adx, nx, capx, rfl, -⟩ := id hxB
      have HT : Hid (cut20 (bss.take (k + 1)) = cut20 (bss.take k) ++ [bs.take 20]) := by
        unfold Hid cut20
        have hk' : k < bss.length := by rw [Hn.out]; exact hlt
        rw [List.take_succ_eq_append_getElem hk', List.map_append]
        congr 1
        have := (List.getElem?_eq_some_iff.1 hbs).2
        simp [this]
      have hcut := cut_old _ gx bs w wo hxB
      clear hbs hx hxB
      go_wp2_with fail
      refine hcut.mono ?_
      rintro _ _ ⟨v5, rfl, hv5, rfl⟩
      have hA := dkAppend_w wo p a _ _ gx (bs.take 20) HD.out (hv5.moves mr (by simp)) (take_oct ho 20) (by rw [List.length_map, LC.out]; omega)
      have HV5 : Hid (IsB w gx v5 (bs.take 20)) := hv5
      obtain ⟨ad5, n5, cap5, rfl, -⟩ := id hv5
      clear hv5 hcut
      go_wp2_with fail
      refine hA.mono ?_
      rintro _ w2 ⟨rfl, a2, hTo⟩
      obtain ⟨M2, hf2⟩ := hTo.fresh mr hf
      have hne : ∀ j, (Value.slice ad6 k cap6).ownBlock = some j → j ∉ p :: a.toList := fun j hj => by
        obtain ⟨cur, hcur⟩ := HO.out.block hj
        exact HD.out.apart hcur (by decide) (by decide)
      have m3 : Moves [] w2 (w2.alloc (.cells #[.slice ad5 n5 cap5] 30)) := (Moves.refl _ _).alloc _
      have hO2 : OwnBB (w2.alloc (.cells #[.slice ad5 n5 cap5] 30)) (.slice ad6 k cap6) us := (HO.out.moves hTo.2.1 hne).moves m3 (by simp)
      have hB5 : (∃ g, IsB w g (.slice ad5 n5 cap5) (bs.take 20)) ∧ ∀ b ∈ bs.take 20, b < 256 := ⟨⟨gx, HV5.out⟩, take_oct ho 20⟩
      clear hA
      go_wp2_with (at_builtin; refine bbs_append (.tmp 31) (.tmp 33) rfl _ (some ⟨w2.heap.size, 0, none⟩) 1 1 us [.slice ad5 n5 cap5] rfl rfl rfl hO2 (vals_new w2 _) rfl (by simp) (by simp [Value.oneCell']) (by have := HLU.out; simp; omega) ?_)
      intro v6 w6 hO6 m6 l6
      obtain ⟨M6, hf6⟩ := appended (M2.then m3) hfm m6 l6
      have hne6 : ∀ j ∈ p :: a2.toList, j ∉ (Value.slice ad6 k cap6).ownBlock.toList := fun j hj hj2 => by
        obtain ⟨cur, hcur⟩ := hO2.block (Option.mem_toList.1 hj2)
        exact (hTo.1.moves m3 (by simp)).apart hcur (by decide) (by decide) hj
      have hD6 := (hTo.1.moves m3 (by simp)).moves m6 hne6
      have HO6 : Hid (OwnBB w6 v6 (us ++ [.slice ad5 n5 cap5])) := hO6
      have HD6 : Hid (DkIs w6 p a2 ((cut20 (bss.take k)).map strOf ++ [strOf (bs.take 20)])) := hD6
      clear hO6 hD6 hO2 hne hne6
      go_wp2_with fail
      go_roundw
      case rel => exact ⟨k + 1, by omega, by omega, by go_num, a2, _, by rw [HT.out, List.map_append]; exact HD6.out, HO6.out, by rw [HT.out]; exact All2.append HU.out ⟨hB5, trivial⟩, M6, hf2, hf6⟩
      case measure => simp [intOf]; omega
    · have hstop : ¬ ((k : Int) < n ∧ (k : Int) < 15) := by omega
      have hM2 := cut20_len (bss.take k)
      obtain ⟨xs, Hxs⟩ : ∃ xs, Hid (cut20 (bss.take k) = xs) := ⟨_, rfl⟩
      rw [Hxs.out] at hM2
      have LX : Hid (xs.length = k) := by rw [← Hxs.out]; exact LC.out
      have HD' : Hid (DkIs wo p a (xs.map strOf)) := by rw [← Hxs.out]; exact HD.out
      have HU' : Hid (BsV w us xs) := by rw [← Hxs.out]; exact HU.out
      clear HD HU LC Hxs
      have hC := dkCopy_w wo p a _ HD'.out (by rw [List.length_map, LX.out]; omega)
      have hend : (decide ((k : Int) < n) && decide ((k : Int) < 15)) = false := by simp; omega
      by_cases hlt : k < n
      · have hlt' : (k : Int) < n := by omega
        have h15' : ¬ (k : Int) < 15 := by omega
        go_wp2_with fail
        refine hC.mono ?_
        rintro _ w2 ⟨q, a2, rfl, hC2, m2, hfq⟩
        have hD2 := HD'.out.moves m2 (by simp)
        have hO2 := HO.out.moves m2 (by simp)
        have M2 : Moves [] w w2 := mr.then m2
        have hS2 := same14_w w2 q a2 _ _ hC2 (LsB.ofOwn hO2 (HU'.out.moves M2)) (by rw [LX.out]; omega) hM2
        have hcb := cut_old (.slice adb nb capb) gb bb w
        have HC2 : Hid (DkIs w2 q a2 (xs.map strOf)) := hC2
        have HD2 : Hid (DkIs w2 p a (xs.map strOf)) := hD2
        have HO2 : Hid (OwnBB w2 (.slice ad6 k cap6) us) := hO2
        clear hC2 hD2 hO2 hC
        go_wp2_with fail
        refine hS2.mono ?_
        rintro _ w3 ⟨rfl, m3⟩
        clear hS2
        have hcb3 := hcb w3 HBV.out
        go_wp2_with fail
        refine hcb3.mono ?_
        rintro _ _ ⟨v5, rfl, hv5, rfl⟩
        have M3 := M2.then m3
        obtain ⟨cs, Hcs⟩ : ∃ cs, Hid (bb.take 20 = cs) := ⟨_, rfl⟩
        rw [Hcs.out] at hob2 hv5
        have hcl : cs.length ≤ 20 := by rw [← Hcs.out, List.length_take]; omega
        have hA := dkAppend_w w3 p a _ v5 gb cs (HD2.out.moves m3 (by simp)) (hv5.moves M3 (by simp)) hob2 (by rw [List.length_map, LX.out]; omega)
        clear hcb hcb3
        go_wp2_with fail
        refine hA.mono ?_
        rintro _ w4 ⟨rfl, a4, hTo⟩
        clear hA
        obtain ⟨M4, hf4⟩ := hTo.fresh M3 hf
        have hap : ∀ j ∈ q :: a2.toList, j ∉ p :: a.toList := fun j hj hj2 => by
          have h1 := hfq j hj
          have h2 := HD'.out.lt j hj2
          omega
        have hC4 := (HC2.out.moves m3 (by simp)).moves hTo.2.1 hap
        have hne4 : ∀ j, (Value.slice ad6 k cap6).ownBlock = some j → j ∉ p :: a.toList := fun j hj => by
          obtain ⟨cur, hcur⟩ := HO2.out.block hj
          exact HD2.out.apart hcur (by decide) (by decide)
        have hO4 := (HO2.out.moves m3 (by simp)).moves hTo.2.1 hne4
        have hL5 := lsb_one hv5 M4 hob2
        have m5 : Moves [] w4 (w4.alloc (.cells #[v5] 30)) := (Moves.refl _ _).alloc _
        have hR := dkReplace_w _ q a2 _ _ [cs] (hC4.moves m5 (by simp)) hL5 (fun ad n cap g off e1 e2 => by
          simp at e1
          rw [← e1.1] at e2
          simp at e2
          have := hC4.lt q (by simp)
          omega) (by simp)
        have hv5B : IsB w gb v5 cs := hv5
        have HV5 : Hid (IsB w gb v5 cs) := hv5
        obtain ⟨ad5, n5, cap5, rfl, -⟩ := id hv5
        clear hv5 hL5 hv5B
        go_wp2_with fail
        refine hR.mono ?_
        rintro _ w6 ⟨rfl, a6, hC6, m6, hf6⟩
        clear hR
        have hqw : w.heap.size ≤ q := Nat.le_trans mr.size (hfq q (by simp))
        have M6 : Moves [] w w6 := (M4.then m5).trans m6 (fun x hx => .inr (by simp at hx; subst hx; exact hqw))
        have hq4 : q ∉ p :: a4.toList := by
          intro hj
          rcases List.mem_cons.1 hj with e | hj
          · exact hap q (by simp) (by rw [e]; simp)
          · rcases hTo.2.2 with e | ⟨j, e, hj3⟩
            · rw [e] at hj; exact hap q (by simp) (by simp [Option.mem_toList.1 hj])
            · rw [e] at hj
              simp at hj
              subst hj
              have := (HC2.out.moves m3 (by simp)).lt q (by simp)
              omega
        have hD6 : DkIs w6 p a4 (xs.map strOf ++ [strOf cs]) := (hTo.1.moves m5 (by simp)).moves m6 (fun j hj hj2 => by
          simp at hj2
          subst hj2
          exact hq4 hj)
        have hO6 : OwnBB w6 (.slice ad6 k cap6) us := (hO4.moves m5 (by simp)).moves m6 (fun j hj hj2 => by
          simp at hj2
          subst hj2
          obtain ⟨cur, hcur⟩ := hO4.block hj
          exact hC4.apart hcur (by decide) (by decide) (by simp))
        have HO6 : Hid (OwnBB w6 (.slice ad6 k cap6) us) := hO6
        have HD6 : Hid (DkIs w6 p a4 (xs.map strOf ++ [strOf cs])) := hD6
        have HC6 : Hid (DkIs w6 q a6 ([cs].map strOf)) := hC6
        have mE : Moves [] w6 (w6.alloc (.cells #[] 30)) := (Moves.refl _ _).alloc _
        have hE := bb_empty w6
        have hfE : Fresh w6 (.slice (some ⟨w6.heap.size, 0, none⟩) 0 0) := fun j hj => by simp [Value.ownBlock] at hj; omega
        obtain ⟨_, _, e6, -, -, hV6, -⟩ := (hO6.moves mE (by simp)).at
        rw [HLU.out] at e6
        simp only [Value.slice.injEq, true_and] at e6
        obtain ⟨rfl, rfl⟩ := e6
        clear hO6 hD6 hC6 hO4 hC4 hq4 hap hne4 hTo
        go_wp2_with (at_builtin; refine bbs_append (.tmp 55) (.tmp 56) rfl _ _ _ _ [] us rfl rfl rfl hE hV6 HLU.out.symm hn6 HU1.out (by have := HLU.out; simp; omega) ?_)
        intro v7 w7 hO7 m7 l7
        obtain ⟨M7, hf7⟩ := appended mE hfE m7 l7
        obtain ⟨ad7, cap7, e7, -, -, -, -⟩ := hO7.at
        have e7 : v7 = .slice ad7 k cap7 := by rw [e7]; congr 1
        subst e7
        have m8 : Moves [] w7 (w7.alloc (.cells #[.slice ad5 n5 cap5] 30)) := (Moves.refl _ _).alloc _
        have hO8 := hO7.moves m8 (by simp)
        clear hE hfE hV6 hO7 m7 l7
        go_wp2_with (at_builtin; refine bbs_append (.tmp 57) (.tmp 59) rfl (.slice ad7 us.length cap7) _ _ _ us [.slice ad5 n5 cap5] rfl rfl rfl hO8 (vals_new w7 _) rfl (by simp) (by simp [Value.oneCell']) (by have := HLU.out; simp; omega) ?_)
        intro v9 w9 hO9 m9 l9
        obtain ⟨M9, -⟩ := appended (M7.then m8) hf7 m9 l9
        have hBs9 : BsV w9 (us ++ [.slice ad5 n5 cap5]) (xs ++ [cs]) := All2.append (HU'.out.moves (M6.then M9)) ⟨⟨⟨gb, HV5.out.moves (M6.then M9) (by simp)⟩, hob2⟩, trivial⟩
        have hD9 : DkIs w9 p a4 ((xs ++ [cs]).map strOf) := by rw [List.map_append]; exact HD6.out.moves M9 (by simp)
        have hS9 := same14_w w9 p a4 v9 _ hD9 (LsB.ofOwn hO9 hBs9) (by have := LX.out; simp; omega) (by
          intro s hs
          rcases List.mem_append.1 hs with hs | hs
          · exact hM2 s hs
          · simp at hs; subst hs; omega)
        clear hBs9 hD9 hO9 m9 l9 hO8
        go_wp2_with fail
        refine hS9.mono ?_
        rintro _ w10 ⟨rfl, m10⟩
        have M10 := M9.then m10
        have hL11 := lsb_one HV5.out (M6.then M10) hob2
        have m11 : Moves [] w10 (w10.alloc (.cells #[.slice ad5 n5 cap5] 30)) := (Moves.refl _ _).alloc _
        have hS11 := same14_w _ q a6 _ [cs] (HC6.out.moves (M10.then m11) (by simp)) hL11 (by simp) (by simp; omega)
        clear hS9
        go_wp2_with fail
        refine hS11.mono ?_
        rintro _ w12 ⟨rfl, m12⟩
        clear hS11
        go_wp2_with fail
        refine (known14_w w12).mono ?_
        rintro _ w13 ⟨rfl, m13⟩
        go_wp2_with fail
        go_ret
        exact ⟨rfl, M6.then (((M10.then m11).then m12).then m13)⟩
      · have hlt' : ¬ (k : Int) < n := by omega
        go_wp2_with fail
        refine hC.mono ?_
        rintro _ w2 ⟨q, a2, rfl, hC2, m2, hfq⟩
        have hD2 := HD'.out.moves m2 (by simp)
        have hO2 := HO.out.moves m2 (by simp)
        have M2 : Moves [] w w2 := mr.then m2
        have hS2 := same14_w w2 q a2 _ _ hC2 (LsB.ofOwn hO2 (HU'.out.moves M2)) (by rw [LX.out]; omega) hM2
        have hcb := cut_old (.slice adb nb capb) gb bb w
        have HC2 : Hid (DkIs w2 q a2 (xs.map strOf)) := hC2
        have HD2 : Hid (DkIs w2 p a (xs.map strOf)) := hD2
        have HO2 : Hid (OwnBB w2 (.slice ad6 k cap6) us) := hO2
        clear hC2 hD2 hO2 hC
        go_wp2_with fail
        refine hS2.mono ?_
        rintro _ w3 ⟨rfl, m3⟩
        clear hS2
        have hcb3 := hcb w3 HBV.out
        go_wp2_with fail
        refine hcb3.mono ?_
        rintro _ _ ⟨v5, rfl, hv5, rfl⟩
        have M3 := M2.then m3
        obtain ⟨cs, Hcs⟩ : ∃ cs, Hid (bb.take 20 = cs) := ⟨_, rfl⟩
        rw [Hcs.out] at hob2 hv5
        have hcl : cs.length ≤ 20 := by rw [← Hcs.out, List.length_take]; omega
        have hA := dkAppend_w w3 p a _ v5 gb cs (HD2.out.moves m3 (by simp)) (hv5.moves M3 (by simp)) hob2 (by rw [List.length_map, LX.out]; omega)
        clear hcb hcb3
        go_wp2_with fail
        refine hA.mono ?_
        rintro _ w4 ⟨rfl, a4, hTo⟩
        clear hA
        obtain ⟨M4, hf4⟩ := hTo.fresh M3 hf
        have hap : ∀ j ∈ q :: a2.toList, j ∉ p :: a.toList := fun j hj hj2 => by
          have h1 := hfq j hj
          have h2 := HD'.out.lt j hj2
          omega
        have hC4 := (HC2.out.moves m3 (by simp)).moves hTo.2.1 hap
        have hne4 : ∀ j, (Value.slice ad6 k cap6).ownBlock = some j → j ∉ p :: a.toList := fun j hj => by
          obtain ⟨cur, hcur⟩ := HO2.out.block hj
          exact HD2.out.apart hcur (by decide) (by decide)
        have hO4 := (HO2.out.moves m3 (by simp)).moves hTo.2.1 hne4
        have hL5 := lsb_one hv5 M4 hob2
        have m5 : Moves [] w4 (w4.alloc (.cells #[v5] 30)) := (Moves.refl _ _).alloc _
        have hR := dkReplace_w _ q a2 _ _ [cs] (hC4.moves m5 (by simp)) hL5 (fun ad n cap g off e1 e2 => by
          simp at e1
          rw [← e1.1] at e2
          simp at e2
          have := hC4.lt q (by simp)
          omega) (by simp)
        have hv5B : IsB w gb v5 cs := hv5
        have HV5 : Hid (IsB w gb v5 cs) := hv5
        obtain ⟨ad5, n5, cap5, rfl, -⟩ := id hv5
        clear hv5 hL5 hv5B
        go_wp2_with fail
        refine hR.mono ?_
        rintro _ w6 ⟨rfl, a6, hC6, m6, hf6⟩
        clear hR
        have hqw : w.heap.size ≤ q := Nat.le_trans mr.size (hfq q (by simp))
        have M6 : Moves [] w w6 := (M4.then m5).trans m6 (fun x hx => .inr (by simp at hx; subst hx; exact hqw))
        have hq4 : q ∉ p :: a4.toList := by
          intro hj
          rcases List.mem_cons.1 hj with e | hj
          · exact hap q (by simp) (by rw [e]; simp)
          · rcases hTo.2.2 with e | ⟨j, e, hj3⟩
            · rw [e] at hj; exact hap q (by simp) (by simp [Option.mem_toList.1 hj])
            · rw [e] at hj
              simp at hj
              subst hj
              have := (HC2.out.moves m3 (by simp)).lt q (by simp)
              omega
        have hD6 : DkIs w6 p a4 (xs.map strOf ++ [strOf cs]) := (hTo.1.moves m5 (by simp)).moves m6 (fun j hj hj2 => by
          simp at hj2
          subst hj2
          exact hq4 hj)
        have hO6 : OwnBB w6 (.slice ad6 k cap6) us := (hO4.moves m5 (by simp)).moves m6 (fun j hj hj2 => by
          simp at hj2
          subst hj2
          obtain ⟨cur, hcur⟩ := hO4.block hj
          exact hC4.apart hcur (by decide) (by decide) (by simp))
        have HO6 : Hid (OwnBB w6 (.slice ad6 k cap6) us) := hO6
        have HD6 : Hid (DkIs w6 p a4 (xs.map strOf ++ [strOf cs])) := hD6
        have HC6 : Hid (DkIs w6 q a6 ([cs].map strOf)) := hC6
        have mE : Moves [] w6 (w6.alloc (.cells #[] 30)) := (Moves.refl _ _).alloc _
        have hE := bb_empty w6
        have hfE : Fresh w6 (.slice (some ⟨w6.heap.size, 0, none⟩) 0 0) := fun j hj => by simp [Value.ownBlock] at hj; omega
        obtain ⟨_, _, e6, -, -, hV6, -⟩ := (hO6.moves mE (by simp)).at
        rw [HLU.out] at e6
        simp only [Value.slice.injEq, true_and] at e6
        obtain ⟨rfl, rfl⟩ := e6
        clear hO6 hD6 hC6 hO4 hC4 hq4 hap hne4 hTo
        go_wp2_with (at_builtin; refine bbs_append (.tmp 55) (.tmp 56) rfl _ _ _ _ [] us rfl rfl rfl hE hV6 HLU.out.symm hn6 HU1.out (by have := HLU.out; simp; omega) ?_)
        intro v7 w7 hO7 m7 l7
        obtain ⟨M7, hf7⟩ := appended mE hfE m7 l7
        obtain ⟨ad7, cap7, e7, -, -, -, -⟩ := hO7.at
        have e7 : v7 = .slice ad7 k cap7 := by rw [e7]; congr 1
        subst e7
        have m8 : Moves [] w7 (w7.alloc (.cells #[.slice ad5 n5 cap5] 30)) := (Moves.refl _ _).alloc _
        have hO8 := hO7.moves m8 (by simp)
        clear hE hfE hV6 hO7 m7 l7
        go_wp2_with (at_builtin; refine bbs_append (.tmp 57) (.tmp 59) rfl (.slice ad7 us.length cap7) _ _ _ us [.slice ad5 n5 cap5] rfl rfl rfl hO8 (vals_new w7 _) rfl (by simp) (by simp [Value.oneCell']) (by have := HLU.out; simp; omega) ?_)
        intro v9 w9 hO9 m9 l9
        obtain ⟨M9, -⟩ := appended (M7.then m8) hf7 m9 l9
        have hBs9 : BsV w9 (us ++ [.slice ad5 n5 cap5]) (xs ++ [cs]) := All2.append (HU'.out.moves (M6.then M9)) ⟨⟨⟨gb, HV5.out.moves (M6.then M9) (by simp)⟩, hob2⟩, trivial⟩
        have hD9 : DkIs w9 p a4 ((xs ++ [cs]).map strOf) := by rw [List.map_append]; exact HD6.out.moves M9 (by simp)
        have hS9 := same14_w w9 p a4 v9 _ hD9 (LsB.ofOwn hO9 hBs9) (by have := LX.out; simp; omega) (by
          intro s hs
          rcases List.mem_append.1 hs with hs | hs
          · exact hM2 s hs
          · simp at hs; subst hs; omega)
        clear hBs9 hD9 hO9 m9 l9 hO8
        go_wp2_with fail
        refine hS9.mono ?_
        rintro _ w10 ⟨rfl, m10⟩
        have M10 := M9.then m10
        have hL11 := lsb_one HV5.out (M6.then M10) hob2
        have m11 : Moves [] w10 (w10.alloc (.cells #[.slice ad5 n5 cap5] 30)) := (Moves.refl _ _).alloc _
        have hS11 := same14_w _ q a6 _ [cs] (HC6.out.moves (M10.then m11) (by simp)) hL11 (by simp) (by simp; omega)
        clear hS9
        go_wp2_with fail
        refine hS11.mono ?_
        rintro _ w12 ⟨rfl, m12⟩
        clear hS11
        go_wp2_with fail
        refine (known14_w w12).mono ?_
        rintro _ w13 ⟨rfl, m13⟩
        go_wp2_with fail
        go_ret
        exact ⟨rfl, M6.then (((M10.then m11).then m12).then m13)⟩
end Go.Proofs.Ytedehhnhmkeglaa
