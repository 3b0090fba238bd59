/-
  keep's Lists and law14's same of the same records; law14's known.
-/
import Derived.Test.YtedehhnhmkeglaaCDk2
namespace Go.Proofs.Ytedehhnhmkeglaa
open Go.RowKit

set_option maxRecDepth 100000 in
set_option maxHeartbeats 4000000 in
theorem lists_w (w : World) (v1 v2 : Value) (bss : List (List Nat)) (h1 : LsB w v1 bss) (h2 : LsB w v2 bss) (hl : bss.length ≤ 1000) :
    Calls Try.prog 16 #[v1, v2] w fun e w' => e = .returned (.bool true) ∧ Moves [] w w' := by
  obtain ⟨ad1, vs1, cap1, rfl, hc1, hnil1, hV1, hB1⟩ := h1
  obtain ⟨ad2, vs2, cap2, rfl, hc2, hnil2, hV2, hB2⟩ := h2
  have L1 := hB1.length
  have L2 := hB2.length
  obtain ⟨n, Hn⟩ : ∃ n, Hid (bss.length = n) := ⟨_, rfl⟩
  rw [Hn.out] at L1 L2 hl
  rw [L1] at hc1 ⊢
  rw [L2] at hc2 ⊢
  have HV1 : Hid (ValsAt w ad1 vs1) := hV1
  have HV2 : Hid (ValsAt w ad2 vs2) := hV2
  have HB1 : Hid (BsV w vs1 bss) := hB1
  have HB2 : Hid (BsV w vs2 bss) := hB2
  clear hV1 hV2 hB1 hB2 L1 L2
  go_enter Try.func16, Try.ntmps16
  go_wp2_with fail
  go_loopw [5] (fun i wr => ∃ k : Nat, k ≤ n ∧ i = .int .i64 k ∧ Moves [] w wr) (fun i _ => n - (intOf i).toNat)
  case atStart => exact ⟨0, Nat.zero_le _, rfl, Moves.refl _ _⟩
  case round =>
    obtain ⟨k, hk, rfl, mr⟩ := hrel
    obtain ⟨wo, hwo⟩ : ∃ wo, wo = wr := ⟨_, rfl⟩
    subst hwo
    by_cases hlt : k < n
    · obtain ⟨bs, hbs⟩ : ∃ bs, bss[k]? = some bs := ⟨_, List.getElem?_eq_getElem (by have := Hn.out; omega)⟩
      obtain ⟨x1, hx1, ⟨gb1, hxB1⟩, ho⟩ := HB1.out.get hbs
      obtain ⟨x2, hx2, ⟨gb2, hxB2⟩, _⟩ := HB2.out.get hbs
      obtain ⟨g1, off1, rfl, hcell1⟩ := HV1.out k x1 hx1
      obtain ⟨g2, off2, rfl, hcell2⟩ := HV2.out k x2 hx2
      have c1 := mr.cell hcell1
      have c2 := mr.cell hcell2
      obtain ⟨z, hz⟩ : ∃ z, strOf bs = z := ⟨_, rfl⟩
      have r1 := run_str (hxB1.moves (mr.drew) (by simp)) ho
      have r2 := run_str (hxB2.moves (mr.drew) (by simp)) ho
      rw [hz] at r1 r2
      obtain ⟨a1, l1, p1, rfl, -⟩ := id hxB1
      obtain ⟨a2, l2, p2, rfl, -⟩ := id hxB2
      clear hbs hx1 hx2 hxB1 hxB2 hcell1 hcell2 hz ho
      go_wp2_with fail
      refine wp_region_noPanic ?_
      refine wp_region_held_drew (S := (fun w' => Moves [] w w' ∧ w'.cell? ⟨g1, off1 + k, none⟩ = some (.slice a1 l1 p1) ∧ w'.cell? ⟨g2, off2 + k, none⟩ = some (.slice a2 l2 p2) ∧ (convert 30 9 (.slice a1 l1 p1)).run Try.prog w' = .ok (.string z) w' ∧ (convert 30 9 (.slice a2 l2 p2)).run Try.prog w' = .ok (.string z) w')) (by kernel_rfl) ?_ (fun hHeld => ?_)
      · first | (go_keep; done) | exact ⟨mr.drew, c1, c2, r1, r2⟩
      refine wpAnyH_take (i := 0) (oi := { dst := some 17, op := Op.move (Operand.tmp 0), type := 26, pos := "same.go:155", after := #[], guard := none }) (v := ?_) rfl (by kernel_rfl) (by kernel_rfl) (by kernel_rfl) (fun _ _ _ h => h) (Or.inl ⟨by rfl, ?_⟩) (by assumption) ?_
      rotate_left
      · (intro w hSw; (try dsimp only at hSw); go_simp; try (with_reducible rfl))
      try simp only [Act.put, List.setIfInBounds_toArray, List.set_cons_zero, List.set_cons_succ]
      refine wpAnyH_take (i := 1) (oi := { dst := some 18, op := Op.move (Operand.tmp 5), type := 3, pos := "same.go:155", after := #[], guard := none }) (v := ?_) rfl (by kernel_rfl) (by kernel_rfl) (by kernel_rfl) (fun _ _ _ h => h) (Or.inl ⟨by rfl, ?_⟩) (by assumption) ?_
      rotate_left
      · (intro w hSw; (try dsimp only at hSw); go_simp; try (with_reducible rfl))
      try simp only [Act.put, List.setIfInBounds_toArray, List.set_cons_zero, List.set_cons_succ]
      refine wpAnyH_take (i := 2) (oi := { dst := some 19, op := Op.indexAddr 26 (Operand.tmp 17) (Operand.tmp 18), type := 0, pos := "same.go:155", after := #[{ on := 0, ground := Ground.data }, { on := 1, ground := Ground.data }], guard := none }) (v := ?_) rfl (by kernel_rfl) (by kernel_rfl) (by kernel_rfl) (fun _ _ _ h => h) (Or.inl ⟨by rfl, ?_⟩) (by assumption) ?_
      rotate_left
      · (intro w hSw; (try dsimp only at hSw); go_simp; try (with_reducible rfl))
      try simp only [Act.put, List.setIfInBounds_toArray, List.set_cons_zero, List.set_cons_succ]
      refine wpAnyH_take (i := 3) (oi := { dst := some 20, op := Op.load 30 (Operand.tmp 19), type := 30, pos := "same.go:155", after := #[{ on := 2, ground := Ground.data }], guard := none }) (v := ?_) rfl (by kernel_rfl) (by kernel_rfl) (by kernel_rfl) (fun _ _ _ h => h) (Or.inl ⟨by rfl, ?_⟩) (by assumption) ?_
      rotate_left
      · (intro w hSw; (try dsimp only at hSw); go_simp; try (with_reducible rfl))
      try simp only [Act.put, List.setIfInBounds_toArray, List.set_cons_zero, List.set_cons_succ]
      refine wpAnyH_take (i := 4) (oi := { dst := some 21, op := Op.convert 30 9 (Operand.tmp 20), type := 9, pos := "same.go:155", after := #[{ on := 3, ground := Ground.data }], guard := none }) (v := ?_) rfl (by kernel_rfl) (by kernel_rfl) (by kernel_rfl) (fun _ _ _ h => h) (Or.inl ⟨by rfl, ?_⟩) (by assumption) ?_
      rotate_left
      · (intro w hSw; (try dsimp only at hSw); go_simp; try (with_reducible rfl))
      try simp only [Act.put, List.setIfInBounds_toArray, List.set_cons_zero, List.set_cons_succ]
      refine wpAnyH_take (i := 5) (oi := { dst := some 22, op := Op.move (Operand.tmp 1), type := 26, pos := "same.go:155", after := #[], guard := none }) (v := ?_) rfl (by kernel_rfl) (by kernel_rfl) (by kernel_rfl) (fun _ _ _ h => h) (Or.inl ⟨by rfl, ?_⟩) (by assumption) ?_
      rotate_left
      · (intro w hSw; (try dsimp only at hSw); go_simp; try (with_reducible rfl))
      try simp only [Act.put, List.setIfInBounds_toArray, List.set_cons_zero, List.set_cons_succ]
      refine wpAnyH_take (i := 6) (oi := { dst := some 23, op := Op.move (Operand.tmp 5), type := 3, pos := "same.go:155", after := #[], guard := none }) (v := ?_) rfl (by kernel_rfl) (by kernel_rfl) (by kernel_rfl) (fun _ _ _ h => h) (Or.inl ⟨by rfl, ?_⟩) (by assumption) ?_
      rotate_left
      · (intro w hSw; (try dsimp only at hSw); go_simp; try (with_reducible rfl))
      try simp only [Act.put, List.setIfInBounds_toArray, List.set_cons_zero, List.set_cons_succ]
      refine wpAnyH_take (i := 7) (oi := { dst := some 24, op := Op.indexAddr 26 (Operand.tmp 22) (Operand.tmp 23), type := 0, pos := "same.go:155", after := #[{ on := 5, ground := Ground.data }, { on := 6, ground := Ground.data }], guard := none }) (v := ?_) rfl (by kernel_rfl) (by kernel_rfl) (by kernel_rfl) (fun _ _ _ h => h) (Or.inl ⟨by rfl, ?_⟩) (by assumption) ?_
      rotate_left
      · (intro w hSw; (try dsimp only at hSw); go_simp; try (with_reducible rfl))
      try simp only [Act.put, List.setIfInBounds_toArray, List.set_cons_zero, List.set_cons_succ]
      refine wpAnyH_take (i := 8) (oi := { dst := some 25, op := Op.load 30 (Operand.tmp 24), type := 30, pos := "same.go:155", after := #[{ on := 7, ground := Ground.data }], guard := none }) (v := ?_) rfl (by kernel_rfl) (by kernel_rfl) (by kernel_rfl) (fun _ _ _ h => h) (Or.inl ⟨by rfl, ?_⟩) (by assumption) ?_
      rotate_left
      · (intro w hSw; (try dsimp only at hSw); go_simp; try (with_reducible rfl))
      try simp only [Act.put, List.setIfInBounds_toArray, List.set_cons_zero, List.set_cons_succ]
      refine wpAnyH_take (i := 9) (oi := { dst := some 26, op := Op.convert 30 9 (Operand.tmp 25), type := 9, pos := "same.go:155", after := #[{ on := 8, ground := Ground.data }], guard := none }) (v := ?_) rfl (by kernel_rfl) (by kernel_rfl) (by kernel_rfl) (fun _ _ _ h => h) (Or.inl ⟨by rfl, ?_⟩) (by assumption) ?_
      rotate_left
      · (intro w hSw; (try dsimp only at hSw); go_simp; try (with_reducible rfl))
      try simp only [Act.put, List.setIfInBounds_toArray, List.set_cons_zero, List.set_cons_succ]
      refine wpAnyH_take (i := 10) (oi := { dst := some 27, op := Op.binOp BinOp.neq 9 (Operand.tmp 21) (Operand.tmp 26) 9, type := 4, pos := "same.go:155", after := #[{ on := 4, ground := Ground.data }, { on := 9, ground := Ground.data }], guard := none }) (v := ?_) rfl (by kernel_rfl) (by kernel_rfl) (by kernel_rfl) (fun _ _ _ h => h) (Or.inl ⟨by rfl, ?_⟩) (by assumption) ?_
      rotate_left
      · (intro w hSw; (try dsimp only at hSw); go_simp; try (with_reducible rfl))
      try simp only [Act.put, List.setIfInBounds_toArray, List.set_cons_zero, List.set_cons_succ]
      refine wpAnyH_done (by kernel_rfl) ?_ _
      refine NoPanic.normal ?_
      go_wp2_with fail
      go_roundw
      case rel => exact ⟨k + 1, by omega, by go_num, mr.drew⟩
      case measure => simp [intOf]; omega
    · obtain rfl : k = n := by omega
      go_wp2_with fail
      go_ret
      exact ⟨rfl, mr⟩

/-- How many bytes these rows have together. -/
def lsum (bss : List (List Nat)) : Nat := (bss.map List.length).sum
theorem lsum_snoc {ss : List (List Nat)} {k : Nat} {s : List Nat} (h : ss[k]? = some s) : lsum (ss.take (k + 1)) = lsum (ss.take k) + s.length := by
  unfold lsum
  obtain ⟨hk, rfl⟩ := List.getElem?_eq_some_iff.1 h
  rw [List.take_succ_eq_append_getElem hk]
  simp only [List.map_append, List.sum_append, List.map_cons, List.map_nil, List.sum_cons, List.sum_nil, Nat.add_zero]
theorem lsum_le {ss : List (List Nat)} (h : ∀ s ∈ ss, s.length ≤ 1000) : ∀ k, lsum (ss.take k) ≤ k * 1000 := by
  intro k
  induction k with
  | zero => simp [lsum]
  | succ k ih =>
    by_cases hk : k < ss.length
    · have := lsum_snoc (List.getElem?_eq_getElem hk)
      have := h _ (List.getElem_mem hk)
      omega
    · have e : ss.take (k + 1) = ss.take k := by rw [List.take_of_length_le (by omega), List.take_of_length_le (by omega)]
      rw [e]
      exact Nat.le_trans ih (Nat.mul_le_mul_right _ (by omega))
theorem strOf_size (bs : List Nat) : (strOf bs).size = bs.length := by simp [strOf, ByteArray.size]
theorem zsum_strOf (bss : List (List Nat)) : zsum (bss.map strOf) = lsum bss := by
  unfold zsum lsum
  rw [List.map_map]
  congr 1
  exact List.map_congr_left fun b _ => strOf_size b

set_option maxRecDepth 100000 in
set_option maxHeartbeats 4000000 in
theorem same14_w (w : World) (p : Nat) (a : Option Nat) (mv : Value) (bss : List (List Nat)) (h : DkIs w p a (bss.map strOf)) (hL : LsB w mv bss) (hl : bss.length ≤ 1000) (hb : ∀ s ∈ bss, s.length ≤ 1000) :
    Calls Try.prog 7 #[.pointer (some ⟨p, 0, none⟩), mv] w fun e w' => e = .returned (.bool true) ∧ Moves [] w w' := by
  have hLen := dkLen_w w p a _ h
  have hBytes := dkBytes_w w p a _ h (by rw [List.length_map]; exact hl) (by
    intro s hs
    simp only [List.mem_map] at hs
    obtain ⟨b, hb', rfl⟩ := hs
    rw [strOf_size]
    exact hb b hb')
  rw [zsum_strOf] at hBytes
  rw [List.length_map] at hLen
  have hAll := dkAll_w w p a _ h (by rw [List.length_map]; exact hl)
  have hL0 := hL
  obtain ⟨ad, vs, cap, rfl, hc, hnil, hV, hB⟩ := hL
  have HL0 : Hid (LsB w (.slice ad vs.length cap) bss) := hL0
  have L := hB.length
  have HO : Hid (∀ bs ∈ bss, ∀ b ∈ bs, b < 256) := by
    intro bs hbs
    obtain ⟨k, hk⟩ := List.getElem?_of_mem hbs
    obtain ⟨_, _, _, q⟩ := hB.get hk
    exact q
  have HB : Hid (∀ k, lsum (bss.take k) ≤ k * 1000) := lsum_le hb
  have HB1 : Hid (∀ s ∈ bss, s.length ≤ 1000) := hb
  have HF : Hid (lsum (bss.take bss.length) = lsum bss) := by unfold Hid; rw [List.take_length]
  have HM : Hid (lsum bss ≤ bss.length * 1000) := by unfold Hid; rw [← HF.out]; exact HB.out _
  obtain ⟨n, Hn⟩ : ∃ n, Hid (bss.length = n) := ⟨_, rfl⟩
  rw [Hn.out] at L hl hLen HF HM
  rw [L] at hc HL0 ⊢
  have HV : Hid (ValsAt w ad vs) := hV
  have HBs : Hid (BsV w vs bss) := hB
  obtain ⟨m, Hm⟩ : ∃ m, Hid (lsum bss = m) := ⟨_, rfl⟩
  rw [Hm.out] at hBytes HF HM
  clear hV hB L hb hL0 h
  go_enter Try.func7, Try.ntmps7
  go_wp2_with fail
  go_loop [5, 6] (fun q i => ∃ k : Nat, k ≤ n ∧ i = .int .i64 k ∧ q = .int .i64 ((lsum (bss.take k) : Nat) : Int)) (fun _ i => n - (intOf i).toNat)
  case atStart => exact ⟨0, Nat.zero_le _, rfl, rfl⟩
  case round =>
    obtain ⟨k, hk, rfl, rfl⟩ := hrel
    by_cases hlt : k < n
    · obtain ⟨bs, hbs⟩ : ∃ bs, bss[k]? = some bs := ⟨_, List.getElem?_eq_getElem (by have := Hn.out; omega)⟩
      obtain ⟨x, hx, ⟨gb, hxB⟩, -⟩ := HBs.out.get hbs
      obtain ⟨g, off, rfl, hcell⟩ := HV.out k x hx
      obtain ⟨ax, nx, cx, rfl, hxn, -⟩ := id hxB
      have HZ : Hid (lsum (bss.take (k + 1)) = lsum (bss.take k) + nx) := by rw [← hxn]; exact lsum_snoc hbs
      have hz1 := HB.out k
      have hz2 : nx ≤ 1000 := by rw [← hxn]; exact HB1.out bs (List.mem_of_getElem? hbs)
      clear hbs hx hxB hxn
      generalize lsum (bss.take k) = q at *
      have hq : q ≤ 1000000 := by omega
      clear hz1 hLen hBytes hAll
      go_wp2_with fail
      go_round
      case rel => exact ⟨k + 1, by omega, by go_num, by rw [HZ.out]; go_num⟩
      case measure => simp [intOf]; omega
    · obtain rfl : k = n := by omega
      rw [HF.out]
      have hm1 : m ≤ 1000000 := by have := HM.out; omega
      go_wp2_with fail
      refine hLen.mono ?_
      rintro _ w1 ⟨rfl, rfl⟩
      go_wp2_with fail
      refine hBytes.mono ?_
      rintro _ w2 ⟨rfl, rfl⟩
      go_wp2_with fail
      refine hAll.mono ?_
      rintro _ w3 ⟨v3, vs3, rfl, hO3, hA3, m3, -⟩
      have hBs3 : BsV w3 vs3 bss := by
        have e : (bss.map strOf).map zbs = bss := by
          rw [List.map_map]
          conv => rhs; rw [← List.map_id bss]
          exact List.map_congr_left fun bs hbs => zbs_strOf (HO.out bs hbs)
        rw [e] at hA3
        refine All2.mono ?_ hA3
        intro x bs ⟨q, _⟩
        refine ⟨q.isB, ?_⟩
        intro b hb
        obtain ⟨_, _, _, _, _, _, _, _, q5⟩ := q
        obtain ⟨j, hj⟩ := List.getElem?_of_mem hb
        exact (q5 j b hj).1
      have hLi := lists_w w3 _ _ bss (LsB.ofOwn hO3 hBs3) (HL0.out.moves m3) (by rw [Hn.out]; exact hl)
      have HO3 : Hid (OwnBB w3 v3 vs3) := hO3
      obtain ⟨ad3, cap3, rfl, -⟩ := hO3.at
      clear hO3 hA3 hBs3
      generalize vs3.length = n3 at *
      go_wp2_with fail
      refine hLi.mono ?_
      rintro _ w4 ⟨rfl, m4⟩
      go_wp2_with fail
      go_ret
      exact ⟨rfl, m3.then m4⟩
end Go.Proofs.Ytedehhnhmkeglaa
