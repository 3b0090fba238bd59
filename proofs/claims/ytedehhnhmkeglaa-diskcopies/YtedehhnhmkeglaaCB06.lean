/-
  Dk3, Dk4: our texts of these names, laid into one.
-/
import Derived.Test.YtedehhnhmkeglaaCDk2
import Derived.Test.YtedehhnhmkeglaaRows
import Derived.ProofKit
import Derived.OpenShut
import Derived.ChangeOld
/-
  keep's Lists and law14's same of the same records; law14's known.
-/
namespace Go.Proofs.Ytedehhnhmkeglaa
open Go.RowKit

set_option maxRecDepth 100000 in
set_option maxHeartbeats 4000000 in
theorem lists_w (w : World) (v1 v2 : Value) (bss : List (List Nat)) (h1 : LsB w v1 bss) (h2 : LsB w v2 bss) (hl : bss.length ≤ 1000) :
    Calls Try.prog 16 #[v1, v2] w fun e w' => e = .returned (.bool true) ∧ Moves [] w w' := by
  obtain ⟨ad1, vs1, cap1, rfl, hc1, hnil1, hV1, hB1⟩ := h1
  obtain ⟨ad2, vs2, cap2, rfl, hc2, hnil2, hV2, hB2⟩ := h2
  have L1 := hB1.length
  have L2 := hB2.length
  obtain ⟨n, Hn⟩ : ∃ n, Hid (bss.length = n) := ⟨_, rfl⟩
  rw [Hn.out] at L1 L2 hl
  rw [L1] at hc1 ⊢
  rw [L2] at hc2 ⊢
  have HV1 : Hid (ValsAt w ad1 vs1) := hV1
  have HV2 : Hid (ValsAt w ad2 vs2) := hV2
  have HB1 : Hid (BsV w vs1 bss) := hB1
  have HB2 : Hid (BsV w vs2 bss) := hB2
  clear hV1 hV2 hB1 hB2 L1 L2
  go_enter Try.func16, Try.ntmps16
  go_wp2_with fail
  go_loopw [5] (fun i wr => ∃ k : Nat, k ≤ n ∧ i = .int .i64 k ∧ Moves [] w wr) (fun i _ => n - (intOf i).toNat)
  case atStart => exact ⟨0, Nat.zero_le _, rfl, Moves.refl _ _⟩
  case round =>
    obtain ⟨k, hk, rfl, mr⟩ := hrel
    obtain ⟨wo, hwo⟩ : ∃ wo, wo = wr := ⟨_, rfl⟩
    subst hwo
    by_cases hlt : k < n
    · obtain ⟨bs, hbs⟩ : ∃ bs, bss[k]? = some bs := ⟨_, List.getElem?_eq_getElem (by have := Hn.out; omega)⟩
      obtain ⟨x1, hx1, ⟨gb1, hxB1⟩, ho⟩ := HB1.out.get hbs
      obtain ⟨x2, hx2, ⟨gb2, hxB2⟩, _⟩ := HB2.out.get hbs
      obtain ⟨g1, off1, rfl, hcell1⟩ := HV1.out k x1 hx1
      obtain ⟨g2, off2, rfl, hcell2⟩ := HV2.out k x2 hx2
      have c1 := mr.cell hcell1
      have c2 := mr.cell hcell2
      obtain ⟨z, hz⟩ : ∃ z, strOf bs = z := ⟨_, rfl⟩
      have r1 := run_str (hxB1.moves (mr.drew) (by simp)) ho
      have r2 := run_str (hxB2.moves (mr.drew) (by simp)) ho
      rw [hz] at r1 r2
      obtain ⟨a1, l1, p1, rfl, -⟩ := id hxB1
      obtain ⟨a2, l2, p2, rfl, -⟩ := id hxB2
      clear hbs hx1 hx2 hxB1 hxB2 hcell1 hcell2 hz ho
      go_wp2_with fail
      refine wp_region_noPanic ?_
      refine wp_region_held_drew (S := (fun w' => Moves [] w w' ∧ w'.cell? ⟨g1, off1 + k, none⟩ = some (.slice a1 l1 p1) ∧ w'.cell? ⟨g2, off2 + k, none⟩ = some (.slice a2 l2 p2) ∧ (convert 30 9 (.slice a1 l1 p1)).run Try.prog w' = .ok (.string z) w' ∧ (convert 30 9 (.slice a2 l2 p2)).run Try.prog w' = .ok (.string z) w')) (by kernel_rfl) ?_ (fun hHeld => ?_)
      · first | (go_keep; done) | exact ⟨mr.drew, c1, c2, r1, r2⟩
      refine wpAnyH_take (i := 0) (oi := { dst := some 17, op := Op.move (Operand.tmp 0), type := 26, pos := "same.go:155", after := #[], guard := none }) (v := ?_) rfl (by kernel_rfl) (by kernel_rfl) (by kernel_rfl) (fun _ _ _ h => h) (Or.inl ⟨by rfl, ?_⟩) (by assumption) ?_
      rotate_left
      · (intro w hSw; (try dsimp only at hSw); go_simp; try (with_reducible rfl))
      try simp only [Act.put, List.setIfInBounds_toArray, List.set_cons_zero, List.set_cons_succ]
      refine wpAnyH_take (i := 1) (oi := { dst := some 18, op := Op.move (Operand.tmp 5), type := 3, pos := "same.go:155", after := #[], guard := none }) (v := ?_) rfl (by kernel_rfl) (by kernel_rfl) (by kernel_rfl) (fun _ _ _ h => h) (Or.inl ⟨by rfl, ?_⟩) (by assumption) ?_
      rotate_left
      · (intro w hSw; (try dsimp only at hSw); go_simp; try (with_reducible rfl))
      try simp only [Act.put, List.setIfInBounds_toArray, List.set_cons_zero, List.set_cons_succ]
      refine wpAnyH_take (i := 2) (oi := { dst := some 19, op := Op.indexAddr 26 (Operand.tmp 17) (Operand.tmp 18), type := 0, pos := "same.go:155", after := #[{ on := 0, ground := Ground.data }, { on := 1, ground := Ground.data }], guard := none }) (v := ?_) rfl (by kernel_rfl) (by kernel_rfl) (by kernel_rfl) (fun _ _ _ h => h) (Or.inl ⟨by rfl, ?_⟩) (by assumption) ?_
      rotate_left
      · (intro w hSw; (try dsimp only at hSw); go_simp; try (with_reducible rfl))
      try simp only [Act.put, List.setIfInBounds_toArray, List.set_cons_zero, List.set_cons_succ]
      refine wpAnyH_take (i := 3) (oi := { dst := some 20, op := Op.load 30 (Operand.tmp 19), type := 30, pos := "same.go:155", after := #[{ on := 2, ground := Ground.data }], guard := none }) (v := ?_) rfl (by kernel_rfl) (by kernel_rfl) (by kernel_rfl) (fun _ _ _ h => h) (Or.inl ⟨by rfl, ?_⟩) (by assumption) ?_
      rotate_left
      · (intro w hSw; (try dsimp only at hSw); go_simp; try (with_reducible rfl))
      try simp only [Act.put, List.setIfInBounds_toArray, List.set_cons_zero, List.set_cons_succ]
      refine wpAnyH_take (i := 4) (oi := { dst := some 21, op := Op.convert 30 9 (Operand.tmp 20), type := 9, pos := "same.go:155", after := #[{ on := 3, ground := Ground.data }], guard := none }) (v := ?_) rfl (by kernel_rfl) (by kernel_rfl) (by kernel_rfl) (fun _ _ _ h => h) (Or.inl ⟨by rfl, ?_⟩) (by assumption) ?_
      rotate_left
      · (intro w hSw; (try dsimp only at hSw); go_simp; try (with_reducible rfl))
      try simp only [Act.put, List.setIfInBounds_toArray, List.set_cons_zero, List.set_cons_succ]
      refine wpAnyH_take (i := 5) (oi := { dst := some 22, op := Op.move (Operand.tmp 1), type := 26, pos := "same.go:155", after := #[], guard := none }) (v := ?_) rfl (by kernel_rfl) (by kernel_rfl) (by kernel_rfl) (fun _ _ _ h => h) (Or.inl ⟨by rfl, ?_⟩) (by assumption) ?_
      rotate_left
      · (intro w hSw; (try dsimp only at hSw); go_simp; try (with_reducible rfl))
      try simp only [Act.put, List.setIfInBounds_toArray, List.set_cons_zero, List.set_cons_succ]
      refine wpAnyH_take (i := 6) (oi := { dst := some 23, op := Op.move (Operand.tmp 5), type := 3, pos := "same.go:155", after := #[], guard := none }) (v := ?_) rfl (by kernel_rfl) (by kernel_rfl) (by kernel_rfl) (fun _ _ _ h => h) (Or.inl ⟨by rfl, ?_⟩) (by assumption) ?_
      rotate_left
      · (intro w hSw; (try dsimp only at hSw); go_simp; try (with_reducible rfl))
      try simp only [Act.put, List.setIfInBounds_toArray, List.set_cons_zero, List.set_cons_succ]
      refine wpAnyH_take (i := 7) (oi := { dst := some 24, op := Op.indexAddr 26 (Operand.tmp 22) (Operand.tmp 23), type := 0, pos := "same.go:155", after := #[{ on := 5, ground := Ground.data }, { on := 6, ground := Ground.data }], guard := none }) (v := ?_) rfl (by kernel_rfl) (by kernel_rfl) (by kernel_rfl) (fun _ _ _ h => h) (Or.inl ⟨by rfl, ?_⟩) (by assumption) ?_
      rotate_left
      · (intro w hSw; (try dsimp only at hSw); go_simp; try (with_reducible rfl))
      try simp only [Act.put, List.setIfInBounds_toArray, List.set_cons_zero, List.set_cons_succ]
      refine wpAnyH_take (i := 8) (oi := { dst := some 25, op := Op.load 30 (Operand.tmp 24), type := 30, pos := "same.go:155", after := #[{ on := 7, ground := Ground.data }], guard := none }) (v := ?_) rfl (by kernel_rfl) (by kernel_rfl) (by kernel_rfl) (fun _ _ _ h => h) (Or.inl ⟨by rfl, ?_⟩) (by assumption) ?_
      rotate_left
      · (intro w hSw; (try dsimp only at hSw); go_simp; try (with_reducible rfl))
      try simp only [Act.put, List.setIfInBounds_toArray, List.set_cons_zero, List.set_cons_succ]
      refine wpAnyH_take (i := 9) (oi := { dst := some 26, op := Op.convert 30 9 (Operand.tmp 25), type := 9, pos := "same.go:155", after := #[{ on := 8, ground := Ground.data }], guard := none }) (v := ?_) rfl (by kernel_rfl) (by kernel_rfl) (by kernel_rfl) (fun _ _ _ h => h) (Or.inl ⟨by rfl, ?_⟩) (by assumption) ?_
      rotate_left
      · (intro w hSw; (try dsimp only at hSw); go_simp; try (with_reducible rfl))
      try simp only [Act.put, List.setIfInBounds_toArray, List.set_cons_zero, List.set_cons_succ]
      refine wpAnyH_take (i := 10) (oi := { dst := some 27, op := Op.binOp BinOp.neq 9 (Operand.tmp 21) (Operand.tmp 26) 9, type := 4, pos := "same.go:155", after := #[{ on := 4, ground := Ground.data }, { on := 9, ground := Ground.data }], guard := none }) (v := ?_) rfl (by kernel_rfl) (by kernel_rfl) (by kernel_rfl) (fun _ _ _ h => h) (Or.inl ⟨by rfl, ?_⟩) (by assumption) ?_
      rotate_left
      · (intro w hSw; (try dsimp only at hSw); go_simp; try (with_reducible rfl))
      try simp only [Act.put, List.setIfInBounds_toArray, List.set_cons_zero, List.set_cons_succ]
      refine wpAnyH_done (by kernel_rfl) ?_ _
      refine NoPanic.normal ?_
      go_wp2_with fail
      go_roundw
      case rel => exact ⟨k + 1, by omega, by go_num, mr.drew⟩
      case measure => simp [intOf]; omega
    · obtain rfl : k = n := by omega
      go_wp2_with fail
      go_ret
      exact ⟨rfl, mr⟩

/-- How many bytes these rows have together. -/
def lsum (bss : List (List Nat)) : Nat := (bss.map List.length).sum
theorem lsum_snoc {ss : List (List Nat)} {k : Nat} {s : List Nat} (h : ss[k]? = some s) : lsum (ss.take (k + 1)) = lsum (ss.take k) + s.length := by
  unfold lsum
  obtain ⟨hk, rfl⟩ := List.getElem?_eq_some_iff.1 h
  rw [List.take_succ_eq_append_getElem hk]
  simp only [List.map_append, List.sum_append, List.map_cons, List.map_nil, List.sum_cons, List.sum_nil, Nat.add_zero]
theorem lsum_le {ss : List (List Nat)} (h : ∀ s ∈ ss, s.length ≤ 1000) : ∀ k, lsum (ss.take k) ≤ k * 1000 := by
  intro k
  induction k with
  | zero => simp [lsum]
  | succ k ih =>
    by_cases hk : k < ss.length
    · have := lsum_snoc (List.getElem?_eq_getElem hk)
      have := h _ (List.getElem_mem hk)
      omega
    · have e : ss.take (k + 1) = ss.take k := by rw [List.take_of_length_le (by omega), List.take_of_length_le (by omega)]
      rw [e]
      exact Nat.le_trans ih (Nat.mul_le_mul_right _ (by omega))
theorem strOf_size (bs : List Nat) : (strOf bs).size = bs.length := by simp [strOf, ByteArray.size]
theorem zsum_strOf (bss : List (List Nat)) : zsum (bss.map strOf) = lsum bss := by
  unfold zsum lsum
  rw [List.map_map]
  congr 1
  exact List.map_congr_left fun b _ => strOf_size b

set_option maxRecDepth 100000 in
set_option maxHeartbeats 4000000 in
theorem same14_w (w : World) (p : Nat) (a : Option Nat) (mv : Value) (bss : List (List Nat)) (h : DkIs w p a (bss.map strOf)) (hL : LsB w mv bss) (hl : bss.length ≤ 1000) (hb : ∀ s ∈ bss, s.length ≤ 1000) :
    Calls Try.prog 7 #[.pointer (some ⟨p, 0, none⟩), mv] w fun e w' => e = .returned (.bool true) ∧ Moves [] w w' := by
  have hLen := dkLen_w w p a _ h
  have hBytes := dkBytes_w w p a _ h (by rw [List.length_map]; exact hl) (by
    intro s hs
    simp only [List.mem_map] at hs
    obtain ⟨b, hb', rfl⟩ := hs
    rw [strOf_size]
    exact hb b hb')
  rw [zsum_strOf] at hBytes
  rw [List.length_map] at hLen
  have hAll := dkAll_w w p a _ h (by rw [List.length_map]; exact hl)
  have hL0 := hL
  obtain ⟨ad, vs, cap, rfl, hc, hnil, hV, hB⟩ := hL
  have HL0 : Hid (LsB w (.slice ad vs.length cap) bss) := hL0
  have L := hB.length
  have HO : Hid (∀ bs ∈ bss, ∀ b ∈ bs, b < 256) := by
    intro bs hbs
    obtain ⟨k, hk⟩ := List.getElem?_of_mem hbs
    obtain ⟨_, _, _, q⟩ := hB.get hk
    exact q
  have HB : Hid (∀ k, lsum (bss.take k) ≤ k * 1000) := lsum_le hb
  have HB1 : Hid (∀ s ∈ bss, s.length ≤ 1000) := hb
  have HF : Hid (lsum (bss.take bss.length) = lsum bss) := by unfold Hid; rw [List.take_length]
  have HM : Hid (lsum bss ≤ bss.length * 1000) := by unfold Hid; rw [← HF.out]; exact HB.out _
  obtain ⟨n, Hn⟩ : ∃ n, Hid (bss.length = n) := ⟨_, rfl⟩
  rw [Hn.out] at L hl hLen HF HM
  rw [L] at hc HL0 ⊢
  have HV : Hid (ValsAt w ad vs) := hV
  have HBs : Hid (BsV w vs bss) := hB
  obtain ⟨m, Hm⟩ : ∃ m, Hid (lsum bss = m) := ⟨_, rfl⟩
  rw [Hm.out] at hBytes HF HM
  clear hV hB L hb hL0 h
  go_enter Try.func7, Try.ntmps7
  go_wp2_with fail
  go_loop [5, 6] (fun q i => ∃ k : Nat, k ≤ n ∧ i = .int .i64 k ∧ q = .int .i64 ((lsum (bss.take k) : Nat) : Int)) (fun _ i => n - (intOf i).toNat)
  case atStart => exact ⟨0, Nat.zero_le _, rfl, rfl⟩
  case round =>
    obtain ⟨k, hk, rfl, rfl⟩ := hrel
    by_cases hlt : k < n
    · obtain ⟨bs, hbs⟩ : ∃ bs, bss[k]? = some bs := ⟨_, List.getElem?_eq_getElem (by have := Hn.out; omega)⟩
      obtain ⟨x, hx, ⟨gb, hxB⟩, -⟩ := HBs.out.get hbs
      obtain ⟨g, off, rfl, hcell⟩ := HV.out k x hx
      obtain ⟨ax, nx, cx, rfl, hxn, -⟩ := id hxB
      have HZ : Hid (lsum (bss.take (k + 1)) = lsum (bss.take k) + nx) := by rw [← hxn]; exact lsum_snoc hbs
      have hz1 := HB.out k
      have hz2 : nx ≤ 1000 := by rw [← hxn]; exact HB1.out bs (List.mem_of_getElem? hbs)
      clear hbs hx hxB hxn
      generalize lsum (bss.take k) = q at *
      have hq : q ≤ 1000000 := by omega
      clear hz1 hLen hBytes hAll
      go_wp2_with fail
      go_round
      case rel => exact ⟨k + 1, by omega, by go_num, by rw [HZ.out]; go_num⟩
      case measure => simp [intOf]; omega
    · obtain rfl : k = n := by omega
      rw [HF.out]
      have hm1 : m ≤ 1000000 := by have := HM.out; omega
      go_wp2_with fail
      refine hLen.mono ?_
      rintro _ w1 ⟨rfl, rfl⟩
      go_wp2_with fail
      refine hBytes.mono ?_
      rintro _ w2 ⟨rfl, rfl⟩
      go_wp2_with fail
      refine hAll.mono ?_
      rintro _ w3 ⟨v3, vs3, rfl, hO3, hA3, m3, -⟩
      have hBs3 : BsV w3 vs3 bss := by
        have e : (bss.map strOf).map zbs = bss := by
          rw [List.map_map]
          conv => rhs; rw [← List.map_id bss]
          exact List.map_congr_left fun bs hbs => zbs_strOf (HO.out bs hbs)
        rw [e] at hA3
        refine All2.mono ?_ hA3
        intro x bs ⟨q, _⟩
        refine ⟨q.isB, ?_⟩
        intro b hb
        obtain ⟨_, _, _, _, _, _, _, _, q5⟩ := q
        obtain ⟨j, hj⟩ := List.getElem?_of_mem hb
        exact (q5 j b hj).1
      have hLi := lists_w w3 _ _ bss (LsB.ofOwn hO3 hBs3) (HL0.out.moves m3) (by rw [Hn.out]; exact hl)
      have HO3 : Hid (OwnBB w3 v3 vs3) := hO3
      obtain ⟨ad3, cap3, rfl, -⟩ := hO3.at
      clear hO3 hA3 hBs3
      generalize vs3.length = n3 at *
      go_wp2_with fail
      refine hLi.mono ?_
      rintro _ w4 ⟨rfl, m4⟩
      go_wp2_with fail
      go_ret
      exact ⟨rfl, m3.then m4⟩
end Go.Proofs.Ytedehhnhmkeglaa
/-
  law14's known; the walk of DiskNumbers.
-/
namespace Go.Proofs.Ytedehhnhmkeglaa
open Go.RowKit

/-- []byte("..") of bytes that were just laid. -/
theorem conv_new (w : World) (c : List Nat) : ∃ w', (convert 30 30 (.slice (some ⟨w.heap.size, 0, none⟩) c.length c.length)).run Try.prog (w.alloc (.cells (c.map fun (b : Nat) => Value.int .u8 (b : Int)).toArray 5)) = .ok (.slice (some ⟨w.heap.size, 0, none⟩) c.length c.length) w' ∧ IsB w' w.heap.size (.slice (some ⟨w.heap.size, 0, none⟩) c.length c.length) c ∧ Moves [] w w' := by
  obtain ⟨w', h1, h2, h3, _⟩ := conv_exact (W := w) (w := w.alloc (.cells (c.map fun (b : Nat) => Value.int .u8 (b : Int)).toArray 5)) (c := c) (g := w.heap.size) (Nat.le_refl _) ((Moves.refl _ _).alloc _) (heap_alloc_new _ _)
  exact ⟨w', h1, h2, h3⟩

theorem conv_new1 (w : World) (b : Nat) : ∃ w', (convert 30 30 (.slice (some ⟨w.heap.size, 0, none⟩) 1 1)).run Try.prog (w.alloc (.cells #[.int .u8 (b : Int)] 5)) = .ok (.slice (some ⟨w.heap.size, 0, none⟩) 1 1) w' ∧ IsB w' w.heap.size (.slice (some ⟨w.heap.size, 0, none⟩) 1 1) [b] ∧ Moves [] w w' := conv_new w [b]

set_option maxRecDepth 100000 in
set_option maxHeartbeats 8000000 in
theorem known14_w (w : World) : Calls Try.prog 10 #[] w fun e w' => e = .returned (.bool true) ∧ Moves [] w w' := by
  go_enter Try.func10, Try.ntmps10
  go_wp2_with fail
  refine (dkNew_w _).mono ?_
  rintro _ w1 ⟨rfl, hD1, m1⟩
  obtain ⟨p, hp⟩ : ∃ p, w.heap.size = p := ⟨_, rfl⟩
  rw [hp] at hD1 ⊢
  obtain ⟨w2, hrun2, hB2, m2⟩ := conv_new1 w1 97
  have hrun2 : (convert 30 30 (.slice (some ⟨w1.heap.size, 0, none⟩) 1 1)).run Try.prog (w1.alloc (.cells #[.int .u8 97] 5)) = .ok (.slice (some ⟨w1.heap.size, 0, none⟩) 1 1) w2 := hrun2
  have hD2 := hD1.moves m2 (by simp)
  go_wp2_with fail
  refine (dkAppend_w w2 p none [] _ _ [97] hD2 hB2 (by simp) (by simp)).mono ?_
  rintro _ w3 ⟨rfl, a3, hTo3⟩
  have hf2 : ∀ k ∈ p :: (none : Option Nat).toList, w.heap.size ≤ k := fun k hk => by simp at hk; omega
  obtain ⟨M3, hf3⟩ := hTo3.fresh (m1.then m2) hf2
  obtain ⟨w4, hrun4, hB4, m4⟩ := conv_new1 w3 98
  have hrun4 : (convert 30 30 (.slice (some ⟨w3.heap.size, 0, none⟩) 1 1)).run Try.prog (w3.alloc (.cells #[.int .u8 98] 5)) = .ok (.slice (some ⟨w3.heap.size, 0, none⟩) 1 1) w4 := hrun4
  obtain ⟨w5, hrun5, hB5, m5⟩ := conv_new1 w4 99
  have hrun5 : (convert 30 30 (.slice (some ⟨w4.heap.size, 0, none⟩) 1 1)).run Try.prog (w4.alloc (.cells #[.int .u8 99] 5)) = .ok (.slice (some ⟨w4.heap.size, 0, none⟩) 1 1) w5 := hrun5
  have hlt3 := hTo3.1.lt
  have s4 := m4.size
  have s5 := m5.size
  obtain ⟨w6, hw6⟩ : ∃ w6, w5.alloc (.cells #[.slice (some ⟨w3.heap.size, 0, none⟩) 1 1, .slice (some ⟨w4.heap.size, 0, none⟩) 1 1] 30) = w6 := ⟨_, rfl⟩
  have m6 : Moves [] w5 w6 := by rw [← hw6]; exact (Moves.refl _ _).alloc _
  have hb6 := heap_alloc_new w5 (.cells #[.slice (some ⟨w3.heap.size, 0, none⟩) 1 1, .slice (some ⟨w4.heap.size, 0, none⟩) 1 1] 30)
  rw [hw6] at hb6
  have hL6 : LsB w6 (.slice (some ⟨w5.heap.size, 0, none⟩) 2 2) [[98], [99]] := by
    refine ⟨_, [.slice (some ⟨w3.heap.size, 0, none⟩) 1 1, .slice (some ⟨w4.heap.size, 0, none⟩) 1 1], _, rfl, Nat.le_refl _, fun h => by simp at h, ?_, ?_⟩
    · intro k x hx
      refine ⟨_, 0, rfl, ?_⟩
      simp only [World.cell?, hb6, Nat.zero_add]
      simpa using hx
    · exact ⟨⟨⟨_, hB4.moves (m5.then m6) (by simp)⟩, by simp⟩, ⟨⟨_, hB5.moves m6 (by simp)⟩, by simp⟩, trivial⟩
  have hD6 := hTo3.1.moves ((m4.then m5).then m6) (by simp)
  have hR := dkReplace_w w6 p a3 _ _ [[98], [99]] hD6 hL6 (fun ad n cap g off e1 e2 => by
    simp at e1
    rw [← e1.1] at e2
    simp at e2
    have := hlt3 p (by simp)
    omega) (by simp)
  clear hD6 hL6 hb6 hB5 hB4 hB2 hD2 hD1
  go_wp2_with fail
  refine hR.mono ?_
  rintro _ w7 ⟨rfl, a7, hD7, m7, -⟩
  have M7 : Moves [] w w7 := (M3.then (((m4.then m5).then m6))).trans m7 (fun x hx => .inr (by simp at hx; subst hx; exact hf3 _ (by simp)))
  have hLen := dkLen_w w7 p a7 _ hD7
  have hBy := dkBytes_w w7 p a7 _ hD7 (by simp) (by
    intro s hs
    simp only [List.mem_map] at hs
    obtain ⟨b, hb, rfl⟩ := hs
    rw [strOf_size]
    simp at hb
    rcases hb with rfl | rfl <;> simp)
  rw [zsum_strOf] at hBy
  have hLen : Calls Try.prog 14 #[.pointer (some ⟨p, 0, none⟩)] w7 fun e w' => e = .returned (.int .i64 2) ∧ w7 = w' := hLen
  have hBy : Calls Try.prog 15 #[.pointer (some ⟨p, 0, none⟩)] w7 fun e w' => e = .returned (.int .i64 2) ∧ w7 = w' := hBy
  clear hD7
  go_wp2_with fail
  refine hLen.mono ?_
  rintro _ _ ⟨rfl, rfl⟩
  go_wp2_with fail
  refine hBy.mono ?_
  rintro _ _ ⟨rfl, rfl⟩
  go_wp2_with fail
  go_ret
  exact ⟨rfl, M7⟩

end Go.Proofs.Ytedehhnhmkeglaa
