/-
  ref6's Below: the rows below a name, and the others.
-/
import Derived.Test.YtcngllcifcpbkaaGreatCBaseN
import Derived.Test.YtcngllcifcpbkaaGreatCSlF
namespace Go.Proofs.YtcngllcifcpbkaaGreat
open Go.RowKit

/-- Two lists in blocks of their own. -/
def Ap (v u : Value) : Prop := ∀ b b', v.ownBlock = some b → u.ownBlock = some b' → b ≠ b'
theorem Ap.symm {v u : Value} (h : Ap v u) : Ap u v := fun b b' h1 h2 e => h b' b h2 h1 e.symm
theorem Ap.both {v u : Value} (h : Ap v u) : Ap v u ∧ Ap u v := ⟨h, h.symm⟩
theorem Ap.new {W w : World} {v : Value} {xs : List Pnam} (h : GrowN W w v xs) {z : Nat} (hz : w.heap.size = z) (n c : Nat) : Ap v (.slice (some ⟨z, 0, none⟩) n c) := fun b b' h1 h2 e => by
  obtain ⟨cur, hc⟩ := h.blk h1
  have := lt_of_block hc
  simp [Value.ownBlock] at h2
  omega
theorem Ap.lain {W w : World} {v v' u : Value} {ys : List Pnam} (D : Ap v u) (h : GrowN W w u ys) (hL : Lain w v v') : Ap v' u := fun b b' h1 h2 e => by
  rcases hL with hL | hL
  · exact D b b' (hL ▸ h1) h2 e
  · obtain ⟨cur, hc⟩ := h.blk h2
    have := lt_of_block hc
    rw [h1] at hL
    simp at hL
    omega
theorem Ap.mem {v u : Value} (D : Ap v u) : ∀ k, u.ownBlock = some k → k ∉ v.ownBlock.toList := fun k hk hm => D k k (Option.mem_toList.1 hm) hk rfl
theorem Stay.sub {T U : TypeId → Prop} {w w' : World} (h : Stay T w w') (hs : ∀ t, U t → T t) : Stay U w w' := fun g c t fz hg ht => h g c t fz hg (hs t ht)

set_option maxRecDepth 100000 in
set_option maxHeartbeats 8000000 in
theorem nbelow_w (W w : World) (mv : Value) (xs : List Pnam) (s : ByteArray) (i : Nat) (hm : NamsAt W mv xs) (hl : xs.length ≤ 1000) (m : Moves [] W w) (hi : PlaceIs xs s i) :
    Calls Tryz.prog 9 #[mv, .string s] w fun e w' => ∃ v1 v2, e = .returned (.tuple #[v1, v2]) ∧ NamsAt w' v1 (xs.take i) ∧ NamsAt w' v2 (xs.drop i) ∧ Moves [] w w' := by
  have hN := hm.moves m
  obtain ⟨ad, cap, hv, hc⟩ := hN.slice
  obtain ⟨n, HN⟩ : ∃ n, Hid (n = xs.length) := ⟨_, rfl⟩
  rw [← HN.out] at hv hc hl
  subst hv
  have hin : i ≤ n := by have := hi.le; have := HN.out; omega
  have HN1 : Hid (NamsAt w (.slice ad i cap) (xs.take i)) := hN.take i hi.le
  have HN2 : Hid (NamsAt w (.slice (if cap = i then ad else ad.map (·.add (i * 2))) (n - i) (cap - i)) (xs.drop i)) := hN.drop i hi.le
  have HLL1 : Hid (([] : List Pnam).length + (xs.take i).length ≤ 1048576) := by show _ ≤ _; simp; omega
  have HLL2 : Hid (([] : List Pnam).length + (xs.drop i).length ≤ 1048576) := by show _ ≤ _; have := HN.out; simp; omega
  have HA : Hid (NamsAt w (.slice ad n cap) xs) := hN
  have HP : Hid (PlaceIs xs s i) := hi
  have hic : (i : Int) ≤ cap := by omega
  have hin3 : (i : Int) ≤ n := by omega
  clear hm m hN hi
  go_enter Tryz.func9, Tryz.ntmps9
  go_wp2_with fail
  go_loopw [6] (fun vk wr => ∃ k : Nat, k ≤ i ∧ vk = .int .i64 (k : Nat) ∧ Moves [] w wr) (fun vk _ => i - (intOf vk).toNat)
  case atStart => exact ⟨0, Nat.zero_le _, rfl, Moves.refl _ _⟩
  case round =>
    obtain ⟨k, hk, rfl, mr⟩ := hrel
    replace HA : Hid (NamsAt wr (.slice ad n cap) xs) := HA.out.moves mr
    replace HN1 : Hid (NamsAt wr (.slice ad i cap) (xs.take i)) := HN1.out.moves mr
    replace HN2 : Hid (NamsAt wr (.slice (if cap = i then ad else ad.map (·.add (i * 2))) (n - i) (cap - i)) (xs.drop i)) := HN2.out.moves mr
    by_cases hki : k < i
    · have hkn : (k : Int) < n := by omega
      obtain ⟨x, hx⟩ : ∃ x, xs[k]? = some x := ⟨_, List.getElem?_eq_getElem (by have := HN.out; omega)⟩
      obtain ⟨g, off, a2, n2, c2, rfl, f0, _, _, _⟩ := HA.out.at hx
      have hlt : Op.bytesLess x.name.toList s.toList = true := HP.out.lo k x hx hki
      clear hx
      go_wp2_with fail
      go_roundw
      case rel => exact ⟨k + 1, by omega, by go_num, mr⟩
      case measure => simp [intOf]; omega
    · obtain rfl : i = k := by omega
      by_cases hkn : i < n
      · have hkn3 : (i : Int) < n := by omega
        obtain ⟨x, hx⟩ : ∃ x, xs[i]? = some x := ⟨_, List.getElem?_eq_getElem (by have := HN.out; omega)⟩
        obtain ⟨g, off, a2, n2, c2, rfl, f0, _, _, _⟩ := HA.out.at hx
        have hlt : Op.bytesLess x.name.toList s.toList = false := HP.out.hi i x hx (Nat.le_refl _)
        have ea : (⟨g, off, none⟩ : Addr).add (i * 2) = ⟨g, off + i * 2, none⟩ := by unfold Addr.add; split <;> simp_all
        simp only [Option.map_some, ea] at HN2
        clear hx ea
        go_wp2_with fail
        refine wp_region_noPanic ?_
        refine wp_region_held_drew (S := (fun _ => True)) (by kernel_rfl) ?_ (fun hHeld => ?_)
        · first | (go_keep; done) | trivial
        refine wpT 1 ⟨some 23, .move (.tmp 0), 24, "ref.go:72", #[], none⟩ ?_
        try simp only [Act.put, List.setIfInBounds_toArray, List.set_cons_zero, List.set_cons_succ]
        refine wpT 2 ⟨some 24, .move (.tmp 6), 3, "ref.go:72", #[], none⟩ ?_
        try simp only [Act.put, List.setIfInBounds_toArray, List.set_cons_zero, List.set_cons_succ]
        refine wpT 3 ⟨some 25, .slice 24 (.tmp 23) none (some (.tmp 24)) none, 24, "ref.go:72", #[⟨1, .data⟩, ⟨2, .data⟩], none⟩ ?_
        try simp only [Act.put, List.setIfInBounds_toArray, List.set_cons_zero, List.set_cons_succ]
        refine wpT 6 ⟨some 28, .move (.tmp 0), 24, "ref.go:72", #[], none⟩ ?_
        try simp only [Act.put, List.setIfInBounds_toArray, List.set_cons_zero, List.set_cons_succ]
        refine wpT 7 ⟨some 29, .move (.tmp 6), 3, "ref.go:72", #[], none⟩ ?_
        try simp only [Act.put, List.setIfInBounds_toArray, List.set_cons_zero, List.set_cons_succ]
        refine wpT 8 ⟨some 30, .slice 24 (.tmp 28) (some (.tmp 29)) none none, 24, "ref.go:72", #[⟨6, .data⟩, ⟨7, .data⟩], none⟩ ?_
        try simp only [Act.put, List.setIfInBounds_toArray, List.set_cons_zero, List.set_cons_succ]
        refine wpAnyH_ready (rs := [0, 5]) (by kernel_rfl) (by simp) ?_
        refine AllReadyH.cons (o := ⟨some 22, .buildSlice 24 0 #[], 24, "ref.go:72", #[], none⟩) rfl (fun K hK => ?_) (AllReadyH.cons (o := ⟨some 27, .buildSlice 24 0 #[], 24, "ref.go:72", #[], none⟩) rfl (fun K hK => ?_) AllReadyH.nil)
        · go_simp
          obtain ⟨c1, hnx⟩ : ∃ c1, (wr.alloc (.cells #[] 68)).drew = c1 := ⟨_, rfl⟩
          have hz : c1.heap[wr.heap.size]? = some (.cells #[] 68 (0, 0)) := by rw [← hnx]; exact heap_alloc_new wr _
          have mz : Moves [] wr c1 := by rw [← hnx]; exact ((Moves.refl _ _).alloc _).drew
          rw [hnx]
          clear hnx
          obtain ⟨z1, hzz⟩ : ∃ z, wr.heap.size = z := ⟨_, rfl⟩
          rw [hzz] at hz ⊢
          have G1 : GrowN wr c1 (.slice (some ⟨z1, 0, none⟩) 0 0) [] := GrowN.mk' (css := []) hz (by have := (Moves.refl [] wr).size; omega) rfl (Nat.le_refl _) (by unfold maxLen; omega) rfl rfl (by simp) trivial
          have M1 : Moves [] wr c1 := (Moves.refl [] wr).then mz
          clear mz hz hzz
          refine hK.out _ _ ?_ (fun hHeld => ?_)
          · trivial
          clear hK K
          try simp only [Act.put, List.setIfInBounds_toArray, List.set_cons_zero, List.set_cons_succ]
          refine wpAnyH_ready (rs := [4, 5]) (by kernel_rfl) (by simp) ?_
          refine AllReadyH.cons (o := ⟨some 26, .call ⟨.builtin .append, #[.tmp 22, .tmp 25], #[24, 24]⟩, 24, "ref.go:72", #[⟨0, .data⟩, ⟨3, .data⟩], none⟩) rfl (fun K hK => ?_) (AllReadyH.cons (o := ⟨some 27, .buildSlice 24 0 #[], 24, "ref.go:72", #[], none⟩) rfl (fun K hK => ?_) AllReadyH.nil)
          · refine growN_step (W := wr) (.tmp 22) (.tmp 25) rfl _ _ [] (xs.take i) rfl rfl (by rfl) G1 (HN1.out.moves M1) M1.size HLL1.out ?_
            intro v1 c2 hG hm hst hL
            rw [List.nil_append] at hG
            have hsl := hG.open
            obtain ⟨ad1, nn1, cap1, rfl, _, _⟩ := hsl
            have M2 : Moves [] wr c2 := M1.trans hm (fun y hy => .inr (G1.1 y (Option.mem_toList.1 hy)))
            replace G1 := hG
            clear hG hm hst hL
            refine hK.out _ _ ?_ (fun hHeld => ?_)
            · trivial
            clear hK K
            try simp only [Act.put, List.setIfInBounds_toArray, List.set_cons_zero, List.set_cons_succ]
            refine wpAnyH_ready (rs := [5]) (by kernel_rfl) (by simp) ?_
            refine AllReadyH.cons (o := ⟨some 27, .buildSlice 24 0 #[], 24, "ref.go:72", #[], none⟩) rfl (fun K hK => ?_) AllReadyH.nil
            go_simp
            obtain ⟨c3, hnx⟩ : ∃ c3, c2.alloc (.cells #[] 68) = c3 := ⟨_, rfl⟩
            have hz : c3.heap[c2.heap.size]? = some (.cells #[] 68 (0, 0)) := by rw [← hnx]; exact heap_alloc_new c2 _
            have mz : Moves [] c2 c3 := by rw [← hnx]; exact (Moves.refl _ _).alloc _
            rw [hnx]
            clear hnx
            obtain ⟨z2, hzz⟩ : ∃ z, c2.heap.size = z := ⟨_, rfl⟩
            rw [hzz] at hz ⊢
            have G2 : GrowN wr c3 (.slice (some ⟨z2, 0, none⟩) 0 0) [] := GrowN.mk' (css := []) hz (by have := M2.size; omega) rfl (Nat.le_refl _) (by unfold maxLen; omega) rfl rfl (by simp) trivial
            have M3 : Moves [] wr c3 := M2.then mz
            have D := Ap.both (Ap.new G1 hzz 0 0)
            replace G1 := G1.moves0 mz
            clear mz hz hzz
            refine hK.out _ _ ?_ (fun hHeld => ?_)
            · trivial
            clear hK K
            try simp only [Act.put, List.setIfInBounds_toArray, List.set_cons_zero, List.set_cons_succ]
            refine wpAnyH_ready (rs := [9]) (by kernel_rfl) (by simp) ?_
            refine AllReadyH.cons (o := ⟨some 31, .call ⟨.builtin .append, #[.tmp 27, .tmp 30], #[24, 24]⟩, 24, "ref.go:72", #[⟨5, .data⟩, ⟨8, .data⟩, ⟨4, .chain⟩], none⟩) rfl (fun K hK => ?_) AllReadyH.nil
            refine growN_step (W := wr) (.tmp 27) (.tmp 30) rfl _ _ [] (xs.drop i) rfl rfl (by rfl) G2 (HN2.out.moves M3) M3.size HLL2.out ?_
            intro v2 c4 hG hm hst hL
            rw [List.nil_append] at hG
            have hsl := hG.open
            obtain ⟨ad2, nn2, cap2, rfl, _, _⟩ := hsl
            have M4 : Moves [] wr c4 := M3.trans hm (fun y hy => .inr (G2.1 y (Option.mem_toList.1 hy)))
            have D2 := Ap.lain (by first | exact D.1 | exact D.2) G1 hL
            replace G1 := G1.moves hm (Ap.mem (by first | exact D.1 | exact D.2)) (hst.sub (by rintro t (rfl | rfl | rfl) <;> decide))
            clear D
            have D := Ap.both D2
            clear D2
            replace G2 := hG
            clear hG hm hst hL
            refine hK.out _ _ ?_ (fun hHeld => ?_)
            · trivial
            clear hK K
            try simp only [Act.put, List.setIfInBounds_toArray, List.set_cons_zero, List.set_cons_succ]
            refine wpT 10 ⟨some 4, .assign (.tmp 26), 24, "ref.go:72", #[⟨4, .data⟩, ⟨9, .chain⟩, ⟨0, .phase⟩, ⟨1, .phase⟩, ⟨2, .phase⟩, ⟨3, .phase⟩, ⟨4, .phase⟩, { on := 5, ground := Ground.textOnly Departure.lateStores }, { on := 6, ground := Ground.textOnly Departure.lateStores }, { on := 7, ground := Ground.textOnly Departure.lateStores }, { on := 8, ground := Ground.textOnly Departure.lateStoresUnsure }, { on := 9, ground := Ground.textOnly Departure.lateStoresUnsure }], none⟩ ?_
            try simp only [Act.put, List.setIfInBounds_toArray, List.set_cons_zero, List.set_cons_succ]
            refine wpT 11 ⟨some 5, .assign (.tmp 31), 24, "ref.go:72", #[⟨9, .data⟩, ⟨10, .chain⟩, ⟨0, .phase⟩, ⟨1, .phase⟩, ⟨2, .phase⟩, ⟨3, .phase⟩, ⟨4, .phase⟩, ⟨5, .phase⟩, ⟨6, .phase⟩, ⟨7, .phase⟩, ⟨8, .phase⟩, ⟨9, .phase⟩, ⟨10, .phase⟩], none⟩ ?_
            try simp only [Act.put, List.setIfInBounds_toArray, List.set_cons_zero, List.set_cons_succ]
            refine wpAnyH_done (by kernel_rfl) ?_ _
            refine NoPanic.normal ?_
            go_wp2_with fail
            all_goals go_ret2
            all_goals exact ⟨_, _, rfl, G1.at, G2.at, mr.then M4⟩
          · go_simp
            obtain ⟨c2, hnx⟩ : ∃ c2, c1.alloc (.cells #[] 68) = c2 := ⟨_, rfl⟩
            have hz : c2.heap[c1.heap.size]? = some (.cells #[] 68 (0, 0)) := by rw [← hnx]; exact heap_alloc_new c1 _
            have mz : Moves [] c1 c2 := by rw [← hnx]; exact (Moves.refl _ _).alloc _
            rw [hnx]
            clear hnx
            obtain ⟨z2, hzz⟩ : ∃ z, c1.heap.size = z := ⟨_, rfl⟩
            rw [hzz] at hz ⊢
            have G2 : GrowN wr c2 (.slice (some ⟨z2, 0, none⟩) 0 0) [] := GrowN.mk' (css := []) hz (by have := M1.size; omega) rfl (Nat.le_refl _) (by unfold maxLen; omega) rfl rfl (by simp) trivial
            have M2 : Moves [] wr c2 := M1.then mz
            have D := Ap.both (Ap.new G1 hzz 0 0)
            replace G1 := G1.moves0 mz
            clear mz hz hzz
            refine hK.out _ _ ?_ (fun hHeld => ?_)
            · trivial
            clear hK K
            try simp only [Act.put, List.setIfInBounds_toArray, List.set_cons_zero, List.set_cons_succ]
            refine wpAnyH_ready (rs := [4]) (by kernel_rfl) (by simp) ?_
            refine AllReadyH.cons (o := ⟨some 26, .call ⟨.builtin .append, #[.tmp 22, .tmp 25], #[24, 24]⟩, 24, "ref.go:72", #[⟨0, .data⟩, ⟨3, .data⟩], none⟩) rfl (fun K hK => ?_) AllReadyH.nil
            refine growN_step (W := wr) (.tmp 22) (.tmp 25) rfl _ _ [] (xs.take i) rfl rfl (by rfl) G1 (HN1.out.moves M2) M2.size HLL1.out ?_
            intro v1 c3 hG hm hst hL
            rw [List.nil_append] at hG
            have hsl := hG.open
            obtain ⟨ad1, nn1, cap1, rfl, _, _⟩ := hsl
            have M3 : Moves [] wr c3 := M2.trans hm (fun y hy => .inr (G1.1 y (Option.mem_toList.1 hy)))
            have D2 := Ap.lain (by first | exact D.1 | exact D.2) G2 hL
            replace G2 := G2.moves hm (Ap.mem (by first | exact D.1 | exact D.2)) (hst.sub (by rintro t (rfl | rfl | rfl) <;> decide))
            clear D
            have D := Ap.both D2
            clear D2
            replace G1 := hG
            clear hG hm hst hL
            refine hK.out _ _ ?_ (fun hHeld => ?_)
            · trivial
            clear hK K
            try simp only [Act.put, List.setIfInBounds_toArray, List.set_cons_zero, List.set_cons_succ]
            refine wpAnyH_ready (rs := [9]) (by kernel_rfl) (by simp) ?_
            refine AllReadyH.cons (o := ⟨some 31, .call ⟨.builtin .append, #[.tmp 27, .tmp 30], #[24, 24]⟩, 24, "ref.go:72", #[⟨5, .data⟩, ⟨8, .data⟩, ⟨4, .chain⟩], none⟩) rfl (fun K hK => ?_) AllReadyH.nil
            refine growN_step (W := wr) (.tmp 27) (.tmp 30) rfl _ _ [] (xs.drop i) rfl rfl (by rfl) G2 (HN2.out.moves M3) M3.size HLL2.out ?_
            intro v2 c4 hG hm hst hL
            rw [List.nil_append] at hG
            have hsl := hG.open
            obtain ⟨ad2, nn2, cap2, rfl, _, _⟩ := hsl
            have M4 : Moves [] wr c4 := M3.trans hm (fun y hy => .inr (G2.1 y (Option.mem_toList.1 hy)))
            have D2 := Ap.lain (by first | exact D.1 | exact D.2) G1 hL
            replace G1 := G1.moves hm (Ap.mem (by first | exact D.1 | exact D.2)) (hst.sub (by rintro t (rfl | rfl | rfl) <;> decide))
            clear D
            have D := Ap.both D2
            clear D2
            replace G2 := hG
            clear hG hm hst hL
            refine hK.out _ _ ?_ (fun hHeld => ?_)
            · trivial
            clear hK K
            try simp only [Act.put, List.setIfInBounds_toArray, List.set_cons_zero, List.set_cons_succ]
            refine wpT 10 ⟨some 4, .assign (.tmp 26), 24, "ref.go:72", #[⟨4, .data⟩, ⟨9, .chain⟩, ⟨0, .phase⟩, ⟨1, .phase⟩, ⟨2, .phase⟩, ⟨3, .phase⟩, ⟨4, .phase⟩, { on := 5, ground := Ground.textOnly Departure.lateStores }, { on := 6, ground := Ground.textOnly Departure.lateStores }, { on := 7, ground := Ground.textOnly Departure.lateStores }, { on := 8, ground := Ground.textOnly Departure.lateStoresUnsure }, { on := 9, ground := Ground.textOnly Departure.lateStoresUnsure }], none⟩ ?_
            try simp only [Act.put, List.setIfInBounds_toArray, List.set_cons_zero, List.set_cons_succ]
            refine wpT 11 ⟨some 5, .assign (.tmp 31), 24, "ref.go:72", #[⟨9, .data⟩, ⟨10, .chain⟩, ⟨0, .phase⟩, ⟨1, .phase⟩, ⟨2, .phase⟩, ⟨3, .phase⟩, ⟨4, .phase⟩, ⟨5, .phase⟩, ⟨6, .phase⟩, ⟨7, .phase⟩, ⟨8, .phase⟩, ⟨9, .phase⟩, ⟨10, .phase⟩], none⟩ ?_
            try simp only [Act.put, List.setIfInBounds_toArray, List.set_cons_zero, List.set_cons_succ]
            refine wpAnyH_done (by kernel_rfl) ?_ _
            refine NoPanic.normal ?_
            go_wp2_with fail
            all_goals go_ret2
            all_goals exact ⟨_, _, rfl, G1.at, G2.at, mr.then M4⟩
        · go_simp
          obtain ⟨c1, hnx⟩ : ∃ c1, (wr.alloc (.cells #[] 68)).drew = c1 := ⟨_, rfl⟩
          have hz : c1.heap[wr.heap.size]? = some (.cells #[] 68 (0, 0)) := by rw [← hnx]; exact heap_alloc_new wr _
          have mz : Moves [] wr c1 := by rw [← hnx]; exact ((Moves.refl _ _).alloc _).drew
          rw [hnx]
          clear hnx
          obtain ⟨z2, hzz⟩ : ∃ z, wr.heap.size = z := ⟨_, rfl⟩
          rw [hzz] at hz ⊢
          have G2 : GrowN wr c1 (.slice (some ⟨z2, 0, none⟩) 0 0) [] := GrowN.mk' (css := []) hz (by have := (Moves.refl [] wr).size; omega) rfl (Nat.le_refl _) (by unfold maxLen; omega) rfl rfl (by simp) trivial
          have M1 : Moves [] wr c1 := (Moves.refl [] wr).then mz
          clear mz hz hzz
          refine hK.out _ _ ?_ (fun hHeld => ?_)
          · trivial
          clear hK K
          try simp only [Act.put, List.setIfInBounds_toArray, List.set_cons_zero, List.set_cons_succ]
          refine wpAnyH_ready (rs := [0]) (by kernel_rfl) (by simp) ?_
          refine AllReadyH.cons (o := ⟨some 22, .buildSlice 24 0 #[], 24, "ref.go:72", #[], none⟩) rfl (fun K hK => ?_) AllReadyH.nil
          go_simp
          obtain ⟨c2, hnx⟩ : ∃ c2, c1.alloc (.cells #[] 68) = c2 := ⟨_, rfl⟩
          have hz : c2.heap[c1.heap.size]? = some (.cells #[] 68 (0, 0)) := by rw [← hnx]; exact heap_alloc_new c1 _
          have mz : Moves [] c1 c2 := by rw [← hnx]; exact (Moves.refl _ _).alloc _
          rw [hnx]
          clear hnx
          obtain ⟨z1, hzz⟩ : ∃ z, c1.heap.size = z := ⟨_, rfl⟩
          rw [hzz] at hz ⊢
          have G1 : GrowN wr c2 (.slice (some ⟨z1, 0, none⟩) 0 0) [] := GrowN.mk' (css := []) hz (by have := M1.size; omega) rfl (Nat.le_refl _) (by unfold maxLen; omega) rfl rfl (by simp) trivial
          have M2 : Moves [] wr c2 := M1.then mz
          have D := Ap.both (Ap.new G2 hzz 0 0)
          replace G2 := G2.moves0 mz
          clear mz hz hzz
          refine hK.out _ _ ?_ (fun hHeld => ?_)
          · trivial
          clear hK K
          try simp only [Act.put, List.setIfInBounds_toArray, List.set_cons_zero, List.set_cons_succ]
          refine wpAnyH_ready (rs := [4]) (by kernel_rfl) (by simp) ?_
          refine AllReadyH.cons (o := ⟨some 26, .call ⟨.builtin .append, #[.tmp 22, .tmp 25], #[24, 24]⟩, 24, "ref.go:72", #[⟨0, .data⟩, ⟨3, .data⟩], none⟩) rfl (fun K hK => ?_) AllReadyH.nil
          refine growN_step (W := wr) (.tmp 22) (.tmp 25) rfl _ _ [] (xs.take i) rfl rfl (by rfl) G1 (HN1.out.moves M2) M2.size HLL1.out ?_
          intro v1 c3 hG hm hst hL
          rw [List.nil_append] at hG
          have hsl := hG.open
          obtain ⟨ad1, nn1, cap1, rfl, _, _⟩ := hsl
          have M3 : Moves [] wr c3 := M2.trans hm (fun y hy => .inr (G1.1 y (Option.mem_toList.1 hy)))
          have D2 := Ap.lain (by first | exact D.1 | exact D.2) G2 hL
          replace G2 := G2.moves hm (Ap.mem (by first | exact D.1 | exact D.2)) (hst.sub (by rintro t (rfl | rfl | rfl) <;> decide))
          clear D
          have D := Ap.both D2
          clear D2
          replace G1 := hG
          clear hG hm hst hL
          refine hK.out _ _ ?_ (fun hHeld => ?_)
          · trivial
          clear hK K
          try simp only [Act.put, List.setIfInBounds_toArray, List.set_cons_zero, List.set_cons_succ]
          refine wpAnyH_ready (rs := [9]) (by kernel_rfl) (by simp) ?_
          refine AllReadyH.cons (o := ⟨some 31, .call ⟨.builtin .append, #[.tmp 27, .tmp 30], #[24, 24]⟩, 24, "ref.go:72", #[⟨5, .data⟩, ⟨8, .data⟩, ⟨4, .chain⟩], none⟩) rfl (fun K hK => ?_) AllReadyH.nil
          refine growN_step (W := wr) (.tmp 27) (.tmp 30) rfl _ _ [] (xs.drop i) rfl rfl (by rfl) G2 (HN2.out.moves M3) M3.size HLL2.out ?_
          intro v2 c4 hG hm hst hL
          rw [List.nil_append] at hG
          have hsl := hG.open
          obtain ⟨ad2, nn2, cap2, rfl, _, _⟩ := hsl
          have M4 : Moves [] wr c4 := M3.trans hm (fun y hy => .inr (G2.1 y (Option.mem_toList.1 hy)))
          have D2 := Ap.lain (by first | exact D.1 | exact D.2) G1 hL
          replace G1 := G1.moves hm (Ap.mem (by first | exact D.1 | exact D.2)) (hst.sub (by rintro t (rfl | rfl | rfl) <;> decide))
          clear D
          have D := Ap.both D2
          clear D2
          replace G2 := hG
          clear hG hm hst hL
          refine hK.out _ _ ?_ (fun hHeld => ?_)
          · trivial
          clear hK K
          try simp only [Act.put, List.setIfInBounds_toArray, List.set_cons_zero, List.set_cons_succ]
          refine wpT 10 ⟨some 4, .assign (.tmp 26), 24, "ref.go:72", #[⟨4, .data⟩, ⟨9, .chain⟩, ⟨0, .phase⟩, ⟨1, .phase⟩, ⟨2, .phase⟩, ⟨3, .phase⟩, ⟨4, .phase⟩, { on := 5, ground := Ground.textOnly Departure.lateStores }, { on := 6, ground := Ground.textOnly Departure.lateStores }, { on := 7, ground := Ground.textOnly Departure.lateStores }, { on := 8, ground := Ground.textOnly Departure.lateStoresUnsure }, { on := 9, ground := Ground.textOnly Departure.lateStoresUnsure }], none⟩ ?_
          try simp only [Act.put, List.setIfInBounds_toArray, List.set_cons_zero, List.set_cons_succ]
          refine wpT 11 ⟨some 5, .assign (.tmp 31), 24, "ref.go:72", #[⟨9, .data⟩, ⟨10, .chain⟩, ⟨0, .phase⟩, ⟨1, .phase⟩, ⟨2, .phase⟩, ⟨3, .phase⟩, ⟨4, .phase⟩, ⟨5, .phase⟩, ⟨6, .phase⟩, ⟨7, .phase⟩, ⟨8, .phase⟩, ⟨9, .phase⟩, ⟨10, .phase⟩], none⟩ ?_
          try simp only [Act.put, List.setIfInBounds_toArray, List.set_cons_zero, List.set_cons_succ]
          refine wpAnyH_done (by kernel_rfl) ?_ _
          refine NoPanic.normal ?_
          go_wp2_with fail
          all_goals go_ret2
          all_goals exact ⟨_, _, rfl, G1.at, G2.at, mr.then M4⟩
      · have hge : ¬ (i : Int) < n := by omega
        rcases ad with _ | x
        · simp only [Option.map_none, ite_self] at HN2
          go_wp2_with fail
          refine wp_region_noPanic ?_
          refine wp_region_held_drew (S := (fun _ => True)) (by kernel_rfl) ?_ (fun hHeld => ?_)
          · first | (go_keep; done) | trivial
          refine wpT 1 ⟨some 23, .move (.tmp 0), 24, "ref.go:72", #[], none⟩ ?_
          try simp only [Act.put, List.setIfInBounds_toArray, List.set_cons_zero, List.set_cons_succ]
          refine wpT 2 ⟨some 24, .move (.tmp 6), 3, "ref.go:72", #[], none⟩ ?_
          try simp only [Act.put, List.setIfInBounds_toArray, List.set_cons_zero, List.set_cons_succ]
          refine wpT 3 ⟨some 25, .slice 24 (.tmp 23) none (some (.tmp 24)) none, 24, "ref.go:72", #[⟨1, .data⟩, ⟨2, .data⟩], none⟩ ?_
          try simp only [Act.put, List.setIfInBounds_toArray, List.set_cons_zero, List.set_cons_succ]
          refine wpT 6 ⟨some 28, .move (.tmp 0), 24, "ref.go:72", #[], none⟩ ?_
          try simp only [Act.put, List.setIfInBounds_toArray, List.set_cons_zero, List.set_cons_succ]
          refine wpT 7 ⟨some 29, .move (.tmp 6), 3, "ref.go:72", #[], none⟩ ?_
          try simp only [Act.put, List.setIfInBounds_toArray, List.set_cons_zero, List.set_cons_succ]
          refine wpT 8 ⟨some 30, .slice 24 (.tmp 28) (some (.tmp 29)) none none, 24, "ref.go:72", #[⟨6, .data⟩, ⟨7, .data⟩], none⟩ ?_
          try simp only [Act.put, List.setIfInBounds_toArray, List.set_cons_zero, List.set_cons_succ]
          refine wpAnyH_ready (rs := [0, 5]) (by kernel_rfl) (by simp) ?_
          refine AllReadyH.cons (o := ⟨some 22, .buildSlice 24 0 #[], 24, "ref.go:72", #[], none⟩) rfl (fun K hK => ?_) (AllReadyH.cons (o := ⟨some 27, .buildSlice 24 0 #[], 24, "ref.go:72", #[], none⟩) rfl (fun K hK => ?_) AllReadyH.nil)
          · go_simp
            obtain ⟨c1, hnx⟩ : ∃ c1, (wr.alloc (.cells #[] 68)).drew = c1 := ⟨_, rfl⟩
            have hz : c1.heap[wr.heap.size]? = some (.cells #[] 68 (0, 0)) := by rw [← hnx]; exact heap_alloc_new wr _
            have mz : Moves [] wr c1 := by rw [← hnx]; exact ((Moves.refl _ _).alloc _).drew
            rw [hnx]
            clear hnx
            obtain ⟨z1, hzz⟩ : ∃ z, wr.heap.size = z := ⟨_, rfl⟩
            rw [hzz] at hz ⊢
            have G1 : GrowN wr c1 (.slice (some ⟨z1, 0, none⟩) 0 0) [] := GrowN.mk' (css := []) hz (by have := (Moves.refl [] wr).size; omega) rfl (Nat.le_refl _) (by unfold maxLen; omega) rfl rfl (by simp) trivial
            have M1 : Moves [] wr c1 := (Moves.refl [] wr).then mz
            clear mz hz hzz
            refine hK.out _ _ ?_ (fun hHeld => ?_)
            · trivial
            clear hK K
            try simp only [Act.put, List.setIfInBounds_toArray, List.set_cons_zero, List.set_cons_succ]
            refine wpAnyH_ready (rs := [4, 5]) (by kernel_rfl) (by simp) ?_
            refine AllReadyH.cons (o := ⟨some 26, .call ⟨.builtin .append, #[.tmp 22, .tmp 25], #[24, 24]⟩, 24, "ref.go:72", #[⟨0, .data⟩, ⟨3, .data⟩], none⟩) rfl (fun K hK => ?_) (AllReadyH.cons (o := ⟨some 27, .buildSlice 24 0 #[], 24, "ref.go:72", #[], none⟩) rfl (fun K hK => ?_) AllReadyH.nil)
            · refine growN_step (W := wr) (.tmp 22) (.tmp 25) rfl _ _ [] (xs.take i) rfl rfl (by rfl) G1 (HN1.out.moves M1) M1.size HLL1.out ?_
              intro v1 c2 hG hm hst hL
              rw [List.nil_append] at hG
              have hsl := hG.open
              obtain ⟨ad1, nn1, cap1, rfl, _, _⟩ := hsl
              have M2 : Moves [] wr c2 := M1.trans hm (fun y hy => .inr (G1.1 y (Option.mem_toList.1 hy)))
              replace G1 := hG
              clear hG hm hst hL
              refine hK.out _ _ ?_ (fun hHeld => ?_)
              · trivial
              clear hK K
              try simp only [Act.put, List.setIfInBounds_toArray, List.set_cons_zero, List.set_cons_succ]
              refine wpAnyH_ready (rs := [5]) (by kernel_rfl) (by simp) ?_
              refine AllReadyH.cons (o := ⟨some 27, .buildSlice 24 0 #[], 24, "ref.go:72", #[], none⟩) rfl (fun K hK => ?_) AllReadyH.nil
              go_simp
              obtain ⟨c3, hnx⟩ : ∃ c3, c2.alloc (.cells #[] 68) = c3 := ⟨_, rfl⟩
              have hz : c3.heap[c2.heap.size]? = some (.cells #[] 68 (0, 0)) := by rw [← hnx]; exact heap_alloc_new c2 _
              have mz : Moves [] c2 c3 := by rw [← hnx]; exact (Moves.refl _ _).alloc _
              rw [hnx]
              clear hnx
              obtain ⟨z2, hzz⟩ : ∃ z, c2.heap.size = z := ⟨_, rfl⟩
              rw [hzz] at hz ⊢
              have G2 : GrowN wr c3 (.slice (some ⟨z2, 0, none⟩) 0 0) [] := GrowN.mk' (css := []) hz (by have := M2.size; omega) rfl (Nat.le_refl _) (by unfold maxLen; omega) rfl rfl (by simp) trivial
              have M3 : Moves [] wr c3 := M2.then mz
              have D := Ap.both (Ap.new G1 hzz 0 0)
              replace G1 := G1.moves0 mz
              clear mz hz hzz
              refine hK.out _ _ ?_ (fun hHeld => ?_)
              · trivial
              clear hK K
              try simp only [Act.put, List.setIfInBounds_toArray, List.set_cons_zero, List.set_cons_succ]
              refine wpAnyH_ready (rs := [9]) (by kernel_rfl) (by simp) ?_
              refine AllReadyH.cons (o := ⟨some 31, .call ⟨.builtin .append, #[.tmp 27, .tmp 30], #[24, 24]⟩, 24, "ref.go:72", #[⟨5, .data⟩, ⟨8, .data⟩, ⟨4, .chain⟩], none⟩) rfl (fun K hK => ?_) AllReadyH.nil
              refine growN_step (W := wr) (.tmp 27) (.tmp 30) rfl _ _ [] (xs.drop i) rfl rfl (by rfl) G2 (HN2.out.moves M3) M3.size HLL2.out ?_
              intro v2 c4 hG hm hst hL
              rw [List.nil_append] at hG
              have hsl := hG.open
              obtain ⟨ad2, nn2, cap2, rfl, _, _⟩ := hsl
              have M4 : Moves [] wr c4 := M3.trans hm (fun y hy => .inr (G2.1 y (Option.mem_toList.1 hy)))
              have D2 := Ap.lain (by first | exact D.1 | exact D.2) G1 hL
              replace G1 := G1.moves hm (Ap.mem (by first | exact D.1 | exact D.2)) (hst.sub (by rintro t (rfl | rfl | rfl) <;> decide))
              clear D
              have D := Ap.both D2
              clear D2
              replace G2 := hG
              clear hG hm hst hL
              refine hK.out _ _ ?_ (fun hHeld => ?_)
              · trivial
              clear hK K
              try simp only [Act.put, List.setIfInBounds_toArray, List.set_cons_zero, List.set_cons_succ]
              refine wpT 10 ⟨some 4, .assign (.tmp 26), 24, "ref.go:72", #[⟨4, .data⟩, ⟨9, .chain⟩, ⟨0, .phase⟩, ⟨1, .phase⟩, ⟨2, .phase⟩, ⟨3, .phase⟩, ⟨4, .phase⟩, { on := 5, ground := Ground.textOnly Departure.lateStores }, { on := 6, ground := Ground.textOnly Departure.lateStores }, { on := 7, ground := Ground.textOnly Departure.lateStores }, { on := 8, ground := Ground.textOnly Departure.lateStoresUnsure }, { on := 9, ground := Ground.textOnly Departure.lateStoresUnsure }], none⟩ ?_
              try simp only [Act.put, List.setIfInBounds_toArray, List.set_cons_zero, List.set_cons_succ]
              refine wpT 11 ⟨some 5, .assign (.tmp 31), 24, "ref.go:72", #[⟨9, .data⟩, ⟨10, .chain⟩, ⟨0, .phase⟩, ⟨1, .phase⟩, ⟨2, .phase⟩, ⟨3, .phase⟩, ⟨4, .phase⟩, ⟨5, .phase⟩, ⟨6, .phase⟩, ⟨7, .phase⟩, ⟨8, .phase⟩, ⟨9, .phase⟩, ⟨10, .phase⟩], none⟩ ?_
              try simp only [Act.put, List.setIfInBounds_toArray, List.set_cons_zero, List.set_cons_succ]
              refine wpAnyH_done (by kernel_rfl) ?_ _
              refine NoPanic.normal ?_
              go_wp2_with fail
              all_goals go_ret2
              all_goals exact ⟨_, _, rfl, G1.at, G2.at, mr.then M4⟩
            · go_simp
              obtain ⟨c2, hnx⟩ : ∃ c2, c1.alloc (.cells #[] 68) = c2 := ⟨_, rfl⟩
              have hz : c2.heap[c1.heap.size]? = some (.cells #[] 68 (0, 0)) := by rw [← hnx]; exact heap_alloc_new c1 _
              have mz : Moves [] c1 c2 := by rw [← hnx]; exact (Moves.refl _ _).alloc _
              rw [hnx]
              clear hnx
              obtain ⟨z2, hzz⟩ : ∃ z, c1.heap.size = z := ⟨_, rfl⟩
              rw [hzz] at hz ⊢
              have G2 : GrowN wr c2 (.slice (some ⟨z2, 0, none⟩) 0 0) [] := GrowN.mk' (css := []) hz (by have := M1.size; omega) rfl (Nat.le_refl _) (by unfold maxLen; omega) rfl rfl (by simp) trivial
              have M2 : Moves [] wr c2 := M1.then mz
              have D := Ap.both (Ap.new G1 hzz 0 0)
              replace G1 := G1.moves0 mz
              clear mz hz hzz
              refine hK.out _ _ ?_ (fun hHeld => ?_)
              · trivial
              clear hK K
              try simp only [Act.put, List.setIfInBounds_toArray, List.set_cons_zero, List.set_cons_succ]
              refine wpAnyH_ready (rs := [4]) (by kernel_rfl) (by simp) ?_
              refine AllReadyH.cons (o := ⟨some 26, .call ⟨.builtin .append, #[.tmp 22, .tmp 25], #[24, 24]⟩, 24, "ref.go:72", #[⟨0, .data⟩, ⟨3, .data⟩], none⟩) rfl (fun K hK => ?_) AllReadyH.nil
              refine growN_step (W := wr) (.tmp 22) (.tmp 25) rfl _ _ [] (xs.take i) rfl rfl (by rfl) G1 (HN1.out.moves M2) M2.size HLL1.out ?_
              intro v1 c3 hG hm hst hL
              rw [List.nil_append] at hG
              have hsl := hG.open
              obtain ⟨ad1, nn1, cap1, rfl, _, _⟩ := hsl
              have M3 : Moves [] wr c3 := M2.trans hm (fun y hy => .inr (G1.1 y (Option.mem_toList.1 hy)))
              have D2 := Ap.lain (by first | exact D.1 | exact D.2) G2 hL
              replace G2 := G2.moves hm (Ap.mem (by first | exact D.1 | exact D.2)) (hst.sub (by rintro t (rfl | rfl | rfl) <;> decide))
              clear D
              have D := Ap.both D2
              clear D2
              replace G1 := hG
              clear hG hm hst hL
              refine hK.out _ _ ?_ (fun hHeld => ?_)
              · trivial
              clear hK K
              try simp only [Act.put, List.setIfInBounds_toArray, List.set_cons_zero, List.set_cons_succ]
              refine wpAnyH_ready (rs := [9]) (by kernel_rfl) (by simp) ?_
              refine AllReadyH.cons (o := ⟨some 31, .call ⟨.builtin .append, #[.tmp 27, .tmp 30], #[24, 24]⟩, 24, "ref.go:72", #[⟨5, .data⟩, ⟨8, .data⟩, ⟨4, .chain⟩], none⟩) rfl (fun K hK => ?_) AllReadyH.nil
              refine growN_step (W := wr) (.tmp 27) (.tmp 30) rfl _ _ [] (xs.drop i) rfl rfl (by rfl) G2 (HN2.out.moves M3) M3.size HLL2.out ?_
              intro v2 c4 hG hm hst hL
              rw [List.nil_append] at hG
              have hsl := hG.open
              obtain ⟨ad2, nn2, cap2, rfl, _, _⟩ := hsl
              have M4 : Moves [] wr c4 := M3.trans hm (fun y hy => .inr (G2.1 y (Option.mem_toList.1 hy)))
              have D2 := Ap.lain (by first | exact D.1 | exact D.2) G1 hL
              replace G1 := G1.moves hm (Ap.mem (by first | exact D.1 | exact D.2)) (hst.sub (by rintro t (rfl | rfl | rfl) <;> decide))
              clear D
              have D := Ap.both D2
              clear D2
              replace G2 := hG
              clear hG hm hst hL
              refine hK.out _ _ ?_ (fun hHeld => ?_)
              · trivial
              clear hK K
              try simp only [Act.put, List.setIfInBounds_toArray, List.set_cons_zero, List.set_cons_succ]
              refine wpT 10 ⟨some 4, .assign (.tmp 26), 24, "ref.go:72", #[⟨4, .data⟩, ⟨9, .chain⟩, ⟨0, .phase⟩, ⟨1, .phase⟩, ⟨2, .phase⟩, ⟨3, .phase⟩, ⟨4, .phase⟩, { on := 5, ground := Ground.textOnly Departure.lateStores }, { on := 6, ground := Ground.textOnly Departure.lateStores }, { on := 7, ground := Ground.textOnly Departure.lateStores }, { on := 8, ground := Ground.textOnly Departure.lateStoresUnsure }, { on := 9, ground := Ground.textOnly Departure.lateStoresUnsure }], none⟩ ?_
              try simp only [Act.put, List.setIfInBounds_toArray, List.set_cons_zero, List.set_cons_succ]
              refine wpT 11 ⟨some 5, .assign (.tmp 31), 24, "ref.go:72", #[⟨9, .data⟩, ⟨10, .chain⟩, ⟨0, .phase⟩, ⟨1, .phase⟩, ⟨2, .phase⟩, ⟨3, .phase⟩, ⟨4, .phase⟩, ⟨5, .phase⟩, ⟨6, .phase⟩, ⟨7, .phase⟩, ⟨8, .phase⟩, ⟨9, .phase⟩, ⟨10, .phase⟩], none⟩ ?_
              try simp only [Act.put, List.setIfInBounds_toArray, List.set_cons_zero, List.set_cons_succ]
              refine wpAnyH_done (by kernel_rfl) ?_ _
              refine NoPanic.normal ?_
              go_wp2_with fail
              all_goals go_ret2
              all_goals exact ⟨_, _, rfl, G1.at, G2.at, mr.then M4⟩
          · go_simp
            obtain ⟨c1, hnx⟩ : ∃ c1, (wr.alloc (.cells #[] 68)).drew = c1 := ⟨_, rfl⟩
            have hz : c1.heap[wr.heap.size]? = some (.cells #[] 68 (0, 0)) := by rw [← hnx]; exact heap_alloc_new wr _
            have mz : Moves [] wr c1 := by rw [← hnx]; exact ((Moves.refl _ _).alloc _).drew
            rw [hnx]
            clear hnx
            obtain ⟨z2, hzz⟩ : ∃ z, wr.heap.size = z := ⟨_, rfl⟩
            rw [hzz] at hz ⊢
            have G2 : GrowN wr c1 (.slice (some ⟨z2, 0, none⟩) 0 0) [] := GrowN.mk' (css := []) hz (by have := (Moves.refl [] wr).size; omega) rfl (Nat.le_refl _) (by unfold maxLen; omega) rfl rfl (by simp) trivial
            have M1 : Moves [] wr c1 := (Moves.refl [] wr).then mz
            clear mz hz hzz
            refine hK.out _ _ ?_ (fun hHeld => ?_)
            · trivial
            clear hK K
            try simp only [Act.put, List.setIfInBounds_toArray, List.set_cons_zero, List.set_cons_succ]
            refine wpAnyH_ready (rs := [0]) (by kernel_rfl) (by simp) ?_
            refine AllReadyH.cons (o := ⟨some 22, .buildSlice 24 0 #[], 24, "ref.go:72", #[], none⟩) rfl (fun K hK => ?_) AllReadyH.nil
            go_simp
            obtain ⟨c2, hnx⟩ : ∃ c2, c1.alloc (.cells #[] 68) = c2 := ⟨_, rfl⟩
            have hz : c2.heap[c1.heap.size]? = some (.cells #[] 68 (0, 0)) := by rw [← hnx]; exact heap_alloc_new c1 _
            have mz : Moves [] c1 c2 := by rw [← hnx]; exact (Moves.refl _ _).alloc _
            rw [hnx]
            clear hnx
            obtain ⟨z1, hzz⟩ : ∃ z, c1.heap.size = z := ⟨_, rfl⟩
            rw [hzz] at hz ⊢
            have G1 : GrowN wr c2 (.slice (some ⟨z1, 0, none⟩) 0 0) [] := GrowN.mk' (css := []) hz (by have := M1.size; omega) rfl (Nat.le_refl _) (by unfold maxLen; omega) rfl rfl (by simp) trivial
            have M2 : Moves [] wr c2 := M1.then mz
            have D := Ap.both (Ap.new G2 hzz 0 0)
            replace G2 := G2.moves0 mz
            clear mz hz hzz
            refine hK.out _ _ ?_ (fun hHeld => ?_)
            · trivial
            clear hK K
            try simp only [Act.put, List.setIfInBounds_toArray, List.set_cons_zero, List.set_cons_succ]
            refine wpAnyH_ready (rs := [4]) (by kernel_rfl) (by simp) ?_
            refine AllReadyH.cons (o := ⟨some 26, .call ⟨.builtin .append, #[.tmp 22, .tmp 25], #[24, 24]⟩, 24, "ref.go:72", #[⟨0, .data⟩, ⟨3, .data⟩], none⟩) rfl (fun K hK => ?_) AllReadyH.nil
            refine growN_step (W := wr) (.tmp 22) (.tmp 25) rfl _ _ [] (xs.take i) rfl rfl (by rfl) G1 (HN1.out.moves M2) M2.size HLL1.out ?_
            intro v1 c3 hG hm hst hL
            rw [List.nil_append] at hG
            have hsl := hG.open
            obtain ⟨ad1, nn1, cap1, rfl, _, _⟩ := hsl
            have M3 : Moves [] wr c3 := M2.trans hm (fun y hy => .inr (G1.1 y (Option.mem_toList.1 hy)))
            have D2 := Ap.lain (by first | exact D.1 | exact D.2) G2 hL
            replace G2 := G2.moves hm (Ap.mem (by first | exact D.1 | exact D.2)) (hst.sub (by rintro t (rfl | rfl | rfl) <;> decide))
            clear D
            have D := Ap.both D2
            clear D2
            replace G1 := hG
            clear hG hm hst hL
            refine hK.out _ _ ?_ (fun hHeld => ?_)
            · trivial
            clear hK K
            try simp only [Act.put, List.setIfInBounds_toArray, List.set_cons_zero, List.set_cons_succ]
            refine wpAnyH_ready (rs := [9]) (by kernel_rfl) (by simp) ?_
            refine AllReadyH.cons (o := ⟨some 31, .call ⟨.builtin .append, #[.tmp 27, .tmp 30], #[24, 24]⟩, 24, "ref.go:72", #[⟨5, .data⟩, ⟨8, .data⟩, ⟨4, .chain⟩], none⟩) rfl (fun K hK => ?_) AllReadyH.nil
            refine growN_step (W := wr) (.tmp 27) (.tmp 30) rfl _ _ [] (xs.drop i) rfl rfl (by rfl) G2 (HN2.out.moves M3) M3.size HLL2.out ?_
            intro v2 c4 hG hm hst hL
            rw [List.nil_append] at hG
            have hsl := hG.open
            obtain ⟨ad2, nn2, cap2, rfl, _, _⟩ := hsl
            have M4 : Moves [] wr c4 := M3.trans hm (fun y hy => .inr (G2.1 y (Option.mem_toList.1 hy)))
            have D2 := Ap.lain (by first | exact D.1 | exact D.2) G1 hL
            replace G1 := G1.moves hm (Ap.mem (by first | exact D.1 | exact D.2)) (hst.sub (by rintro t (rfl | rfl | rfl) <;> decide))
            clear D
            have D := Ap.both D2
            clear D2
            replace G2 := hG
            clear hG hm hst hL
            refine hK.out _ _ ?_ (fun hHeld => ?_)
            · trivial
            clear hK K
            try simp only [Act.put, List.setIfInBounds_toArray, List.set_cons_zero, List.set_cons_succ]
            refine wpT 10 ⟨some 4, .assign (.tmp 26), 24, "ref.go:72", #[⟨4, .data⟩, ⟨9, .chain⟩, ⟨0, .phase⟩, ⟨1, .phase⟩, ⟨2, .phase⟩, ⟨3, .phase⟩, ⟨4, .phase⟩, { on := 5, ground := Ground.textOnly Departure.lateStores }, { on := 6, ground := Ground.textOnly Departure.lateStores }, { on := 7, ground := Ground.textOnly Departure.lateStores }, { on := 8, ground := Ground.textOnly Departure.lateStoresUnsure }, { on := 9, ground := Ground.textOnly Departure.lateStoresUnsure }], none⟩ ?_
            try simp only [Act.put, List.setIfInBounds_toArray, List.set_cons_zero, List.set_cons_succ]
            refine wpT 11 ⟨some 5, .assign (.tmp 31), 24, "ref.go:72", #[⟨9, .data⟩, ⟨10, .chain⟩, ⟨0, .phase⟩, ⟨1, .phase⟩, ⟨2, .phase⟩, ⟨3, .phase⟩, ⟨4, .phase⟩, ⟨5, .phase⟩, ⟨6, .phase⟩, ⟨7, .phase⟩, ⟨8, .phase⟩, ⟨9, .phase⟩, ⟨10, .phase⟩], none⟩ ?_
            try simp only [Act.put, List.setIfInBounds_toArray, List.set_cons_zero, List.set_cons_succ]
            refine wpAnyH_done (by kernel_rfl) ?_ _
            refine NoPanic.normal ?_
            go_wp2_with fail
            all_goals go_ret2
            all_goals exact ⟨_, _, rfl, G1.at, G2.at, mr.then M4⟩
        · obtain ⟨g, off, pth⟩ := x
          cases pth with
          | none =>
            have ea : (⟨g, off, none⟩ : Addr).add (i * 2) = ⟨g, off + i * 2, none⟩ := by unfold Addr.add; split <;> simp_all
            simp only [Option.map_some, ea] at HN2
            go_wp2_with fail
            refine wp_region_noPanic ?_
            refine wp_region_held_drew (S := (fun _ => True)) (by kernel_rfl) ?_ (fun hHeld => ?_)
            · first | (go_keep; done) | trivial
            refine wpT 1 ⟨some 23, .move (.tmp 0), 24, "ref.go:72", #[], none⟩ ?_
            try simp only [Act.put, List.setIfInBounds_toArray, List.set_cons_zero, List.set_cons_succ]
            refine wpT 2 ⟨some 24, .move (.tmp 6), 3, "ref.go:72", #[], none⟩ ?_
            try simp only [Act.put, List.setIfInBounds_toArray, List.set_cons_zero, List.set_cons_succ]
            refine wpT 3 ⟨some 25, .slice 24 (.tmp 23) none (some (.tmp 24)) none, 24, "ref.go:72", #[⟨1, .data⟩, ⟨2, .data⟩], none⟩ ?_
            try simp only [Act.put, List.setIfInBounds_toArray, List.set_cons_zero, List.set_cons_succ]
            refine wpT 6 ⟨some 28, .move (.tmp 0), 24, "ref.go:72", #[], none⟩ ?_
            try simp only [Act.put, List.setIfInBounds_toArray, List.set_cons_zero, List.set_cons_succ]
            refine wpT 7 ⟨some 29, .move (.tmp 6), 3, "ref.go:72", #[], none⟩ ?_
            try simp only [Act.put, List.setIfInBounds_toArray, List.set_cons_zero, List.set_cons_succ]
            refine wpT 8 ⟨some 30, .slice 24 (.tmp 28) (some (.tmp 29)) none none, 24, "ref.go:72", #[⟨6, .data⟩, ⟨7, .data⟩], none⟩ ?_
            try simp only [Act.put, List.setIfInBounds_toArray, List.set_cons_zero, List.set_cons_succ]
            refine wpAnyH_ready (rs := [0, 5]) (by kernel_rfl) (by simp) ?_
            refine AllReadyH.cons (o := ⟨some 22, .buildSlice 24 0 #[], 24, "ref.go:72", #[], none⟩) rfl (fun K hK => ?_) (AllReadyH.cons (o := ⟨some 27, .buildSlice 24 0 #[], 24, "ref.go:72", #[], none⟩) rfl (fun K hK => ?_) AllReadyH.nil)
            · go_simp
              obtain ⟨c1, hnx⟩ : ∃ c1, (wr.alloc (.cells #[] 68)).drew = c1 := ⟨_, rfl⟩
              have hz : c1.heap[wr.heap.size]? = some (.cells #[] 68 (0, 0)) := by rw [← hnx]; exact heap_alloc_new wr _
              have mz : Moves [] wr c1 := by rw [← hnx]; exact ((Moves.refl _ _).alloc _).drew
              rw [hnx]
              clear hnx
              obtain ⟨z1, hzz⟩ : ∃ z, wr.heap.size = z := ⟨_, rfl⟩
              rw [hzz] at hz ⊢
              have G1 : GrowN wr c1 (.slice (some ⟨z1, 0, none⟩) 0 0) [] := GrowN.mk' (css := []) hz (by have := (Moves.refl [] wr).size; omega) rfl (Nat.le_refl _) (by unfold maxLen; omega) rfl rfl (by simp) trivial
              have M1 : Moves [] wr c1 := (Moves.refl [] wr).then mz
              clear mz hz hzz
              refine hK.out _ _ ?_ (fun hHeld => ?_)
              · trivial
              clear hK K
              try simp only [Act.put, List.setIfInBounds_toArray, List.set_cons_zero, List.set_cons_succ]
              refine wpAnyH_ready (rs := [4, 5]) (by kernel_rfl) (by simp) ?_
              refine AllReadyH.cons (o := ⟨some 26, .call ⟨.builtin .append, #[.tmp 22, .tmp 25], #[24, 24]⟩, 24, "ref.go:72", #[⟨0, .data⟩, ⟨3, .data⟩], none⟩) rfl (fun K hK => ?_) (AllReadyH.cons (o := ⟨some 27, .buildSlice 24 0 #[], 24, "ref.go:72", #[], none⟩) rfl (fun K hK => ?_) AllReadyH.nil)
              · refine growN_step (W := wr) (.tmp 22) (.tmp 25) rfl _ _ [] (xs.take i) rfl rfl (by rfl) G1 (HN1.out.moves M1) M1.size HLL1.out ?_
                intro v1 c2 hG hm hst hL
                rw [List.nil_append] at hG
                have hsl := hG.open
                obtain ⟨ad1, nn1, cap1, rfl, _, _⟩ := hsl
                have M2 : Moves [] wr c2 := M1.trans hm (fun y hy => .inr (G1.1 y (Option.mem_toList.1 hy)))
                replace G1 := hG
                clear hG hm hst hL
                refine hK.out _ _ ?_ (fun hHeld => ?_)
                · trivial
                clear hK K
                try simp only [Act.put, List.setIfInBounds_toArray, List.set_cons_zero, List.set_cons_succ]
                refine wpAnyH_ready (rs := [5]) (by kernel_rfl) (by simp) ?_
                refine AllReadyH.cons (o := ⟨some 27, .buildSlice 24 0 #[], 24, "ref.go:72", #[], none⟩) rfl (fun K hK => ?_) AllReadyH.nil
                go_simp
                obtain ⟨c3, hnx⟩ : ∃ c3, c2.alloc (.cells #[] 68) = c3 := ⟨_, rfl⟩
                have hz : c3.heap[c2.heap.size]? = some (.cells #[] 68 (0, 0)) := by rw [← hnx]; exact heap_alloc_new c2 _
                have mz : Moves [] c2 c3 := by rw [← hnx]; exact (Moves.refl _ _).alloc _
                rw [hnx]
                clear hnx
                obtain ⟨z2, hzz⟩ : ∃ z, c2.heap.size = z := ⟨_, rfl⟩
                rw [hzz] at hz ⊢
                have G2 : GrowN wr c3 (.slice (some ⟨z2, 0, none⟩) 0 0) [] := GrowN.mk' (css := []) hz (by have := M2.size; omega) rfl (Nat.le_refl _) (by unfold maxLen; omega) rfl rfl (by simp) trivial
                have M3 : Moves [] wr c3 := M2.then mz
                have D := Ap.both (Ap.new G1 hzz 0 0)
                replace G1 := G1.moves0 mz
                clear mz hz hzz
                refine hK.out _ _ ?_ (fun hHeld => ?_)
                · trivial
                clear hK K
                try simp only [Act.put, List.setIfInBounds_toArray, List.set_cons_zero, List.set_cons_succ]
                refine wpAnyH_ready (rs := [9]) (by kernel_rfl) (by simp) ?_
                refine AllReadyH.cons (o := ⟨some 31, .call ⟨.builtin .append, #[.tmp 27, .tmp 30], #[24, 24]⟩, 24, "ref.go:72", #[⟨5, .data⟩, ⟨8, .data⟩, ⟨4, .chain⟩], none⟩) rfl (fun K hK => ?_) AllReadyH.nil
                refine growN_step (W := wr) (.tmp 27) (.tmp 30) rfl _ _ [] (xs.drop i) rfl rfl (by rfl) G2 (HN2.out.moves M3) M3.size HLL2.out ?_
                intro v2 c4 hG hm hst hL
                rw [List.nil_append] at hG
                have hsl := hG.open
                obtain ⟨ad2, nn2, cap2, rfl, _, _⟩ := hsl
                have M4 : Moves [] wr c4 := M3.trans hm (fun y hy => .inr (G2.1 y (Option.mem_toList.1 hy)))
                have D2 := Ap.lain (by first | exact D.1 | exact D.2) G1 hL
                replace G1 := G1.moves hm (Ap.mem (by first | exact D.1 | exact D.2)) (hst.sub (by rintro t (rfl | rfl | rfl) <;> decide))
                clear D
                have D := Ap.both D2
                clear D2
                replace G2 := hG
                clear hG hm hst hL
                refine hK.out _ _ ?_ (fun hHeld => ?_)
                · trivial
                clear hK K
                try simp only [Act.put, List.setIfInBounds_toArray, List.set_cons_zero, List.set_cons_succ]
                refine wpT 10 ⟨some 4, .assign (.tmp 26), 24, "ref.go:72", #[⟨4, .data⟩, ⟨9, .chain⟩, ⟨0, .phase⟩, ⟨1, .phase⟩, ⟨2, .phase⟩, ⟨3, .phase⟩, ⟨4, .phase⟩, { on := 5, ground := Ground.textOnly Departure.lateStores }, { on := 6, ground := Ground.textOnly Departure.lateStores }, { on := 7, ground := Ground.textOnly Departure.lateStores }, { on := 8, ground := Ground.textOnly Departure.lateStoresUnsure }, { on := 9, ground := Ground.textOnly Departure.lateStoresUnsure }], none⟩ ?_
                try simp only [Act.put, List.setIfInBounds_toArray, List.set_cons_zero, List.set_cons_succ]
                refine wpT 11 ⟨some 5, .assign (.tmp 31), 24, "ref.go:72", #[⟨9, .data⟩, ⟨10, .chain⟩, ⟨0, .phase⟩, ⟨1, .phase⟩, ⟨2, .phase⟩, ⟨3, .phase⟩, ⟨4, .phase⟩, ⟨5, .phase⟩, ⟨6, .phase⟩, ⟨7, .phase⟩, ⟨8, .phase⟩, ⟨9, .phase⟩, ⟨10, .phase⟩], none⟩ ?_
                try simp only [Act.put, List.setIfInBounds_toArray, List.set_cons_zero, List.set_cons_succ]
                refine wpAnyH_done (by kernel_rfl) ?_ _
                refine NoPanic.normal ?_
                go_wp2_with fail
                all_goals go_ret2
                all_goals exact ⟨_, _, rfl, G1.at, G2.at, mr.then M4⟩
              · go_simp
                obtain ⟨c2, hnx⟩ : ∃ c2, c1.alloc (.cells #[] 68) = c2 := ⟨_, rfl⟩
                have hz : c2.heap[c1.heap.size]? = some (.cells #[] 68 (0, 0)) := by rw [← hnx]; exact heap_alloc_new c1 _
                have mz : Moves [] c1 c2 := by rw [← hnx]; exact (Moves.refl _ _).alloc _
                rw [hnx]
                clear hnx
                obtain ⟨z2, hzz⟩ : ∃ z, c1.heap.size = z := ⟨_, rfl⟩
                rw [hzz] at hz ⊢
                have G2 : GrowN wr c2 (.slice (some ⟨z2, 0, none⟩) 0 0) [] := GrowN.mk' (css := []) hz (by have := M1.size; omega) rfl (Nat.le_refl _) (by unfold maxLen; omega) rfl rfl (by simp) trivial
                have M2 : Moves [] wr c2 := M1.then mz
                have D := Ap.both (Ap.new G1 hzz 0 0)
                replace G1 := G1.moves0 mz
                clear mz hz hzz
                refine hK.out _ _ ?_ (fun hHeld => ?_)
                · trivial
                clear hK K
                try simp only [Act.put, List.setIfInBounds_toArray, List.set_cons_zero, List.set_cons_succ]
                refine wpAnyH_ready (rs := [4]) (by kernel_rfl) (by simp) ?_
                refine AllReadyH.cons (o := ⟨some 26, .call ⟨.builtin .append, #[.tmp 22, .tmp 25], #[24, 24]⟩, 24, "ref.go:72", #[⟨0, .data⟩, ⟨3, .data⟩], none⟩) rfl (fun K hK => ?_) AllReadyH.nil
                refine growN_step (W := wr) (.tmp 22) (.tmp 25) rfl _ _ [] (xs.take i) rfl rfl (by rfl) G1 (HN1.out.moves M2) M2.size HLL1.out ?_
                intro v1 c3 hG hm hst hL
                rw [List.nil_append] at hG
                have hsl := hG.open
                obtain ⟨ad1, nn1, cap1, rfl, _, _⟩ := hsl
                have M3 : Moves [] wr c3 := M2.trans hm (fun y hy => .inr (G1.1 y (Option.mem_toList.1 hy)))
                have D2 := Ap.lain (by first | exact D.1 | exact D.2) G2 hL
                replace G2 := G2.moves hm (Ap.mem (by first | exact D.1 | exact D.2)) (hst.sub (by rintro t (rfl | rfl | rfl) <;> decide))
                clear D
                have D := Ap.both D2
                clear D2
                replace G1 := hG
                clear hG hm hst hL
                refine hK.out _ _ ?_ (fun hHeld => ?_)
                · trivial
                clear hK K
                try simp only [Act.put, List.setIfInBounds_toArray, List.set_cons_zero, List.set_cons_succ]
                refine wpAnyH_ready (rs := [9]) (by kernel_rfl) (by simp) ?_
                refine AllReadyH.cons (o := ⟨some 31, .call ⟨.builtin .append, #[.tmp 27, .tmp 30], #[24, 24]⟩, 24, "ref.go:72", #[⟨5, .data⟩, ⟨8, .data⟩, ⟨4, .chain⟩], none⟩) rfl (fun K hK => ?_) AllReadyH.nil
                refine growN_step (W := wr) (.tmp 27) (.tmp 30) rfl _ _ [] (xs.drop i) rfl rfl (by rfl) G2 (HN2.out.moves M3) M3.size HLL2.out ?_
                intro v2 c4 hG hm hst hL
                rw [List.nil_append] at hG
                have hsl := hG.open
                obtain ⟨ad2, nn2, cap2, rfl, _, _⟩ := hsl
                have M4 : Moves [] wr c4 := M3.trans hm (fun y hy => .inr (G2.1 y (Option.mem_toList.1 hy)))
                have D2 := Ap.lain (by first | exact D.1 | exact D.2) G1 hL
                replace G1 := G1.moves hm (Ap.mem (by first | exact D.1 | exact D.2)) (hst.sub (by rintro t (rfl | rfl | rfl) <;> decide))
                clear D
                have D := Ap.both D2
                clear D2
                replace G2 := hG
                clear hG hm hst hL
                refine hK.out _ _ ?_ (fun hHeld => ?_)
                · trivial
                clear hK K
                try simp only [Act.put, List.setIfInBounds_toArray, List.set_cons_zero, List.set_cons_succ]
                refine wpT 10 ⟨some 4, .assign (.tmp 26), 24, "ref.go:72", #[⟨4, .data⟩, ⟨9, .chain⟩, ⟨0, .phase⟩, ⟨1, .phase⟩, ⟨2, .phase⟩, ⟨3, .phase⟩, ⟨4, .phase⟩, { on := 5, ground := Ground.textOnly Departure.lateStores }, { on := 6, ground := Ground.textOnly Departure.lateStores }, { on := 7, ground := Ground.textOnly Departure.lateStores }, { on := 8, ground := Ground.textOnly Departure.lateStoresUnsure }, { on := 9, ground := Ground.textOnly Departure.lateStoresUnsure }], none⟩ ?_
                try simp only [Act.put, List.setIfInBounds_toArray, List.set_cons_zero, List.set_cons_succ]
                refine wpT 11 ⟨some 5, .assign (.tmp 31), 24, "ref.go:72", #[⟨9, .data⟩, ⟨10, .chain⟩, ⟨0, .phase⟩, ⟨1, .phase⟩, ⟨2, .phase⟩, ⟨3, .phase⟩, ⟨4, .phase⟩, ⟨5, .phase⟩, ⟨6, .phase⟩, ⟨7, .phase⟩, ⟨8, .phase⟩, ⟨9, .phase⟩, ⟨10, .phase⟩], none⟩ ?_
                try simp only [Act.put, List.setIfInBounds_toArray, List.set_cons_zero, List.set_cons_succ]
                refine wpAnyH_done (by kernel_rfl) ?_ _
                refine NoPanic.normal ?_
                go_wp2_with fail
                all_goals go_ret2
                all_goals exact ⟨_, _, rfl, G1.at, G2.at, mr.then M4⟩
            · go_simp
              obtain ⟨c1, hnx⟩ : ∃ c1, (wr.alloc (.cells #[] 68)).drew = c1 := ⟨_, rfl⟩
              have hz : c1.heap[wr.heap.size]? = some (.cells #[] 68 (0, 0)) := by rw [← hnx]; exact heap_alloc_new wr _
              have mz : Moves [] wr c1 := by rw [← hnx]; exact ((Moves.refl _ _).alloc _).drew
              rw [hnx]
              clear hnx
              obtain ⟨z2, hzz⟩ : ∃ z, wr.heap.size = z := ⟨_, rfl⟩
              rw [hzz] at hz ⊢
              have G2 : GrowN wr c1 (.slice (some ⟨z2, 0, none⟩) 0 0) [] := GrowN.mk' (css := []) hz (by have := (Moves.refl [] wr).size; omega) rfl (Nat.le_refl _) (by unfold maxLen; omega) rfl rfl (by simp) trivial
              have M1 : Moves [] wr c1 := (Moves.refl [] wr).then mz
              clear mz hz hzz
              refine hK.out _ _ ?_ (fun hHeld => ?_)
              · trivial
              clear hK K
              try simp only [Act.put, List.setIfInBounds_toArray, List.set_cons_zero, List.set_cons_succ]
              refine wpAnyH_ready (rs := [0]) (by kernel_rfl) (by simp) ?_
              refine AllReadyH.cons (o := ⟨some 22, .buildSlice 24 0 #[], 24, "ref.go:72", #[], none⟩) rfl (fun K hK => ?_) AllReadyH.nil
              go_simp
              obtain ⟨c2, hnx⟩ : ∃ c2, c1.alloc (.cells #[] 68) = c2 := ⟨_, rfl⟩
              have hz : c2.heap[c1.heap.size]? = some (.cells #[] 68 (0, 0)) := by rw [← hnx]; exact heap_alloc_new c1 _
              have mz : Moves [] c1 c2 := by rw [← hnx]; exact (Moves.refl _ _).alloc _
              rw [hnx]
              clear hnx
              obtain ⟨z1, hzz⟩ : ∃ z, c1.heap.size = z := ⟨_, rfl⟩
              rw [hzz] at hz ⊢
              have G1 : GrowN wr c2 (.slice (some ⟨z1, 0, none⟩) 0 0) [] := GrowN.mk' (css := []) hz (by have := M1.size; omega) rfl (Nat.le_refl _) (by unfold maxLen; omega) rfl rfl (by simp) trivial
              have M2 : Moves [] wr c2 := M1.then mz
              have D := Ap.both (Ap.new G2 hzz 0 0)
              replace G2 := G2.moves0 mz
              clear mz hz hzz
              refine hK.out _ _ ?_ (fun hHeld => ?_)
              · trivial
              clear hK K
              try simp only [Act.put, List.setIfInBounds_toArray, List.set_cons_zero, List.set_cons_succ]
              refine wpAnyH_ready (rs := [4]) (by kernel_rfl) (by simp) ?_
              refine AllReadyH.cons (o := ⟨some 26, .call ⟨.builtin .append, #[.tmp 22, .tmp 25], #[24, 24]⟩, 24, "ref.go:72", #[⟨0, .data⟩, ⟨3, .data⟩], none⟩) rfl (fun K hK => ?_) AllReadyH.nil
              refine growN_step (W := wr) (.tmp 22) (.tmp 25) rfl _ _ [] (xs.take i) rfl rfl (by rfl) G1 (HN1.out.moves M2) M2.size HLL1.out ?_
              intro v1 c3 hG hm hst hL
              rw [List.nil_append] at hG
              have hsl := hG.open
              obtain ⟨ad1, nn1, cap1, rfl, _, _⟩ := hsl
              have M3 : Moves [] wr c3 := M2.trans hm (fun y hy => .inr (G1.1 y (Option.mem_toList.1 hy)))
              have D2 := Ap.lain (by first | exact D.1 | exact D.2) G2 hL
              replace G2 := G2.moves hm (Ap.mem (by first | exact D.1 | exact D.2)) (hst.sub (by rintro t (rfl | rfl | rfl) <;> decide))
              clear D
              have D := Ap.both D2
              clear D2
              replace G1 := hG
              clear hG hm hst hL
              refine hK.out _ _ ?_ (fun hHeld => ?_)
              · trivial
              clear hK K
              try simp only [Act.put, List.setIfInBounds_toArray, List.set_cons_zero, List.set_cons_succ]
              refine wpAnyH_ready (rs := [9]) (by kernel_rfl) (by simp) ?_
              refine AllReadyH.cons (o := ⟨some 31, .call ⟨.builtin .append, #[.tmp 27, .tmp 30], #[24, 24]⟩, 24, "ref.go:72", #[⟨5, .data⟩, ⟨8, .data⟩, ⟨4, .chain⟩], none⟩) rfl (fun K hK => ?_) AllReadyH.nil
              refine growN_step (W := wr) (.tmp 27) (.tmp 30) rfl _ _ [] (xs.drop i) rfl rfl (by rfl) G2 (HN2.out.moves M3) M3.size HLL2.out ?_
              intro v2 c4 hG hm hst hL
              rw [List.nil_append] at hG
              have hsl := hG.open
              obtain ⟨ad2, nn2, cap2, rfl, _, _⟩ := hsl
              have M4 : Moves [] wr c4 := M3.trans hm (fun y hy => .inr (G2.1 y (Option.mem_toList.1 hy)))
              have D2 := Ap.lain (by first | exact D.1 | exact D.2) G1 hL
              replace G1 := G1.moves hm (Ap.mem (by first | exact D.1 | exact D.2)) (hst.sub (by rintro t (rfl | rfl | rfl) <;> decide))
              clear D
              have D := Ap.both D2
              clear D2
              replace G2 := hG
              clear hG hm hst hL
              refine hK.out _ _ ?_ (fun hHeld => ?_)
              · trivial
              clear hK K
              try simp only [Act.put, List.setIfInBounds_toArray, List.set_cons_zero, List.set_cons_succ]
              refine wpT 10 ⟨some 4, .assign (.tmp 26), 24, "ref.go:72", #[⟨4, .data⟩, ⟨9, .chain⟩, ⟨0, .phase⟩, ⟨1, .phase⟩, ⟨2, .phase⟩, ⟨3, .phase⟩, ⟨4, .phase⟩, { on := 5, ground := Ground.textOnly Departure.lateStores }, { on := 6, ground := Ground.textOnly Departure.lateStores }, { on := 7, ground := Ground.textOnly Departure.lateStores }, { on := 8, ground := Ground.textOnly Departure.lateStoresUnsure }, { on := 9, ground := Ground.textOnly Departure.lateStoresUnsure }], none⟩ ?_
              try simp only [Act.put, List.setIfInBounds_toArray, List.set_cons_zero, List.set_cons_succ]
              refine wpT 11 ⟨some 5, .assign (.tmp 31), 24, "ref.go:72", #[⟨9, .data⟩, ⟨10, .chain⟩, ⟨0, .phase⟩, ⟨1, .phase⟩, ⟨2, .phase⟩, ⟨3, .phase⟩, ⟨4, .phase⟩, ⟨5, .phase⟩, ⟨6, .phase⟩, ⟨7, .phase⟩, ⟨8, .phase⟩, ⟨9, .phase⟩, ⟨10, .phase⟩], none⟩ ?_
              try simp only [Act.put, List.setIfInBounds_toArray, List.set_cons_zero, List.set_cons_succ]
              refine wpAnyH_done (by kernel_rfl) ?_ _
              refine NoPanic.normal ?_
              go_wp2_with fail
              all_goals go_ret2
              all_goals exact ⟨_, _, rfl, G1.at, G2.at, mr.then M4⟩
          | some r =>
            obtain rfl : n = 0 := by
              cases hxs : xs with
              | nil => rw [HN.out, hxs]; rfl
              | cons x l =>
                obtain ⟨g', off', _, _, _, hg, _⟩ := HA.out.at (k := 0) (x := x) (by rw [hxs]; rfl)
                simp at hg
            obtain rfl : i = 0 := by omega
            simp only [Option.map_some, Nat.zero_mul, Addr.add, if_true, ite_self] at HN2
            go_wp2_with fail
            refine wp_region_noPanic ?_
            refine wp_region_held_drew (S := (fun _ => True)) (by kernel_rfl) ?_ (fun hHeld => ?_)
            · first | (go_keep; done) | trivial
            refine wpT 1 ⟨some 23, .move (.tmp 0), 24, "ref.go:72", #[], none⟩ ?_
            try simp only [Act.put, List.setIfInBounds_toArray, List.set_cons_zero, List.set_cons_succ]
            refine wpT 2 ⟨some 24, .move (.tmp 6), 3, "ref.go:72", #[], none⟩ ?_
            try simp only [Act.put, List.setIfInBounds_toArray, List.set_cons_zero, List.set_cons_succ]
            refine wpT 3 ⟨some 25, .slice 24 (.tmp 23) none (some (.tmp 24)) none, 24, "ref.go:72", #[⟨1, .data⟩, ⟨2, .data⟩], none⟩ ?_
            try simp only [Act.put, List.setIfInBounds_toArray, List.set_cons_zero, List.set_cons_succ]
            refine wpT 6 ⟨some 28, .move (.tmp 0), 24, "ref.go:72", #[], none⟩ ?_
            try simp only [Act.put, List.setIfInBounds_toArray, List.set_cons_zero, List.set_cons_succ]
            refine wpT 7 ⟨some 29, .move (.tmp 6), 3, "ref.go:72", #[], none⟩ ?_
            try simp only [Act.put, List.setIfInBounds_toArray, List.set_cons_zero, List.set_cons_succ]
            refine wpT 8 ⟨some 30, .slice 24 (.tmp 28) (some (.tmp 29)) none none, 24, "ref.go:72", #[⟨6, .data⟩, ⟨7, .data⟩], none⟩ ?_
            try simp only [Act.put, List.setIfInBounds_toArray, List.set_cons_zero, List.set_cons_succ]
            refine wpAnyH_ready (rs := [0, 5]) (by kernel_rfl) (by simp) ?_
            refine AllReadyH.cons (o := ⟨some 22, .buildSlice 24 0 #[], 24, "ref.go:72", #[], none⟩) rfl (fun K hK => ?_) (AllReadyH.cons (o := ⟨some 27, .buildSlice 24 0 #[], 24, "ref.go:72", #[], none⟩) rfl (fun K hK => ?_) AllReadyH.nil)
            · go_simp
              obtain ⟨c1, hnx⟩ : ∃ c1, (wr.alloc (.cells #[] 68)).drew = c1 := ⟨_, rfl⟩
              have hz : c1.heap[wr.heap.size]? = some (.cells #[] 68 (0, 0)) := by rw [← hnx]; exact heap_alloc_new wr _
              have mz : Moves [] wr c1 := by rw [← hnx]; exact ((Moves.refl _ _).alloc _).drew
              rw [hnx]
              clear hnx
              obtain ⟨z1, hzz⟩ : ∃ z, wr.heap.size = z := ⟨_, rfl⟩
              rw [hzz] at hz ⊢
              have G1 : GrowN wr c1 (.slice (some ⟨z1, 0, none⟩) 0 0) [] := GrowN.mk' (css := []) hz (by have := (Moves.refl [] wr).size; omega) rfl (Nat.le_refl _) (by unfold maxLen; omega) rfl rfl (by simp) trivial
              have M1 : Moves [] wr c1 := (Moves.refl [] wr).then mz
              clear mz hz hzz
              refine hK.out _ _ ?_ (fun hHeld => ?_)
              · trivial
              clear hK K
              try simp only [Act.put, List.setIfInBounds_toArray, List.set_cons_zero, List.set_cons_succ]
              refine wpAnyH_ready (rs := [4, 5]) (by kernel_rfl) (by simp) ?_
              refine AllReadyH.cons (o := ⟨some 26, .call ⟨.builtin .append, #[.tmp 22, .tmp 25], #[24, 24]⟩, 24, "ref.go:72", #[⟨0, .data⟩, ⟨3, .data⟩], none⟩) rfl (fun K hK => ?_) (AllReadyH.cons (o := ⟨some 27, .buildSlice 24 0 #[], 24, "ref.go:72", #[], none⟩) rfl (fun K hK => ?_) AllReadyH.nil)
              · refine growN_step (W := wr) (.tmp 22) (.tmp 25) rfl _ _ [] (xs.take 0) rfl rfl (by rfl) G1 (HN1.out.moves M1) M1.size HLL1.out ?_
                intro v1 c2 hG hm hst hL
                rw [List.nil_append] at hG
                have hsl := hG.open
                obtain ⟨ad1, nn1, cap1, rfl, _, _⟩ := hsl
                have M2 : Moves [] wr c2 := M1.trans hm (fun y hy => .inr (G1.1 y (Option.mem_toList.1 hy)))
                replace G1 := hG
                clear hG hm hst hL
                refine hK.out _ _ ?_ (fun hHeld => ?_)
                · trivial
                clear hK K
                try simp only [Act.put, List.setIfInBounds_toArray, List.set_cons_zero, List.set_cons_succ]
                refine wpAnyH_ready (rs := [5]) (by kernel_rfl) (by simp) ?_
                refine AllReadyH.cons (o := ⟨some 27, .buildSlice 24 0 #[], 24, "ref.go:72", #[], none⟩) rfl (fun K hK => ?_) AllReadyH.nil
                go_simp
                obtain ⟨c3, hnx⟩ : ∃ c3, c2.alloc (.cells #[] 68) = c3 := ⟨_, rfl⟩
                have hz : c3.heap[c2.heap.size]? = some (.cells #[] 68 (0, 0)) := by rw [← hnx]; exact heap_alloc_new c2 _
                have mz : Moves [] c2 c3 := by rw [← hnx]; exact (Moves.refl _ _).alloc _
                rw [hnx]
                clear hnx
                obtain ⟨z2, hzz⟩ : ∃ z, c2.heap.size = z := ⟨_, rfl⟩
                rw [hzz] at hz ⊢
                have G2 : GrowN wr c3 (.slice (some ⟨z2, 0, none⟩) 0 0) [] := GrowN.mk' (css := []) hz (by have := M2.size; omega) rfl (Nat.le_refl _) (by unfold maxLen; omega) rfl rfl (by simp) trivial
                have M3 : Moves [] wr c3 := M2.then mz
                have D := Ap.both (Ap.new G1 hzz 0 0)
                replace G1 := G1.moves0 mz
                clear mz hz hzz
                refine hK.out _ _ ?_ (fun hHeld => ?_)
                · trivial
                clear hK K
                try simp only [Act.put, List.setIfInBounds_toArray, List.set_cons_zero, List.set_cons_succ]
                refine wpAnyH_ready (rs := [9]) (by kernel_rfl) (by simp) ?_
                refine AllReadyH.cons (o := ⟨some 31, .call ⟨.builtin .append, #[.tmp 27, .tmp 30], #[24, 24]⟩, 24, "ref.go:72", #[⟨5, .data⟩, ⟨8, .data⟩, ⟨4, .chain⟩], none⟩) rfl (fun K hK => ?_) AllReadyH.nil
                refine growN_step (W := wr) (.tmp 27) (.tmp 30) rfl _ _ [] (xs.drop 0) rfl rfl (by rfl) G2 (HN2.out.moves M3) M3.size HLL2.out ?_
                intro v2 c4 hG hm hst hL
                rw [List.nil_append] at hG
                have hsl := hG.open
                obtain ⟨ad2, nn2, cap2, rfl, _, _⟩ := hsl
                have M4 : Moves [] wr c4 := M3.trans hm (fun y hy => .inr (G2.1 y (Option.mem_toList.1 hy)))
                have D2 := Ap.lain (by first | exact D.1 | exact D.2) G1 hL
                replace G1 := G1.moves hm (Ap.mem (by first | exact D.1 | exact D.2)) (hst.sub (by rintro t (rfl | rfl | rfl) <;> decide))
                clear D
                have D := Ap.both D2
                clear D2
                replace G2 := hG
                clear hG hm hst hL
                refine hK.out _ _ ?_ (fun hHeld => ?_)
                · trivial
                clear hK K
                try simp only [Act.put, List.setIfInBounds_toArray, List.set_cons_zero, List.set_cons_succ]
                refine wpT 10 ⟨some 4, .assign (.tmp 26), 24, "ref.go:72", #[⟨4, .data⟩, ⟨9, .chain⟩, ⟨0, .phase⟩, ⟨1, .phase⟩, ⟨2, .phase⟩, ⟨3, .phase⟩, ⟨4, .phase⟩, { on := 5, ground := Ground.textOnly Departure.lateStores }, { on := 6, ground := Ground.textOnly Departure.lateStores }, { on := 7, ground := Ground.textOnly Departure.lateStores }, { on := 8, ground := Ground.textOnly Departure.lateStoresUnsure }, { on := 9, ground := Ground.textOnly Departure.lateStoresUnsure }], none⟩ ?_
                try simp only [Act.put, List.setIfInBounds_toArray, List.set_cons_zero, List.set_cons_succ]
                refine wpT 11 ⟨some 5, .assign (.tmp 31), 24, "ref.go:72", #[⟨9, .data⟩, ⟨10, .chain⟩, ⟨0, .phase⟩, ⟨1, .phase⟩, ⟨2, .phase⟩, ⟨3, .phase⟩, ⟨4, .phase⟩, ⟨5, .phase⟩, ⟨6, .phase⟩, ⟨7, .phase⟩, ⟨8, .phase⟩, ⟨9, .phase⟩, ⟨10, .phase⟩], none⟩ ?_
                try simp only [Act.put, List.setIfInBounds_toArray, List.set_cons_zero, List.set_cons_succ]
                refine wpAnyH_done (by kernel_rfl) ?_ _
                refine NoPanic.normal ?_
                go_wp2_with fail
                all_goals go_ret2
                all_goals exact ⟨_, _, rfl, G1.at, G2.at, mr.then M4⟩
              · go_simp
                obtain ⟨c2, hnx⟩ : ∃ c2, c1.alloc (.cells #[] 68) = c2 := ⟨_, rfl⟩
                have hz : c2.heap[c1.heap.size]? = some (.cells #[] 68 (0, 0)) := by rw [← hnx]; exact heap_alloc_new c1 _
                have mz : Moves [] c1 c2 := by rw [← hnx]; exact (Moves.refl _ _).alloc _
                rw [hnx]
                clear hnx
                obtain ⟨z2, hzz⟩ : ∃ z, c1.heap.size = z := ⟨_, rfl⟩
                rw [hzz] at hz ⊢
                have G2 : GrowN wr c2 (.slice (some ⟨z2, 0, none⟩) 0 0) [] := GrowN.mk' (css := []) hz (by have := M1.size; omega) rfl (Nat.le_refl _) (by unfold maxLen; omega) rfl rfl (by simp) trivial
                have M2 : Moves [] wr c2 := M1.then mz
                have D := Ap.both (Ap.new G1 hzz 0 0)
                replace G1 := G1.moves0 mz
                clear mz hz hzz
                refine hK.out _ _ ?_ (fun hHeld => ?_)
                · trivial
                clear hK K
                try simp only [Act.put, List.setIfInBounds_toArray, List.set_cons_zero, List.set_cons_succ]
                refine wpAnyH_ready (rs := [4]) (by kernel_rfl) (by simp) ?_
                refine AllReadyH.cons (o := ⟨some 26, .call ⟨.builtin .append, #[.tmp 22, .tmp 25], #[24, 24]⟩, 24, "ref.go:72", #[⟨0, .data⟩, ⟨3, .data⟩], none⟩) rfl (fun K hK => ?_) AllReadyH.nil
                refine growN_step (W := wr) (.tmp 22) (.tmp 25) rfl _ _ [] (xs.take 0) rfl rfl (by rfl) G1 (HN1.out.moves M2) M2.size HLL1.out ?_
                intro v1 c3 hG hm hst hL
                rw [List.nil_append] at hG
                have hsl := hG.open
                obtain ⟨ad1, nn1, cap1, rfl, _, _⟩ := hsl
                have M3 : Moves [] wr c3 := M2.trans hm (fun y hy => .inr (G1.1 y (Option.mem_toList.1 hy)))
                have D2 := Ap.lain (by first | exact D.1 | exact D.2) G2 hL
                replace G2 := G2.moves hm (Ap.mem (by first | exact D.1 | exact D.2)) (hst.sub (by rintro t (rfl | rfl | rfl) <;> decide))
                clear D
                have D := Ap.both D2
                clear D2
                replace G1 := hG
                clear hG hm hst hL
                refine hK.out _ _ ?_ (fun hHeld => ?_)
                · trivial
                clear hK K
                try simp only [Act.put, List.setIfInBounds_toArray, List.set_cons_zero, List.set_cons_succ]
                refine wpAnyH_ready (rs := [9]) (by kernel_rfl) (by simp) ?_
                refine AllReadyH.cons (o := ⟨some 31, .call ⟨.builtin .append, #[.tmp 27, .tmp 30], #[24, 24]⟩, 24, "ref.go:72", #[⟨5, .data⟩, ⟨8, .data⟩, ⟨4, .chain⟩], none⟩) rfl (fun K hK => ?_) AllReadyH.nil
                refine growN_step (W := wr) (.tmp 27) (.tmp 30) rfl _ _ [] (xs.drop 0) rfl rfl (by rfl) G2 (HN2.out.moves M3) M3.size HLL2.out ?_
                intro v2 c4 hG hm hst hL
                rw [List.nil_append] at hG
                have hsl := hG.open
                obtain ⟨ad2, nn2, cap2, rfl, _, _⟩ := hsl
                have M4 : Moves [] wr c4 := M3.trans hm (fun y hy => .inr (G2.1 y (Option.mem_toList.1 hy)))
                have D2 := Ap.lain (by first | exact D.1 | exact D.2) G1 hL
                replace G1 := G1.moves hm (Ap.mem (by first | exact D.1 | exact D.2)) (hst.sub (by rintro t (rfl | rfl | rfl) <;> decide))
                clear D
                have D := Ap.both D2
                clear D2
                replace G2 := hG
                clear hG hm hst hL
                refine hK.out _ _ ?_ (fun hHeld => ?_)
                · trivial
                clear hK K
                try simp only [Act.put, List.setIfInBounds_toArray, List.set_cons_zero, List.set_cons_succ]
                refine wpT 10 ⟨some 4, .assign (.tmp 26), 24, "ref.go:72", #[⟨4, .data⟩, ⟨9, .chain⟩, ⟨0, .phase⟩, ⟨1, .phase⟩, ⟨2, .phase⟩, ⟨3, .phase⟩, ⟨4, .phase⟩, { on := 5, ground := Ground.textOnly Departure.lateStores }, { on := 6, ground := Ground.textOnly Departure.lateStores }, { on := 7, ground := Ground.textOnly Departure.lateStores }, { on := 8, ground := Ground.textOnly Departure.lateStoresUnsure }, { on := 9, ground := Ground.textOnly Departure.lateStoresUnsure }], none⟩ ?_
                try simp only [Act.put, List.setIfInBounds_toArray, List.set_cons_zero, List.set_cons_succ]
                refine wpT 11 ⟨some 5, .assign (.tmp 31), 24, "ref.go:72", #[⟨9, .data⟩, ⟨10, .chain⟩, ⟨0, .phase⟩, ⟨1, .phase⟩, ⟨2, .phase⟩, ⟨3, .phase⟩, ⟨4, .phase⟩, ⟨5, .phase⟩, ⟨6, .phase⟩, ⟨7, .phase⟩, ⟨8, .phase⟩, ⟨9, .phase⟩, ⟨10, .phase⟩], none⟩ ?_
                try simp only [Act.put, List.setIfInBounds_toArray, List.set_cons_zero, List.set_cons_succ]
                refine wpAnyH_done (by kernel_rfl) ?_ _
                refine NoPanic.normal ?_
                go_wp2_with fail
                all_goals go_ret2
                all_goals exact ⟨_, _, rfl, G1.at, G2.at, mr.then M4⟩
            · go_simp
              obtain ⟨c1, hnx⟩ : ∃ c1, (wr.alloc (.cells #[] 68)).drew = c1 := ⟨_, rfl⟩
              have hz : c1.heap[wr.heap.size]? = some (.cells #[] 68 (0, 0)) := by rw [← hnx]; exact heap_alloc_new wr _
              have mz : Moves [] wr c1 := by rw [← hnx]; exact ((Moves.refl _ _).alloc _).drew
              rw [hnx]
              clear hnx
              obtain ⟨z2, hzz⟩ : ∃ z, wr.heap.size = z := ⟨_, rfl⟩
              rw [hzz] at hz ⊢
              have G2 : GrowN wr c1 (.slice (some ⟨z2, 0, none⟩) 0 0) [] := GrowN.mk' (css := []) hz (by have := (Moves.refl [] wr).size; omega) rfl (Nat.le_refl _) (by unfold maxLen; omega) rfl rfl (by simp) trivial
              have M1 : Moves [] wr c1 := (Moves.refl [] wr).then mz
              clear mz hz hzz
              refine hK.out _ _ ?_ (fun hHeld => ?_)
              · trivial
              clear hK K
              try simp only [Act.put, List.setIfInBounds_toArray, List.set_cons_zero, List.set_cons_succ]
              refine wpAnyH_ready (rs := [0]) (by kernel_rfl) (by simp) ?_
              refine AllReadyH.cons (o := ⟨some 22, .buildSlice 24 0 #[], 24, "ref.go:72", #[], none⟩) rfl (fun K hK => ?_) AllReadyH.nil
              go_simp
              obtain ⟨c2, hnx⟩ : ∃ c2, c1.alloc (.cells #[] 68) = c2 := ⟨_, rfl⟩
              have hz : c2.heap[c1.heap.size]? = some (.cells #[] 68 (0, 0)) := by rw [← hnx]; exact heap_alloc_new c1 _
              have mz : Moves [] c1 c2 := by rw [← hnx]; exact (Moves.refl _ _).alloc _
              rw [hnx]
              clear hnx
              obtain ⟨z1, hzz⟩ : ∃ z, c1.heap.size = z := ⟨_, rfl⟩
              rw [hzz] at hz ⊢
              have G1 : GrowN wr c2 (.slice (some ⟨z1, 0, none⟩) 0 0) [] := GrowN.mk' (css := []) hz (by have := M1.size; omega) rfl (Nat.le_refl _) (by unfold maxLen; omega) rfl rfl (by simp) trivial
              have M2 : Moves [] wr c2 := M1.then mz
              have D := Ap.both (Ap.new G2 hzz 0 0)
              replace G2 := G2.moves0 mz
              clear mz hz hzz
              refine hK.out _ _ ?_ (fun hHeld => ?_)
              · trivial
              clear hK K
              try simp only [Act.put, List.setIfInBounds_toArray, List.set_cons_zero, List.set_cons_succ]
              refine wpAnyH_ready (rs := [4]) (by kernel_rfl) (by simp) ?_
              refine AllReadyH.cons (o := ⟨some 26, .call ⟨.builtin .append, #[.tmp 22, .tmp 25], #[24, 24]⟩, 24, "ref.go:72", #[⟨0, .data⟩, ⟨3, .data⟩], none⟩) rfl (fun K hK => ?_) AllReadyH.nil
              refine growN_step (W := wr) (.tmp 22) (.tmp 25) rfl _ _ [] (xs.take 0) rfl rfl (by rfl) G1 (HN1.out.moves M2) M2.size HLL1.out ?_
              intro v1 c3 hG hm hst hL
              rw [List.nil_append] at hG
              have hsl := hG.open
              obtain ⟨ad1, nn1, cap1, rfl, _, _⟩ := hsl
              have M3 : Moves [] wr c3 := M2.trans hm (fun y hy => .inr (G1.1 y (Option.mem_toList.1 hy)))
              have D2 := Ap.lain (by first | exact D.1 | exact D.2) G2 hL
              replace G2 := G2.moves hm (Ap.mem (by first | exact D.1 | exact D.2)) (hst.sub (by rintro t (rfl | rfl | rfl) <;> decide))
              clear D
              have D := Ap.both D2
              clear D2
              replace G1 := hG
              clear hG hm hst hL
              refine hK.out _ _ ?_ (fun hHeld => ?_)
              · trivial
              clear hK K
              try simp only [Act.put, List.setIfInBounds_toArray, List.set_cons_zero, List.set_cons_succ]
              refine wpAnyH_ready (rs := [9]) (by kernel_rfl) (by simp) ?_
              refine AllReadyH.cons (o := ⟨some 31, .call ⟨.builtin .append, #[.tmp 27, .tmp 30], #[24, 24]⟩, 24, "ref.go:72", #[⟨5, .data⟩, ⟨8, .data⟩, ⟨4, .chain⟩], none⟩) rfl (fun K hK => ?_) AllReadyH.nil
              refine growN_step (W := wr) (.tmp 27) (.tmp 30) rfl _ _ [] (xs.drop 0) rfl rfl (by rfl) G2 (HN2.out.moves M3) M3.size HLL2.out ?_
              intro v2 c4 hG hm hst hL
              rw [List.nil_append] at hG
              have hsl := hG.open
              obtain ⟨ad2, nn2, cap2, rfl, _, _⟩ := hsl
              have M4 : Moves [] wr c4 := M3.trans hm (fun y hy => .inr (G2.1 y (Option.mem_toList.1 hy)))
              have D2 := Ap.lain (by first | exact D.1 | exact D.2) G1 hL
              replace G1 := G1.moves hm (Ap.mem (by first | exact D.1 | exact D.2)) (hst.sub (by rintro t (rfl | rfl | rfl) <;> decide))
              clear D
              have D := Ap.both D2
              clear D2
              replace G2 := hG
              clear hG hm hst hL
              refine hK.out _ _ ?_ (fun hHeld => ?_)
              · trivial
              clear hK K
              try simp only [Act.put, List.setIfInBounds_toArray, List.set_cons_zero, List.set_cons_succ]
              refine wpT 10 ⟨some 4, .assign (.tmp 26), 24, "ref.go:72", #[⟨4, .data⟩, ⟨9, .chain⟩, ⟨0, .phase⟩, ⟨1, .phase⟩, ⟨2, .phase⟩, ⟨3, .phase⟩, ⟨4, .phase⟩, { on := 5, ground := Ground.textOnly Departure.lateStores }, { on := 6, ground := Ground.textOnly Departure.lateStores }, { on := 7, ground := Ground.textOnly Departure.lateStores }, { on := 8, ground := Ground.textOnly Departure.lateStoresUnsure }, { on := 9, ground := Ground.textOnly Departure.lateStoresUnsure }], none⟩ ?_
              try simp only [Act.put, List.setIfInBounds_toArray, List.set_cons_zero, List.set_cons_succ]
              refine wpT 11 ⟨some 5, .assign (.tmp 31), 24, "ref.go:72", #[⟨9, .data⟩, ⟨10, .chain⟩, ⟨0, .phase⟩, ⟨1, .phase⟩, ⟨2, .phase⟩, ⟨3, .phase⟩, ⟨4, .phase⟩, ⟨5, .phase⟩, ⟨6, .phase⟩, ⟨7, .phase⟩, ⟨8, .phase⟩, ⟨9, .phase⟩, ⟨10, .phase⟩], none⟩ ?_
              try simp only [Act.put, List.setIfInBounds_toArray, List.set_cons_zero, List.set_cons_succ]
              refine wpAnyH_done (by kernel_rfl) ?_ _
              refine NoPanic.normal ?_
              go_wp2_with fail
              all_goals go_ret2
              all_goals exact ⟨_, _, rfl, G1.at, G2.at, mr.then M4⟩
end Go.Proofs.YtcngllcifcpbkaaGreat
