/- ours -/
import Derived.Test.YtilbbnmhnacnlaaGreatCOn3
namespace Go.Proofs.YtilbbnmhnacnlaaGreat
open Go.RowKit

set_option maxRecDepth 100000 in
set_option maxHeartbeats 8000000 in
theorem oput_ins (W w : World) (p : Nat) (xs : List Pt) (c s : Int) (z : ByteArray) (ad : Option Addr) (n cap i : Nat) (hp : w.heap[p]? = some (.cells #[.slice ad n cap] 108 (0, 0))) (hG : GrowT W w (.slice ad n cap) xs) (hn : Hid (n = xs.length)) (hrise : RiseT xs) (hl : n ≤ 1000) (hP : PlaceT xs c i) (hhas : hasT xs c i = false) (hW : W.heap.size ≤ w.heap.size) :
    Calls Tryz.prog 149 #[.pointer (some ⟨p, 0, none⟩), .agg #[.int .i64 c, .int .i64 s, .string z]] w fun e w' => e = .returned (.bool true) ∧ ∃ a', CaTo W w p (Value.slice ad n cap).ownBlock w' a' (xs.take i ++ [⟨c, s, z⟩] ++ xs.drop i) := by
  have HT : Hid (CaIs W w p (Value.slice ad n cap).ownBlock xs) := ⟨_, hp, rfl, hG⟩
  have HG : Hid (GrowT W w (.slice ad n cap) xs) := hG
  have hlt := lt_of_block hp
  have hcn : n ≤ cap := by
    obtain ⟨_, _, _, e0, _, hc⟩ := hG.open
    simp at e0
    omega
  have m0 : Moves [] w (w.alloc (.cells #[.int .i64 c, .int .i64 s, .string z] 173)) := (Moves.refl [] w).alloc _
  have hb0 := heap_alloc_new w (.cells #[.int .i64 c, .int .i64 s, .string z] 173)
  have hl' : xs.length ≤ 1000000 := by have := hn.out; omega
  have hpl := oplace_w W _ p _ xs c i (HT.out.moves0 m0) hrise hl' hP
  rw [hhas] at hpl
  have hile : i ≤ xs.length := hP.le
  have hap : p ∉ (Value.slice ad n cap).ownBlock.toList := HT.out.apart
  have HAB : Hid (∀ k ∈ (Value.slice ad n cap).ownBlock.toList, k < w.heap.size) := fun k hk => by
    obtain ⟨cur, hb⟩ := hG.blk (Option.mem_toList.1 hk)
    exact lt_of_block hb
  clear hG
  obtain ⟨P, hPP⟩ : ∃ P, w.heap.size = P := ⟨_, rfl⟩
  rw [hPP] at hb0
  go_enter Tryz.func149, Tryz.ntmps149
  go_wp2_with (go_at_call 130; refine hpl.mono ?_; rintro _ w2 ⟨rfl, m2⟩; have m02 := m0.then m2; have hp2 := m02.at hp (by simp); have hb2 := m2.at hb0 (by simp); obtain ⟨x1, x2⟩ := one_cell hp2; obtain ⟨y0, y1, y2, _, _, _⟩ := three_cells hb2)
  refine wp_region_noPanic ?_
  refine wp_region_held_drew (S := (fun w' => w'.cell? ⟨P, 0, none⟩ = some (.int .i64 c) ∧ w'.cell? ⟨P, 1, none⟩ = some (.int .i64 s) ∧ w'.cell? ⟨P, 2, none⟩ = some (.string z))) (by kernel_rfl) ?_ (fun hHeld => ?_)
  · first | (go_keep; done) | first | exact ⟨y0, y1, y2⟩ | exact ⟨k0, k1, k2⟩ | exact ⟨l0, l1, l2⟩ | exact ⟨r0, r1, r2⟩
  refine wpT 0 ⟨some 17, .move (.tmp 0), 73, "once.go:84", #[], none⟩ ?_
  refine wpT 1 ⟨some 18, .move (.tmp 0), 73, "once.go:84", #[], none⟩ ?_
  refine wpT 2 ⟨some 19, .nilCheck (.tmp 18), 0, "once.go:84", #[⟨1, .data⟩], none⟩ ?_
  refine wpT 3 ⟨some 20, .fieldAddr 108 (.tmp 19) 0, 0, "once.go:84", #[⟨2, .data⟩], none⟩ ?_
  refine wpT 5 ⟨some 22, .move (.tmp 5), 3, "once.go:84", #[], none⟩ ?_
  refine wpT 6 ⟨some 23, .load 173 (.tmp 3), 173, "once.go:84", #[], none⟩ ?_
  refine wpAnyH_ready (rs := [4, 7]) (by kernel_rfl) (by simp) ?_
  refine AllReadyH.cons (o := ⟨some 21, .load 106 (.tmp 20), 106, "once.go:84", #[⟨3, .data⟩], none⟩) rfl (fun K hK => ?_) (AllReadyH.cons (o := ⟨some 24, .buildSlice 106 1 #[(0, .tmp 23)], 106, "once.go:84", #[⟨6, .data⟩], none⟩) rfl (fun K hK => ?_) AllReadyH.nil)
  · go_simp
    refine hK.out _ _ ?_ (fun hHeld => ?_)
    · first | exact ⟨y0, y1, y2⟩ | exact ⟨k0, k1, k2⟩ | exact ⟨l0, l1, l2⟩ | exact ⟨r0, r1, r2⟩
    clear hK K
    refine wpR 7 ⟨some 24, .buildSlice 106 1 #[(0, .tmp 23)], 106, "once.go:84", #[⟨6, .data⟩], none⟩ (fun K hK => ?_)
    go_simp
    have m6 : Moves [] w2 (w2.alloc (.cells #[.int .i64 c, .int .i64 s, .string z] 173)).drew := ((Moves.refl [] w2).alloc _).drew
    have b6 : (w2.alloc (.cells #[.int .i64 c, .int .i64 s, .string z] 173)).drew.heap[w2.heap.size]? = _ := (boxesW (Moves.refl [] (w2.alloc (.cells #[.int .i64 c, .int .i64 s, .string z] 173)))).1
    have kp := m6.cell x1
    have k0 := m6.cell y0
    have k1 := m6.cell y1
    have k2 := m6.cell y2
    have m06 := m02.then m6
    refine hK.out _ _ ?_ (fun hHeld => ?_)
    · first | exact ⟨y0, y1, y2⟩ | exact ⟨k0, k1, k2⟩ | exact ⟨l0, l1, l2⟩ | exact ⟨r0, r1, r2⟩
    clear hK K
    try simp only [Act.put, sp1, sp2, sp3]
    refine wpR 8 ⟨some 25, .call ⟨.value (.func 185), #[.tmp 21, .tmp 22, .tmp 24], #[106, 3, 106]⟩, 106, "once.go:84", #[⟨4, .data⟩, ⟨5, .data⟩, ⟨7, .data⟩], none⟩ (fun K hK => ?_)
    go_simp
    (go_at_call 185; refine (oinsert_w W _ ad n cap xs i ⟨c, s, z⟩ w2.heap.size (HG.out.moves0 m06) hile hl b6 (by intro hm; have := HAB.out _ hm; have := m02.size; omega) (by have := m06.size; omega)).mono ?_; intro e7 w7 hI; have hI' := hI; obtain ⟨ad7, n7, cap7, rfl, _, mv7, _, _⟩ := hI)
    have hPn : P ∉ (Value.slice ad n cap).ownBlock.toList := by intro hm; have := HAB.out _ hm; omega
    have l0 := mv7.cellOf k0 hPn
    have l1 := mv7.cellOf k1 hPn
    have l2 := mv7.cellOf k2 hPn
    have c7 := mv7.at (m06.at hp (by simp)) hap
    obtain ⟨u1, u2⟩ := one_cell c7
    refine hK.out _ _ ?_ (fun hHeld => ?_)
    · first | exact ⟨y0, y1, y2⟩ | exact ⟨k0, k1, k2⟩ | exact ⟨l0, l1, l2⟩ | exact ⟨r0, r1, r2⟩
    clear hK K
    try simp only [Act.put, sp1, sp2, sp3]
    refine wpT 9 ⟨some 26, .nilCheck (.tmp 17), 0, "once.go:84", #[⟨0, .data⟩, ⟨0, .phase⟩, ⟨1, .phase⟩, ⟨2, .phase⟩, ⟨3, .phase⟩, ⟨4, .phase⟩, ⟨5, .phase⟩, ⟨6, .phase⟩, ⟨7, .phase⟩, ⟨8, .phase⟩], none⟩ ?_
    refine wpT 10 ⟨some 27, .fieldAddr 108 (.tmp 26) 0, 0, "once.go:84", #[⟨9, .data⟩, ⟨0, .phase⟩, ⟨1, .phase⟩, ⟨2, .phase⟩, ⟨3, .phase⟩, ⟨4, .phase⟩, ⟨5, .phase⟩, ⟨6, .phase⟩, ⟨7, .phase⟩, ⟨8, .phase⟩], none⟩ ?_
    refine wpR 11 ⟨none, .store 106 (.tmp 27) (.tmp 25), 0, "once.go:84", #[⟨10, .data⟩, ⟨8, .data⟩, ⟨8, .chain⟩, ⟨0, .phase⟩, ⟨1, .phase⟩, ⟨2, .phase⟩, ⟨3, .phase⟩, ⟨4, .phase⟩, ⟨5, .phase⟩, ⟨6, .phase⟩, ⟨7, .phase⟩, ⟨8, .phase⟩], none⟩ (fun K hK => ?_)
    go_simp
    have mst := moves_set w7 p 0 (.slice ad7 n7 cap7)
    have r0 := mst.cellOf l0 (by simp; omega)
    have r1 := mst.cellOf l1 (by simp; omega)
    have r2 := mst.cellOf l2 (by simp; omega)
    have HZ := CaTo.put hp HG.out m06 hI'
    refine hK.out _ _ ?_ (fun hHeld => ?_)
    · first | exact ⟨y0, y1, y2⟩ | exact ⟨k0, k1, k2⟩ | exact ⟨l0, l1, l2⟩ | exact ⟨r0, r1, r2⟩
    clear hK K
    refine wpAnyH_done (by kernel_rfl) ?_ _
    refine NoPanic.normal ?_
    go_wp
    go_ret
    exact ⟨rfl, _, HZ⟩
  · go_simp
    have m6 : Moves [] w2 (w2.alloc (.cells #[.int .i64 c, .int .i64 s, .string z] 173)).drew := ((Moves.refl [] w2).alloc _).drew
    have b6 : (w2.alloc (.cells #[.int .i64 c, .int .i64 s, .string z] 173)).drew.heap[w2.heap.size]? = _ := (boxesW (Moves.refl [] (w2.alloc (.cells #[.int .i64 c, .int .i64 s, .string z] 173)))).1
    have kp := m6.cell x1
    have k0 := m6.cell y0
    have k1 := m6.cell y1
    have k2 := m6.cell y2
    have m06 := m02.then m6
    refine hK.out _ _ ?_ (fun hHeld => ?_)
    · first | exact ⟨y0, y1, y2⟩ | exact ⟨k0, k1, k2⟩ | exact ⟨l0, l1, l2⟩ | exact ⟨r0, r1, r2⟩
    clear hK K
    try simp only [Act.put, sp1, sp2, sp3]
    refine wpR 4 ⟨some 21, .load 106 (.tmp 20), 106, "once.go:84", #[⟨3, .data⟩], none⟩ (fun K hK => ?_)
    go_simp
    refine hK.out _ _ ?_ (fun hHeld => ?_)
    · first | exact ⟨y0, y1, y2⟩ | exact ⟨k0, k1, k2⟩ | exact ⟨l0, l1, l2⟩ | exact ⟨r0, r1, r2⟩
    clear hK K
    refine wpR 8 ⟨some 25, .call ⟨.value (.func 185), #[.tmp 21, .tmp 22, .tmp 24], #[106, 3, 106]⟩, 106, "once.go:84", #[⟨4, .data⟩, ⟨5, .data⟩, ⟨7, .data⟩], none⟩ (fun K hK => ?_)
    go_simp
    (go_at_call 185; refine (oinsert_w W _ ad n cap xs i ⟨c, s, z⟩ w2.heap.size (HG.out.moves0 m06) hile hl b6 (by intro hm; have := HAB.out _ hm; have := m02.size; omega) (by have := m06.size; omega)).mono ?_; intro e7 w7 hI; have hI' := hI; obtain ⟨ad7, n7, cap7, rfl, _, mv7, _, _⟩ := hI)
    have hPn : P ∉ (Value.slice ad n cap).ownBlock.toList := by intro hm; have := HAB.out _ hm; omega
    have l0 := mv7.cellOf k0 hPn
    have l1 := mv7.cellOf k1 hPn
    have l2 := mv7.cellOf k2 hPn
    have c7 := mv7.at (m06.at hp (by simp)) hap
    obtain ⟨u1, u2⟩ := one_cell c7
    refine hK.out _ _ ?_ (fun hHeld => ?_)
    · first | exact ⟨y0, y1, y2⟩ | exact ⟨k0, k1, k2⟩ | exact ⟨l0, l1, l2⟩ | exact ⟨r0, r1, r2⟩
    clear hK K
    try simp only [Act.put, sp1, sp2, sp3]
    refine wpT 9 ⟨some 26, .nilCheck (.tmp 17), 0, "once.go:84", #[⟨0, .data⟩, ⟨0, .phase⟩, ⟨1, .phase⟩, ⟨2, .phase⟩, ⟨3, .phase⟩, ⟨4, .phase⟩, ⟨5, .phase⟩, ⟨6, .phase⟩, ⟨7, .phase⟩, ⟨8, .phase⟩], none⟩ ?_
    refine wpT 10 ⟨some 27, .fieldAddr 108 (.tmp 26) 0, 0, "once.go:84", #[⟨9, .data⟩, ⟨0, .phase⟩, ⟨1, .phase⟩, ⟨2, .phase⟩, ⟨3, .phase⟩, ⟨4, .phase⟩, ⟨5, .phase⟩, ⟨6, .phase⟩, ⟨7, .phase⟩, ⟨8, .phase⟩], none⟩ ?_
    refine wpR 11 ⟨none, .store 106 (.tmp 27) (.tmp 25), 0, "once.go:84", #[⟨10, .data⟩, ⟨8, .data⟩, ⟨8, .chain⟩, ⟨0, .phase⟩, ⟨1, .phase⟩, ⟨2, .phase⟩, ⟨3, .phase⟩, ⟨4, .phase⟩, ⟨5, .phase⟩, ⟨6, .phase⟩, ⟨7, .phase⟩, ⟨8, .phase⟩], none⟩ (fun K hK => ?_)
    go_simp
    have mst := moves_set w7 p 0 (.slice ad7 n7 cap7)
    have r0 := mst.cellOf l0 (by simp; omega)
    have r1 := mst.cellOf l1 (by simp; omega)
    have r2 := mst.cellOf l2 (by simp; omega)
    have HZ := CaTo.put hp HG.out m06 hI'
    refine hK.out _ _ ?_ (fun hHeld => ?_)
    · first | exact ⟨y0, y1, y2⟩ | exact ⟨k0, k1, k2⟩ | exact ⟨l0, l1, l2⟩ | exact ⟨r0, r1, r2⟩
    clear hK K
    refine wpAnyH_done (by kernel_rfl) ?_ _
    refine NoPanic.normal ?_
    go_wp
    go_ret
    exact ⟨rfl, _, HZ⟩

set_option maxRecDepth 100000 in
set_option maxHeartbeats 8000000 in
theorem oput_no (W w : World) (p : Nat) (xs : List Pt) (c s : Int) (z : ByteArray) (ad : Option Addr) (n cap i : Nat) (hp : w.heap[p]? = some (.cells #[.slice ad n cap] 108 (0, 0))) (hG : GrowT W w (.slice ad n cap) xs) (hn : Hid (n = xs.length)) (hrise : RiseT xs) (hl : n ≤ 1000) (hP : PlaceT xs c i) (hhas : hasT xs c i = true) (hs : ∀ x, xs[i]? = some x → ¬ x.s < s) :
    Calls Tryz.prog 149 #[.pointer (some ⟨p, 0, none⟩), .agg #[.int .i64 c, .int .i64 s, .string z]] w fun e w' => e = .returned (.bool false) ∧ ∃ a', CaTo W w p (Value.slice ad n cap).ownBlock w' a' xs := by
  have HT : Hid (CaIs W w p (Value.slice ad n cap).ownBlock xs) := ⟨_, hp, rfl, hG⟩
  have HG : Hid (GrowT W w (.slice ad n cap) xs) := hG
  have hlt := lt_of_block hp
  have hcn : n ≤ cap := by
    obtain ⟨_, _, _, e0, _, hc⟩ := hG.open
    simp at e0
    omega
  have m0 : Moves [] w (w.alloc (.cells #[.int .i64 c, .int .i64 s, .string z] 173)) := (Moves.refl [] w).alloc _
  have hb0 := heap_alloc_new w (.cells #[.int .i64 c, .int .i64 s, .string z] 173)
  have hl' : xs.length ≤ 1000000 := by have := hn.out; omega
  have hpl := oplace_w W _ p _ xs c i (HT.out.moves0 m0) hrise hl' hP
  rw [hhas] at hpl
  obtain ⟨x, hx, hxc, -⟩ := ofT_yes hP hhas
  have hix : i < n := by have := (List.getElem?_eq_some_iff.1 hx).1; have := hn.out; omega
  obtain ⟨g, cur, _, rfl, -, hgb, -⟩ := hG.own (by omega)
  have q1 : (i : Int) < (n : Int) := by omega
  have hgl : g < w.heap.size := lt_of_block hgb
  obtain ⟨g', off', e', z0, z1, z2⟩ := hG.at.at hx
  simp at e'
  obtain ⟨rfl, rfl⟩ := e'
  simp only [Nat.zero_add] at z0 z1 z2
  have hs' := hs x hx
  clear hxc hG hs
  have hw5 : decide (x.s < s) = false := decide_eq_false hs'
  obtain ⟨P, hPP⟩ : ∃ P, w.heap.size = P := ⟨_, rfl⟩
  rw [hPP] at hb0
  go_enter Tryz.func149, Tryz.ntmps149
  go_wp2_with (go_at_call 130; refine hpl.mono ?_; rintro _ w2 ⟨rfl, m2⟩; have m02 := m0.then m2; have hp2 := m02.at hp (by simp); have hb2 := m2.at hb0 (by simp); obtain ⟨x1, x2⟩ := one_cell hp2; obtain ⟨y0, y1, y2, _, _, _⟩ := three_cells hb2)
  have v1 := m02.cell z1
  refine wp_region_noPanic ?_
  refine wp_region_held_drew (S := (fun w' => w'.cell? ⟨p, 0, none⟩ = some (.slice (some ⟨g, 0, none⟩) n cap) ∧ w'.cell? ⟨P, 1, none⟩ = some (.int .i64 s) ∧ w'.cell? ⟨g, i * 3 + 1, none⟩ = some (.int .i64 x.s))) (by kernel_rfl) ?_ (fun hHeld => ?_)
  · first | (go_keep; done) | exact ⟨x1, y1, v1⟩
  refine wpT 0 ⟨some 29, .move (.tmp 0), 73, "once.go:85", #[], none⟩ ?_
  refine wpT 1 ⟨some 30, .nilCheck (.tmp 29), 0, "once.go:85", #[⟨0, .data⟩], none⟩ ?_
  refine wpT 2 ⟨some 31, .fieldAddr 108 (.tmp 30) 0, 0, "once.go:85", #[⟨1, .data⟩], none⟩ ?_
  refine wpT 3 ⟨some 32, .load 106 (.tmp 31), 106, "once.go:85", #[⟨2, .data⟩], none⟩ ?_
  refine wpT 4 ⟨some 33, .move (.tmp 5), 3, "once.go:85", #[], none⟩ ?_
  refine wpT 5 ⟨some 34, .indexAddr 106 (.tmp 32) (.tmp 33), 0, "once.go:85", #[⟨3, .data⟩, ⟨4, .data⟩], none⟩ ?_
  refine wpT 6 ⟨some 35, .fieldAddr 173 (.tmp 34) 1, 0, "once.go:85", #[⟨5, .data⟩], none⟩ ?_
  refine wpT 7 ⟨some 36, .load 3 (.tmp 35), 3, "once.go:85", #[⟨6, .data⟩], none⟩ ?_
  refine wpT 8 ⟨some 37, .fieldAddr 173 (.tmp 3) 1, 0, "once.go:85", #[], none⟩ ?_
  refine wpT 9 ⟨some 38, .load 3 (.tmp 37), 3, "once.go:85", #[⟨8, .data⟩], none⟩ ?_
  refine wpT 10 ⟨some 39, .binOp .lss 3 (.tmp 36) (.tmp 38) 3, 4, "once.go:85", #[⟨7, .data⟩, ⟨9, .data⟩], none⟩ ?_
  refine wpT 11 ⟨some 28, .assign (.tmp 39), 4, "once.go:85", #[⟨10, .data⟩], none⟩ ?_
  refine wpAnyH_done (by kernel_rfl) ?_ _
  refine NoPanic.normal ?_
  go_wp2_with fail
  go_ret
  exact ⟨rfl, _, CaTo.same HT.out m02.drew⟩

set_option maxRecDepth 100000 in
set_option maxHeartbeats 8000000 in
theorem oput_set (W w : World) (p : Nat) (xs : List Pt) (c s : Int) (z : ByteArray) (ad : Option Addr) (n cap i : Nat) (hp : w.heap[p]? = some (.cells #[.slice ad n cap] 108 (0, 0))) (hG : GrowT W w (.slice ad n cap) xs) (hn : Hid (n = xs.length)) (hrise : RiseT xs) (hl : n ≤ 1000) (hP : PlaceT xs c i) (hhas : hasT xs c i = true) (hs : ∀ x, xs[i]? = some x → x.s < s) :
    Calls Tryz.prog 149 #[.pointer (some ⟨p, 0, none⟩), .agg #[.int .i64 c, .int .i64 s, .string z]] w fun e w' => e = .returned (.bool true) ∧ ∃ a', CaTo W w p (Value.slice ad n cap).ownBlock w' a' (xs.set i ⟨c, s, z⟩) := by
  have HT : Hid (CaIs W w p (Value.slice ad n cap).ownBlock xs) := ⟨_, hp, rfl, hG⟩
  have HG : Hid (GrowT W w (.slice ad n cap) xs) := hG
  have hlt := lt_of_block hp
  have hcn : n ≤ cap := by
    obtain ⟨_, _, _, e0, _, hc⟩ := hG.open
    simp at e0
    omega
  have m0 : Moves [] w (w.alloc (.cells #[.int .i64 c, .int .i64 s, .string z] 173)) := (Moves.refl [] w).alloc _
  have hb0 := heap_alloc_new w (.cells #[.int .i64 c, .int .i64 s, .string z] 173)
  have hl' : xs.length ≤ 1000000 := by have := hn.out; omega
  have hpl := oplace_w W _ p _ xs c i (HT.out.moves0 m0) hrise hl' hP
  rw [hhas] at hpl
  obtain ⟨x, hx, hxc, -⟩ := ofT_yes hP hhas
  have hix : i < n := by have := (List.getElem?_eq_some_iff.1 hx).1; have := hn.out; omega
  obtain ⟨g, cur, _, rfl, -, hgb, -⟩ := hG.own (by omega)
  have q1 : (i : Int) < (n : Int) := by omega
  have hgl : g < w.heap.size := lt_of_block hgb
  obtain ⟨g', off', e', z0, z1, z2⟩ := hG.at.at hx
  simp at e'
  obtain ⟨rfl, rfl⟩ := e'
  simp only [Nat.zero_add] at z0 z1 z2
  have hs' := hs x hx
  clear hxc hG hs
  have hw5 : decide (x.s < s) = true := decide_eq_true hs'
  have hil : i < xs.length := by have := hn.out; omega
  have hpg : p ≠ g := by
    have := HT.out.apart
    simpa [Value.ownBlock] using this
  obtain ⟨P, hPP⟩ : ∃ P, w.heap.size = P := ⟨_, rfl⟩
  rw [hPP] at hb0
  go_enter Tryz.func149, Tryz.ntmps149
  go_wp2_with (go_at_call 130; refine hpl.mono ?_; rintro _ w2 ⟨rfl, m2⟩; have m02 := m0.then m2; have hp2 := m02.at hp (by simp); have hb2 := m2.at hb0 (by simp); obtain ⟨x1, x2⟩ := one_cell hp2; obtain ⟨y0, y1, y2, _, _, _⟩ := three_cells hb2)
  have v1 := m02.cell z1
  refine wp_region_noPanic ?_
  refine wp_region_held_drew (S := (fun w' => w'.cell? ⟨p, 0, none⟩ = some (.slice (some ⟨g, 0, none⟩) n cap) ∧ w'.cell? ⟨P, 1, none⟩ = some (.int .i64 s) ∧ w'.cell? ⟨g, i * 3 + 1, none⟩ = some (.int .i64 x.s))) (by kernel_rfl) ?_ (fun hHeld => ?_)
  · first | (go_keep; done) | exact ⟨x1, y1, v1⟩
  refine wpT 0 ⟨some 29, .move (.tmp 0), 73, "once.go:85", #[], none⟩ ?_
  refine wpT 1 ⟨some 30, .nilCheck (.tmp 29), 0, "once.go:85", #[⟨0, .data⟩], none⟩ ?_
  refine wpT 2 ⟨some 31, .fieldAddr 108 (.tmp 30) 0, 0, "once.go:85", #[⟨1, .data⟩], none⟩ ?_
  refine wpT 3 ⟨some 32, .load 106 (.tmp 31), 106, "once.go:85", #[⟨2, .data⟩], none⟩ ?_
  refine wpT 4 ⟨some 33, .move (.tmp 5), 3, "once.go:85", #[], none⟩ ?_
  refine wpT 5 ⟨some 34, .indexAddr 106 (.tmp 32) (.tmp 33), 0, "once.go:85", #[⟨3, .data⟩, ⟨4, .data⟩], none⟩ ?_
  refine wpT 6 ⟨some 35, .fieldAddr 173 (.tmp 34) 1, 0, "once.go:85", #[⟨5, .data⟩], none⟩ ?_
  refine wpT 7 ⟨some 36, .load 3 (.tmp 35), 3, "once.go:85", #[⟨6, .data⟩], none⟩ ?_
  refine wpT 8 ⟨some 37, .fieldAddr 173 (.tmp 3) 1, 0, "once.go:85", #[], none⟩ ?_
  refine wpT 9 ⟨some 38, .load 3 (.tmp 37), 3, "once.go:85", #[⟨8, .data⟩], none⟩ ?_
  refine wpT 10 ⟨some 39, .binOp .lss 3 (.tmp 36) (.tmp 38) 3, 4, "once.go:85", #[⟨7, .data⟩, ⟨9, .data⟩], none⟩ ?_
  refine wpT 11 ⟨some 28, .assign (.tmp 39), 4, "once.go:85", #[⟨10, .data⟩], none⟩ ?_
  refine wpAnyH_done (by kernel_rfl) ?_ _
  refine NoPanic.normal ?_
  go_wp2_with fail
  have M5 := m02
  obtain ⟨G1, ⟨v6, v7, v8, G2, G2b, G2c⟩, ⟨G3, G3b, G3c⟩, G4⟩ := (HG.out.moves0 M5).set hil ⟨c, s, z⟩
  have j1 := x1
  have j2 := y0
  have j3 := y1
  have j4 := y2
  refine wp_region_noPanic ?_
  refine wp_region_held_drew (S := (fun w' => w'.cell? ⟨p, 0, none⟩ = some (.slice (some ⟨g, 0, none⟩) n cap) ∧ w'.cell? ⟨P, 0, none⟩ = some (.int .i64 c) ∧ w'.cell? ⟨P, 1, none⟩ = some (.int .i64 s) ∧ w'.cell? ⟨P, 2, none⟩ = some (.string z))) (by kernel_rfl) ?_ (fun hHeld => ?_)
  · first | (go_keep; done) | first | exact ⟨j1, j2, j3, j4⟩ | exact ⟨k1, k2, k3, k4⟩
  refine wpT 0 ⟨some 40, .move (.tmp 0), 73, "once.go:86", #[], none⟩ ?_
  refine wpT 1 ⟨some 41, .nilCheck (.tmp 40), 0, "once.go:86", #[⟨0, .data⟩], none⟩ ?_
  refine wpT 2 ⟨some 42, .fieldAddr 108 (.tmp 41) 0, 0, "once.go:86", #[⟨1, .data⟩], none⟩ ?_
  refine wpT 3 ⟨some 43, .load 106 (.tmp 42), 106, "once.go:86", #[⟨2, .data⟩], none⟩ ?_
  refine wpT 4 ⟨some 44, .move (.tmp 5), 3, "once.go:86", #[], none⟩ ?_
  refine wpT 5 ⟨some 45, .load 173 (.tmp 3), 173, "once.go:86", #[], none⟩ ?_
  refine wpT 6 ⟨some 46, .indexAddr 106 (.tmp 43) (.tmp 44), 0, "once.go:86", #[⟨3, .data⟩, ⟨4, .data⟩, ⟨0, .phase⟩, ⟨1, .phase⟩, ⟨2, .phase⟩, ⟨3, .phase⟩, ⟨4, .phase⟩, ⟨5, .phase⟩], none⟩ ?_
  refine wpR 7 ⟨none, .store 173 (.tmp 46) (.tmp 45), 0, "once.go:86", #[⟨6, .data⟩, ⟨5, .data⟩, ⟨0, .phase⟩, ⟨1, .phase⟩, ⟨2, .phase⟩, ⟨3, .phase⟩, ⟨4, .phase⟩, ⟨5, .phase⟩], none⟩ (fun K hK => ?_)
  go_simp
  have k1 := G4.cellOf j1 (by simpa using hpg)
  have k2 := G4.cellOf j2 (by simp; omega)
  have k3 := G4.cellOf j3 (by simp; omega)
  have k4 := G4.cellOf j4 (by simp; omega)
  refine hK.out _ _ ?_ (fun hHeld => ?_)
  · first | exact ⟨j1, j2, j3, j4⟩ | exact ⟨k1, k2, k3, k4⟩
  clear hK K
  refine wpAnyH_done (by kernel_rfl) ?_ _
  refine NoPanic.normal ?_
  go_wp2_with fail
  go_ret
  exact ⟨rfl, _, ⟨_, G4.at (M5.at hp (by simp)) (by simpa using hpg), rfl, G1.moves0 (Moves.refl [] _).drew.drew⟩, (M5.mono (by simp)).then (G4.drew.drew.mono (by simp [Value.ownBlock])), .inl rfl⟩

end Go.Proofs.YtilbbnmhnacnlaaGreat
