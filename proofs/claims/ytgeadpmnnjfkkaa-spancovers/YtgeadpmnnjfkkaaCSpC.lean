/-
  SpanCovers' walk.
-/
import Derived.Test.YtgeadpmnnjfkkaaCSpZ
import Derived.Test.YtgeadpmnnjfkkaaCSpT
namespace Go.Proofs.Ytgeadpmnnjfkkaa
open Go.RowKit

theorem zbox (w : World) (ph : ByteArray) : OwnZ ((w.alloc (.cells #[] 9)).alloc (.cells #[.string ph, .string ⟨#[]⟩] 9)) (.slice (some ⟨w.heap.size, 0, none⟩) 0 0) [] ∧ StrsAt ((w.alloc (.cells #[] 9)).alloc (.cells #[.string ph, .string ⟨#[]⟩] 9)) (some ⟨w.heap.size + 1, 0, none⟩) [ph, ⟨#[]⟩] ∧ Moves [] w ((w.alloc (.cells #[] 9)).alloc (.cells #[.string ph, .string ⟨#[]⟩] 9)) := by
  have h1 : ((w.alloc (.cells #[] 9)).alloc (.cells #[.string ph, .string ⟨#[]⟩] 9)).heap[w.heap.size]? = some (.cells #[] 9 (0, 0)) := ((Moves.refl [] _).alloc _).at (heap_alloc_new w _) (by simp)
  have h2 := heap_alloc_new (w.alloc (.cells #[] 9)) (.cells #[.string ph, .string ⟨#[]⟩] 9)
  rw [show (w.alloc (.cells #[] 9)).heap.size = w.heap.size + 1 from by simp] at h2
  refine ⟨OwnZ.empty h1, fun k s hs => ?_, ((Moves.refl _ _).alloc _).alloc _⟩
  refine ⟨_, 0, rfl, ?_⟩
  simp only [World.cell?, h2, Nat.zero_add]
  match k, hs with
  | 0, hs => simpa using hs
  | 1, hs => simpa using hs
  | k + 2, hs => simp at hs
theorem lain_le {w8 w : World} {v v' : Value} (l : Lain w v v') (h : ∀ b, v.ownBlock = some b → w8.heap.size ≤ b) (hs : w8.heap.size ≤ w.heap.size) : ∀ b, v'.ownBlock = some b → w8.heap.size ≤ b := by
  intro b hb
  rcases l with l | l
  · rw [l] at hb; exact h b hb
  · rw [l] at hb; simp at hb; omega
set_option maxRecDepth 100000 in
set_option maxHeartbeats 16000000 in
theorem spanCovers_w (u0 u1 : Value) (w : World) (h0 : IArgs w u0) (h1 : ZArgs w u1) : Calls Try.prog 5 #[u0, u1] w fun e w' => e = .returned (.bool true) ∧ Moves [] w w' := by
  obtain ⟨adv, nv, cv, rfl, hcv, hV⟩ := h0
  obtain ⟨adz, zs, cz, rfl, hcz, hnz, hZ⟩ := h1
  have HV : Hid (∀ k, k < nv → ∃ b off n, adv = some ⟨b, off, none⟩ ∧ w.cell? ⟨b, off + k, none⟩ = some (.int .i64 n)) := hV
  have HZ : Hid (StrsAt w adz zs) := hZ
  have hfew := fun w1 => few7_w w1 adz zs cz hcz hnz
  obtain ⟨nz, HNZ⟩ : ∃ nz, Hid (zs.length = nz) := ⟨_, rfl⟩
  rw [HNZ.out] at hfew ⊢
  have hw1 := heap_alloc_new w (.cells #[.string ⟨#[]⟩, .string ⟨#[]⟩] 27)
  have M1 : Moves [] w (w.alloc (.cells #[.string ⟨#[]⟩, .string ⟨#[]⟩] 27)) := (Moves.refl _ _).alloc _
  have hO1 : OwnS (w.alloc (.cells #[.string ⟨#[]⟩, .string ⟨#[]⟩] 27)) (.slice (some ⟨w.heap.size, 0, none⟩) 1 1) [Psp.zero] := ⟨by simp [spCells], .inr ⟨w.heap.size, 1, _, rfl, Nat.zero_le _, hw1, Nat.le_refl _, by simp [maxLen], by simp, by simp [spCells, Psp.zero]⟩⟩
  have HC0 : Hid (spCov [Psp.zero] = true) := by
    show spCov [Psp.zero] = true
    rw [spCov_cons]
    show (bz (⟨#[]⟩ : ByteArray) && bz ⟨#[]⟩) = true
    rw [bz_iff.2 rfl]; rfl
  clear hV hZ hw1 hcz
  go_enter Try.func5, Try.ntmps5
  go_wp2_with fail
  go_loopw [5, 6] (fun va vi wr => ∃ (i : Nat) (xs : List Psp) (g cap : Nat), i ≤ 20 ∧ vi = .int .i64 (i : Nat) ∧ va = .slice (some ⟨g, 0, none⟩) xs.length cap ∧ OwnS wr va xs ∧ Hid (spCov xs = true) ∧ xs.length ≤ i + 1 ∧ Moves [] w wr) (fun _ vi _ => 20 - (intOf vi).toNat)
  case atStart => exact ⟨0, [Psp.zero], w.heap.size, 1, by omega, rfl, rfl, hO1, HC0, by simp, M1⟩
  case round =>
    clear hO1 HC0 M1
    obtain ⟨i, xs, g, cap, hi20, rfl, rfl, hO, hC, hlen, M⟩ := hrel
    have hSA : SpsAt wr (some ⟨g, 0, none⟩) xs ∧ xs.length ≤ cap := by
      obtain ⟨ad, c, e, h1, _, h2⟩ := hO.at
      simp only [Value.slice.injEq] at e
      obtain ⟨rfl, _, rfl⟩ := e
      exact ⟨h2, h1⟩
    obtain ⟨hSA, hcap⟩ := hSA
    have hpos : 0 < xs.length := by
      cases xs with
      | nil => exact absurd hC.out (by simp [spCov])
      | cons _ _ => simp
    obtain ⟨n, hn⟩ : ∃ n, xs.length = n := ⟨_, rfl⟩
    have HN : Hid (xs.length = n) := hn
    have HO : Hid (OwnS wr (.slice (some ⟨g, 0, none⟩) n cap) xs) := by rw [← hn]; exact hO
    have HS : Hid (SpsAt wr (some ⟨g, 0, none⟩) xs) := hSA
    rw [hn] at hlen hcap hpos ⊢
    clear hO hSA hn
    by_cases hlt : i < nv ∧ i < 20
    · obtain ⟨hl1, hl2⟩ := hlt
      have hl1' : (i : Int) < nv := by omega
      have hl2' : (i : Int) < 20 := by omega
      obtain ⟨bv, ov, li, rfl, vi0⟩ := HV.out i hl1
      have vi := M.cell vi0
      obtain ⟨t, ht, hrow⟩ := row_ds li
      have hE : Hid (spE t = true) := decide_eq_true (by omega)
      clear ht
      go_wp2_with (go_at_call 14; refine (hrow _).mono ?_; rintro _ w4 ⟨rfl, m4⟩; replace vi := m4.cell vi)
      go_loopw [8] (fun vk w5 => ∃ k : Nat, k < n ∧ vk = .int .i64 (k : Nat) ∧ Moves [] wr w5) (fun vk _ => n - (intOf vk).toNat)
      case atStart => exact ⟨0, hpos, rfl, m4⟩
      case round =>
        clear vi m4
        obtain ⟨k, hkn, rfl, m5⟩ := hrel
        rename_i w5
        obtain ⟨s, hs⟩ : ∃ s, xs[k]? = some s := ⟨_, List.getElem?_eq_getElem (by have := HN.out; omega)⟩
        obtain ⟨_, _, q1, s0, s1⟩ := HS.out k s hs
        simp only [Option.some.injEq, Addr.mk.injEq] at q1
        obtain ⟨rfl, rfl, _⟩ := q1
        rw [Nat.zero_add] at s0 s1
        replace s0 := m5.cell s0
        replace s1 := m5.cell s1
        have HX : Hid (xs[k]? = some s) := hs
        have hkI : (k : Int) < n := by omega
        clear hs
        obtain ⟨lo, hi⟩ := s
        have hsE : ∀ w, Calls Try.prog 15 #[.agg #[.string lo, .string hi], .string t] w fun e w' => e = .returned (.bool (spH ⟨lo, hi⟩ t)) ∧ Moves [] w w' := fun w => spHas_w lo hi t w
        dsimp only at s0 s1
        by_cases hkl : k + 1 < n
        · have hklI : (k : Int) + 1 < n := by omega
          cases hH : spH ⟨lo, hi⟩ t with
          | false =>
            go_wp2_with (go_at_call 15; refine (hsE _).mono ?_; rintro _ w6 ⟨rfl, m6⟩; rw [hH])
            go_roundw
            case rel => exact ⟨k + 1, hkl, by go_num, m5.then m6⟩
            case measure => simp [intOf]; omega
          | true =>
            go_wp2_with (go_at_call 15; refine (hsE _).mono ?_; rintro _ w6 ⟨rfl, m6⟩; rw [hH]; replace s0 := m6.cell s0; replace s1 := m6.cell s1)
            replace m5 := m5.then m6
            clear m6 hH hsE
            cases hCC : spC ⟨lo, hi⟩ t with
            | true =>
              by_cases h3 : li.tmod 3 = 0
              ·
                refine (spSplit_yes lo hi t _ hCC).mono ?_
                rintro _ w7 ⟨rfl, m7⟩
                obtain ⟨my, bA, bB⟩ := spBoxes2 w7 #[.string lo, .string t] #[.string t, .string hi] 27
                have M8 := (m5.then m7).then my
                obtain ⟨Q, hQ⟩ : ∃ Q, w7.heap.size = Q := ⟨_, rfl⟩
                rw [hQ] at bA bB
                have vi8 := (M.then M8).cell vi0
                go_wp2_with fail
                generalize ((w7.alloc (.cells #[.string lo, .string t] 27)).alloc (.cells #[.string t, .string hi] 27)) = wa at *

                obtain ⟨k1, hk1⟩ : ∃ k1 : Nat, Hid (k + 1 = k1) := ⟨_, rfl⟩
                have hk12 := hk1.out
                have hwrap1 : IntKind.i64.wrap ((k : Int) + 1) = (k1 : Int) := by rw [IntWalk.i64_in _ (by omega)]; omega
                have hk1n : (k1 : Int) < n := by omega
                obtain ⟨s2, hs2⟩ : ∃ s, xs[k1]? = some s := ⟨_, List.getElem?_eq_getElem (by have := HN.out; omega)⟩
                obtain ⟨lo2, hi2⟩ := s2
                obtain ⟨_, _, q1, p0, p1⟩ := HS.out k1 _ hs2
                simp only [Option.some.injEq, Addr.mk.injEq] at q1
                obtain ⟨rfl, rfl, _⟩ := q1
                rw [Nat.zero_add] at p0 p1
                dsimp only at p0 p1
                replace p0 := M8.cell p0
                replace p1 := M8.cell p1
                have r0 := (m7.then my).cell s0
                have r1 := (m7.then my).cell s1
                have hdr : xs = xs.take k ++ (⟨lo, hi⟩ : Psp) :: ⟨lo2, hi2⟩ :: xs.drop (k + 2) := by
                  have h1 : xs.drop k = ⟨lo, hi⟩ :: xs.drop (k + 1) := drop_at HX.out
                  have h2 : xs.drop (k + 1) = ⟨lo2, hi2⟩ :: xs.drop (k + 2) := drop_at (by rw [hk12]; exact hs2)
                  rw [← h2, ← h1, List.take_append_drop]
                have hcj := hC.out
                rw [hdr] at hcj
                obtain ⟨hj0, hcj⟩ := spCov_join _ _ hcj
                have hj : Hid (spJ ⟨lo, hi⟩ ⟨lo2, hi2⟩ = true) := hj0
                have HCJ : Hid (spCov (xs.take k ++ (⟨lo, hi2⟩ : Psp) :: xs.drop (k + 2)) = true) := hcj
                have hS : ∀ w', Moves [] wa w' → (w'.cell? ⟨g, k * 2, none⟩ = some (.string lo) ∧ w'.cell? ⟨g, k * 2 + 1, none⟩ = some (.string hi) ∧ w'.cell? ⟨g, k1 * 2, none⟩ = some (.string lo2) ∧ w'.cell? ⟨g, k1 * 2 + 1, none⟩ = some (.string hi2)) := fun w' m' => ⟨m'.cell r0, m'.cell r1, m'.cell p0, m'.cell p1⟩
                have mW : Moves [] wa wa.drew := (Moves.refl _ _).drew
                clear hdr hcj hj0 hs2
                refine wp_some7 [90, 91, 92, 93, 94, 95, 96, 97, 98, 99, 89, 100, 101, 12, 13] (fun u w' => ∃ pb, u 12 = .pointer (some ⟨pb, 0, none⟩) ∧ u 13 = .bool true ∧ w'.heap[pb]? = some (.cells #[.string lo, .string hi2] 27 (0, 0)) ∧ Moves [] wa w') ?_ ?_
                · refine wp_region_noPanic ?_
                  refine wp_region_held_drew (S := (fun w' => w'.cell? ⟨g, k * 2, none⟩ = some (.string lo) ∧ w'.cell? ⟨g, k * 2 + 1, none⟩ = some (.string hi) ∧ w'.cell? ⟨g, k1 * 2, none⟩ = some (.string lo2) ∧ w'.cell? ⟨g, k1 * 2 + 1, none⟩ = some (.string hi2))) (by kernel_rfl) ?_ (fun hHeld => ?_)
                  · first | (go_keep; done) | first | exact hS _ mS | exact hS _ mW
                  refine wpAnyH_take (i := 0) (oi := { dst := some 90, op := Op.move (Operand.tmp 5), type := 22, pos := "law.go:95", after := #[], guard := none }) (v := ?_) rfl (by kernel_rfl) (by kernel_rfl) (by kernel_rfl) (fun _ _ _ h => h) (Or.inl ⟨by rfl, ?_⟩) (by assumption) ?_
                  rotate_left
                  · (intro w hSw; (try dsimp only at hSw); go_simp; try (with_reducible rfl))
                  try simp only [Act.put, List.setIfInBounds_toArray, List.set_cons_zero, List.set_cons_succ]
                  refine wpAnyH_take (i := 1) (oi := { dst := some 91, op := Op.move (Operand.tmp 8), type := 3, pos := "law.go:95", after := #[], guard := none }) (v := ?_) rfl (by kernel_rfl) (by kernel_rfl) (by kernel_rfl) (fun _ _ _ h => h) (Or.inl ⟨by rfl, ?_⟩) (by assumption) ?_
                  rotate_left
                  · (intro w hSw; (try dsimp only at hSw); go_simp; try (with_reducible rfl))
                  try simp only [Act.put, List.setIfInBounds_toArray, List.set_cons_zero, List.set_cons_succ]
                  refine wpAnyH_take (i := 2) (oi := { dst := some 92, op := Op.indexAddr 22 (Operand.tmp 90) (Operand.tmp 91), type := 0, pos := "law.go:95", after := #[{ on := 0, ground := Ground.data }, { on := 1, ground := Ground.data }], guard := none }) (v := ?_) rfl (by kernel_rfl) (by kernel_rfl) (by kernel_rfl) (fun _ _ _ h => h) (Or.inl ⟨by rfl, ?_⟩) (by assumption) ?_
                  rotate_left
                  · (intro w hSw; (try dsimp only at hSw); go_simp; try (with_reducible rfl))
                  try simp only [Act.put, List.setIfInBounds_toArray, List.set_cons_zero, List.set_cons_succ]
                  refine wpAnyH_take (i := 3) (oi := { dst := some 93, op := Op.load 27 (Operand.tmp 92), type := 27, pos := "law.go:95", after := #[{ on := 2, ground := Ground.data }], guard := none }) (v := ?_) rfl (by kernel_rfl) (by kernel_rfl) (by kernel_rfl) (fun _ _ _ h => h) (Or.inl ⟨by rfl, ?_⟩) (by assumption) ?_
                  rotate_left
                  · (intro w hSw; (try dsimp only at hSw); go_simp; try (with_reducible rfl))
                  try simp only [Act.put, List.setIfInBounds_toArray, List.set_cons_zero, List.set_cons_succ]
                  refine wpAnyH_take (i := 4) (oi := { dst := some 94, op := Op.move (Operand.tmp 5), type := 22, pos := "law.go:95", after := #[], guard := none }) (v := ?_) rfl (by kernel_rfl) (by kernel_rfl) (by kernel_rfl) (fun _ _ _ h => h) (Or.inl ⟨by rfl, ?_⟩) (by assumption) ?_
                  rotate_left
                  · (intro w hSw; (try dsimp only at hSw); go_simp; try (with_reducible rfl))
                  try simp only [Act.put, List.setIfInBounds_toArray, List.set_cons_zero, List.set_cons_succ]
                  refine wpAnyH_take (i := 5) (oi := { dst := some 95, op := Op.move (Operand.tmp 8), type := 3, pos := "law.go:95", after := #[], guard := none }) (v := ?_) rfl (by kernel_rfl) (by kernel_rfl) (by kernel_rfl) (fun _ _ _ h => h) (Or.inl ⟨by rfl, ?_⟩) (by assumption) ?_
                  rotate_left
                  · (intro w hSw; (try dsimp only at hSw); go_simp; try (with_reducible rfl))
                  try simp only [Act.put, List.setIfInBounds_toArray, List.set_cons_zero, List.set_cons_succ]
                  refine wpAnyH_take (i := 6) (oi := { dst := some 96, op := Op.binOp BinOp.add 3 (Operand.tmp 95) (Operand.const (Value.int IntKind.i64 1)) 3, type := 3, pos := "law.go:95", after := #[{ on := 5, ground := Ground.data }], guard := none }) (v := ?_) rfl (by kernel_rfl) (by kernel_rfl) (by kernel_rfl) (fun _ _ _ h => h) (Or.inl ⟨by rfl, ?_⟩) (by assumption) ?_
                  rotate_left
                  · (intro w hSw; (try dsimp only at hSw); go_simp; try (with_reducible rfl))
                  try simp only [Act.put, List.setIfInBounds_toArray, List.set_cons_zero, List.set_cons_succ]
                  refine wpAnyH_take (i := 7) (oi := { dst := some 97, op := Op.indexAddr 22 (Operand.tmp 94) (Operand.tmp 96), type := 0, pos := "law.go:95", after := #[{ on := 4, ground := Ground.data }, { on := 6, ground := Ground.data }], guard := none }) (v := ?_) rfl (by kernel_rfl) (by kernel_rfl) (by kernel_rfl) (fun _ _ _ h => h) (Or.inl ⟨by rfl, ?_⟩) (by assumption) ?_
                  rotate_left
                  · (intro w hSw; (try dsimp only at hSw); go_simp; try (with_reducible rfl))
                  try simp only [Act.put, List.setIfInBounds_toArray, List.set_cons_zero, List.set_cons_succ]
                  refine wpAnyH_take (i := 8) (oi := { dst := some 98, op := Op.load 27 (Operand.tmp 97), type := 27, pos := "law.go:95", after := #[{ on := 7, ground := Ground.data }], guard := none }) (v := ?_) rfl (by kernel_rfl) (by kernel_rfl) (by kernel_rfl) (fun _ _ _ h => h) (Or.inl ⟨by rfl, ?_⟩) (by assumption) ?_
                  rotate_left
                  · (intro w hSw; (try dsimp only at hSw); go_simp; try (with_reducible rfl))
                  try simp only [Act.put, List.setIfInBounds_toArray, List.set_cons_zero, List.set_cons_succ]
                  refine wpAnyH_ready (rs := [9, 13]) (by kernel_rfl) (by simp) ?_
                  refine AllReadyH.cons (o := { dst := some 99, op := Op.call { callee := Callee.value (Operand.func 17), args := #[Operand.tmp 93, Operand.tmp 98], argTypes := #[27, 27] }, type := 38, pos := "law.go:95", after := #[{ on := 3, ground := Ground.data }, { on := 8, ground := Ground.data }], guard := none }) rfl (fun K hK => ?_) (AllReadyH.cons (o := { dst := some 12, op := Op.alloc 27, type := 0, pos := "law.go:95", after := #[], guard := none }) rfl (fun K hK => ?_) AllReadyH.nil)
                  · go_simp
                    refine (spJoin_yes lo hi lo2 hi2 _ hj.out).mono ?_
                    rintro _ w99 ⟨rfl, m99⟩
                    replace mW := mW.then m99
                    refine hK.out _ _ ?_ (fun hHeld => ?_)
                    · first | exact hS _ mS | exact hS _ mW
                    clear hK K
                    try simp only [Act.put, List.setIfInBounds_toArray, List.set_cons_zero, List.set_cons_succ]
                    refine wpAnyH_take (i := 10) (oi := { dst := some 89, op := Op.move (Operand.tmp 99), type := 38, pos := "law.go:95", after := #[{ on := 9, ground := Ground.data }], guard := none }) (v := ?_) rfl (by kernel_rfl) (by kernel_rfl) (by kernel_rfl) (fun _ _ _ h => h) (Or.inl ⟨by rfl, ?_⟩) (by assumption) ?_
                    rotate_left
                    · (intro w hSw; (try dsimp only at hSw); go_simp; try (with_reducible rfl))
                    try simp only [Act.put, List.setIfInBounds_toArray, List.set_cons_zero, List.set_cons_succ]
                    refine wpAnyH_take (i := 11) (oi := { dst := some 100, op := Op.extract (Operand.tmp 89) 0, type := 27, pos := "law.go:95", after := #[{ on := 10, ground := Ground.data }], guard := none }) (v := ?_) rfl (by kernel_rfl) (by kernel_rfl) (by kernel_rfl) (fun _ _ _ h => h) (Or.inl ⟨by rfl, ?_⟩) (by assumption) ?_
                    rotate_left
                    · (intro w hSw; (try dsimp only at hSw); go_simp; try (with_reducible rfl))
                    try simp only [Act.put, List.setIfInBounds_toArray, List.set_cons_zero, List.set_cons_succ]
                    refine wpAnyH_take (i := 12) (oi := { dst := some 101, op := Op.extract (Operand.tmp 89) 1, type := 4, pos := "law.go:95", after := #[{ on := 10, ground := Ground.data }, { on := 14, ground := Ground.gcOnly Departure.lateStores }], guard := none }) (v := ?_) rfl (by kernel_rfl) (by kernel_rfl) (by kernel_rfl) (fun _ _ _ h => h) (Or.inl ⟨by rfl, ?_⟩) (by assumption) ?_
                    rotate_left
                    · (intro w hSw; (try dsimp only at hSw); go_simp; try (with_reducible rfl))
                    try simp only [Act.put, List.setIfInBounds_toArray, List.set_cons_zero, List.set_cons_succ]
                    refine wpAnyH_ready (rs := [13]) (by kernel_rfl) (by simp) ?_
                    refine AllReadyH.cons (o := { dst := some 12, op := Op.alloc 27, type := 0, pos := "law.go:95", after := #[], guard := none }) rfl (fun K hK => ?_) AllReadyH.nil
                    go_simp
                    have hle := mW.size
                    obtain ⟨w12x, hwa⟩ : ∃ w12x, w99.alloc (.cells #[.string ⟨#[]⟩, .string ⟨#[]⟩] 27) = w12x := ⟨_, rfl⟩
                    have hb : w12x.heap[w99.heap.size]? = some (.cells #[.string ⟨#[]⟩, .string ⟨#[]⟩] 27 (0, 0)) := by rw [← hwa]; exact heap_alloc_new w99 _
                    have mA : Moves [] w99 w12x := by rw [← hwa]; exact (Moves.refl _ _).alloc _
                    rw [hwa]
                    obtain ⟨pb, hpb⟩ : ∃ pb, w99.heap.size = pb := ⟨_, rfl⟩
                    rw [hpb] at hb ⊢
                    have hle : wa.heap.size ≤ pb := by rw [← hpb]; first | exact hle | exact Nat.le_refl _
                    replace mW := mW.then mA
                    clear hwa hpb
                    refine hK.out _ _ ?_ (fun hHeld => ?_)
                    · first | exact hS _ mS | exact hS _ mW
                    clear hK K
                    try simp only [Act.put, List.setIfInBounds_toArray, List.set_cons_zero, List.set_cons_succ]
                    refine wpAnyH_ready (rs := [14]) (by kernel_rfl) (by simp) ?_
                    refine AllReadyH.cons (o := { dst := none, op := Op.store 27 (Operand.tmp 12) (Operand.tmp 100), type := 0, pos := "law.go:95", after := #[{ on := 13, ground := Ground.data }, { on := 11, ground := Ground.data }, { on := 9, ground := Ground.chain }, { on := 0, ground := Ground.phase }, { on := 1, ground := Ground.phase }, { on := 2, ground := Ground.phase }, { on := 3, ground := Ground.phase }, { on := 4, ground := Ground.phase }, { on := 5, ground := Ground.phase }, { on := 6, ground := Ground.phase }, { on := 7, ground := Ground.phase }, { on := 8, ground := Ground.phase }, { on := 9, ground := Ground.phase }, { on := 10, ground := Ground.phase }, { on := 11, ground := Ground.phase }, { on := 12, ground := Ground.textOnly Departure.lateStores }, { on := 13, ground := Ground.phase }], guard := none }) rfl (fun K hK => ?_) AllReadyH.nil
                    obtain ⟨f0, f1, f2, f3⟩ := sp_cells hb
                    have mS : Moves [] wa ((w12x.setCell ⟨pb, 0, none⟩ (.string lo)).setCell ⟨pb, 1, none⟩ (.string hi2)) := mW.trans (spStored1 hb).2 (fun x hx => .inr (by simp at hx; omega))
                    have hbS : ((w12x.setCell ⟨pb, 0, none⟩ (.string lo)).setCell ⟨pb, 1, none⟩ (.string hi2)).heap[pb]? = _ := (spStored1 hb).1
                    go_simp
                    refine hK.out _ _ ?_ (fun hHeld => ?_)
                    · first | exact hS _ mS | exact hS _ mW
                    clear hK K
                    refine wpAnyH_take (i := 15) (oi := { dst := some 13, op := Op.assign (Operand.tmp 101), type := 4, pos := "law.go:95", after := #[{ on := 12, ground := Ground.data }, { on := 14, ground := Ground.chain }, { on := 0, ground := Ground.phase }, { on := 1, ground := Ground.phase }, { on := 2, ground := Ground.phase }, { on := 3, ground := Ground.phase }, { on := 4, ground := Ground.phase }, { on := 5, ground := Ground.phase }, { on := 6, ground := Ground.phase }, { on := 7, ground := Ground.phase }, { on := 8, ground := Ground.phase }, { on := 9, ground := Ground.phase }, { on := 10, ground := Ground.phase }, { on := 11, ground := Ground.phase }, { on := 12, ground := Ground.phase }, { on := 13, ground := Ground.phase }, { on := 14, ground := Ground.phase }], guard := none }) (v := ?_) rfl (by kernel_rfl) (by kernel_rfl) (by kernel_rfl) (fun _ _ _ h => h) (Or.inl ⟨by rfl, ?_⟩) (by assumption) ?_
                    rotate_left
                    · (intro w hSw; (try dsimp only at hSw); go_simp; try (with_reducible rfl))
                    try simp only [Act.put, List.setIfInBounds_toArray, List.set_cons_zero, List.set_cons_succ]
                    refine wpAnyH_done (by kernel_rfl) ?_ _
                    refine NoPanic.normal ?_
                    exact ⟨rfl, by kernel_rfl, pb, by kernel_rfl, by kernel_rfl, hbS, mS⟩
                  · go_simp
                    have hle := mW.size
                    obtain ⟨w12x, hwa⟩ : ∃ w12x, (wa.alloc (.cells #[.string ⟨#[]⟩, .string ⟨#[]⟩] 27)).drew = w12x := ⟨_, rfl⟩
                    have hb : w12x.heap[wa.heap.size]? = some (.cells #[.string ⟨#[]⟩, .string ⟨#[]⟩] 27 (0, 0)) := by rw [← hwa]; exact heap_alloc_new wa _
                    have mA : Moves [] wa w12x := by rw [← hwa]; exact ((Moves.refl _ _).alloc _).drew
                    rw [hwa]
                    obtain ⟨pb, hpb⟩ : ∃ pb, wa.heap.size = pb := ⟨_, rfl⟩
                    rw [hpb] at hb ⊢
                    have hle : wa.heap.size ≤ pb := by rw [← hpb]; first | exact hle | exact Nat.le_refl _
                    replace mW := mA
                    clear hwa hpb
                    refine hK.out _ _ ?_ (fun hHeld => ?_)
                    · first | exact hS _ mS | exact hS _ mW
                    clear hK K
                    try simp only [Act.put, List.setIfInBounds_toArray, List.set_cons_zero, List.set_cons_succ]
                    refine wpAnyH_ready (rs := [9]) (by kernel_rfl) (by simp) ?_
                    refine AllReadyH.cons (o := { dst := some 99, op := Op.call { callee := Callee.value (Operand.func 17), args := #[Operand.tmp 93, Operand.tmp 98], argTypes := #[27, 27] }, type := 38, pos := "law.go:95", after := #[{ on := 3, ground := Ground.data }, { on := 8, ground := Ground.data }], guard := none }) rfl (fun K hK => ?_) AllReadyH.nil
                    go_simp
                    refine (spJoin_yes lo hi lo2 hi2 _ hj.out).mono ?_
                    rintro _ w99 ⟨rfl, m99⟩
                    replace mW := mW.then m99
                    replace hb := m99.at hb (by simp)
                    refine hK.out _ _ ?_ (fun hHeld => ?_)
                    · first | exact hS _ mS | exact hS _ mW
                    clear hK K
                    try simp only [Act.put, List.setIfInBounds_toArray, List.set_cons_zero, List.set_cons_succ]
                    refine wpAnyH_take (i := 10) (oi := { dst := some 89, op := Op.move (Operand.tmp 99), type := 38, pos := "law.go:95", after := #[{ on := 9, ground := Ground.data }], guard := none }) (v := ?_) rfl (by kernel_rfl) (by kernel_rfl) (by kernel_rfl) (fun _ _ _ h => h) (Or.inl ⟨by rfl, ?_⟩) (by assumption) ?_
                    rotate_left
                    · (intro w hSw; (try dsimp only at hSw); go_simp; try (with_reducible rfl))
                    try simp only [Act.put, List.setIfInBounds_toArray, List.set_cons_zero, List.set_cons_succ]
                    refine wpAnyH_take (i := 11) (oi := { dst := some 100, op := Op.extract (Operand.tmp 89) 0, type := 27, pos := "law.go:95", after := #[{ on := 10, ground := Ground.data }], guard := none }) (v := ?_) rfl (by kernel_rfl) (by kernel_rfl) (by kernel_rfl) (fun _ _ _ h => h) (Or.inl ⟨by rfl, ?_⟩) (by assumption) ?_
                    rotate_left
                    · (intro w hSw; (try dsimp only at hSw); go_simp; try (with_reducible rfl))
                    try simp only [Act.put, List.setIfInBounds_toArray, List.set_cons_zero, List.set_cons_succ]
                    refine wpAnyH_take (i := 12) (oi := { dst := some 101, op := Op.extract (Operand.tmp 89) 1, type := 4, pos := "law.go:95", after := #[{ on := 10, ground := Ground.data }, { on := 14, ground := Ground.gcOnly Departure.lateStores }], guard := none }) (v := ?_) rfl (by kernel_rfl) (by kernel_rfl) (by kernel_rfl) (fun _ _ _ h => h) (Or.inl ⟨by rfl, ?_⟩) (by assumption) ?_
                    rotate_left
                    · (intro w hSw; (try dsimp only at hSw); go_simp; try (with_reducible rfl))
                    try simp only [Act.put, List.setIfInBounds_toArray, List.set_cons_zero, List.set_cons_succ]
                    refine wpAnyH_ready (rs := [14]) (by kernel_rfl) (by simp) ?_
                    refine AllReadyH.cons (o := { dst := none, op := Op.store 27 (Operand.tmp 12) (Operand.tmp 100), type := 0, pos := "law.go:95", after := #[{ on := 13, ground := Ground.data }, { on := 11, ground := Ground.data }, { on := 9, ground := Ground.chain }, { on := 0, ground := Ground.phase }, { on := 1, ground := Ground.phase }, { on := 2, ground := Ground.phase }, { on := 3, ground := Ground.phase }, { on := 4, ground := Ground.phase }, { on := 5, ground := Ground.phase }, { on := 6, ground := Ground.phase }, { on := 7, ground := Ground.phase }, { on := 8, ground := Ground.phase }, { on := 9, ground := Ground.phase }, { on := 10, ground := Ground.phase }, { on := 11, ground := Ground.phase }, { on := 12, ground := Ground.textOnly Departure.lateStores }, { on := 13, ground := Ground.phase }], guard := none }) rfl (fun K hK => ?_) AllReadyH.nil
                    obtain ⟨f0, f1, f2, f3⟩ := sp_cells hb
                    have mS : Moves [] wa ((w99.setCell ⟨pb, 0, none⟩ (.string lo)).setCell ⟨pb, 1, none⟩ (.string hi2)) := mW.trans (spStored1 hb).2 (fun x hx => .inr (by simp at hx; omega))
                    have hbS : ((w99.setCell ⟨pb, 0, none⟩ (.string lo)).setCell ⟨pb, 1, none⟩ (.string hi2)).heap[pb]? = _ := (spStored1 hb).1
                    go_simp
                    refine hK.out _ _ ?_ (fun hHeld => ?_)
                    · first | exact hS _ mS | exact hS _ mW
                    clear hK K
                    refine wpAnyH_take (i := 15) (oi := { dst := some 13, op := Op.assign (Operand.tmp 101), type := 4, pos := "law.go:95", after := #[{ on := 12, ground := Ground.data }, { on := 14, ground := Ground.chain }, { on := 0, ground := Ground.phase }, { on := 1, ground := Ground.phase }, { on := 2, ground := Ground.phase }, { on := 3, ground := Ground.phase }, { on := 4, ground := Ground.phase }, { on := 5, ground := Ground.phase }, { on := 6, ground := Ground.phase }, { on := 7, ground := Ground.phase }, { on := 8, ground := Ground.phase }, { on := 9, ground := Ground.phase }, { on := 10, ground := Ground.phase }, { on := 11, ground := Ground.phase }, { on := 12, ground := Ground.phase }, { on := 13, ground := Ground.phase }, { on := 14, ground := Ground.phase }], guard := none }) (v := ?_) rfl (by kernel_rfl) (by kernel_rfl) (by kernel_rfl) (fun _ _ _ h => h) (Or.inl ⟨by rfl, ?_⟩) (by assumption) ?_
                    rotate_left
                    · (intro w hSw; (try dsimp only at hSw); go_simp; try (with_reducible rfl))
                    try simp only [Act.put, List.setIfInBounds_toArray, List.set_cons_zero, List.set_cons_succ]
                    refine wpAnyH_done (by kernel_rfl) ?_ _
                    refine NoPanic.normal ?_
                    exact ⟨rfl, by kernel_rfl, pb, by kernel_rfl, by kernel_rfl, hbS, mS⟩
                · rintro u w8 ⟨pb, hu1, hu2, hpb, m8⟩
                  simp only [List.foldl_cons, List.foldl_nil, List.setIfInBounds_toArray, List.set_cons_zero, List.set_cons_succ, hu1, hu2]
                  clear hu1 hu2
                  generalize u 90 = u90
                  generalize u 91 = u91
                  generalize u 92 = u92
                  generalize u 93 = u93
                  generalize u 94 = u94
                  generalize u 95 = u95
                  generalize u 96 = u96
                  generalize u 97 = u97
                  generalize u 98 = u98
                  generalize u 99 = u99
                  generalize u 89 = u89
                  generalize u 100 = u100
                  generalize u 101 = u101
                  replace M8 := M8.then m8
                  clear hS mW p0 p1 r0 r1 bA bB hwrap1 hk12 hj
                  go_wp2_with fail
                  obtain ⟨a0, a1, _, _⟩ := sp_cells hpb
                  have HS8 : Hid (SpsAt w8 (some ⟨g, 0, none⟩) xs) := HS.out.moves M8
                  have hTk : Hid (k = (xs.take k).length) := by have := HN.out; show k = _; rw [List.length_take]; omega
                  have mW : Moves [] w8 w8.drew := (Moves.refl _ _).drew
                  obtain ⟨k2, hk2⟩ : ∃ k2 : Nat, Hid (k + 2 = k2) := ⟨_, rfl⟩
                  have hk22 := hk2.out
                  have hwrap : IntKind.i64.wrap ((k : Int) + 2) = (k2 : Int) := by rw [IntWalk.i64_in _ (by omega)]; omega
                  have hKn : k2 ≤ n := by omega
                  have hKnI : (k2 : Int) ≤ n := by omega
                  have hKc : (k2 : Int) ≤ cap := by omega
                  have hkc : (k : Int) ≤ cap := by omega
                  have hkn' : (k : Int) ≤ n := by omega
                  have hbd1 : Hid (([] : List Psp).length + (xs.take k).length ≤ 1099511627776) := by show _ ≤ _; rw [List.length_take, HN.out]; simp; omega
                  have hbd2 : Hid (([] ++ xs.take k).length + ([(⟨lo, hi2⟩ : Psp)] : List Psp).length ≤ 1099511627776) := by show _ ≤ _; rw [List.nil_append, List.length_take, HN.out]; simp; omega
                  have hbd3 : Hid (([] ++ xs.take k ++ [(⟨lo, hi2⟩ : Psp)]).length + (xs.drop k2).length ≤ 1099511627776) := by show _ ≤ _; rw [List.nil_append, List.length_append, List.length_take, List.length_drop, HN.out]; simp; omega
                  have hS : ∀ w', Moves [] w8 w' → (w'.cell? ⟨pb, 0, none⟩ = some (.string lo) ∧ w'.cell? ⟨pb, 1, none⟩ = some (.string hi2)) := fun w' m' => ⟨m'.cell a0, m'.cell a1⟩
                  obtain ⟨Y, hYeq, hY⟩ : ∃ Y : Addr, (if cap = k2 then some (⟨g, 0, none⟩ : Addr) else some ⟨g, k2 * 2, none⟩) = some Y ∧ ∀ w', Moves [] w8 w' → SpsAt w' (some Y) (xs.drop k2) := by
                    by_cases hcp : cap = k2
                    · refine ⟨⟨g, 0, none⟩, by rw [if_pos hcp], fun w' _ j s hs => ?_⟩
                      rw [List.drop_eq_nil_of_le (by have := HN.out; omega)] at hs
                      simp at hs
                    · refine ⟨⟨g, k2 * 2, none⟩, by rw [if_neg hcp], fun w' m' => ?_⟩
                      have h := (HS8.out.moves m').drop k2
                      rw [Nat.zero_add] at h
                      exact h
                  have HY : Hid (∀ w', Moves [] w8 w' → SpsAt w' (some Y) (xs.drop k2)) := hY
                  have hDl : Hid (n - k2 = (xs.drop k2).length) := by show n - k2 = _; rw [List.length_drop, HN.out]
                  clear hY
                  refine wp_some7 [104, 105, 106, 107, 108, 109, 110, 111, 112, 113, 114, 115, 116, 5] (fun u w' => ∃ v', u 5 = v' ∧ OwnS w' v' (xs.take k ++ (⟨lo, hi2⟩ : Psp) :: xs.drop k2) ∧ Moves [] w8 w') ?_ ?_
                  · refine wp_region_noPanic ?_
                    refine wp_region_held_drew (S := (fun w' => w'.cell? ⟨pb, 0, none⟩ = some (.string lo) ∧ w'.cell? ⟨pb, 1, none⟩ = some (.string hi2))) (by kernel_rfl) ?_ (fun hHeld => ?_)
                    · first | (go_keep; done) | exact hS _ mW
                    refine wpAnyH_take (i := 1) (oi := { dst := some 105, op := Op.move (Operand.tmp 5), type := 22, pos := "law.go:99", after := #[], guard := none }) (v := ?_) rfl (by kernel_rfl) (by kernel_rfl) (by kernel_rfl) (fun _ _ _ h => h) (Or.inl ⟨by rfl, ?_⟩) (by assumption) ?_
                    rotate_left
                    · (intro w hSw; (try dsimp only at hSw); go_simp; try (with_reducible rfl))
                    try simp only [Act.put, List.setIfInBounds_toArray, List.set_cons_zero, List.set_cons_succ]
                    refine wpAnyH_take (i := 2) (oi := { dst := some 106, op := Op.move (Operand.tmp 8), type := 3, pos := "law.go:99", after := #[], guard := none }) (v := ?_) rfl (by kernel_rfl) (by kernel_rfl) (by kernel_rfl) (fun _ _ _ h => h) (Or.inl ⟨by rfl, ?_⟩) (by assumption) ?_
                    rotate_left
                    · (intro w hSw; (try dsimp only at hSw); go_simp; try (with_reducible rfl))
                    try simp only [Act.put, List.setIfInBounds_toArray, List.set_cons_zero, List.set_cons_succ]
                    refine wpAnyH_take (i := 3) (oi := { dst := some 107, op := Op.slice 22 (Operand.tmp 105) none (some (Operand.tmp 106)) none, type := 22, pos := "law.go:99", after := #[{ on := 1, ground := Ground.data }, { on := 2, ground := Ground.data }], guard := none }) (v := ?_) rfl (by kernel_rfl) (by kernel_rfl) (by kernel_rfl) (fun _ _ _ h => h) (Or.inl ⟨by rfl, ?_⟩) (by assumption) ?_
                    rotate_left
                    · (intro w hSw; (try dsimp only at hSw); go_simp; try (with_reducible rfl))
                    try simp only [Act.put, List.setIfInBounds_toArray, List.set_cons_zero, List.set_cons_succ]
                    refine wpAnyH_take (i := 5) (oi := { dst := some 109, op := Op.load 27 (Operand.tmp 12), type := 27, pos := "law.go:99", after := #[], guard := none }) (v := ?_) rfl (by kernel_rfl) (by kernel_rfl) (by kernel_rfl) (fun _ _ _ h => h) (Or.inl ⟨by rfl, ?_⟩) (by assumption) ?_
                    rotate_left
                    · (intro w hSw; (try dsimp only at hSw); go_simp; try (with_reducible rfl))
                    try simp only [Act.put, List.setIfInBounds_toArray, List.set_cons_zero, List.set_cons_succ]
                    refine wpAnyH_take (i := 8) (oi := { dst := some 112, op := Op.move (Operand.tmp 5), type := 22, pos := "law.go:99", after := #[], guard := none }) (v := ?_) rfl (by kernel_rfl) (by kernel_rfl) (by kernel_rfl) (fun _ _ _ h => h) (Or.inl ⟨by rfl, ?_⟩) (by assumption) ?_
                    rotate_left
                    · (intro w hSw; (try dsimp only at hSw); go_simp; try (with_reducible rfl))
                    try simp only [Act.put, List.setIfInBounds_toArray, List.set_cons_zero, List.set_cons_succ]
                    refine wpAnyH_take (i := 9) (oi := { dst := some 113, op := Op.move (Operand.tmp 8), type := 3, pos := "law.go:99", after := #[], guard := none }) (v := ?_) rfl (by kernel_rfl) (by kernel_rfl) (by kernel_rfl) (fun _ _ _ h => h) (Or.inl ⟨by rfl, ?_⟩) (by assumption) ?_
                    rotate_left
                    · (intro w hSw; (try dsimp only at hSw); go_simp; try (with_reducible rfl))
                    try simp only [Act.put, List.setIfInBounds_toArray, List.set_cons_zero, List.set_cons_succ]
                    refine wpAnyH_take (i := 10) (oi := { dst := some 114, op := Op.binOp BinOp.add 3 (Operand.tmp 113) (Operand.const (Value.int IntKind.i64 2)) 3, type := 3, pos := "law.go:99", after := #[{ on := 9, ground := Ground.data }], guard := none }) (v := ?_) rfl (by kernel_rfl) (by kernel_rfl) (by kernel_rfl) (fun _ _ _ h => h) (Or.inl ⟨by rfl, ?_⟩) (by assumption) ?_
                    rotate_left
                    · (intro w hSw; (try dsimp only at hSw); go_simp; try (with_reducible rfl))
                    try simp only [Act.put, List.setIfInBounds_toArray, List.set_cons_zero, List.set_cons_succ]
                    refine wpAnyH_take (i := 11) (oi := { dst := some 115, op := Op.slice 22 (Operand.tmp 112) (some (Operand.tmp 114)) none none, type := 22, pos := "law.go:99", after := #[{ on := 8, ground := Ground.data }, { on := 10, ground := Ground.data }], guard := none }) (v := ?_) rfl (by kernel_rfl) (by kernel_rfl) (by kernel_rfl) (fun _ _ _ h => h) (Or.inl ⟨by rfl, ?_⟩) (by assumption) ?_
                    rotate_left
                    · (intro w hSw; (try dsimp only at hSw); go_simp; try (with_reducible rfl))
                    try simp only [Act.put, List.setIfInBounds_toArray, List.set_cons_zero, List.set_cons_succ]
                    refine wpAnyH_ready (rs := [0, 6]) (by kernel_rfl) (by simp) ?_
                    refine AllReadyH.cons (o := { dst := some 104, op := Op.buildSlice 22 0 #[], type := 22, pos := "law.go:99", after := #[], guard := none }) rfl (fun K hK => ?_) (AllReadyH.cons (o := { dst := some 110, op := Op.buildSlice 22 1 #[(0, Operand.tmp 109)], type := 22, pos := "law.go:99", after := #[{ on := 5, ground := Ground.data }], guard := none }) rfl (fun K hK => ?_) AllReadyH.nil)
                    · go_simp
                      have hleg70 := mW.size
                      obtain ⟨w70, hwa⟩ : ∃ w70, (w8.alloc (.cells #[] 27)).drew = w70 := ⟨_, rfl⟩
                      have h70 : w70.heap[w8.heap.size]? = some (.cells #[] 27 (0, 0)) := by rw [← hwa]; exact heap_alloc_new w8 _
                      have mA : Moves [] w8 w70 := by rw [← hwa]; exact ((Moves.refl _ _).alloc _).drew
                      rw [hwa]
                      obtain ⟨g70, hg70⟩ : ∃ g70, w8.heap.size = g70 := ⟨_, rfl⟩
                      rw [hg70] at h70 ⊢
                      replace hleg70 : w8.heap.size ≤ g70 := by rw [← hg70]; first | exact hleg70 | exact Nat.le_refl _
                      replace mW := mA
                      clear hwa
                      clear mA
                      refine hK.out _ _ ?_ (fun hHeld => ?_)
                      · exact hS _ mW
                      clear hK K
                      try simp only [Act.put, List.setIfInBounds_toArray, List.set_cons_zero, List.set_cons_succ]
                      refine wpAnyH_ready (rs := [4, 6]) (by kernel_rfl) (by simp) ?_
                      refine AllReadyH.cons (o := { dst := some 108, op := Op.call { callee := Callee.builtin Builtin.append, args := #[Operand.tmp 104, Operand.tmp 107], argTypes := #[22, 22] }, type := 22, pos := "law.go:99", after := #[{ on := 0, ground := Ground.data }, { on := 3, ground := Ground.data }], guard := none }) rfl (fun K hK => ?_) (AllReadyH.cons (o := { dst := some 110, op := Op.buildSlice 22 1 #[(0, Operand.tmp 109)], type := 22, pos := "law.go:99", after := #[{ on := 5, ground := Ground.data }], guard := none }) rfl (fun K hK => ?_) AllReadyH.nil)
                      · refine spans_step (.tmp 104) (.tmp 107) rfl (.slice (some ⟨g70, 0, none⟩) 0 0) ⟨g, 0, none⟩ k cap [] (xs.take k) rfl rfl (by rfl) (OwnS.empty h70) ((HS8.out.moves mW).first k) hTk.out hbd1.out ?_
                        intro v74 w74 hO74 m74 l74
                        have hsz := mW.size
                        replace mW : Moves [] w8 w74 := mW.trans m74 (fun x hx => .inr (by simp [Value.ownBlock] at hx; omega))
                        have hf74 : ∀ b, v74.ownBlock = some b → w8.heap.size ≤ b := lain_le l74 (by intro b hb; simp [Value.ownBlock] at hb; omega) hsz
                        clear m74 l74 hsz
                        refine hK.out _ _ ?_ (fun hHeld => ?_)
                        · exact hS _ mW
                        clear hK K
                        try simp only [Act.put, List.setIfInBounds_toArray, List.set_cons_zero, List.set_cons_succ]
                        refine wpAnyH_ready (rs := [6]) (by kernel_rfl) (by simp) ?_
                        refine AllReadyH.cons (o := { dst := some 110, op := Op.buildSlice 22 1 #[(0, Operand.tmp 109)], type := 22, pos := "law.go:99", after := #[{ on := 5, ground := Ground.data }], guard := none }) rfl (fun K hK => ?_) AllReadyH.nil
                        go_simp
                        have hleg77 := mW.size
                        obtain ⟨w77, hwa⟩ : ∃ w77, w74.alloc (.cells #[.string lo, .string hi2] 27) = w77 := ⟨_, rfl⟩
                        have h77 : w77.heap[w74.heap.size]? = some (.cells #[.string lo, .string hi2] 27 (0, 0)) := by rw [← hwa]; exact heap_alloc_new w74 _
                        have mA : Moves [] w74 w77 := by rw [← hwa]; exact (Moves.refl _ _).alloc _
                        rw [hwa]
                        obtain ⟨g77, hg77⟩ : ∃ g77, w74.heap.size = g77 := ⟨_, rfl⟩
                        rw [hg77] at h77 ⊢
                        replace hleg77 : w8.heap.size ≤ g77 := by rw [← hg77]; first | exact hleg77 | exact Nat.le_refl _
                        replace mW := mW.then mA
                        clear hwa
                        replace hO74 := hO74.moves mA (fun _ _ => by simp)
                        clear mA
                        refine hK.out _ _ ?_ (fun hHeld => ?_)
                        · exact hS _ mW
                        clear hK K
                        try simp only [Act.put, List.setIfInBounds_toArray, List.set_cons_zero, List.set_cons_succ]
                        refine wpAnyH_ready (rs := [7]) (by kernel_rfl) (by simp) ?_
                        refine AllReadyH.cons (o := { dst := some 111, op := Op.call { callee := Callee.builtin Builtin.append, args := #[Operand.tmp 108, Operand.tmp 110], argTypes := #[22, 22] }, type := 22, pos := "law.go:99", after := #[{ on := 4, ground := Ground.data }, { on := 6, ground := Ground.data }, { on := 4, ground := Ground.chain }], guard := none }) rfl (fun K hK => ?_) AllReadyH.nil
                        refine spans_step (.tmp 108) (.tmp 110) rfl v74 ⟨g77, 0, none⟩ 1 1 ([] ++ xs.take k) [⟨lo, hi2⟩] rfl rfl (by rfl) hO74 (SpsAt.block h77) rfl hbd2.out ?_
                        intro v78 w78 hO78 m78 l78
                        have hsz := mW.size
                        replace mW : Moves [] w8 w78 := mW.trans m78 (fun x hx => .inr (hf74 x (Option.mem_toList.1 hx)))
                        have hf78 : ∀ b, v78.ownBlock = some b → w8.heap.size ≤ b := lain_le l78 hf74 hsz
                        clear m78 l78 hsz
                        refine hK.out _ _ ?_ (fun hHeld => ?_)
                        · exact hS _ mW
                        clear hK K
                        try simp only [Act.put, List.setIfInBounds_toArray, List.set_cons_zero, List.set_cons_succ]
                        refine wpAnyH_ready (rs := [12]) (by kernel_rfl) (by simp) ?_
                        refine AllReadyH.cons (o := { dst := some 116, op := Op.call { callee := Callee.builtin Builtin.append, args := #[Operand.tmp 111, Operand.tmp 115], argTypes := #[22, 22] }, type := 22, pos := "law.go:99", after := #[{ on := 7, ground := Ground.data }, { on := 11, ground := Ground.data }, { on := 7, ground := Ground.chain }], guard := none }) rfl (fun K hK => ?_) AllReadyH.nil
                        refine spans_step (.tmp 111) (.tmp 115) rfl v78 Y (n - k2) (cap - k2) ([] ++ xs.take k ++ [⟨lo, hi2⟩]) (xs.drop k2) rfl rfl (by rfl) hO78 (HY.out _ mW) hDl.out hbd3.out ?_
                        intro v83 w83 hO83 m83 l83
                        replace mW : Moves [] w8 w83 := mW.trans m83 (fun x hx => .inr (hf78 x (Option.mem_toList.1 hx)))
                        clear m83 l83
                        refine hK.out _ _ ?_ (fun hHeld => ?_)
                        · exact hS _ mW
                        clear hK K
                        try simp only [Act.put, List.setIfInBounds_toArray, List.set_cons_zero, List.set_cons_succ]
                        refine wpAnyH_take (i := 13) (oi := { dst := some 5, op := Op.assign (Operand.tmp 116), type := 22, pos := "law.go:99", after := #[{ on := 12, ground := Ground.data }, { on := 12, ground := Ground.chain }, { on := 0, ground := Ground.phase }, { on := 1, ground := Ground.phase }, { on := 2, ground := Ground.phase }, { on := 3, ground := Ground.phase }, { on := 4, ground := Ground.phase }, { on := 5, ground := Ground.phase }, { on := 6, ground := Ground.phase }, { on := 7, ground := Ground.phase }, { on := 8, ground := Ground.phase }, { on := 9, ground := Ground.phase }, { on := 10, ground := Ground.phase }, { on := 11, ground := Ground.phase }, { on := 12, ground := Ground.phase }], guard := none }) (v := ?_) rfl (by kernel_rfl) (by kernel_rfl) (by kernel_rfl) (fun _ _ _ h => h) (Or.inl ⟨by rfl, ?_⟩) (by assumption) ?_
                        rotate_left
                        · (intro w hSw; (try dsimp only at hSw); go_simp; try (with_reducible rfl))
                        try simp only [Act.put, List.setIfInBounds_toArray, List.set_cons_zero, List.set_cons_succ]
                        refine wpAnyH_done (by kernel_rfl) ?_ _
                        refine NoPanic.normal ?_
                        exact ⟨rfl, by kernel_rfl, v83, by kernel_rfl, by simpa using hO83, mW⟩
                      · go_simp
                        have hleg77 := mW.size
                        obtain ⟨w77, hwa⟩ : ∃ w77, w70.alloc (.cells #[.string lo, .string hi2] 27) = w77 := ⟨_, rfl⟩
                        have h77 : w77.heap[w70.heap.size]? = some (.cells #[.string lo, .string hi2] 27 (0, 0)) := by rw [← hwa]; exact heap_alloc_new w70 _
                        have mA : Moves [] w70 w77 := by rw [← hwa]; exact (Moves.refl _ _).alloc _
                        rw [hwa]
                        obtain ⟨g77, hg77⟩ : ∃ g77, w70.heap.size = g77 := ⟨_, rfl⟩
                        rw [hg77] at h77 ⊢
                        replace hleg77 : w8.heap.size ≤ g77 := by rw [← hg77]; first | exact hleg77 | exact Nat.le_refl _
                        replace mW := mW.then mA
                        clear hwa
                        have hne : g77 ≠ g70 := by have := lt_of_block h70; omega
                        replace h70 := mA.at h70 (by simp)
                        clear mA
                        refine hK.out _ _ ?_ (fun hHeld => ?_)
                        · exact hS _ mW
                        clear hK K
                        try simp only [Act.put, List.setIfInBounds_toArray, List.set_cons_zero, List.set_cons_succ]
                        refine wpAnyH_ready (rs := [4]) (by kernel_rfl) (by simp) ?_
                        refine AllReadyH.cons (o := { dst := some 108, op := Op.call { callee := Callee.builtin Builtin.append, args := #[Operand.tmp 104, Operand.tmp 107], argTypes := #[22, 22] }, type := 22, pos := "law.go:99", after := #[{ on := 0, ground := Ground.data }, { on := 3, ground := Ground.data }], guard := none }) rfl (fun K hK => ?_) AllReadyH.nil
                        refine spans_step (.tmp 104) (.tmp 107) rfl (.slice (some ⟨g70, 0, none⟩) 0 0) ⟨g, 0, none⟩ k cap [] (xs.take k) rfl rfl (by rfl) (OwnS.empty h70) ((HS8.out.moves mW).first k) hTk.out hbd1.out ?_
                        intro v74 w74 hO74 m74 l74
                        have hsz := mW.size
                        replace mW : Moves [] w8 w74 := mW.trans m74 (fun x hx => .inr (by simp [Value.ownBlock] at hx; omega))
                        have hf74 : ∀ b, v74.ownBlock = some b → w8.heap.size ≤ b := lain_le l74 (by intro b hb; simp [Value.ownBlock] at hb; omega) hsz
                        replace h77 := m74.at h77 (by simp [Value.ownBlock]; omega)
                        clear m74 l74 hsz
                        refine hK.out _ _ ?_ (fun hHeld => ?_)
                        · exact hS _ mW
                        clear hK K
                        try simp only [Act.put, List.setIfInBounds_toArray, List.set_cons_zero, List.set_cons_succ]
                        refine wpAnyH_ready (rs := [7]) (by kernel_rfl) (by simp) ?_
                        refine AllReadyH.cons (o := { dst := some 111, op := Op.call { callee := Callee.builtin Builtin.append, args := #[Operand.tmp 108, Operand.tmp 110], argTypes := #[22, 22] }, type := 22, pos := "law.go:99", after := #[{ on := 4, ground := Ground.data }, { on := 6, ground := Ground.data }, { on := 4, ground := Ground.chain }], guard := none }) rfl (fun K hK => ?_) AllReadyH.nil
                        refine spans_step (.tmp 108) (.tmp 110) rfl v74 ⟨g77, 0, none⟩ 1 1 ([] ++ xs.take k) [⟨lo, hi2⟩] rfl rfl (by rfl) hO74 (SpsAt.block h77) rfl hbd2.out ?_
                        intro v78 w78 hO78 m78 l78
                        have hsz := mW.size
                        replace mW : Moves [] w8 w78 := mW.trans m78 (fun x hx => .inr (hf74 x (Option.mem_toList.1 hx)))
                        have hf78 : ∀ b, v78.ownBlock = some b → w8.heap.size ≤ b := lain_le l78 hf74 hsz
                        clear m78 l78 hsz
                        refine hK.out _ _ ?_ (fun hHeld => ?_)
                        · exact hS _ mW
                        clear hK K
                        try simp only [Act.put, List.setIfInBounds_toArray, List.set_cons_zero, List.set_cons_succ]
                        refine wpAnyH_ready (rs := [12]) (by kernel_rfl) (by simp) ?_
                        refine AllReadyH.cons (o := { dst := some 116, op := Op.call { callee := Callee.builtin Builtin.append, args := #[Operand.tmp 111, Operand.tmp 115], argTypes := #[22, 22] }, type := 22, pos := "law.go:99", after := #[{ on := 7, ground := Ground.data }, { on := 11, ground := Ground.data }, { on := 7, ground := Ground.chain }], guard := none }) rfl (fun K hK => ?_) AllReadyH.nil
                        refine spans_step (.tmp 111) (.tmp 115) rfl v78 Y (n - k2) (cap - k2) ([] ++ xs.take k ++ [⟨lo, hi2⟩]) (xs.drop k2) rfl rfl (by rfl) hO78 (HY.out _ mW) hDl.out hbd3.out ?_
                        intro v83 w83 hO83 m83 l83
                        replace mW : Moves [] w8 w83 := mW.trans m83 (fun x hx => .inr (hf78 x (Option.mem_toList.1 hx)))
                        clear m83 l83
                        refine hK.out _ _ ?_ (fun hHeld => ?_)
                        · exact hS _ mW
                        clear hK K
                        try simp only [Act.put, List.setIfInBounds_toArray, List.set_cons_zero, List.set_cons_succ]
                        refine wpAnyH_take (i := 13) (oi := { dst := some 5, op := Op.assign (Operand.tmp 116), type := 22, pos := "law.go:99", after := #[{ on := 12, ground := Ground.data }, { on := 12, ground := Ground.chain }, { on := 0, ground := Ground.phase }, { on := 1, ground := Ground.phase }, { on := 2, ground := Ground.phase }, { on := 3, ground := Ground.phase }, { on := 4, ground := Ground.phase }, { on := 5, ground := Ground.phase }, { on := 6, ground := Ground.phase }, { on := 7, ground := Ground.phase }, { on := 8, ground := Ground.phase }, { on := 9, ground := Ground.phase }, { on := 10, ground := Ground.phase }, { on := 11, ground := Ground.phase }, { on := 12, ground := Ground.phase }], guard := none }) (v := ?_) rfl (by kernel_rfl) (by kernel_rfl) (by kernel_rfl) (fun _ _ _ h => h) (Or.inl ⟨by rfl, ?_⟩) (by assumption) ?_
                        rotate_left
                        · (intro w hSw; (try dsimp only at hSw); go_simp; try (with_reducible rfl))
                        try simp only [Act.put, List.setIfInBounds_toArray, List.set_cons_zero, List.set_cons_succ]
                        refine wpAnyH_done (by kernel_rfl) ?_ _
                        refine NoPanic.normal ?_
                        exact ⟨rfl, by kernel_rfl, v83, by kernel_rfl, by simpa using hO83, mW⟩
                    · go_simp
                      have hleg77 := mW.size
                      obtain ⟨w77, hwa⟩ : ∃ w77, (w8.alloc (.cells #[.string lo, .string hi2] 27)).drew = w77 := ⟨_, rfl⟩
                      have h77 : w77.heap[w8.heap.size]? = some (.cells #[.string lo, .string hi2] 27 (0, 0)) := by rw [← hwa]; exact heap_alloc_new w8 _
                      have mA : Moves [] w8 w77 := by rw [← hwa]; exact ((Moves.refl _ _).alloc _).drew
                      rw [hwa]
                      obtain ⟨g77, hg77⟩ : ∃ g77, w8.heap.size = g77 := ⟨_, rfl⟩
                      rw [hg77] at h77 ⊢
                      replace hleg77 : w8.heap.size ≤ g77 := by rw [← hg77]; first | exact hleg77 | exact Nat.le_refl _
                      replace mW := mA
                      clear hwa
                      clear mA
                      refine hK.out _ _ ?_ (fun hHeld => ?_)
                      · exact hS _ mW
                      clear hK K
                      try simp only [Act.put, List.setIfInBounds_toArray, List.set_cons_zero, List.set_cons_succ]
                      refine wpAnyH_ready (rs := [0]) (by kernel_rfl) (by simp) ?_
                      refine AllReadyH.cons (o := { dst := some 104, op := Op.buildSlice 22 0 #[], type := 22, pos := "law.go:99", after := #[], guard := none }) rfl (fun K hK => ?_) AllReadyH.nil
                      go_simp
                      have hleg70 := mW.size
                      obtain ⟨w70, hwa⟩ : ∃ w70, w77.alloc (.cells #[] 27) = w70 := ⟨_, rfl⟩
                      have h70 : w70.heap[w77.heap.size]? = some (.cells #[] 27 (0, 0)) := by rw [← hwa]; exact heap_alloc_new w77 _
                      have mA : Moves [] w77 w70 := by rw [← hwa]; exact (Moves.refl _ _).alloc _
                      rw [hwa]
                      obtain ⟨g70, hg70⟩ : ∃ g70, w77.heap.size = g70 := ⟨_, rfl⟩
                      rw [hg70] at h70 ⊢
                      replace hleg70 : w8.heap.size ≤ g70 := by rw [← hg70]; first | exact hleg70 | exact Nat.le_refl _
                      replace mW := mW.then mA
                      clear hwa
                      have hne : g77 ≠ g70 := by have := lt_of_block h77; omega
                      replace h77 := mA.at h77 (by simp)
                      clear mA
                      refine hK.out _ _ ?_ (fun hHeld => ?_)
                      · exact hS _ mW
                      clear hK K
                      try simp only [Act.put, List.setIfInBounds_toArray, List.set_cons_zero, List.set_cons_succ]
                      refine wpAnyH_ready (rs := [4]) (by kernel_rfl) (by simp) ?_
                      refine AllReadyH.cons (o := { dst := some 108, op := Op.call { callee := Callee.builtin Builtin.append, args := #[Operand.tmp 104, Operand.tmp 107], argTypes := #[22, 22] }, type := 22, pos := "law.go:99", after := #[{ on := 0, ground := Ground.data }, { on := 3, ground := Ground.data }], guard := none }) rfl (fun K hK => ?_) AllReadyH.nil
                      refine spans_step (.tmp 104) (.tmp 107) rfl (.slice (some ⟨g70, 0, none⟩) 0 0) ⟨g, 0, none⟩ k cap [] (xs.take k) rfl rfl (by rfl) (OwnS.empty h70) ((HS8.out.moves mW).first k) hTk.out hbd1.out ?_
                      intro v74 w74 hO74 m74 l74
                      have hsz := mW.size
                      replace mW : Moves [] w8 w74 := mW.trans m74 (fun x hx => .inr (by simp [Value.ownBlock] at hx; omega))
                      have hf74 : ∀ b, v74.ownBlock = some b → w8.heap.size ≤ b := lain_le l74 (by intro b hb; simp [Value.ownBlock] at hb; omega) hsz
                      replace h77 := m74.at h77 (by simp [Value.ownBlock]; omega)
                      clear m74 l74 hsz
                      refine hK.out _ _ ?_ (fun hHeld => ?_)
                      · exact hS _ mW
                      clear hK K
                      try simp only [Act.put, List.setIfInBounds_toArray, List.set_cons_zero, List.set_cons_succ]
                      refine wpAnyH_ready (rs := [7]) (by kernel_rfl) (by simp) ?_
                      refine AllReadyH.cons (o := { dst := some 111, op := Op.call { callee := Callee.builtin Builtin.append, args := #[Operand.tmp 108, Operand.tmp 110], argTypes := #[22, 22] }, type := 22, pos := "law.go:99", after := #[{ on := 4, ground := Ground.data }, { on := 6, ground := Ground.data }, { on := 4, ground := Ground.chain }], guard := none }) rfl (fun K hK => ?_) AllReadyH.nil
                      refine spans_step (.tmp 108) (.tmp 110) rfl v74 ⟨g77, 0, none⟩ 1 1 ([] ++ xs.take k) [⟨lo, hi2⟩] rfl rfl (by rfl) hO74 (SpsAt.block h77) rfl hbd2.out ?_
                      intro v78 w78 hO78 m78 l78
                      have hsz := mW.size
                      replace mW : Moves [] w8 w78 := mW.trans m78 (fun x hx => .inr (hf74 x (Option.mem_toList.1 hx)))
                      have hf78 : ∀ b, v78.ownBlock = some b → w8.heap.size ≤ b := lain_le l78 hf74 hsz
                      clear m78 l78 hsz
                      refine hK.out _ _ ?_ (fun hHeld => ?_)
                      · exact hS _ mW
                      clear hK K
                      try simp only [Act.put, List.setIfInBounds_toArray, List.set_cons_zero, List.set_cons_succ]
                      refine wpAnyH_ready (rs := [12]) (by kernel_rfl) (by simp) ?_
                      refine AllReadyH.cons (o := { dst := some 116, op := Op.call { callee := Callee.builtin Builtin.append, args := #[Operand.tmp 111, Operand.tmp 115], argTypes := #[22, 22] }, type := 22, pos := "law.go:99", after := #[{ on := 7, ground := Ground.data }, { on := 11, ground := Ground.data }, { on := 7, ground := Ground.chain }], guard := none }) rfl (fun K hK => ?_) AllReadyH.nil
                      refine spans_step (.tmp 111) (.tmp 115) rfl v78 Y (n - k2) (cap - k2) ([] ++ xs.take k ++ [⟨lo, hi2⟩]) (xs.drop k2) rfl rfl (by rfl) hO78 (HY.out _ mW) hDl.out hbd3.out ?_
                      intro v83 w83 hO83 m83 l83
                      replace mW : Moves [] w8 w83 := mW.trans m83 (fun x hx => .inr (hf78 x (Option.mem_toList.1 hx)))
                      clear m83 l83
                      refine hK.out _ _ ?_ (fun hHeld => ?_)
                      · exact hS _ mW
                      clear hK K
                      try simp only [Act.put, List.setIfInBounds_toArray, List.set_cons_zero, List.set_cons_succ]
                      refine wpAnyH_take (i := 13) (oi := { dst := some 5, op := Op.assign (Operand.tmp 116), type := 22, pos := "law.go:99", after := #[{ on := 12, ground := Ground.data }, { on := 12, ground := Ground.chain }, { on := 0, ground := Ground.phase }, { on := 1, ground := Ground.phase }, { on := 2, ground := Ground.phase }, { on := 3, ground := Ground.phase }, { on := 4, ground := Ground.phase }, { on := 5, ground := Ground.phase }, { on := 6, ground := Ground.phase }, { on := 7, ground := Ground.phase }, { on := 8, ground := Ground.phase }, { on := 9, ground := Ground.phase }, { on := 10, ground := Ground.phase }, { on := 11, ground := Ground.phase }, { on := 12, ground := Ground.phase }], guard := none }) (v := ?_) rfl (by kernel_rfl) (by kernel_rfl) (by kernel_rfl) (fun _ _ _ h => h) (Or.inl ⟨by rfl, ?_⟩) (by assumption) ?_
                      rotate_left
                      · (intro w hSw; (try dsimp only at hSw); go_simp; try (with_reducible rfl))
                      try simp only [Act.put, List.setIfInBounds_toArray, List.set_cons_zero, List.set_cons_succ]
                      refine wpAnyH_done (by kernel_rfl) ?_ _
                      refine NoPanic.normal ?_
                      exact ⟨rfl, by kernel_rfl, v83, by kernel_rfl, by simpa using hO83, mW⟩
                  · rintro u w9 ⟨v9, hu, hO9, m9⟩
                    simp only [List.foldl_cons, List.foldl_nil, List.setIfInBounds_toArray, List.set_cons_zero, List.set_cons_succ, hu]
                    clear hu
                    generalize u 104 = u104
                    generalize u 105 = u105
                    generalize u 106 = u106
                    generalize u 107 = u107
                    generalize u 108 = u108
                    generalize u 109 = u109
                    generalize u 110 = u110
                    generalize u 111 = u111
                    generalize u 112 = u112
                    generalize u 113 = u113
                    generalize u 114 = u114
                    generalize u 115 = u115
                    generalize u 116 = u116
                    have M9 : Moves [] w w9 := M.then (M8.then m9)
                    rw [← hk22] at hO9
                    have hcov9 : Hid (spCov (xs.take k ++ (⟨lo, hi2⟩ : Psp) :: xs.drop (k + 2)) = true) := HCJ.out
                    have hlen9 : (xs.take k ++ (⟨lo, hi2⟩ : Psp) :: xs.drop (k + 2)).length ≤ i + 2 := by rw [List.length_append, List.length_cons, List.length_take, List.length_drop, HN.out]; omega
                    clear mW hS a0 a1 hTk HS8 hbd1 hbd2 hbd3 hwrap hpb
                    have hpos9 : (xs.take k ++ (⟨lo, hi2⟩ : Psp) :: xs.drop (k + 2)).length ≠ 0 := by simp
                    obtain ⟨g9, cap9, hv9⟩ : ∃ g9 cap9, v9 = .slice (some ⟨g9, 0, none⟩) (xs.take k ++ (⟨lo, hi2⟩ : Psp) :: xs.drop (k + 2)).length cap9 := by
                      rcases hO9.2 with ⟨_, h0⟩ | ⟨gg, cc, cur, e, _⟩
                      · exact absurd h0 hpos9
                      · exact ⟨gg, cc, e⟩
                    obtain ⟨ad9, c9, e9, hc9, _, hS9⟩ := hO9.at
                    rw [hv9] at e9
                    simp only [Value.slice.injEq] at e9
                    obtain ⟨rfl, _, rfl⟩ := e9
                    subst hv9
                    obtain ⟨ys, hys⟩ : ∃ ys, (xs.take k ++ (⟨lo, hi2⟩ : Psp) :: xs.drop (k + 2)) = ys := ⟨_, rfl⟩
                    rw [hys] at hO9 hc9 hS9 hcov9 hlen9 hpos9 ⊢
                    obtain ⟨n9, hn9⟩ : ∃ n9, ys.length = n9 := ⟨_, rfl⟩
                    have HN9 : Hid (n9 = ys.length) := hn9.symm
                    rw [hn9] at hO9 hc9 hlen9 ⊢
                    have HS9 : Hid (SpsAt w9 (some ⟨g9, 0, none⟩) ys) := hS9
                    have HO9 : Hid (OwnS w9 (.slice (some ⟨g9, 0, none⟩) n9 cap9) ys) := hO9
                    have hap : Hid (spAp ys = true) := spAp_true (spCov_apart hcov9.out)
                    have hl9 : n9 ≤ 1000000 := by omega
                    obtain ⟨ph, hph⟩ : ∃ ph, phead t 3 = ph := ⟨_, rfl⟩
                    have hhead : ∀ w, Calls Try.prog 12 #[.string t, .int .i64 3] w fun e w' => e = .returned (.string ph) ∧ w = w' := by
                      intro w
                      have := head_d w t 3
                      rw [hph] at this
                      exact this
                    clear hS9 hO9 hn9 hys hph hpos9
                    have hbz : ∀ ph : ByteArray, Hid (([] ++ [ph, ⟨#[]⟩]).length + (zs.take 4).length ≤ 1000000) := fun ph => by
                      have h4 : (zs.take 4).length ≤ 4 := by rw [List.length_take]; omega
                      show 2 + (zs.take 4).length ≤ 1000000
                      omega
                    go_wp2_with (first | (go_at_call 18; refine (spCover_w _ _ _ _ ys HS9.out HN9.out hc9 hl9).mono ?_; rintro _ w10 ⟨rfl, m10⟩; rw [hcov9.out]) | (go_at_call 19; refine (spApart_w _ _ _ _ ys (HS9.out.moves m10) HN9.out hc9 hl9).mono ?_; rintro _ w11 ⟨rfl, m11⟩; rw [hap.out]; have z1 := heap_alloc_new w11 (.cells #[] 9); have z2 : Moves [] w11 (w11.alloc (.cells #[] 9)) := (Moves.refl _ _).alloc _; have z3 := zbox w11 ph) | (go_at_call 12; refine (hhead _).mono ?_; rintro _ _ ⟨rfl, rfl⟩) | (at_builtin; refine strs_append (.tmp 125) (.tmp 128) rfl (.slice (some ⟨w11.heap.size, 0, none⟩) 0 0) (some ⟨w11.heap.size + 1, 0, none⟩) 2 2 [] [ph, ⟨#[]⟩] rfl rfl rfl z3.1 z3.2.1 rfl (fun h => by simp at h) (by simp) ?_; intro v12 w12 hO12 m12 l12; have M12 : Moves [] w11 w12 := (z3.2.2.trans m12 (fun x hx => .inr (by simp [Value.ownBlock] at hx; omega))); have hf12 : ∀ b, v12.ownBlock = some b → w11.heap.size ≤ b := lain_le l12 (by intro b hb; simp [Value.ownBlock] at hb; omega) z3.2.2.size; clear z1 z2 z3 m12 l12) | (go_at_call 20; refine (hfew _).mono ?_; rintro _ _ ⟨n13, rfl, hn13, rfl⟩; have HN13 : Hid (n13 = (zs.take 4).length) := hn13; clear hn13; have HZ12 := (HZ.out.moves (M9.then ((m10.then m11).then M12))).first 4) | (at_builtin; refine strs_append (.tmp 129) (.tmp 131) rfl v12 adz n13 cz ([] ++ [ph, ⟨#[]⟩]) (zs.take 4) rfl rfl rfl hO12 HZ12 HN13.out hnz (hbz ph).out ?_; intro v14 w14 hO14 m14 l14; (obtain ⟨zz, hzz⟩ : ∃ zz, [] ++ [ph, ⟨#[]⟩] ++ zs.take 4 = zz := ⟨_, rfl⟩); rw [hzz] at hO14; (obtain ⟨ad14, cap14, rfl, hc14, hS14⟩ := hO14.at); (obtain ⟨n14, hn14⟩ : ∃ n14, zz.length = n14 := ⟨_, rfl⟩); have HN14 : Hid (zz.length = n14) := hn14; have HZL : Hid ([] ++ [ph, ⟨#[]⟩] ++ zs.take 4 = zz) := hzz; rw [hn14] at hc14 ⊢; clear hn14 hzz))
                    have M14 : Moves [] w9 w14 := ((m10.then m11).then M12).trans m14 (fun x hx => .inr (by have := hf12 x (Option.mem_toList.1 hx); have := (m10.then m11).size; omega))
                    have HZZ : Hid (StrsAt w14 ad14 zz) := hS14
                    have hl14 : n14 ≤ 100 := by
                      have h4 : (zs.take 4).length ≤ 4 := by rw [List.length_take]; omega
                      rw [← HN14.out, ← HZL.out, List.length_append]
                      show 2 + (zs.take 4).length ≤ 100
                      omega
                    clear hS14 HZL hO14 m14 l14 hO12 hf12 HN13 hhead HZ12
                    go_loopw [134] (fun vj w15 => ∃ j : Nat, j ≤ n14 ∧ vj = .int .i64 (j : Nat) ∧ Moves [] w14 w15) (fun vj _ => n14 - (intOf vj).toNat)
                    case atStart => exact ⟨0, by omega, rfl, Moves.refl _ _⟩
                    case round =>
                      obtain ⟨j, hjn, rfl, mj⟩ := hrel
                      by_cases hjl : j < n14
                      · have hjI : (j : Int) < n14 := by omega
                        obtain ⟨nm, hnm⟩ : ∃ s, zz[j]? = some s := ⟨_, List.getElem?_eq_getElem (by have := HN14.out; omega)⟩
                        obtain ⟨gz, oz, rfl, cz0⟩ := HZZ.out j nm hnm
                        replace cz0 := mj.cell cz0
                        have hone : Hid ((ys.filter (fun s => spH s nm)).length = 1) := spCov_one hcov9.out nm
                        clear hnm
                        go_wp2_with fail
                        go_loopw [16, 17] (fun vin vq w16 => ∃ q : Nat, q ≤ n9 ∧ vin = .int .i64 ((((ys.take q).filter (fun s => spH s nm)).length : Nat) : Int) ∧ vq = .int .i64 (q : Nat) ∧ Moves [] w14 w16) (fun _ vq _ => n9 - (intOf vq).toNat)
                        case atStart => exact ⟨0, by omega, by simp, rfl, mj⟩
                        case round =>
                          obtain ⟨q, hqn, rfl, rfl, mq⟩ := hrel
                          by_cases hql : q < n9
                          · have hqI : (q : Int) < n9 := by omega
                            obtain ⟨y, hy⟩ : ∃ s, ys[q]? = some s := ⟨_, List.getElem?_eq_getElem (by have := HN9.out; omega)⟩
                            obtain ⟨_, _, q1, y0, y1⟩ := HS9.out q y hy
                            simp only [Option.some.injEq, Addr.mk.injEq] at q1
                            obtain ⟨rfl, rfl, _⟩ := q1
                            rw [Nat.zero_add] at y0 y1
                            replace y0 := (M14.then mq).cell y0
                            replace y1 := (M14.then mq).cell y1
                            obtain ⟨c, hc⟩ : ∃ c, ((ys.take q).filter (fun s => spH s nm)).length = c := ⟨_, rfl⟩
                            have hc22 : c ≤ q := by rw [← hc]; exact Nat.le_trans (List.length_filter_le _ _) (by rw [List.length_take]; omega)
                            have hstep : ((ys.take (q + 1)).filter (fun s => spH s nm)).length = c + (if spH y nm = true then 1 else 0) := by
                              rw [List.take_add_one, hy, List.filter_append, List.length_append, hc]
                              cases hhh : spH y nm <;> simp [hhh]
                            have HST : Hid (((ys.take (q + 1)).filter (fun s => spH s nm)).length = c + (if spH y nm = true then 1 else 0)) := hstep
                            rw [hc]
                            clear hc hstep hy
                            obtain ⟨ylo, yhi⟩ := y
                            dsimp only at y0 y1
                            cases hHy : spH ⟨ylo, yhi⟩ nm with
                            | true =>
                              have HSU : Hid (((ys.take (q + 1)).filter (fun s => spH s nm)).length = c + 1) := by
                                have h := HST.out
                                rw [hHy] at h
                                simp at h
                                exact h
                              go_wp2_with (go_at_call 15; refine (spHas_w _ _ _ _).mono ?_; rintro _ w17 ⟨rfl, m17⟩; rw [hHy])
                              go_roundw
                              case rel => exact ⟨q + 1, by omega, by rw [HSU.out]; go_num, by go_num, mq.then m17⟩
                              case measure => simp [intOf]; omega
                            | false =>
                              have HSU : Hid (((ys.take (q + 1)).filter (fun s => spH s nm)).length = c) := by
                                have h := HST.out
                                rw [hHy] at h
                                simp at h
                                exact h
                              go_wp2_with (go_at_call 15; refine (spHas_w _ _ _ _).mono ?_; rintro _ w17 ⟨rfl, m17⟩; rw [hHy])
                              go_roundw
                              case rel => exact ⟨q + 1, by omega, by rw [HSU.out], by go_num, mq.then m17⟩
                              case measure => simp [intOf]; omega
                          · obtain rfl : q = n9 := by omega
                            have hall : ((ys.take q).filter (fun s => spH s nm)).length = 1 := by rw [List.take_of_length_le (by have := HN9.out; omega)]; exact hone.out
                            rw [hall]
                            clear hall
                            go_wp2_with fail
                            go_roundw
                            case rel => exact ⟨j + 1, by omega, by go_num, mq⟩
                            case measure => simp [intOf]; omega
                      · obtain rfl : j = n14 := by omega
                        go_wp2_with fail
                        go_roundw
                        case rel => exact ⟨i + 1, ys, g9, cap9, by omega, by go_num, by rw [← HN9.out], HO9.out.moves (M14.then mj) (fun _ _ => by simp), hcov9, by have := HN9.out; omega, M9.then (M14.then mj)⟩
                        case measure => simp [intOf]; omega
              ·
                have h3a : (li.tmod 3 != 0) = true := by simp [h3]
                have h3b : (li.tmod 3 == 0) = false := by simp [h3]
                refine (spSplit_yes lo hi t _ hCC).mono ?_
                rintro _ w7 ⟨rfl, m7⟩
                obtain ⟨my, bA, bB⟩ := spBoxes2 w7 #[.string lo, .string t] #[.string t, .string hi] 27
                have M8 := (m5.then m7).then my
                obtain ⟨Q, hQ⟩ : ∃ Q, w7.heap.size = Q := ⟨_, rfl⟩
                rw [hQ] at bA bB
                have vi8 := (M.then M8).cell vi0
                go_wp2_with fail
                generalize ((w7.alloc (.cells #[.string lo, .string t] 27)).alloc (.cells #[.string t, .string hi] 27)) = w8 at *
                obtain ⟨a0, a1, _, _⟩ := sp_cells bA
                obtain ⟨d0, d1, _, _⟩ := sp_cells bB
                have HS8 : Hid (SpsAt w8 (some ⟨g, 0, none⟩) xs) := HS.out.moves M8
                have hTk : Hid (k = (xs.take k).length) := by have := HN.out; show k = _; rw [List.length_take]; omega
                have mW : Moves [] w8 w8.drew := (Moves.refl _ _).drew
                obtain ⟨k1, hk1⟩ : ∃ k1 : Nat, Hid (k + 1 = k1) := ⟨_, rfl⟩
                have hk12 := hk1.out
                have hwrap : IntKind.i64.wrap ((k : Int) + 1) = (k1 : Int) := by rw [IntWalk.i64_in _ (by omega)]; omega
                have hKn : k1 ≤ n := by omega
                have hKnI : (k1 : Int) ≤ n := by omega
                have hKc : (k1 : Int) ≤ cap := by omega
                have hkc : (k : Int) ≤ cap := by omega
                have hkn' : (k : Int) ≤ n := by omega
                have hbd1 : Hid (([] : List Psp).length + (xs.take k).length ≤ 1099511627776) := by show _ ≤ _; rw [List.length_take, HN.out]; simp; omega
                have hbd2 : Hid (([] ++ xs.take k).length + ([(⟨lo, t⟩ : Psp), ⟨t, hi⟩] : List Psp).length ≤ 1099511627776) := by show _ ≤ _; rw [List.nil_append, List.length_take, HN.out]; simp; omega
                have hbd3 : Hid (([] ++ xs.take k ++ [(⟨lo, t⟩ : Psp), ⟨t, hi⟩]).length + (xs.drop k1).length ≤ 1099511627776) := by show _ ≤ _; rw [List.nil_append, List.length_append, List.length_take, List.length_drop, HN.out]; simp; omega
                have hS : ∀ w', Moves [] w8 w' → (w'.cell? ⟨Q, 0, none⟩ = some (.string lo) ∧ w'.cell? ⟨Q, 1, none⟩ = some (.string t) ∧ w'.cell? ⟨Q + 1, 0, none⟩ = some (.string t) ∧ w'.cell? ⟨Q + 1, 1, none⟩ = some (.string hi)) := fun w' m' => ⟨m'.cell a0, m'.cell a1, m'.cell d0, m'.cell d1⟩
                obtain ⟨Y, hYeq, hY⟩ : ∃ Y : Addr, (if cap = k1 then some (⟨g, 0, none⟩ : Addr) else some ⟨g, k1 * 2, none⟩) = some Y ∧ ∀ w', Moves [] w8 w' → SpsAt w' (some Y) (xs.drop k1) := by
                  by_cases hcp : cap = k1
                  · refine ⟨⟨g, 0, none⟩, by rw [if_pos hcp], fun w' _ j s hs => ?_⟩
                    rw [List.drop_eq_nil_of_le (by have := HN.out; omega)] at hs
                    simp at hs
                  · refine ⟨⟨g, k1 * 2, none⟩, by rw [if_neg hcp], fun w' m' => ?_⟩
                    have h := (HS8.out.moves m').drop k1
                    rw [Nat.zero_add] at h
                    exact h
                have HY : Hid (∀ w', Moves [] w8 w' → SpsAt w' (some Y) (xs.drop k1)) := hY
                have hDl : Hid (n - k1 = (xs.drop k1).length) := by show n - k1 = _; rw [List.length_drop, HN.out]
                clear hY
                refine wp_some7 [70, 71, 72, 73, 74, 75, 76, 77, 78, 79, 80, 81, 82, 83, 5] (fun u w' => ∃ v', u 5 = v' ∧ OwnS w' v' (xs.take k ++ (⟨lo, t⟩ : Psp) :: ⟨t, hi⟩ :: xs.drop k1) ∧ Moves [] w8 w') ?_ ?_
                · refine wp_region_noPanic ?_
                  refine wp_region_held_drew (S := (fun w' => w'.cell? ⟨Q, 0, none⟩ = some (.string lo) ∧ w'.cell? ⟨Q, 1, none⟩ = some (.string t) ∧ w'.cell? ⟨Q + 1, 0, none⟩ = some (.string t) ∧ w'.cell? ⟨Q + 1, 1, none⟩ = some (.string hi))) (by kernel_rfl) ?_ (fun hHeld => ?_)
                  · first | (go_keep; done) | exact hS _ mW
                  refine wpAnyH_take (i := 1) (oi := { dst := some 71, op := Op.move (Operand.tmp 5), type := 22, pos := "law.go:93", after := #[], guard := none }) (v := ?_) rfl (by kernel_rfl) (by kernel_rfl) (by kernel_rfl) (fun _ _ _ h => h) (Or.inl ⟨by rfl, ?_⟩) (by assumption) ?_
                  rotate_left
                  · (intro w hSw; (try dsimp only at hSw); go_simp; try (with_reducible rfl))
                  try simp only [Act.put, List.setIfInBounds_toArray, List.set_cons_zero, List.set_cons_succ]
                  refine wpAnyH_take (i := 2) (oi := { dst := some 72, op := Op.move (Operand.tmp 8), type := 3, pos := "law.go:93", after := #[], guard := none }) (v := ?_) rfl (by kernel_rfl) (by kernel_rfl) (by kernel_rfl) (fun _ _ _ h => h) (Or.inl ⟨by rfl, ?_⟩) (by assumption) ?_
                  rotate_left
                  · (intro w hSw; (try dsimp only at hSw); go_simp; try (with_reducible rfl))
                  try simp only [Act.put, List.setIfInBounds_toArray, List.set_cons_zero, List.set_cons_succ]
                  refine wpAnyH_take (i := 3) (oi := { dst := some 73, op := Op.slice 22 (Operand.tmp 71) none (some (Operand.tmp 72)) none, type := 22, pos := "law.go:93", after := #[{ on := 1, ground := Ground.data }, { on := 2, ground := Ground.data }], guard := none }) (v := ?_) rfl (by kernel_rfl) (by kernel_rfl) (by kernel_rfl) (fun _ _ _ h => h) (Or.inl ⟨by rfl, ?_⟩) (by assumption) ?_
                  rotate_left
                  · (intro w hSw; (try dsimp only at hSw); go_simp; try (with_reducible rfl))
                  try simp only [Act.put, List.setIfInBounds_toArray, List.set_cons_zero, List.set_cons_succ]
                  refine wpAnyH_take (i := 5) (oi := { dst := some 75, op := Op.load 27 (Operand.tmp 9), type := 27, pos := "law.go:93", after := #[], guard := none }) (v := ?_) rfl (by kernel_rfl) (by kernel_rfl) (by kernel_rfl) (fun _ _ _ h => h) (Or.inl ⟨by rfl, ?_⟩) (by assumption) ?_
                  rotate_left
                  · (intro w hSw; (try dsimp only at hSw); go_simp; try (with_reducible rfl))
                  try simp only [Act.put, List.setIfInBounds_toArray, List.set_cons_zero, List.set_cons_succ]
                  refine wpAnyH_take (i := 6) (oi := { dst := some 76, op := Op.load 27 (Operand.tmp 10), type := 27, pos := "law.go:93", after := #[], guard := none }) (v := ?_) rfl (by kernel_rfl) (by kernel_rfl) (by kernel_rfl) (fun _ _ _ h => h) (Or.inl ⟨by rfl, ?_⟩) (by assumption) ?_
                  rotate_left
                  · (intro w hSw; (try dsimp only at hSw); go_simp; try (with_reducible rfl))
                  try simp only [Act.put, List.setIfInBounds_toArray, List.set_cons_zero, List.set_cons_succ]
                  refine wpAnyH_take (i := 9) (oi := { dst := some 79, op := Op.move (Operand.tmp 5), type := 22, pos := "law.go:93", after := #[], guard := none }) (v := ?_) rfl (by kernel_rfl) (by kernel_rfl) (by kernel_rfl) (fun _ _ _ h => h) (Or.inl ⟨by rfl, ?_⟩) (by assumption) ?_
                  rotate_left
                  · (intro w hSw; (try dsimp only at hSw); go_simp; try (with_reducible rfl))
                  try simp only [Act.put, List.setIfInBounds_toArray, List.set_cons_zero, List.set_cons_succ]
                  refine wpAnyH_take (i := 10) (oi := { dst := some 80, op := Op.move (Operand.tmp 8), type := 3, pos := "law.go:93", after := #[], guard := none }) (v := ?_) rfl (by kernel_rfl) (by kernel_rfl) (by kernel_rfl) (fun _ _ _ h => h) (Or.inl ⟨by rfl, ?_⟩) (by assumption) ?_
                  rotate_left
                  · (intro w hSw; (try dsimp only at hSw); go_simp; try (with_reducible rfl))
                  try simp only [Act.put, List.setIfInBounds_toArray, List.set_cons_zero, List.set_cons_succ]
                  refine wpAnyH_take (i := 11) (oi := { dst := some 81, op := Op.binOp BinOp.add 3 (Operand.tmp 80) (Operand.const (Value.int IntKind.i64 1)) 3, type := 3, pos := "law.go:93", after := #[{ on := 10, ground := Ground.data }], guard := none }) (v := ?_) rfl (by kernel_rfl) (by kernel_rfl) (by kernel_rfl) (fun _ _ _ h => h) (Or.inl ⟨by rfl, ?_⟩) (by assumption) ?_
                  rotate_left
                  · (intro w hSw; (try dsimp only at hSw); go_simp; try (with_reducible rfl))
                  try simp only [Act.put, List.setIfInBounds_toArray, List.set_cons_zero, List.set_cons_succ]
                  refine wpAnyH_take (i := 12) (oi := { dst := some 82, op := Op.slice 22 (Operand.tmp 79) (some (Operand.tmp 81)) none none, type := 22, pos := "law.go:93", after := #[{ on := 9, ground := Ground.data }, { on := 11, ground := Ground.data }], guard := none }) (v := ?_) rfl (by kernel_rfl) (by kernel_rfl) (by kernel_rfl) (fun _ _ _ h => h) (Or.inl ⟨by rfl, ?_⟩) (by assumption) ?_
                  rotate_left
                  · (intro w hSw; (try dsimp only at hSw); go_simp; try (with_reducible rfl))
                  try simp only [Act.put, List.setIfInBounds_toArray, List.set_cons_zero, List.set_cons_succ]
                  refine wpAnyH_ready (rs := [0, 7]) (by kernel_rfl) (by simp) ?_
                  refine AllReadyH.cons (o := { dst := some 70, op := Op.buildSlice 22 0 #[], type := 22, pos := "law.go:93", after := #[], guard := none }) rfl (fun K hK => ?_) (AllReadyH.cons (o := { dst := some 77, op := Op.buildSlice 22 2 #[(0, Operand.tmp 75), (1, Operand.tmp 76)], type := 22, pos := "law.go:93", after := #[{ on := 5, ground := Ground.data }, { on := 6, ground := Ground.data }], guard := none }) rfl (fun K hK => ?_) AllReadyH.nil)
                  · go_simp
                    have hleg70 := mW.size
                    obtain ⟨w70, hwa⟩ : ∃ w70, (w8.alloc (.cells #[] 27)).drew = w70 := ⟨_, rfl⟩
                    have h70 : w70.heap[w8.heap.size]? = some (.cells #[] 27 (0, 0)) := by rw [← hwa]; exact heap_alloc_new w8 _
                    have mA : Moves [] w8 w70 := by rw [← hwa]; exact ((Moves.refl _ _).alloc _).drew
                    rw [hwa]
                    obtain ⟨g70, hg70⟩ : ∃ g70, w8.heap.size = g70 := ⟨_, rfl⟩
                    rw [hg70] at h70 ⊢
                    replace hleg70 : w8.heap.size ≤ g70 := by rw [← hg70]; first | exact hleg70 | exact Nat.le_refl _
                    replace mW := mA
                    clear hwa
                    clear mA
                    refine hK.out _ _ ?_ (fun hHeld => ?_)
                    · exact hS _ mW
                    clear hK K
                    try simp only [Act.put, List.setIfInBounds_toArray, List.set_cons_zero, List.set_cons_succ]
                    refine wpAnyH_ready (rs := [4, 7]) (by kernel_rfl) (by simp) ?_
                    refine AllReadyH.cons (o := { dst := some 74, op := Op.call { callee := Callee.builtin Builtin.append, args := #[Operand.tmp 70, Operand.tmp 73], argTypes := #[22, 22] }, type := 22, pos := "law.go:93", after := #[{ on := 0, ground := Ground.data }, { on := 3, ground := Ground.data }], guard := none }) rfl (fun K hK => ?_) (AllReadyH.cons (o := { dst := some 77, op := Op.buildSlice 22 2 #[(0, Operand.tmp 75), (1, Operand.tmp 76)], type := 22, pos := "law.go:93", after := #[{ on := 5, ground := Ground.data }, { on := 6, ground := Ground.data }], guard := none }) rfl (fun K hK => ?_) AllReadyH.nil)
                    · refine spans_step (.tmp 70) (.tmp 73) rfl (.slice (some ⟨g70, 0, none⟩) 0 0) ⟨g, 0, none⟩ k cap [] (xs.take k) rfl rfl (by rfl) (OwnS.empty h70) ((HS8.out.moves mW).first k) hTk.out hbd1.out ?_
                      intro v74 w74 hO74 m74 l74
                      have hsz := mW.size
                      replace mW : Moves [] w8 w74 := mW.trans m74 (fun x hx => .inr (by simp [Value.ownBlock] at hx; omega))
                      have hf74 : ∀ b, v74.ownBlock = some b → w8.heap.size ≤ b := lain_le l74 (by intro b hb; simp [Value.ownBlock] at hb; omega) hsz
                      clear m74 l74 hsz
                      refine hK.out _ _ ?_ (fun hHeld => ?_)
                      · exact hS _ mW
                      clear hK K
                      try simp only [Act.put, List.setIfInBounds_toArray, List.set_cons_zero, List.set_cons_succ]
                      refine wpAnyH_ready (rs := [7]) (by kernel_rfl) (by simp) ?_
                      refine AllReadyH.cons (o := { dst := some 77, op := Op.buildSlice 22 2 #[(0, Operand.tmp 75), (1, Operand.tmp 76)], type := 22, pos := "law.go:93", after := #[{ on := 5, ground := Ground.data }, { on := 6, ground := Ground.data }], guard := none }) rfl (fun K hK => ?_) AllReadyH.nil
                      go_simp
                      have hleg77 := mW.size
                      obtain ⟨w77, hwa⟩ : ∃ w77, w74.alloc (.cells #[.string lo, .string t, .string t, .string hi] 27) = w77 := ⟨_, rfl⟩
                      have h77 : w77.heap[w74.heap.size]? = some (.cells #[.string lo, .string t, .string t, .string hi] 27 (0, 0)) := by rw [← hwa]; exact heap_alloc_new w74 _
                      have mA : Moves [] w74 w77 := by rw [← hwa]; exact (Moves.refl _ _).alloc _
                      rw [hwa]
                      obtain ⟨g77, hg77⟩ : ∃ g77, w74.heap.size = g77 := ⟨_, rfl⟩
                      rw [hg77] at h77 ⊢
                      replace hleg77 : w8.heap.size ≤ g77 := by rw [← hg77]; first | exact hleg77 | exact Nat.le_refl _
                      replace mW := mW.then mA
                      clear hwa
                      replace hO74 := hO74.moves mA (fun _ _ => by simp)
                      clear mA
                      refine hK.out _ _ ?_ (fun hHeld => ?_)
                      · exact hS _ mW
                      clear hK K
                      try simp only [Act.put, List.setIfInBounds_toArray, List.set_cons_zero, List.set_cons_succ]
                      refine wpAnyH_ready (rs := [8]) (by kernel_rfl) (by simp) ?_
                      refine AllReadyH.cons (o := { dst := some 78, op := Op.call { callee := Callee.builtin Builtin.append, args := #[Operand.tmp 74, Operand.tmp 77], argTypes := #[22, 22] }, type := 22, pos := "law.go:93", after := #[{ on := 4, ground := Ground.data }, { on := 7, ground := Ground.data }, { on := 4, ground := Ground.chain }], guard := none }) rfl (fun K hK => ?_) AllReadyH.nil
                      refine spans_step (.tmp 74) (.tmp 77) rfl v74 ⟨g77, 0, none⟩ 2 2 ([] ++ xs.take k) [⟨lo, t⟩, ⟨t, hi⟩] rfl rfl (by rfl) hO74 (SpsAt.block h77) rfl hbd2.out ?_
                      intro v78 w78 hO78 m78 l78
                      have hsz := mW.size
                      replace mW : Moves [] w8 w78 := mW.trans m78 (fun x hx => .inr (hf74 x (Option.mem_toList.1 hx)))
                      have hf78 : ∀ b, v78.ownBlock = some b → w8.heap.size ≤ b := lain_le l78 hf74 hsz
                      clear m78 l78 hsz
                      refine hK.out _ _ ?_ (fun hHeld => ?_)
                      · exact hS _ mW
                      clear hK K
                      try simp only [Act.put, List.setIfInBounds_toArray, List.set_cons_zero, List.set_cons_succ]
                      refine wpAnyH_ready (rs := [13]) (by kernel_rfl) (by simp) ?_
                      refine AllReadyH.cons (o := { dst := some 83, op := Op.call { callee := Callee.builtin Builtin.append, args := #[Operand.tmp 78, Operand.tmp 82], argTypes := #[22, 22] }, type := 22, pos := "law.go:93", after := #[{ on := 8, ground := Ground.data }, { on := 12, ground := Ground.data }, { on := 8, ground := Ground.chain }], guard := none }) rfl (fun K hK => ?_) AllReadyH.nil
                      refine spans_step (.tmp 78) (.tmp 82) rfl v78 Y (n - k1) (cap - k1) ([] ++ xs.take k ++ [⟨lo, t⟩, ⟨t, hi⟩]) (xs.drop k1) rfl rfl (by rfl) hO78 (HY.out _ mW) hDl.out hbd3.out ?_
                      intro v83 w83 hO83 m83 l83
                      replace mW : Moves [] w8 w83 := mW.trans m83 (fun x hx => .inr (hf78 x (Option.mem_toList.1 hx)))
                      clear m83 l83
                      refine hK.out _ _ ?_ (fun hHeld => ?_)
                      · exact hS _ mW
                      clear hK K
                      try simp only [Act.put, List.setIfInBounds_toArray, List.set_cons_zero, List.set_cons_succ]
                      refine wpAnyH_take (i := 14) (oi := { dst := some 5, op := Op.assign (Operand.tmp 83), type := 22, pos := "law.go:93", after := #[{ on := 13, ground := Ground.data }, { on := 13, ground := Ground.chain }, { on := 0, ground := Ground.phase }, { on := 1, ground := Ground.phase }, { on := 2, ground := Ground.phase }, { on := 3, ground := Ground.phase }, { on := 4, ground := Ground.phase }, { on := 5, ground := Ground.phase }, { on := 6, ground := Ground.phase }, { on := 7, ground := Ground.phase }, { on := 8, ground := Ground.phase }, { on := 9, ground := Ground.phase }, { on := 10, ground := Ground.phase }, { on := 11, ground := Ground.phase }, { on := 12, ground := Ground.phase }, { on := 13, ground := Ground.phase }], guard := none }) (v := ?_) rfl (by kernel_rfl) (by kernel_rfl) (by kernel_rfl) (fun _ _ _ h => h) (Or.inl ⟨by rfl, ?_⟩) (by assumption) ?_
                      rotate_left
                      · (intro w hSw; (try dsimp only at hSw); go_simp; try (with_reducible rfl))
                      try simp only [Act.put, List.setIfInBounds_toArray, List.set_cons_zero, List.set_cons_succ]
                      refine wpAnyH_done (by kernel_rfl) ?_ _
                      refine NoPanic.normal ?_
                      exact ⟨rfl, by kernel_rfl, v83, by kernel_rfl, by simpa using hO83, mW⟩
                    · go_simp
                      have hleg77 := mW.size
                      obtain ⟨w77, hwa⟩ : ∃ w77, w70.alloc (.cells #[.string lo, .string t, .string t, .string hi] 27) = w77 := ⟨_, rfl⟩
                      have h77 : w77.heap[w70.heap.size]? = some (.cells #[.string lo, .string t, .string t, .string hi] 27 (0, 0)) := by rw [← hwa]; exact heap_alloc_new w70 _
                      have mA : Moves [] w70 w77 := by rw [← hwa]; exact (Moves.refl _ _).alloc _
                      rw [hwa]
                      obtain ⟨g77, hg77⟩ : ∃ g77, w70.heap.size = g77 := ⟨_, rfl⟩
                      rw [hg77] at h77 ⊢
                      replace hleg77 : w8.heap.size ≤ g77 := by rw [← hg77]; first | exact hleg77 | exact Nat.le_refl _
                      replace mW := mW.then mA
                      clear hwa
                      have hne : g77 ≠ g70 := by have := lt_of_block h70; omega
                      replace h70 := mA.at h70 (by simp)
                      clear mA
                      refine hK.out _ _ ?_ (fun hHeld => ?_)
                      · exact hS _ mW
                      clear hK K
                      try simp only [Act.put, List.setIfInBounds_toArray, List.set_cons_zero, List.set_cons_succ]
                      refine wpAnyH_ready (rs := [4]) (by kernel_rfl) (by simp) ?_
                      refine AllReadyH.cons (o := { dst := some 74, op := Op.call { callee := Callee.builtin Builtin.append, args := #[Operand.tmp 70, Operand.tmp 73], argTypes := #[22, 22] }, type := 22, pos := "law.go:93", after := #[{ on := 0, ground := Ground.data }, { on := 3, ground := Ground.data }], guard := none }) rfl (fun K hK => ?_) AllReadyH.nil
                      refine spans_step (.tmp 70) (.tmp 73) rfl (.slice (some ⟨g70, 0, none⟩) 0 0) ⟨g, 0, none⟩ k cap [] (xs.take k) rfl rfl (by rfl) (OwnS.empty h70) ((HS8.out.moves mW).first k) hTk.out hbd1.out ?_
                      intro v74 w74 hO74 m74 l74
                      have hsz := mW.size
                      replace mW : Moves [] w8 w74 := mW.trans m74 (fun x hx => .inr (by simp [Value.ownBlock] at hx; omega))
                      have hf74 : ∀ b, v74.ownBlock = some b → w8.heap.size ≤ b := lain_le l74 (by intro b hb; simp [Value.ownBlock] at hb; omega) hsz
                      replace h77 := m74.at h77 (by simp [Value.ownBlock]; omega)
                      clear m74 l74 hsz
                      refine hK.out _ _ ?_ (fun hHeld => ?_)
                      · exact hS _ mW
                      clear hK K
                      try simp only [Act.put, List.setIfInBounds_toArray, List.set_cons_zero, List.set_cons_succ]
                      refine wpAnyH_ready (rs := [8]) (by kernel_rfl) (by simp) ?_
                      refine AllReadyH.cons (o := { dst := some 78, op := Op.call { callee := Callee.builtin Builtin.append, args := #[Operand.tmp 74, Operand.tmp 77], argTypes := #[22, 22] }, type := 22, pos := "law.go:93", after := #[{ on := 4, ground := Ground.data }, { on := 7, ground := Ground.data }, { on := 4, ground := Ground.chain }], guard := none }) rfl (fun K hK => ?_) AllReadyH.nil
                      refine spans_step (.tmp 74) (.tmp 77) rfl v74 ⟨g77, 0, none⟩ 2 2 ([] ++ xs.take k) [⟨lo, t⟩, ⟨t, hi⟩] rfl rfl (by rfl) hO74 (SpsAt.block h77) rfl hbd2.out ?_
                      intro v78 w78 hO78 m78 l78
                      have hsz := mW.size
                      replace mW : Moves [] w8 w78 := mW.trans m78 (fun x hx => .inr (hf74 x (Option.mem_toList.1 hx)))
                      have hf78 : ∀ b, v78.ownBlock = some b → w8.heap.size ≤ b := lain_le l78 hf74 hsz
                      clear m78 l78 hsz
                      refine hK.out _ _ ?_ (fun hHeld => ?_)
                      · exact hS _ mW
                      clear hK K
                      try simp only [Act.put, List.setIfInBounds_toArray, List.set_cons_zero, List.set_cons_succ]
                      refine wpAnyH_ready (rs := [13]) (by kernel_rfl) (by simp) ?_
                      refine AllReadyH.cons (o := { dst := some 83, op := Op.call { callee := Callee.builtin Builtin.append, args := #[Operand.tmp 78, Operand.tmp 82], argTypes := #[22, 22] }, type := 22, pos := "law.go:93", after := #[{ on := 8, ground := Ground.data }, { on := 12, ground := Ground.data }, { on := 8, ground := Ground.chain }], guard := none }) rfl (fun K hK => ?_) AllReadyH.nil
                      refine spans_step (.tmp 78) (.tmp 82) rfl v78 Y (n - k1) (cap - k1) ([] ++ xs.take k ++ [⟨lo, t⟩, ⟨t, hi⟩]) (xs.drop k1) rfl rfl (by rfl) hO78 (HY.out _ mW) hDl.out hbd3.out ?_
                      intro v83 w83 hO83 m83 l83
                      replace mW : Moves [] w8 w83 := mW.trans m83 (fun x hx => .inr (hf78 x (Option.mem_toList.1 hx)))
                      clear m83 l83
                      refine hK.out _ _ ?_ (fun hHeld => ?_)
                      · exact hS _ mW
                      clear hK K
                      try simp only [Act.put, List.setIfInBounds_toArray, List.set_cons_zero, List.set_cons_succ]
                      refine wpAnyH_take (i := 14) (oi := { dst := some 5, op := Op.assign (Operand.tmp 83), type := 22, pos := "law.go:93", after := #[{ on := 13, ground := Ground.data }, { on := 13, ground := Ground.chain }, { on := 0, ground := Ground.phase }, { on := 1, ground := Ground.phase }, { on := 2, ground := Ground.phase }, { on := 3, ground := Ground.phase }, { on := 4, ground := Ground.phase }, { on := 5, ground := Ground.phase }, { on := 6, ground := Ground.phase }, { on := 7, ground := Ground.phase }, { on := 8, ground := Ground.phase }, { on := 9, ground := Ground.phase }, { on := 10, ground := Ground.phase }, { on := 11, ground := Ground.phase }, { on := 12, ground := Ground.phase }, { on := 13, ground := Ground.phase }], guard := none }) (v := ?_) rfl (by kernel_rfl) (by kernel_rfl) (by kernel_rfl) (fun _ _ _ h => h) (Or.inl ⟨by rfl, ?_⟩) (by assumption) ?_
                      rotate_left
                      · (intro w hSw; (try dsimp only at hSw); go_simp; try (with_reducible rfl))
                      try simp only [Act.put, List.setIfInBounds_toArray, List.set_cons_zero, List.set_cons_succ]
                      refine wpAnyH_done (by kernel_rfl) ?_ _
                      refine NoPanic.normal ?_
                      exact ⟨rfl, by kernel_rfl, v83, by kernel_rfl, by simpa using hO83, mW⟩
                  · go_simp
                    have hleg77 := mW.size
                    obtain ⟨w77, hwa⟩ : ∃ w77, (w8.alloc (.cells #[.string lo, .string t, .string t, .string hi] 27)).drew = w77 := ⟨_, rfl⟩
                    have h77 : w77.heap[w8.heap.size]? = some (.cells #[.string lo, .string t, .string t, .string hi] 27 (0, 0)) := by rw [← hwa]; exact heap_alloc_new w8 _
                    have mA : Moves [] w8 w77 := by rw [← hwa]; exact ((Moves.refl _ _).alloc _).drew
                    rw [hwa]
                    obtain ⟨g77, hg77⟩ : ∃ g77, w8.heap.size = g77 := ⟨_, rfl⟩
                    rw [hg77] at h77 ⊢
                    replace hleg77 : w8.heap.size ≤ g77 := by rw [← hg77]; first | exact hleg77 | exact Nat.le_refl _
                    replace mW := mA
                    clear hwa
                    clear mA
                    refine hK.out _ _ ?_ (fun hHeld => ?_)
                    · exact hS _ mW
                    clear hK K
                    try simp only [Act.put, List.setIfInBounds_toArray, List.set_cons_zero, List.set_cons_succ]
                    refine wpAnyH_ready (rs := [0]) (by kernel_rfl) (by simp) ?_
                    refine AllReadyH.cons (o := { dst := some 70, op := Op.buildSlice 22 0 #[], type := 22, pos := "law.go:93", after := #[], guard := none }) rfl (fun K hK => ?_) AllReadyH.nil
                    go_simp
                    have hleg70 := mW.size
                    obtain ⟨w70, hwa⟩ : ∃ w70, w77.alloc (.cells #[] 27) = w70 := ⟨_, rfl⟩
                    have h70 : w70.heap[w77.heap.size]? = some (.cells #[] 27 (0, 0)) := by rw [← hwa]; exact heap_alloc_new w77 _
                    have mA : Moves [] w77 w70 := by rw [← hwa]; exact (Moves.refl _ _).alloc _
                    rw [hwa]
                    obtain ⟨g70, hg70⟩ : ∃ g70, w77.heap.size = g70 := ⟨_, rfl⟩
                    rw [hg70] at h70 ⊢
                    replace hleg70 : w8.heap.size ≤ g70 := by rw [← hg70]; first | exact hleg70 | exact Nat.le_refl _
                    replace mW := mW.then mA
                    clear hwa
                    have hne : g77 ≠ g70 := by have := lt_of_block h77; omega
                    replace h77 := mA.at h77 (by simp)
                    clear mA
                    refine hK.out _ _ ?_ (fun hHeld => ?_)
                    · exact hS _ mW
                    clear hK K
                    try simp only [Act.put, List.setIfInBounds_toArray, List.set_cons_zero, List.set_cons_succ]
                    refine wpAnyH_ready (rs := [4]) (by kernel_rfl) (by simp) ?_
                    refine AllReadyH.cons (o := { dst := some 74, op := Op.call { callee := Callee.builtin Builtin.append, args := #[Operand.tmp 70, Operand.tmp 73], argTypes := #[22, 22] }, type := 22, pos := "law.go:93", after := #[{ on := 0, ground := Ground.data }, { on := 3, ground := Ground.data }], guard := none }) rfl (fun K hK => ?_) AllReadyH.nil
                    refine spans_step (.tmp 70) (.tmp 73) rfl (.slice (some ⟨g70, 0, none⟩) 0 0) ⟨g, 0, none⟩ k cap [] (xs.take k) rfl rfl (by rfl) (OwnS.empty h70) ((HS8.out.moves mW).first k) hTk.out hbd1.out ?_
                    intro v74 w74 hO74 m74 l74
                    have hsz := mW.size
                    replace mW : Moves [] w8 w74 := mW.trans m74 (fun x hx => .inr (by simp [Value.ownBlock] at hx; omega))
                    have hf74 : ∀ b, v74.ownBlock = some b → w8.heap.size ≤ b := lain_le l74 (by intro b hb; simp [Value.ownBlock] at hb; omega) hsz
                    replace h77 := m74.at h77 (by simp [Value.ownBlock]; omega)
                    clear m74 l74 hsz
                    refine hK.out _ _ ?_ (fun hHeld => ?_)
                    · exact hS _ mW
                    clear hK K
                    try simp only [Act.put, List.setIfInBounds_toArray, List.set_cons_zero, List.set_cons_succ]
                    refine wpAnyH_ready (rs := [8]) (by kernel_rfl) (by simp) ?_
                    refine AllReadyH.cons (o := { dst := some 78, op := Op.call { callee := Callee.builtin Builtin.append, args := #[Operand.tmp 74, Operand.tmp 77], argTypes := #[22, 22] }, type := 22, pos := "law.go:93", after := #[{ on := 4, ground := Ground.data }, { on := 7, ground := Ground.data }, { on := 4, ground := Ground.chain }], guard := none }) rfl (fun K hK => ?_) AllReadyH.nil
                    refine spans_step (.tmp 74) (.tmp 77) rfl v74 ⟨g77, 0, none⟩ 2 2 ([] ++ xs.take k) [⟨lo, t⟩, ⟨t, hi⟩] rfl rfl (by rfl) hO74 (SpsAt.block h77) rfl hbd2.out ?_
                    intro v78 w78 hO78 m78 l78
                    have hsz := mW.size
                    replace mW : Moves [] w8 w78 := mW.trans m78 (fun x hx => .inr (hf74 x (Option.mem_toList.1 hx)))
                    have hf78 : ∀ b, v78.ownBlock = some b → w8.heap.size ≤ b := lain_le l78 hf74 hsz
                    clear m78 l78 hsz
                    refine hK.out _ _ ?_ (fun hHeld => ?_)
                    · exact hS _ mW
                    clear hK K
                    try simp only [Act.put, List.setIfInBounds_toArray, List.set_cons_zero, List.set_cons_succ]
                    refine wpAnyH_ready (rs := [13]) (by kernel_rfl) (by simp) ?_
                    refine AllReadyH.cons (o := { dst := some 83, op := Op.call { callee := Callee.builtin Builtin.append, args := #[Operand.tmp 78, Operand.tmp 82], argTypes := #[22, 22] }, type := 22, pos := "law.go:93", after := #[{ on := 8, ground := Ground.data }, { on := 12, ground := Ground.data }, { on := 8, ground := Ground.chain }], guard := none }) rfl (fun K hK => ?_) AllReadyH.nil
                    refine spans_step (.tmp 78) (.tmp 82) rfl v78 Y (n - k1) (cap - k1) ([] ++ xs.take k ++ [⟨lo, t⟩, ⟨t, hi⟩]) (xs.drop k1) rfl rfl (by rfl) hO78 (HY.out _ mW) hDl.out hbd3.out ?_
                    intro v83 w83 hO83 m83 l83
                    replace mW : Moves [] w8 w83 := mW.trans m83 (fun x hx => .inr (hf78 x (Option.mem_toList.1 hx)))
                    clear m83 l83
                    refine hK.out _ _ ?_ (fun hHeld => ?_)
                    · exact hS _ mW
                    clear hK K
                    try simp only [Act.put, List.setIfInBounds_toArray, List.set_cons_zero, List.set_cons_succ]
                    refine wpAnyH_take (i := 14) (oi := { dst := some 5, op := Op.assign (Operand.tmp 83), type := 22, pos := "law.go:93", after := #[{ on := 13, ground := Ground.data }, { on := 13, ground := Ground.chain }, { on := 0, ground := Ground.phase }, { on := 1, ground := Ground.phase }, { on := 2, ground := Ground.phase }, { on := 3, ground := Ground.phase }, { on := 4, ground := Ground.phase }, { on := 5, ground := Ground.phase }, { on := 6, ground := Ground.phase }, { on := 7, ground := Ground.phase }, { on := 8, ground := Ground.phase }, { on := 9, ground := Ground.phase }, { on := 10, ground := Ground.phase }, { on := 11, ground := Ground.phase }, { on := 12, ground := Ground.phase }, { on := 13, ground := Ground.phase }], guard := none }) (v := ?_) rfl (by kernel_rfl) (by kernel_rfl) (by kernel_rfl) (fun _ _ _ h => h) (Or.inl ⟨by rfl, ?_⟩) (by assumption) ?_
                    rotate_left
                    · (intro w hSw; (try dsimp only at hSw); go_simp; try (with_reducible rfl))
                    try simp only [Act.put, List.setIfInBounds_toArray, List.set_cons_zero, List.set_cons_succ]
                    refine wpAnyH_done (by kernel_rfl) ?_ _
                    refine NoPanic.normal ?_
                    exact ⟨rfl, by kernel_rfl, v83, by kernel_rfl, by simpa using hO83, mW⟩
                · rintro u w9 ⟨v9, hu, hO9, m9⟩
                  simp only [List.foldl_cons, List.foldl_nil, List.setIfInBounds_toArray, List.set_cons_zero, List.set_cons_succ, hu]
                  clear hu
                  generalize u 70 = u70
                  generalize u 71 = u71
                  generalize u 72 = u72
                  generalize u 73 = u73
                  generalize u 74 = u74
                  generalize u 75 = u75
                  generalize u 76 = u76
                  generalize u 77 = u77
                  generalize u 78 = u78
                  generalize u 79 = u79
                  generalize u 80 = u80
                  generalize u 81 = u81
                  generalize u 82 = u82
                  generalize u 83 = u83
                  have M9 : Moves [] w w9 := M.then (M8.then m9)
                  rw [← hk12] at hO9
                  have hdr : xs.drop k = ⟨lo, hi⟩ :: xs.drop (k + 1) := drop_at HX.out
                  have hcov9 : Hid (spCov (xs.take k ++ (⟨lo, t⟩ : Psp) :: ⟨t, hi⟩ :: xs.drop (k + 1)) = true) := by
                    show spCov _ = true
                    have h := spCov_split hCC (xs.take k) (xs.drop (k + 1))
                    dsimp only at h
                    rw [h, ← hdr, List.take_append_drop]
                    exact hC.out
                  have hlen9 : (xs.take k ++ (⟨lo, t⟩ : Psp) :: ⟨t, hi⟩ :: xs.drop (k + 1)).length ≤ i + 2 := by rw [List.length_append, List.length_cons, List.length_cons, List.length_take, List.length_drop, HN.out]; omega
                  clear hdr mW hS a0 a1 d0 d1 bA bB hTk HS8 hbd1 hbd2 hbd3 hwrap
                  have hpos9 : (xs.take k ++ (⟨lo, t⟩ : Psp) :: ⟨t, hi⟩ :: xs.drop (k + 1)).length ≠ 0 := by simp
                  obtain ⟨g9, cap9, hv9⟩ : ∃ g9 cap9, v9 = .slice (some ⟨g9, 0, none⟩) (xs.take k ++ (⟨lo, t⟩ : Psp) :: ⟨t, hi⟩ :: xs.drop (k + 1)).length cap9 := by
                    rcases hO9.2 with ⟨_, h0⟩ | ⟨gg, cc, cur, e, _⟩
                    · exact absurd h0 hpos9
                    · exact ⟨gg, cc, e⟩
                  obtain ⟨ad9, c9, e9, hc9, _, hS9⟩ := hO9.at
                  rw [hv9] at e9
                  simp only [Value.slice.injEq] at e9
                  obtain ⟨rfl, _, rfl⟩ := e9
                  subst hv9
                  obtain ⟨ys, hys⟩ : ∃ ys, (xs.take k ++ (⟨lo, t⟩ : Psp) :: ⟨t, hi⟩ :: xs.drop (k + 1)) = ys := ⟨_, rfl⟩
                  rw [hys] at hO9 hc9 hS9 hcov9 hlen9 hpos9 ⊢
                  obtain ⟨n9, hn9⟩ : ∃ n9, ys.length = n9 := ⟨_, rfl⟩
                  have HN9 : Hid (n9 = ys.length) := hn9.symm
                  rw [hn9] at hO9 hc9 hlen9 ⊢
                  have HS9 : Hid (SpsAt w9 (some ⟨g9, 0, none⟩) ys) := hS9
                  have HO9 : Hid (OwnS w9 (.slice (some ⟨g9, 0, none⟩) n9 cap9) ys) := hO9
                  have hap : Hid (spAp ys = true) := spAp_true (spCov_apart hcov9.out)
                  have hl9 : n9 ≤ 1000000 := by omega
                  obtain ⟨ph, hph⟩ : ∃ ph, phead t 3 = ph := ⟨_, rfl⟩
                  have hhead : ∀ w, Calls Try.prog 12 #[.string t, .int .i64 3] w fun e w' => e = .returned (.string ph) ∧ w = w' := by
                    intro w
                    have := head_d w t 3
                    rw [hph] at this
                    exact this
                  clear hS9 hO9 hn9 hys hph hpos9
                  have hbz : ∀ ph : ByteArray, Hid (([] ++ [ph, ⟨#[]⟩]).length + (zs.take 4).length ≤ 1000000) := fun ph => by
                    have h4 : (zs.take 4).length ≤ 4 := by rw [List.length_take]; omega
                    show 2 + (zs.take 4).length ≤ 1000000
                    omega
                  go_wp2_with (first | (go_at_call 18; refine (spCover_w _ _ _ _ ys HS9.out HN9.out hc9 hl9).mono ?_; rintro _ w10 ⟨rfl, m10⟩; rw [hcov9.out]) | (go_at_call 19; refine (spApart_w _ _ _ _ ys (HS9.out.moves m10) HN9.out hc9 hl9).mono ?_; rintro _ w11 ⟨rfl, m11⟩; rw [hap.out]; have z1 := heap_alloc_new w11 (.cells #[] 9); have z2 : Moves [] w11 (w11.alloc (.cells #[] 9)) := (Moves.refl _ _).alloc _; have z3 := zbox w11 ph) | (go_at_call 12; refine (hhead _).mono ?_; rintro _ _ ⟨rfl, rfl⟩) | (at_builtin; refine strs_append (.tmp 125) (.tmp 128) rfl (.slice (some ⟨w11.heap.size, 0, none⟩) 0 0) (some ⟨w11.heap.size + 1, 0, none⟩) 2 2 [] [ph, ⟨#[]⟩] rfl rfl rfl z3.1 z3.2.1 rfl (fun h => by simp at h) (by simp) ?_; intro v12 w12 hO12 m12 l12; have M12 : Moves [] w11 w12 := (z3.2.2.trans m12 (fun x hx => .inr (by simp [Value.ownBlock] at hx; omega))); have hf12 : ∀ b, v12.ownBlock = some b → w11.heap.size ≤ b := lain_le l12 (by intro b hb; simp [Value.ownBlock] at hb; omega) z3.2.2.size; clear z1 z2 z3 m12 l12) | (go_at_call 20; refine (hfew _).mono ?_; rintro _ _ ⟨n13, rfl, hn13, rfl⟩; have HN13 : Hid (n13 = (zs.take 4).length) := hn13; clear hn13; have HZ12 := (HZ.out.moves (M9.then ((m10.then m11).then M12))).first 4) | (at_builtin; refine strs_append (.tmp 129) (.tmp 131) rfl v12 adz n13 cz ([] ++ [ph, ⟨#[]⟩]) (zs.take 4) rfl rfl rfl hO12 HZ12 HN13.out hnz (hbz ph).out ?_; intro v14 w14 hO14 m14 l14; (obtain ⟨zz, hzz⟩ : ∃ zz, [] ++ [ph, ⟨#[]⟩] ++ zs.take 4 = zz := ⟨_, rfl⟩); rw [hzz] at hO14; (obtain ⟨ad14, cap14, rfl, hc14, hS14⟩ := hO14.at); (obtain ⟨n14, hn14⟩ : ∃ n14, zz.length = n14 := ⟨_, rfl⟩); have HN14 : Hid (zz.length = n14) := hn14; have HZL : Hid ([] ++ [ph, ⟨#[]⟩] ++ zs.take 4 = zz) := hzz; rw [hn14] at hc14 ⊢; clear hn14 hzz))
                  have M14 : Moves [] w9 w14 := ((m10.then m11).then M12).trans m14 (fun x hx => .inr (by have := hf12 x (Option.mem_toList.1 hx); have := (m10.then m11).size; omega))
                  have HZZ : Hid (StrsAt w14 ad14 zz) := hS14
                  have hl14 : n14 ≤ 100 := by
                    have h4 : (zs.take 4).length ≤ 4 := by rw [List.length_take]; omega
                    rw [← HN14.out, ← HZL.out, List.length_append]
                    show 2 + (zs.take 4).length ≤ 100
                    omega
                  clear hS14 HZL hO14 m14 l14 hO12 hf12 HN13 hhead HZ12
                  go_loopw [134] (fun vj w15 => ∃ j : Nat, j ≤ n14 ∧ vj = .int .i64 (j : Nat) ∧ Moves [] w14 w15) (fun vj _ => n14 - (intOf vj).toNat)
                  case atStart => exact ⟨0, by omega, rfl, Moves.refl _ _⟩
                  case round =>
                    obtain ⟨j, hjn, rfl, mj⟩ := hrel
                    by_cases hjl : j < n14
                    · have hjI : (j : Int) < n14 := by omega
                      obtain ⟨nm, hnm⟩ : ∃ s, zz[j]? = some s := ⟨_, List.getElem?_eq_getElem (by have := HN14.out; omega)⟩
                      obtain ⟨gz, oz, rfl, cz0⟩ := HZZ.out j nm hnm
                      replace cz0 := mj.cell cz0
                      have hone : Hid ((ys.filter (fun s => spH s nm)).length = 1) := spCov_one hcov9.out nm
                      clear hnm
                      go_wp2_with fail
                      go_loopw [16, 17] (fun vin vq w16 => ∃ q : Nat, q ≤ n9 ∧ vin = .int .i64 ((((ys.take q).filter (fun s => spH s nm)).length : Nat) : Int) ∧ vq = .int .i64 (q : Nat) ∧ Moves [] w14 w16) (fun _ vq _ => n9 - (intOf vq).toNat)
                      case atStart => exact ⟨0, by omega, by simp, rfl, mj⟩
                      case round =>
                        obtain ⟨q, hqn, rfl, rfl, mq⟩ := hrel
                        by_cases hql : q < n9
                        · have hqI : (q : Int) < n9 := by omega
                          obtain ⟨y, hy⟩ : ∃ s, ys[q]? = some s := ⟨_, List.getElem?_eq_getElem (by have := HN9.out; omega)⟩
                          obtain ⟨_, _, q1, y0, y1⟩ := HS9.out q y hy
                          simp only [Option.some.injEq, Addr.mk.injEq] at q1
                          obtain ⟨rfl, rfl, _⟩ := q1
                          rw [Nat.zero_add] at y0 y1
                          replace y0 := (M14.then mq).cell y0
                          replace y1 := (M14.then mq).cell y1
                          obtain ⟨c, hc⟩ : ∃ c, ((ys.take q).filter (fun s => spH s nm)).length = c := ⟨_, rfl⟩
                          have hc22 : c ≤ q := by rw [← hc]; exact Nat.le_trans (List.length_filter_le _ _) (by rw [List.length_take]; omega)
                          have hstep : ((ys.take (q + 1)).filter (fun s => spH s nm)).length = c + (if spH y nm = true then 1 else 0) := by
                            rw [List.take_add_one, hy, List.filter_append, List.length_append, hc]
                            cases hhh : spH y nm <;> simp [hhh]
                          have HST : Hid (((ys.take (q + 1)).filter (fun s => spH s nm)).length = c + (if spH y nm = true then 1 else 0)) := hstep
                          rw [hc]
                          clear hc hstep hy
                          obtain ⟨ylo, yhi⟩ := y
                          dsimp only at y0 y1
                          cases hHy : spH ⟨ylo, yhi⟩ nm with
                          | true =>
                            have HSU : Hid (((ys.take (q + 1)).filter (fun s => spH s nm)).length = c + 1) := by
                              have h := HST.out
                              rw [hHy] at h
                              simp at h
                              exact h
                            go_wp2_with (go_at_call 15; refine (spHas_w _ _ _ _).mono ?_; rintro _ w17 ⟨rfl, m17⟩; rw [hHy])
                            go_roundw
                            case rel => exact ⟨q + 1, by omega, by rw [HSU.out]; go_num, by go_num, mq.then m17⟩
                            case measure => simp [intOf]; omega
                          | false =>
                            have HSU : Hid (((ys.take (q + 1)).filter (fun s => spH s nm)).length = c) := by
                              have h := HST.out
                              rw [hHy] at h
                              simp at h
                              exact h
                            go_wp2_with (go_at_call 15; refine (spHas_w _ _ _ _).mono ?_; rintro _ w17 ⟨rfl, m17⟩; rw [hHy])
                            go_roundw
                            case rel => exact ⟨q + 1, by omega, by rw [HSU.out], by go_num, mq.then m17⟩
                            case measure => simp [intOf]; omega
                        · obtain rfl : q = n9 := by omega
                          have hall : ((ys.take q).filter (fun s => spH s nm)).length = 1 := by rw [List.take_of_length_le (by have := HN9.out; omega)]; exact hone.out
                          rw [hall]
                          clear hall
                          go_wp2_with fail
                          go_roundw
                          case rel => exact ⟨j + 1, by omega, by go_num, mq⟩
                          case measure => simp [intOf]; omega
                    · obtain rfl : j = n14 := by omega
                      go_wp2_with fail
                      go_roundw
                      case rel => exact ⟨i + 1, ys, g9, cap9, by omega, by go_num, by rw [← HN9.out], HO9.out.moves (M14.then mj) (fun _ _ => by simp), hcov9, by have := HN9.out; omega, M9.then (M14.then mj)⟩
                      case measure => simp [intOf]; omega
            | false =>
              refine (spSplit_no lo hi t _ hCC).mono ?_
              rintro _ w7 ⟨rfl, m7⟩
              obtain ⟨my, bA, bB⟩ := spBoxes2 w7 #[.string ⟨#[]⟩, .string ⟨#[]⟩] #[.string ⟨#[]⟩, .string ⟨#[]⟩] 27
              have M8 := (m5.then m7).then my
              obtain ⟨Q, hQ⟩ : ∃ Q, w7.heap.size = Q := ⟨_, rfl⟩
              rw [hQ] at bA bB
              have vi8 := (M.then M8).cell vi0
              go_wp2_with fail
              generalize ((w7.alloc (.cells #[.string ⟨#[]⟩, .string ⟨#[]⟩] 27)).alloc (.cells #[.string ⟨#[]⟩, .string ⟨#[]⟩] 27)) = wa at *

              obtain ⟨k1, hk1⟩ : ∃ k1 : Nat, Hid (k + 1 = k1) := ⟨_, rfl⟩
              have hk12 := hk1.out
              have hwrap1 : IntKind.i64.wrap ((k : Int) + 1) = (k1 : Int) := by rw [IntWalk.i64_in _ (by omega)]; omega
              have hk1n : (k1 : Int) < n := by omega
              obtain ⟨s2, hs2⟩ : ∃ s, xs[k1]? = some s := ⟨_, List.getElem?_eq_getElem (by have := HN.out; omega)⟩
              obtain ⟨lo2, hi2⟩ := s2
              obtain ⟨_, _, q1, p0, p1⟩ := HS.out k1 _ hs2
              simp only [Option.some.injEq, Addr.mk.injEq] at q1
              obtain ⟨rfl, rfl, _⟩ := q1
              rw [Nat.zero_add] at p0 p1
              dsimp only at p0 p1
              replace p0 := M8.cell p0
              replace p1 := M8.cell p1
              have r0 := (m7.then my).cell s0
              have r1 := (m7.then my).cell s1
              have hdr : xs = xs.take k ++ (⟨lo, hi⟩ : Psp) :: ⟨lo2, hi2⟩ :: xs.drop (k + 2) := by
                have h1 : xs.drop k = ⟨lo, hi⟩ :: xs.drop (k + 1) := drop_at HX.out
                have h2 : xs.drop (k + 1) = ⟨lo2, hi2⟩ :: xs.drop (k + 2) := drop_at (by rw [hk12]; exact hs2)
                rw [← h2, ← h1, List.take_append_drop]
              have hcj := hC.out
              rw [hdr] at hcj
              obtain ⟨hj0, hcj⟩ := spCov_join _ _ hcj
              have hj : Hid (spJ ⟨lo, hi⟩ ⟨lo2, hi2⟩ = true) := hj0
              have HCJ : Hid (spCov (xs.take k ++ (⟨lo, hi2⟩ : Psp) :: xs.drop (k + 2)) = true) := hcj
              have hS : ∀ w', Moves [] wa w' → (w'.cell? ⟨g, k * 2, none⟩ = some (.string lo) ∧ w'.cell? ⟨g, k * 2 + 1, none⟩ = some (.string hi) ∧ w'.cell? ⟨g, k1 * 2, none⟩ = some (.string lo2) ∧ w'.cell? ⟨g, k1 * 2 + 1, none⟩ = some (.string hi2)) := fun w' m' => ⟨m'.cell r0, m'.cell r1, m'.cell p0, m'.cell p1⟩
              have mW : Moves [] wa wa.drew := (Moves.refl _ _).drew
              clear hdr hcj hj0 hs2
              refine wp_some7 [90, 91, 92, 93, 94, 95, 96, 97, 98, 99, 89, 100, 101, 12, 13] (fun u w' => ∃ pb, u 12 = .pointer (some ⟨pb, 0, none⟩) ∧ u 13 = .bool true ∧ w'.heap[pb]? = some (.cells #[.string lo, .string hi2] 27 (0, 0)) ∧ Moves [] wa w') ?_ ?_
              · refine wp_region_noPanic ?_
                refine wp_region_held_drew (S := (fun w' => w'.cell? ⟨g, k * 2, none⟩ = some (.string lo) ∧ w'.cell? ⟨g, k * 2 + 1, none⟩ = some (.string hi) ∧ w'.cell? ⟨g, k1 * 2, none⟩ = some (.string lo2) ∧ w'.cell? ⟨g, k1 * 2 + 1, none⟩ = some (.string hi2))) (by kernel_rfl) ?_ (fun hHeld => ?_)
                · first | (go_keep; done) | first | exact hS _ mS | exact hS _ mW
                refine wpAnyH_take (i := 0) (oi := { dst := some 90, op := Op.move (Operand.tmp 5), type := 22, pos := "law.go:95", after := #[], guard := none }) (v := ?_) rfl (by kernel_rfl) (by kernel_rfl) (by kernel_rfl) (fun _ _ _ h => h) (Or.inl ⟨by rfl, ?_⟩) (by assumption) ?_
                rotate_left
                · (intro w hSw; (try dsimp only at hSw); go_simp; try (with_reducible rfl))
                try simp only [Act.put, List.setIfInBounds_toArray, List.set_cons_zero, List.set_cons_succ]
                refine wpAnyH_take (i := 1) (oi := { dst := some 91, op := Op.move (Operand.tmp 8), type := 3, pos := "law.go:95", after := #[], guard := none }) (v := ?_) rfl (by kernel_rfl) (by kernel_rfl) (by kernel_rfl) (fun _ _ _ h => h) (Or.inl ⟨by rfl, ?_⟩) (by assumption) ?_
                rotate_left
                · (intro w hSw; (try dsimp only at hSw); go_simp; try (with_reducible rfl))
                try simp only [Act.put, List.setIfInBounds_toArray, List.set_cons_zero, List.set_cons_succ]
                refine wpAnyH_take (i := 2) (oi := { dst := some 92, op := Op.indexAddr 22 (Operand.tmp 90) (Operand.tmp 91), type := 0, pos := "law.go:95", after := #[{ on := 0, ground := Ground.data }, { on := 1, ground := Ground.data }], guard := none }) (v := ?_) rfl (by kernel_rfl) (by kernel_rfl) (by kernel_rfl) (fun _ _ _ h => h) (Or.inl ⟨by rfl, ?_⟩) (by assumption) ?_
                rotate_left
                · (intro w hSw; (try dsimp only at hSw); go_simp; try (with_reducible rfl))
                try simp only [Act.put, List.setIfInBounds_toArray, List.set_cons_zero, List.set_cons_succ]
                refine wpAnyH_take (i := 3) (oi := { dst := some 93, op := Op.load 27 (Operand.tmp 92), type := 27, pos := "law.go:95", after := #[{ on := 2, ground := Ground.data }], guard := none }) (v := ?_) rfl (by kernel_rfl) (by kernel_rfl) (by kernel_rfl) (fun _ _ _ h => h) (Or.inl ⟨by rfl, ?_⟩) (by assumption) ?_
                rotate_left
                · (intro w hSw; (try dsimp only at hSw); go_simp; try (with_reducible rfl))
                try simp only [Act.put, List.setIfInBounds_toArray, List.set_cons_zero, List.set_cons_succ]
                refine wpAnyH_take (i := 4) (oi := { dst := some 94, op := Op.move (Operand.tmp 5), type := 22, pos := "law.go:95", after := #[], guard := none }) (v := ?_) rfl (by kernel_rfl) (by kernel_rfl) (by kernel_rfl) (fun _ _ _ h => h) (Or.inl ⟨by rfl, ?_⟩) (by assumption) ?_
                rotate_left
                · (intro w hSw; (try dsimp only at hSw); go_simp; try (with_reducible rfl))
                try simp only [Act.put, List.setIfInBounds_toArray, List.set_cons_zero, List.set_cons_succ]
                refine wpAnyH_take (i := 5) (oi := { dst := some 95, op := Op.move (Operand.tmp 8), type := 3, pos := "law.go:95", after := #[], guard := none }) (v := ?_) rfl (by kernel_rfl) (by kernel_rfl) (by kernel_rfl) (fun _ _ _ h => h) (Or.inl ⟨by rfl, ?_⟩) (by assumption) ?_
                rotate_left
                · (intro w hSw; (try dsimp only at hSw); go_simp; try (with_reducible rfl))
                try simp only [Act.put, List.setIfInBounds_toArray, List.set_cons_zero, List.set_cons_succ]
                refine wpAnyH_take (i := 6) (oi := { dst := some 96, op := Op.binOp BinOp.add 3 (Operand.tmp 95) (Operand.const (Value.int IntKind.i64 1)) 3, type := 3, pos := "law.go:95", after := #[{ on := 5, ground := Ground.data }], guard := none }) (v := ?_) rfl (by kernel_rfl) (by kernel_rfl) (by kernel_rfl) (fun _ _ _ h => h) (Or.inl ⟨by rfl, ?_⟩) (by assumption) ?_
                rotate_left
                · (intro w hSw; (try dsimp only at hSw); go_simp; try (with_reducible rfl))
                try simp only [Act.put, List.setIfInBounds_toArray, List.set_cons_zero, List.set_cons_succ]
                refine wpAnyH_take (i := 7) (oi := { dst := some 97, op := Op.indexAddr 22 (Operand.tmp 94) (Operand.tmp 96), type := 0, pos := "law.go:95", after := #[{ on := 4, ground := Ground.data }, { on := 6, ground := Ground.data }], guard := none }) (v := ?_) rfl (by kernel_rfl) (by kernel_rfl) (by kernel_rfl) (fun _ _ _ h => h) (Or.inl ⟨by rfl, ?_⟩) (by assumption) ?_
                rotate_left
                · (intro w hSw; (try dsimp only at hSw); go_simp; try (with_reducible rfl))
                try simp only [Act.put, List.setIfInBounds_toArray, List.set_cons_zero, List.set_cons_succ]
                refine wpAnyH_take (i := 8) (oi := { dst := some 98, op := Op.load 27 (Operand.tmp 97), type := 27, pos := "law.go:95", after := #[{ on := 7, ground := Ground.data }], guard := none }) (v := ?_) rfl (by kernel_rfl) (by kernel_rfl) (by kernel_rfl) (fun _ _ _ h => h) (Or.inl ⟨by rfl, ?_⟩) (by assumption) ?_
                rotate_left
                · (intro w hSw; (try dsimp only at hSw); go_simp; try (with_reducible rfl))
                try simp only [Act.put, List.setIfInBounds_toArray, List.set_cons_zero, List.set_cons_succ]
                refine wpAnyH_ready (rs := [9, 13]) (by kernel_rfl) (by simp) ?_
                refine AllReadyH.cons (o := { dst := some 99, op := Op.call { callee := Callee.value (Operand.func 17), args := #[Operand.tmp 93, Operand.tmp 98], argTypes := #[27, 27] }, type := 38, pos := "law.go:95", after := #[{ on := 3, ground := Ground.data }, { on := 8, ground := Ground.data }], guard := none }) rfl (fun K hK => ?_) (AllReadyH.cons (o := { dst := some 12, op := Op.alloc 27, type := 0, pos := "law.go:95", after := #[], guard := none }) rfl (fun K hK => ?_) AllReadyH.nil)
                · go_simp
                  refine (spJoin_yes lo hi lo2 hi2 _ hj.out).mono ?_
                  rintro _ w99 ⟨rfl, m99⟩
                  replace mW := mW.then m99
                  refine hK.out _ _ ?_ (fun hHeld => ?_)
                  · first | exact hS _ mS | exact hS _ mW
                  clear hK K
                  try simp only [Act.put, List.setIfInBounds_toArray, List.set_cons_zero, List.set_cons_succ]
                  refine wpAnyH_take (i := 10) (oi := { dst := some 89, op := Op.move (Operand.tmp 99), type := 38, pos := "law.go:95", after := #[{ on := 9, ground := Ground.data }], guard := none }) (v := ?_) rfl (by kernel_rfl) (by kernel_rfl) (by kernel_rfl) (fun _ _ _ h => h) (Or.inl ⟨by rfl, ?_⟩) (by assumption) ?_
                  rotate_left
                  · (intro w hSw; (try dsimp only at hSw); go_simp; try (with_reducible rfl))
                  try simp only [Act.put, List.setIfInBounds_toArray, List.set_cons_zero, List.set_cons_succ]
                  refine wpAnyH_take (i := 11) (oi := { dst := some 100, op := Op.extract (Operand.tmp 89) 0, type := 27, pos := "law.go:95", after := #[{ on := 10, ground := Ground.data }], guard := none }) (v := ?_) rfl (by kernel_rfl) (by kernel_rfl) (by kernel_rfl) (fun _ _ _ h => h) (Or.inl ⟨by rfl, ?_⟩) (by assumption) ?_
                  rotate_left
                  · (intro w hSw; (try dsimp only at hSw); go_simp; try (with_reducible rfl))
                  try simp only [Act.put, List.setIfInBounds_toArray, List.set_cons_zero, List.set_cons_succ]
                  refine wpAnyH_take (i := 12) (oi := { dst := some 101, op := Op.extract (Operand.tmp 89) 1, type := 4, pos := "law.go:95", after := #[{ on := 10, ground := Ground.data }, { on := 14, ground := Ground.gcOnly Departure.lateStores }], guard := none }) (v := ?_) rfl (by kernel_rfl) (by kernel_rfl) (by kernel_rfl) (fun _ _ _ h => h) (Or.inl ⟨by rfl, ?_⟩) (by assumption) ?_
                  rotate_left
                  · (intro w hSw; (try dsimp only at hSw); go_simp; try (with_reducible rfl))
                  try simp only [Act.put, List.setIfInBounds_toArray, List.set_cons_zero, List.set_cons_succ]
                  refine wpAnyH_ready (rs := [13]) (by kernel_rfl) (by simp) ?_
                  refine AllReadyH.cons (o := { dst := some 12, op := Op.alloc 27, type := 0, pos := "law.go:95", after := #[], guard := none }) rfl (fun K hK => ?_) AllReadyH.nil
                  go_simp
                  have hle := mW.size
                  obtain ⟨w12x, hwa⟩ : ∃ w12x, w99.alloc (.cells #[.string ⟨#[]⟩, .string ⟨#[]⟩] 27) = w12x := ⟨_, rfl⟩
                  have hb : w12x.heap[w99.heap.size]? = some (.cells #[.string ⟨#[]⟩, .string ⟨#[]⟩] 27 (0, 0)) := by rw [← hwa]; exact heap_alloc_new w99 _
                  have mA : Moves [] w99 w12x := by rw [← hwa]; exact (Moves.refl _ _).alloc _
                  rw [hwa]
                  obtain ⟨pb, hpb⟩ : ∃ pb, w99.heap.size = pb := ⟨_, rfl⟩
                  rw [hpb] at hb ⊢
                  have hle : wa.heap.size ≤ pb := by rw [← hpb]; first | exact hle | exact Nat.le_refl _
                  replace mW := mW.then mA
                  clear hwa hpb
                  refine hK.out _ _ ?_ (fun hHeld => ?_)
                  · first | exact hS _ mS | exact hS _ mW
                  clear hK K
                  try simp only [Act.put, List.setIfInBounds_toArray, List.set_cons_zero, List.set_cons_succ]
                  refine wpAnyH_ready (rs := [14]) (by kernel_rfl) (by simp) ?_
                  refine AllReadyH.cons (o := { dst := none, op := Op.store 27 (Operand.tmp 12) (Operand.tmp 100), type := 0, pos := "law.go:95", after := #[{ on := 13, ground := Ground.data }, { on := 11, ground := Ground.data }, { on := 9, ground := Ground.chain }, { on := 0, ground := Ground.phase }, { on := 1, ground := Ground.phase }, { on := 2, ground := Ground.phase }, { on := 3, ground := Ground.phase }, { on := 4, ground := Ground.phase }, { on := 5, ground := Ground.phase }, { on := 6, ground := Ground.phase }, { on := 7, ground := Ground.phase }, { on := 8, ground := Ground.phase }, { on := 9, ground := Ground.phase }, { on := 10, ground := Ground.phase }, { on := 11, ground := Ground.phase }, { on := 12, ground := Ground.textOnly Departure.lateStores }, { on := 13, ground := Ground.phase }], guard := none }) rfl (fun K hK => ?_) AllReadyH.nil
                  obtain ⟨f0, f1, f2, f3⟩ := sp_cells hb
                  have mS : Moves [] wa ((w12x.setCell ⟨pb, 0, none⟩ (.string lo)).setCell ⟨pb, 1, none⟩ (.string hi2)) := mW.trans (spStored1 hb).2 (fun x hx => .inr (by simp at hx; omega))
                  have hbS : ((w12x.setCell ⟨pb, 0, none⟩ (.string lo)).setCell ⟨pb, 1, none⟩ (.string hi2)).heap[pb]? = _ := (spStored1 hb).1
                  go_simp
                  refine hK.out _ _ ?_ (fun hHeld => ?_)
                  · first | exact hS _ mS | exact hS _ mW
                  clear hK K
                  refine wpAnyH_take (i := 15) (oi := { dst := some 13, op := Op.assign (Operand.tmp 101), type := 4, pos := "law.go:95", after := #[{ on := 12, ground := Ground.data }, { on := 14, ground := Ground.chain }, { on := 0, ground := Ground.phase }, { on := 1, ground := Ground.phase }, { on := 2, ground := Ground.phase }, { on := 3, ground := Ground.phase }, { on := 4, ground := Ground.phase }, { on := 5, ground := Ground.phase }, { on := 6, ground := Ground.phase }, { on := 7, ground := Ground.phase }, { on := 8, ground := Ground.phase }, { on := 9, ground := Ground.phase }, { on := 10, ground := Ground.phase }, { on := 11, ground := Ground.phase }, { on := 12, ground := Ground.phase }, { on := 13, ground := Ground.phase }, { on := 14, ground := Ground.phase }], guard := none }) (v := ?_) rfl (by kernel_rfl) (by kernel_rfl) (by kernel_rfl) (fun _ _ _ h => h) (Or.inl ⟨by rfl, ?_⟩) (by assumption) ?_
                  rotate_left
                  · (intro w hSw; (try dsimp only at hSw); go_simp; try (with_reducible rfl))
                  try simp only [Act.put, List.setIfInBounds_toArray, List.set_cons_zero, List.set_cons_succ]
                  refine wpAnyH_done (by kernel_rfl) ?_ _
                  refine NoPanic.normal ?_
                  exact ⟨rfl, by kernel_rfl, pb, by kernel_rfl, by kernel_rfl, hbS, mS⟩
                · go_simp
                  have hle := mW.size
                  obtain ⟨w12x, hwa⟩ : ∃ w12x, (wa.alloc (.cells #[.string ⟨#[]⟩, .string ⟨#[]⟩] 27)).drew = w12x := ⟨_, rfl⟩
                  have hb : w12x.heap[wa.heap.size]? = some (.cells #[.string ⟨#[]⟩, .string ⟨#[]⟩] 27 (0, 0)) := by rw [← hwa]; exact heap_alloc_new wa _
                  have mA : Moves [] wa w12x := by rw [← hwa]; exact ((Moves.refl _ _).alloc _).drew
                  rw [hwa]
                  obtain ⟨pb, hpb⟩ : ∃ pb, wa.heap.size = pb := ⟨_, rfl⟩
                  rw [hpb] at hb ⊢
                  have hle : wa.heap.size ≤ pb := by rw [← hpb]; first | exact hle | exact Nat.le_refl _
                  replace mW := mA
                  clear hwa hpb
                  refine hK.out _ _ ?_ (fun hHeld => ?_)
                  · first | exact hS _ mS | exact hS _ mW
                  clear hK K
                  try simp only [Act.put, List.setIfInBounds_toArray, List.set_cons_zero, List.set_cons_succ]
                  refine wpAnyH_ready (rs := [9]) (by kernel_rfl) (by simp) ?_
                  refine AllReadyH.cons (o := { dst := some 99, op := Op.call { callee := Callee.value (Operand.func 17), args := #[Operand.tmp 93, Operand.tmp 98], argTypes := #[27, 27] }, type := 38, pos := "law.go:95", after := #[{ on := 3, ground := Ground.data }, { on := 8, ground := Ground.data }], guard := none }) rfl (fun K hK => ?_) AllReadyH.nil
                  go_simp
                  refine (spJoin_yes lo hi lo2 hi2 _ hj.out).mono ?_
                  rintro _ w99 ⟨rfl, m99⟩
                  replace mW := mW.then m99
                  replace hb := m99.at hb (by simp)
                  refine hK.out _ _ ?_ (fun hHeld => ?_)
                  · first | exact hS _ mS | exact hS _ mW
                  clear hK K
                  try simp only [Act.put, List.setIfInBounds_toArray, List.set_cons_zero, List.set_cons_succ]
                  refine wpAnyH_take (i := 10) (oi := { dst := some 89, op := Op.move (Operand.tmp 99), type := 38, pos := "law.go:95", after := #[{ on := 9, ground := Ground.data }], guard := none }) (v := ?_) rfl (by kernel_rfl) (by kernel_rfl) (by kernel_rfl) (fun _ _ _ h => h) (Or.inl ⟨by rfl, ?_⟩) (by assumption) ?_
                  rotate_left
                  · (intro w hSw; (try dsimp only at hSw); go_simp; try (with_reducible rfl))
                  try simp only [Act.put, List.setIfInBounds_toArray, List.set_cons_zero, List.set_cons_succ]
                  refine wpAnyH_take (i := 11) (oi := { dst := some 100, op := Op.extract (Operand.tmp 89) 0, type := 27, pos := "law.go:95", after := #[{ on := 10, ground := Ground.data }], guard := none }) (v := ?_) rfl (by kernel_rfl) (by kernel_rfl) (by kernel_rfl) (fun _ _ _ h => h) (Or.inl ⟨by rfl, ?_⟩) (by assumption) ?_
                  rotate_left
                  · (intro w hSw; (try dsimp only at hSw); go_simp; try (with_reducible rfl))
                  try simp only [Act.put, List.setIfInBounds_toArray, List.set_cons_zero, List.set_cons_succ]
                  refine wpAnyH_take (i := 12) (oi := { dst := some 101, op := Op.extract (Operand.tmp 89) 1, type := 4, pos := "law.go:95", after := #[{ on := 10, ground := Ground.data }, { on := 14, ground := Ground.gcOnly Departure.lateStores }], guard := none }) (v := ?_) rfl (by kernel_rfl) (by kernel_rfl) (by kernel_rfl) (fun _ _ _ h => h) (Or.inl ⟨by rfl, ?_⟩) (by assumption) ?_
                  rotate_left
                  · (intro w hSw; (try dsimp only at hSw); go_simp; try (with_reducible rfl))
                  try simp only [Act.put, List.setIfInBounds_toArray, List.set_cons_zero, List.set_cons_succ]
                  refine wpAnyH_ready (rs := [14]) (by kernel_rfl) (by simp) ?_
                  refine AllReadyH.cons (o := { dst := none, op := Op.store 27 (Operand.tmp 12) (Operand.tmp 100), type := 0, pos := "law.go:95", after := #[{ on := 13, ground := Ground.data }, { on := 11, ground := Ground.data }, { on := 9, ground := Ground.chain }, { on := 0, ground := Ground.phase }, { on := 1, ground := Ground.phase }, { on := 2, ground := Ground.phase }, { on := 3, ground := Ground.phase }, { on := 4, ground := Ground.phase }, { on := 5, ground := Ground.phase }, { on := 6, ground := Ground.phase }, { on := 7, ground := Ground.phase }, { on := 8, ground := Ground.phase }, { on := 9, ground := Ground.phase }, { on := 10, ground := Ground.phase }, { on := 11, ground := Ground.phase }, { on := 12, ground := Ground.textOnly Departure.lateStores }, { on := 13, ground := Ground.phase }], guard := none }) rfl (fun K hK => ?_) AllReadyH.nil
                  obtain ⟨f0, f1, f2, f3⟩ := sp_cells hb
                  have mS : Moves [] wa ((w99.setCell ⟨pb, 0, none⟩ (.string lo)).setCell ⟨pb, 1, none⟩ (.string hi2)) := mW.trans (spStored1 hb).2 (fun x hx => .inr (by simp at hx; omega))
                  have hbS : ((w99.setCell ⟨pb, 0, none⟩ (.string lo)).setCell ⟨pb, 1, none⟩ (.string hi2)).heap[pb]? = _ := (spStored1 hb).1
                  go_simp
                  refine hK.out _ _ ?_ (fun hHeld => ?_)
                  · first | exact hS _ mS | exact hS _ mW
                  clear hK K
                  refine wpAnyH_take (i := 15) (oi := { dst := some 13, op := Op.assign (Operand.tmp 101), type := 4, pos := "law.go:95", after := #[{ on := 12, ground := Ground.data }, { on := 14, ground := Ground.chain }, { on := 0, ground := Ground.phase }, { on := 1, ground := Ground.phase }, { on := 2, ground := Ground.phase }, { on := 3, ground := Ground.phase }, { on := 4, ground := Ground.phase }, { on := 5, ground := Ground.phase }, { on := 6, ground := Ground.phase }, { on := 7, ground := Ground.phase }, { on := 8, ground := Ground.phase }, { on := 9, ground := Ground.phase }, { on := 10, ground := Ground.phase }, { on := 11, ground := Ground.phase }, { on := 12, ground := Ground.phase }, { on := 13, ground := Ground.phase }, { on := 14, ground := Ground.phase }], guard := none }) (v := ?_) rfl (by kernel_rfl) (by kernel_rfl) (by kernel_rfl) (fun _ _ _ h => h) (Or.inl ⟨by rfl, ?_⟩) (by assumption) ?_
                  rotate_left
                  · (intro w hSw; (try dsimp only at hSw); go_simp; try (with_reducible rfl))
                  try simp only [Act.put, List.setIfInBounds_toArray, List.set_cons_zero, List.set_cons_succ]
                  refine wpAnyH_done (by kernel_rfl) ?_ _
                  refine NoPanic.normal ?_
                  exact ⟨rfl, by kernel_rfl, pb, by kernel_rfl, by kernel_rfl, hbS, mS⟩
              · rintro u w8 ⟨pb, hu1, hu2, hpb, m8⟩
                simp only [List.foldl_cons, List.foldl_nil, List.setIfInBounds_toArray, List.set_cons_zero, List.set_cons_succ, hu1, hu2]
                clear hu1 hu2
                generalize u 90 = u90
                generalize u 91 = u91
                generalize u 92 = u92
                generalize u 93 = u93
                generalize u 94 = u94
                generalize u 95 = u95
                generalize u 96 = u96
                generalize u 97 = u97
                generalize u 98 = u98
                generalize u 99 = u99
                generalize u 89 = u89
                generalize u 100 = u100
                generalize u 101 = u101
                replace M8 := M8.then m8
                clear hS mW p0 p1 r0 r1 bA bB hwrap1 hk12 hj
                go_wp2_with fail
                obtain ⟨a0, a1, _, _⟩ := sp_cells hpb
                have HS8 : Hid (SpsAt w8 (some ⟨g, 0, none⟩) xs) := HS.out.moves M8
                have hTk : Hid (k = (xs.take k).length) := by have := HN.out; show k = _; rw [List.length_take]; omega
                have mW : Moves [] w8 w8.drew := (Moves.refl _ _).drew
                obtain ⟨k2, hk2⟩ : ∃ k2 : Nat, Hid (k + 2 = k2) := ⟨_, rfl⟩
                have hk22 := hk2.out
                have hwrap : IntKind.i64.wrap ((k : Int) + 2) = (k2 : Int) := by rw [IntWalk.i64_in _ (by omega)]; omega
                have hKn : k2 ≤ n := by omega
                have hKnI : (k2 : Int) ≤ n := by omega
                have hKc : (k2 : Int) ≤ cap := by omega
                have hkc : (k : Int) ≤ cap := by omega
                have hkn' : (k : Int) ≤ n := by omega
                have hbd1 : Hid (([] : List Psp).length + (xs.take k).length ≤ 1099511627776) := by show _ ≤ _; rw [List.length_take, HN.out]; simp; omega
                have hbd2 : Hid (([] ++ xs.take k).length + ([(⟨lo, hi2⟩ : Psp)] : List Psp).length ≤ 1099511627776) := by show _ ≤ _; rw [List.nil_append, List.length_take, HN.out]; simp; omega
                have hbd3 : Hid (([] ++ xs.take k ++ [(⟨lo, hi2⟩ : Psp)]).length + (xs.drop k2).length ≤ 1099511627776) := by show _ ≤ _; rw [List.nil_append, List.length_append, List.length_take, List.length_drop, HN.out]; simp; omega
                have hS : ∀ w', Moves [] w8 w' → (w'.cell? ⟨pb, 0, none⟩ = some (.string lo) ∧ w'.cell? ⟨pb, 1, none⟩ = some (.string hi2)) := fun w' m' => ⟨m'.cell a0, m'.cell a1⟩
                obtain ⟨Y, hYeq, hY⟩ : ∃ Y : Addr, (if cap = k2 then some (⟨g, 0, none⟩ : Addr) else some ⟨g, k2 * 2, none⟩) = some Y ∧ ∀ w', Moves [] w8 w' → SpsAt w' (some Y) (xs.drop k2) := by
                  by_cases hcp : cap = k2
                  · refine ⟨⟨g, 0, none⟩, by rw [if_pos hcp], fun w' _ j s hs => ?_⟩
                    rw [List.drop_eq_nil_of_le (by have := HN.out; omega)] at hs
                    simp at hs
                  · refine ⟨⟨g, k2 * 2, none⟩, by rw [if_neg hcp], fun w' m' => ?_⟩
                    have h := (HS8.out.moves m').drop k2
                    rw [Nat.zero_add] at h
                    exact h
                have HY : Hid (∀ w', Moves [] w8 w' → SpsAt w' (some Y) (xs.drop k2)) := hY
                have hDl : Hid (n - k2 = (xs.drop k2).length) := by show n - k2 = _; rw [List.length_drop, HN.out]
                clear hY
                refine wp_some7 [104, 105, 106, 107, 108, 109, 110, 111, 112, 113, 114, 115, 116, 5] (fun u w' => ∃ v', u 5 = v' ∧ OwnS w' v' (xs.take k ++ (⟨lo, hi2⟩ : Psp) :: xs.drop k2) ∧ Moves [] w8 w') ?_ ?_
                · refine wp_region_noPanic ?_
                  refine wp_region_held_drew (S := (fun w' => w'.cell? ⟨pb, 0, none⟩ = some (.string lo) ∧ w'.cell? ⟨pb, 1, none⟩ = some (.string hi2))) (by kernel_rfl) ?_ (fun hHeld => ?_)
                  · first | (go_keep; done) | exact hS _ mW
                  refine wpAnyH_take (i := 1) (oi := { dst := some 105, op := Op.move (Operand.tmp 5), type := 22, pos := "law.go:99", after := #[], guard := none }) (v := ?_) rfl (by kernel_rfl) (by kernel_rfl) (by kernel_rfl) (fun _ _ _ h => h) (Or.inl ⟨by rfl, ?_⟩) (by assumption) ?_
                  rotate_left
                  · (intro w hSw; (try dsimp only at hSw); go_simp; try (with_reducible rfl))
                  try simp only [Act.put, List.setIfInBounds_toArray, List.set_cons_zero, List.set_cons_succ]
                  refine wpAnyH_take (i := 2) (oi := { dst := some 106, op := Op.move (Operand.tmp 8), type := 3, pos := "law.go:99", after := #[], guard := none }) (v := ?_) rfl (by kernel_rfl) (by kernel_rfl) (by kernel_rfl) (fun _ _ _ h => h) (Or.inl ⟨by rfl, ?_⟩) (by assumption) ?_
                  rotate_left
                  · (intro w hSw; (try dsimp only at hSw); go_simp; try (with_reducible rfl))
                  try simp only [Act.put, List.setIfInBounds_toArray, List.set_cons_zero, List.set_cons_succ]
                  refine wpAnyH_take (i := 3) (oi := { dst := some 107, op := Op.slice 22 (Operand.tmp 105) none (some (Operand.tmp 106)) none, type := 22, pos := "law.go:99", after := #[{ on := 1, ground := Ground.data }, { on := 2, ground := Ground.data }], guard := none }) (v := ?_) rfl (by kernel_rfl) (by kernel_rfl) (by kernel_rfl) (fun _ _ _ h => h) (Or.inl ⟨by rfl, ?_⟩) (by assumption) ?_
                  rotate_left
                  · (intro w hSw; (try dsimp only at hSw); go_simp; try (with_reducible rfl))
                  try simp only [Act.put, List.setIfInBounds_toArray, List.set_cons_zero, List.set_cons_succ]
                  refine wpAnyH_take (i := 5) (oi := { dst := some 109, op := Op.load 27 (Operand.tmp 12), type := 27, pos := "law.go:99", after := #[], guard := none }) (v := ?_) rfl (by kernel_rfl) (by kernel_rfl) (by kernel_rfl) (fun _ _ _ h => h) (Or.inl ⟨by rfl, ?_⟩) (by assumption) ?_
                  rotate_left
                  · (intro w hSw; (try dsimp only at hSw); go_simp; try (with_reducible rfl))
                  try simp only [Act.put, List.setIfInBounds_toArray, List.set_cons_zero, List.set_cons_succ]
                  refine wpAnyH_take (i := 8) (oi := { dst := some 112, op := Op.move (Operand.tmp 5), type := 22, pos := "law.go:99", after := #[], guard := none }) (v := ?_) rfl (by kernel_rfl) (by kernel_rfl) (by kernel_rfl) (fun _ _ _ h => h) (Or.inl ⟨by rfl, ?_⟩) (by assumption) ?_
                  rotate_left
                  · (intro w hSw; (try dsimp only at hSw); go_simp; try (with_reducible rfl))
                  try simp only [Act.put, List.setIfInBounds_toArray, List.set_cons_zero, List.set_cons_succ]
                  refine wpAnyH_take (i := 9) (oi := { dst := some 113, op := Op.move (Operand.tmp 8), type := 3, pos := "law.go:99", after := #[], guard := none }) (v := ?_) rfl (by kernel_rfl) (by kernel_rfl) (by kernel_rfl) (fun _ _ _ h => h) (Or.inl ⟨by rfl, ?_⟩) (by assumption) ?_
                  rotate_left
                  · (intro w hSw; (try dsimp only at hSw); go_simp; try (with_reducible rfl))
                  try simp only [Act.put, List.setIfInBounds_toArray, List.set_cons_zero, List.set_cons_succ]
                  refine wpAnyH_take (i := 10) (oi := { dst := some 114, op := Op.binOp BinOp.add 3 (Operand.tmp 113) (Operand.const (Value.int IntKind.i64 2)) 3, type := 3, pos := "law.go:99", after := #[{ on := 9, ground := Ground.data }], guard := none }) (v := ?_) rfl (by kernel_rfl) (by kernel_rfl) (by kernel_rfl) (fun _ _ _ h => h) (Or.inl ⟨by rfl, ?_⟩) (by assumption) ?_
                  rotate_left
                  · (intro w hSw; (try dsimp only at hSw); go_simp; try (with_reducible rfl))
                  try simp only [Act.put, List.setIfInBounds_toArray, List.set_cons_zero, List.set_cons_succ]
                  refine wpAnyH_take (i := 11) (oi := { dst := some 115, op := Op.slice 22 (Operand.tmp 112) (some (Operand.tmp 114)) none none, type := 22, pos := "law.go:99", after := #[{ on := 8, ground := Ground.data }, { on := 10, ground := Ground.data }], guard := none }) (v := ?_) rfl (by kernel_rfl) (by kernel_rfl) (by kernel_rfl) (fun _ _ _ h => h) (Or.inl ⟨by rfl, ?_⟩) (by assumption) ?_
                  rotate_left
                  · (intro w hSw; (try dsimp only at hSw); go_simp; try (with_reducible rfl))
                  try simp only [Act.put, List.setIfInBounds_toArray, List.set_cons_zero, List.set_cons_succ]
                  refine wpAnyH_ready (rs := [0, 6]) (by kernel_rfl) (by simp) ?_
                  refine AllReadyH.cons (o := { dst := some 104, op := Op.buildSlice 22 0 #[], type := 22, pos := "law.go:99", after := #[], guard := none }) rfl (fun K hK => ?_) (AllReadyH.cons (o := { dst := some 110, op := Op.buildSlice 22 1 #[(0, Operand.tmp 109)], type := 22, pos := "law.go:99", after := #[{ on := 5, ground := Ground.data }], guard := none }) rfl (fun K hK => ?_) AllReadyH.nil)
                  · go_simp
                    have hleg70 := mW.size
                    obtain ⟨w70, hwa⟩ : ∃ w70, (w8.alloc (.cells #[] 27)).drew = w70 := ⟨_, rfl⟩
                    have h70 : w70.heap[w8.heap.size]? = some (.cells #[] 27 (0, 0)) := by rw [← hwa]; exact heap_alloc_new w8 _
                    have mA : Moves [] w8 w70 := by rw [← hwa]; exact ((Moves.refl _ _).alloc _).drew
                    rw [hwa]
                    obtain ⟨g70, hg70⟩ : ∃ g70, w8.heap.size = g70 := ⟨_, rfl⟩
                    rw [hg70] at h70 ⊢
                    replace hleg70 : w8.heap.size ≤ g70 := by rw [← hg70]; first | exact hleg70 | exact Nat.le_refl _
                    replace mW := mA
                    clear hwa
                    clear mA
                    refine hK.out _ _ ?_ (fun hHeld => ?_)
                    · exact hS _ mW
                    clear hK K
                    try simp only [Act.put, List.setIfInBounds_toArray, List.set_cons_zero, List.set_cons_succ]
                    refine wpAnyH_ready (rs := [4, 6]) (by kernel_rfl) (by simp) ?_
                    refine AllReadyH.cons (o := { dst := some 108, op := Op.call { callee := Callee.builtin Builtin.append, args := #[Operand.tmp 104, Operand.tmp 107], argTypes := #[22, 22] }, type := 22, pos := "law.go:99", after := #[{ on := 0, ground := Ground.data }, { on := 3, ground := Ground.data }], guard := none }) rfl (fun K hK => ?_) (AllReadyH.cons (o := { dst := some 110, op := Op.buildSlice 22 1 #[(0, Operand.tmp 109)], type := 22, pos := "law.go:99", after := #[{ on := 5, ground := Ground.data }], guard := none }) rfl (fun K hK => ?_) AllReadyH.nil)
                    · refine spans_step (.tmp 104) (.tmp 107) rfl (.slice (some ⟨g70, 0, none⟩) 0 0) ⟨g, 0, none⟩ k cap [] (xs.take k) rfl rfl (by rfl) (OwnS.empty h70) ((HS8.out.moves mW).first k) hTk.out hbd1.out ?_
                      intro v74 w74 hO74 m74 l74
                      have hsz := mW.size
                      replace mW : Moves [] w8 w74 := mW.trans m74 (fun x hx => .inr (by simp [Value.ownBlock] at hx; omega))
                      have hf74 : ∀ b, v74.ownBlock = some b → w8.heap.size ≤ b := lain_le l74 (by intro b hb; simp [Value.ownBlock] at hb; omega) hsz
                      clear m74 l74 hsz
                      refine hK.out _ _ ?_ (fun hHeld => ?_)
                      · exact hS _ mW
                      clear hK K
                      try simp only [Act.put, List.setIfInBounds_toArray, List.set_cons_zero, List.set_cons_succ]
                      refine wpAnyH_ready (rs := [6]) (by kernel_rfl) (by simp) ?_
                      refine AllReadyH.cons (o := { dst := some 110, op := Op.buildSlice 22 1 #[(0, Operand.tmp 109)], type := 22, pos := "law.go:99", after := #[{ on := 5, ground := Ground.data }], guard := none }) rfl (fun K hK => ?_) AllReadyH.nil
                      go_simp
                      have hleg77 := mW.size
                      obtain ⟨w77, hwa⟩ : ∃ w77, w74.alloc (.cells #[.string lo, .string hi2] 27) = w77 := ⟨_, rfl⟩
                      have h77 : w77.heap[w74.heap.size]? = some (.cells #[.string lo, .string hi2] 27 (0, 0)) := by rw [← hwa]; exact heap_alloc_new w74 _
                      have mA : Moves [] w74 w77 := by rw [← hwa]; exact (Moves.refl _ _).alloc _
                      rw [hwa]
                      obtain ⟨g77, hg77⟩ : ∃ g77, w74.heap.size = g77 := ⟨_, rfl⟩
                      rw [hg77] at h77 ⊢
                      replace hleg77 : w8.heap.size ≤ g77 := by rw [← hg77]; first | exact hleg77 | exact Nat.le_refl _
                      replace mW := mW.then mA
                      clear hwa
                      replace hO74 := hO74.moves mA (fun _ _ => by simp)
                      clear mA
                      refine hK.out _ _ ?_ (fun hHeld => ?_)
                      · exact hS _ mW
                      clear hK K
                      try simp only [Act.put, List.setIfInBounds_toArray, List.set_cons_zero, List.set_cons_succ]
                      refine wpAnyH_ready (rs := [7]) (by kernel_rfl) (by simp) ?_
                      refine AllReadyH.cons (o := { dst := some 111, op := Op.call { callee := Callee.builtin Builtin.append, args := #[Operand.tmp 108, Operand.tmp 110], argTypes := #[22, 22] }, type := 22, pos := "law.go:99", after := #[{ on := 4, ground := Ground.data }, { on := 6, ground := Ground.data }, { on := 4, ground := Ground.chain }], guard := none }) rfl (fun K hK => ?_) AllReadyH.nil
                      refine spans_step (.tmp 108) (.tmp 110) rfl v74 ⟨g77, 0, none⟩ 1 1 ([] ++ xs.take k) [⟨lo, hi2⟩] rfl rfl (by rfl) hO74 (SpsAt.block h77) rfl hbd2.out ?_
                      intro v78 w78 hO78 m78 l78
                      have hsz := mW.size
                      replace mW : Moves [] w8 w78 := mW.trans m78 (fun x hx => .inr (hf74 x (Option.mem_toList.1 hx)))
                      have hf78 : ∀ b, v78.ownBlock = some b → w8.heap.size ≤ b := lain_le l78 hf74 hsz
                      clear m78 l78 hsz
                      refine hK.out _ _ ?_ (fun hHeld => ?_)
                      · exact hS _ mW
                      clear hK K
                      try simp only [Act.put, List.setIfInBounds_toArray, List.set_cons_zero, List.set_cons_succ]
                      refine wpAnyH_ready (rs := [12]) (by kernel_rfl) (by simp) ?_
                      refine AllReadyH.cons (o := { dst := some 116, op := Op.call { callee := Callee.builtin Builtin.append, args := #[Operand.tmp 111, Operand.tmp 115], argTypes := #[22, 22] }, type := 22, pos := "law.go:99", after := #[{ on := 7, ground := Ground.data }, { on := 11, ground := Ground.data }, { on := 7, ground := Ground.chain }], guard := none }) rfl (fun K hK => ?_) AllReadyH.nil
                      refine spans_step (.tmp 111) (.tmp 115) rfl v78 Y (n - k2) (cap - k2) ([] ++ xs.take k ++ [⟨lo, hi2⟩]) (xs.drop k2) rfl rfl (by rfl) hO78 (HY.out _ mW) hDl.out hbd3.out ?_
                      intro v83 w83 hO83 m83 l83
                      replace mW : Moves [] w8 w83 := mW.trans m83 (fun x hx => .inr (hf78 x (Option.mem_toList.1 hx)))
                      clear m83 l83
                      refine hK.out _ _ ?_ (fun hHeld => ?_)
                      · exact hS _ mW
                      clear hK K
                      try simp only [Act.put, List.setIfInBounds_toArray, List.set_cons_zero, List.set_cons_succ]
                      refine wpAnyH_take (i := 13) (oi := { dst := some 5, op := Op.assign (Operand.tmp 116), type := 22, pos := "law.go:99", after := #[{ on := 12, ground := Ground.data }, { on := 12, ground := Ground.chain }, { on := 0, ground := Ground.phase }, { on := 1, ground := Ground.phase }, { on := 2, ground := Ground.phase }, { on := 3, ground := Ground.phase }, { on := 4, ground := Ground.phase }, { on := 5, ground := Ground.phase }, { on := 6, ground := Ground.phase }, { on := 7, ground := Ground.phase }, { on := 8, ground := Ground.phase }, { on := 9, ground := Ground.phase }, { on := 10, ground := Ground.phase }, { on := 11, ground := Ground.phase }, { on := 12, ground := Ground.phase }], guard := none }) (v := ?_) rfl (by kernel_rfl) (by kernel_rfl) (by kernel_rfl) (fun _ _ _ h => h) (Or.inl ⟨by rfl, ?_⟩) (by assumption) ?_
                      rotate_left
                      · (intro w hSw; (try dsimp only at hSw); go_simp; try (with_reducible rfl))
                      try simp only [Act.put, List.setIfInBounds_toArray, List.set_cons_zero, List.set_cons_succ]
                      refine wpAnyH_done (by kernel_rfl) ?_ _
                      refine NoPanic.normal ?_
                      exact ⟨rfl, by kernel_rfl, v83, by kernel_rfl, by simpa using hO83, mW⟩
                    · go_simp
                      have hleg77 := mW.size
                      obtain ⟨w77, hwa⟩ : ∃ w77, w70.alloc (.cells #[.string lo, .string hi2] 27) = w77 := ⟨_, rfl⟩
                      have h77 : w77.heap[w70.heap.size]? = some (.cells #[.string lo, .string hi2] 27 (0, 0)) := by rw [← hwa]; exact heap_alloc_new w70 _
                      have mA : Moves [] w70 w77 := by rw [← hwa]; exact (Moves.refl _ _).alloc _
                      rw [hwa]
                      obtain ⟨g77, hg77⟩ : ∃ g77, w70.heap.size = g77 := ⟨_, rfl⟩
                      rw [hg77] at h77 ⊢
                      replace hleg77 : w8.heap.size ≤ g77 := by rw [← hg77]; first | exact hleg77 | exact Nat.le_refl _
                      replace mW := mW.then mA
                      clear hwa
                      have hne : g77 ≠ g70 := by have := lt_of_block h70; omega
                      replace h70 := mA.at h70 (by simp)
                      clear mA
                      refine hK.out _ _ ?_ (fun hHeld => ?_)
                      · exact hS _ mW
                      clear hK K
                      try simp only [Act.put, List.setIfInBounds_toArray, List.set_cons_zero, List.set_cons_succ]
                      refine wpAnyH_ready (rs := [4]) (by kernel_rfl) (by simp) ?_
                      refine AllReadyH.cons (o := { dst := some 108, op := Op.call { callee := Callee.builtin Builtin.append, args := #[Operand.tmp 104, Operand.tmp 107], argTypes := #[22, 22] }, type := 22, pos := "law.go:99", after := #[{ on := 0, ground := Ground.data }, { on := 3, ground := Ground.data }], guard := none }) rfl (fun K hK => ?_) AllReadyH.nil
                      refine spans_step (.tmp 104) (.tmp 107) rfl (.slice (some ⟨g70, 0, none⟩) 0 0) ⟨g, 0, none⟩ k cap [] (xs.take k) rfl rfl (by rfl) (OwnS.empty h70) ((HS8.out.moves mW).first k) hTk.out hbd1.out ?_
                      intro v74 w74 hO74 m74 l74
                      have hsz := mW.size
                      replace mW : Moves [] w8 w74 := mW.trans m74 (fun x hx => .inr (by simp [Value.ownBlock] at hx; omega))
                      have hf74 : ∀ b, v74.ownBlock = some b → w8.heap.size ≤ b := lain_le l74 (by intro b hb; simp [Value.ownBlock] at hb; omega) hsz
                      replace h77 := m74.at h77 (by simp [Value.ownBlock]; omega)
                      clear m74 l74 hsz
                      refine hK.out _ _ ?_ (fun hHeld => ?_)
                      · exact hS _ mW
                      clear hK K
                      try simp only [Act.put, List.setIfInBounds_toArray, List.set_cons_zero, List.set_cons_succ]
                      refine wpAnyH_ready (rs := [7]) (by kernel_rfl) (by simp) ?_
                      refine AllReadyH.cons (o := { dst := some 111, op := Op.call { callee := Callee.builtin Builtin.append, args := #[Operand.tmp 108, Operand.tmp 110], argTypes := #[22, 22] }, type := 22, pos := "law.go:99", after := #[{ on := 4, ground := Ground.data }, { on := 6, ground := Ground.data }, { on := 4, ground := Ground.chain }], guard := none }) rfl (fun K hK => ?_) AllReadyH.nil
                      refine spans_step (.tmp 108) (.tmp 110) rfl v74 ⟨g77, 0, none⟩ 1 1 ([] ++ xs.take k) [⟨lo, hi2⟩] rfl rfl (by rfl) hO74 (SpsAt.block h77) rfl hbd2.out ?_
                      intro v78 w78 hO78 m78 l78
                      have hsz := mW.size
                      replace mW : Moves [] w8 w78 := mW.trans m78 (fun x hx => .inr (hf74 x (Option.mem_toList.1 hx)))
                      have hf78 : ∀ b, v78.ownBlock = some b → w8.heap.size ≤ b := lain_le l78 hf74 hsz
                      clear m78 l78 hsz
                      refine hK.out _ _ ?_ (fun hHeld => ?_)
                      · exact hS _ mW
                      clear hK K
                      try simp only [Act.put, List.setIfInBounds_toArray, List.set_cons_zero, List.set_cons_succ]
                      refine wpAnyH_ready (rs := [12]) (by kernel_rfl) (by simp) ?_
                      refine AllReadyH.cons (o := { dst := some 116, op := Op.call { callee := Callee.builtin Builtin.append, args := #[Operand.tmp 111, Operand.tmp 115], argTypes := #[22, 22] }, type := 22, pos := "law.go:99", after := #[{ on := 7, ground := Ground.data }, { on := 11, ground := Ground.data }, { on := 7, ground := Ground.chain }], guard := none }) rfl (fun K hK => ?_) AllReadyH.nil
                      refine spans_step (.tmp 111) (.tmp 115) rfl v78 Y (n - k2) (cap - k2) ([] ++ xs.take k ++ [⟨lo, hi2⟩]) (xs.drop k2) rfl rfl (by rfl) hO78 (HY.out _ mW) hDl.out hbd3.out ?_
                      intro v83 w83 hO83 m83 l83
                      replace mW : Moves [] w8 w83 := mW.trans m83 (fun x hx => .inr (hf78 x (Option.mem_toList.1 hx)))
                      clear m83 l83
                      refine hK.out _ _ ?_ (fun hHeld => ?_)
                      · exact hS _ mW
                      clear hK K
                      try simp only [Act.put, List.setIfInBounds_toArray, List.set_cons_zero, List.set_cons_succ]
                      refine wpAnyH_take (i := 13) (oi := { dst := some 5, op := Op.assign (Operand.tmp 116), type := 22, pos := "law.go:99", after := #[{ on := 12, ground := Ground.data }, { on := 12, ground := Ground.chain }, { on := 0, ground := Ground.phase }, { on := 1, ground := Ground.phase }, { on := 2, ground := Ground.phase }, { on := 3, ground := Ground.phase }, { on := 4, ground := Ground.phase }, { on := 5, ground := Ground.phase }, { on := 6, ground := Ground.phase }, { on := 7, ground := Ground.phase }, { on := 8, ground := Ground.phase }, { on := 9, ground := Ground.phase }, { on := 10, ground := Ground.phase }, { on := 11, ground := Ground.phase }, { on := 12, ground := Ground.phase }], guard := none }) (v := ?_) rfl (by kernel_rfl) (by kernel_rfl) (by kernel_rfl) (fun _ _ _ h => h) (Or.inl ⟨by rfl, ?_⟩) (by assumption) ?_
                      rotate_left
                      · (intro w hSw; (try dsimp only at hSw); go_simp; try (with_reducible rfl))
                      try simp only [Act.put, List.setIfInBounds_toArray, List.set_cons_zero, List.set_cons_succ]
                      refine wpAnyH_done (by kernel_rfl) ?_ _
                      refine NoPanic.normal ?_
                      exact ⟨rfl, by kernel_rfl, v83, by kernel_rfl, by simpa using hO83, mW⟩
                  · go_simp
                    have hleg77 := mW.size
                    obtain ⟨w77, hwa⟩ : ∃ w77, (w8.alloc (.cells #[.string lo, .string hi2] 27)).drew = w77 := ⟨_, rfl⟩
                    have h77 : w77.heap[w8.heap.size]? = some (.cells #[.string lo, .string hi2] 27 (0, 0)) := by rw [← hwa]; exact heap_alloc_new w8 _
                    have mA : Moves [] w8 w77 := by rw [← hwa]; exact ((Moves.refl _ _).alloc _).drew
                    rw [hwa]
                    obtain ⟨g77, hg77⟩ : ∃ g77, w8.heap.size = g77 := ⟨_, rfl⟩
                    rw [hg77] at h77 ⊢
                    replace hleg77 : w8.heap.size ≤ g77 := by rw [← hg77]; first | exact hleg77 | exact Nat.le_refl _
                    replace mW := mA
                    clear hwa
                    clear mA
                    refine hK.out _ _ ?_ (fun hHeld => ?_)
                    · exact hS _ mW
                    clear hK K
                    try simp only [Act.put, List.setIfInBounds_toArray, List.set_cons_zero, List.set_cons_succ]
                    refine wpAnyH_ready (rs := [0]) (by kernel_rfl) (by simp) ?_
                    refine AllReadyH.cons (o := { dst := some 104, op := Op.buildSlice 22 0 #[], type := 22, pos := "law.go:99", after := #[], guard := none }) rfl (fun K hK => ?_) AllReadyH.nil
                    go_simp
                    have hleg70 := mW.size
                    obtain ⟨w70, hwa⟩ : ∃ w70, w77.alloc (.cells #[] 27) = w70 := ⟨_, rfl⟩
                    have h70 : w70.heap[w77.heap.size]? = some (.cells #[] 27 (0, 0)) := by rw [← hwa]; exact heap_alloc_new w77 _
                    have mA : Moves [] w77 w70 := by rw [← hwa]; exact (Moves.refl _ _).alloc _
                    rw [hwa]
                    obtain ⟨g70, hg70⟩ : ∃ g70, w77.heap.size = g70 := ⟨_, rfl⟩
                    rw [hg70] at h70 ⊢
                    replace hleg70 : w8.heap.size ≤ g70 := by rw [← hg70]; first | exact hleg70 | exact Nat.le_refl _
                    replace mW := mW.then mA
                    clear hwa
                    have hne : g77 ≠ g70 := by have := lt_of_block h77; omega
                    replace h77 := mA.at h77 (by simp)
                    clear mA
                    refine hK.out _ _ ?_ (fun hHeld => ?_)
                    · exact hS _ mW
                    clear hK K
                    try simp only [Act.put, List.setIfInBounds_toArray, List.set_cons_zero, List.set_cons_succ]
                    refine wpAnyH_ready (rs := [4]) (by kernel_rfl) (by simp) ?_
                    refine AllReadyH.cons (o := { dst := some 108, op := Op.call { callee := Callee.builtin Builtin.append, args := #[Operand.tmp 104, Operand.tmp 107], argTypes := #[22, 22] }, type := 22, pos := "law.go:99", after := #[{ on := 0, ground := Ground.data }, { on := 3, ground := Ground.data }], guard := none }) rfl (fun K hK => ?_) AllReadyH.nil
                    refine spans_step (.tmp 104) (.tmp 107) rfl (.slice (some ⟨g70, 0, none⟩) 0 0) ⟨g, 0, none⟩ k cap [] (xs.take k) rfl rfl (by rfl) (OwnS.empty h70) ((HS8.out.moves mW).first k) hTk.out hbd1.out ?_
                    intro v74 w74 hO74 m74 l74
                    have hsz := mW.size
                    replace mW : Moves [] w8 w74 := mW.trans m74 (fun x hx => .inr (by simp [Value.ownBlock] at hx; omega))
                    have hf74 : ∀ b, v74.ownBlock = some b → w8.heap.size ≤ b := lain_le l74 (by intro b hb; simp [Value.ownBlock] at hb; omega) hsz
                    replace h77 := m74.at h77 (by simp [Value.ownBlock]; omega)
                    clear m74 l74 hsz
                    refine hK.out _ _ ?_ (fun hHeld => ?_)
                    · exact hS _ mW
                    clear hK K
                    try simp only [Act.put, List.setIfInBounds_toArray, List.set_cons_zero, List.set_cons_succ]
                    refine wpAnyH_ready (rs := [7]) (by kernel_rfl) (by simp) ?_
                    refine AllReadyH.cons (o := { dst := some 111, op := Op.call { callee := Callee.builtin Builtin.append, args := #[Operand.tmp 108, Operand.tmp 110], argTypes := #[22, 22] }, type := 22, pos := "law.go:99", after := #[{ on := 4, ground := Ground.data }, { on := 6, ground := Ground.data }, { on := 4, ground := Ground.chain }], guard := none }) rfl (fun K hK => ?_) AllReadyH.nil
                    refine spans_step (.tmp 108) (.tmp 110) rfl v74 ⟨g77, 0, none⟩ 1 1 ([] ++ xs.take k) [⟨lo, hi2⟩] rfl rfl (by rfl) hO74 (SpsAt.block h77) rfl hbd2.out ?_
                    intro v78 w78 hO78 m78 l78
                    have hsz := mW.size
                    replace mW : Moves [] w8 w78 := mW.trans m78 (fun x hx => .inr (hf74 x (Option.mem_toList.1 hx)))
                    have hf78 : ∀ b, v78.ownBlock = some b → w8.heap.size ≤ b := lain_le l78 hf74 hsz
                    clear m78 l78 hsz
                    refine hK.out _ _ ?_ (fun hHeld => ?_)
                    · exact hS _ mW
                    clear hK K
                    try simp only [Act.put, List.setIfInBounds_toArray, List.set_cons_zero, List.set_cons_succ]
                    refine wpAnyH_ready (rs := [12]) (by kernel_rfl) (by simp) ?_
                    refine AllReadyH.cons (o := { dst := some 116, op := Op.call { callee := Callee.builtin Builtin.append, args := #[Operand.tmp 111, Operand.tmp 115], argTypes := #[22, 22] }, type := 22, pos := "law.go:99", after := #[{ on := 7, ground := Ground.data }, { on := 11, ground := Ground.data }, { on := 7, ground := Ground.chain }], guard := none }) rfl (fun K hK => ?_) AllReadyH.nil
                    refine spans_step (.tmp 111) (.tmp 115) rfl v78 Y (n - k2) (cap - k2) ([] ++ xs.take k ++ [⟨lo, hi2⟩]) (xs.drop k2) rfl rfl (by rfl) hO78 (HY.out _ mW) hDl.out hbd3.out ?_
                    intro v83 w83 hO83 m83 l83
                    replace mW : Moves [] w8 w83 := mW.trans m83 (fun x hx => .inr (hf78 x (Option.mem_toList.1 hx)))
                    clear m83 l83
                    refine hK.out _ _ ?_ (fun hHeld => ?_)
                    · exact hS _ mW
                    clear hK K
                    try simp only [Act.put, List.setIfInBounds_toArray, List.set_cons_zero, List.set_cons_succ]
                    refine wpAnyH_take (i := 13) (oi := { dst := some 5, op := Op.assign (Operand.tmp 116), type := 22, pos := "law.go:99", after := #[{ on := 12, ground := Ground.data }, { on := 12, ground := Ground.chain }, { on := 0, ground := Ground.phase }, { on := 1, ground := Ground.phase }, { on := 2, ground := Ground.phase }, { on := 3, ground := Ground.phase }, { on := 4, ground := Ground.phase }, { on := 5, ground := Ground.phase }, { on := 6, ground := Ground.phase }, { on := 7, ground := Ground.phase }, { on := 8, ground := Ground.phase }, { on := 9, ground := Ground.phase }, { on := 10, ground := Ground.phase }, { on := 11, ground := Ground.phase }, { on := 12, ground := Ground.phase }], guard := none }) (v := ?_) rfl (by kernel_rfl) (by kernel_rfl) (by kernel_rfl) (fun _ _ _ h => h) (Or.inl ⟨by rfl, ?_⟩) (by assumption) ?_
                    rotate_left
                    · (intro w hSw; (try dsimp only at hSw); go_simp; try (with_reducible rfl))
                    try simp only [Act.put, List.setIfInBounds_toArray, List.set_cons_zero, List.set_cons_succ]
                    refine wpAnyH_done (by kernel_rfl) ?_ _
                    refine NoPanic.normal ?_
                    exact ⟨rfl, by kernel_rfl, v83, by kernel_rfl, by simpa using hO83, mW⟩
                · rintro u w9 ⟨v9, hu, hO9, m9⟩
                  simp only [List.foldl_cons, List.foldl_nil, List.setIfInBounds_toArray, List.set_cons_zero, List.set_cons_succ, hu]
                  clear hu
                  generalize u 104 = u104
                  generalize u 105 = u105
                  generalize u 106 = u106
                  generalize u 107 = u107
                  generalize u 108 = u108
                  generalize u 109 = u109
                  generalize u 110 = u110
                  generalize u 111 = u111
                  generalize u 112 = u112
                  generalize u 113 = u113
                  generalize u 114 = u114
                  generalize u 115 = u115
                  generalize u 116 = u116
                  have M9 : Moves [] w w9 := M.then (M8.then m9)
                  rw [← hk22] at hO9
                  have hcov9 : Hid (spCov (xs.take k ++ (⟨lo, hi2⟩ : Psp) :: xs.drop (k + 2)) = true) := HCJ.out
                  have hlen9 : (xs.take k ++ (⟨lo, hi2⟩ : Psp) :: xs.drop (k + 2)).length ≤ i + 2 := by rw [List.length_append, List.length_cons, List.length_take, List.length_drop, HN.out]; omega
                  clear mW hS a0 a1 hTk HS8 hbd1 hbd2 hbd3 hwrap hpb
                  have hpos9 : (xs.take k ++ (⟨lo, hi2⟩ : Psp) :: xs.drop (k + 2)).length ≠ 0 := by simp
                  obtain ⟨g9, cap9, hv9⟩ : ∃ g9 cap9, v9 = .slice (some ⟨g9, 0, none⟩) (xs.take k ++ (⟨lo, hi2⟩ : Psp) :: xs.drop (k + 2)).length cap9 := by
                    rcases hO9.2 with ⟨_, h0⟩ | ⟨gg, cc, cur, e, _⟩
                    · exact absurd h0 hpos9
                    · exact ⟨gg, cc, e⟩
                  obtain ⟨ad9, c9, e9, hc9, _, hS9⟩ := hO9.at
                  rw [hv9] at e9
                  simp only [Value.slice.injEq] at e9
                  obtain ⟨rfl, _, rfl⟩ := e9
                  subst hv9
                  obtain ⟨ys, hys⟩ : ∃ ys, (xs.take k ++ (⟨lo, hi2⟩ : Psp) :: xs.drop (k + 2)) = ys := ⟨_, rfl⟩
                  rw [hys] at hO9 hc9 hS9 hcov9 hlen9 hpos9 ⊢
                  obtain ⟨n9, hn9⟩ : ∃ n9, ys.length = n9 := ⟨_, rfl⟩
                  have HN9 : Hid (n9 = ys.length) := hn9.symm
                  rw [hn9] at hO9 hc9 hlen9 ⊢
                  have HS9 : Hid (SpsAt w9 (some ⟨g9, 0, none⟩) ys) := hS9
                  have HO9 : Hid (OwnS w9 (.slice (some ⟨g9, 0, none⟩) n9 cap9) ys) := hO9
                  have hap : Hid (spAp ys = true) := spAp_true (spCov_apart hcov9.out)
                  have hl9 : n9 ≤ 1000000 := by omega
                  obtain ⟨ph, hph⟩ : ∃ ph, phead t 3 = ph := ⟨_, rfl⟩
                  have hhead : ∀ w, Calls Try.prog 12 #[.string t, .int .i64 3] w fun e w' => e = .returned (.string ph) ∧ w = w' := by
                    intro w
                    have := head_d w t 3
                    rw [hph] at this
                    exact this
                  clear hS9 hO9 hn9 hys hph hpos9
                  have hbz : ∀ ph : ByteArray, Hid (([] ++ [ph, ⟨#[]⟩]).length + (zs.take 4).length ≤ 1000000) := fun ph => by
                    have h4 : (zs.take 4).length ≤ 4 := by rw [List.length_take]; omega
                    show 2 + (zs.take 4).length ≤ 1000000
                    omega
                  go_wp2_with (first | (go_at_call 18; refine (spCover_w _ _ _ _ ys HS9.out HN9.out hc9 hl9).mono ?_; rintro _ w10 ⟨rfl, m10⟩; rw [hcov9.out]) | (go_at_call 19; refine (spApart_w _ _ _ _ ys (HS9.out.moves m10) HN9.out hc9 hl9).mono ?_; rintro _ w11 ⟨rfl, m11⟩; rw [hap.out]; have z1 := heap_alloc_new w11 (.cells #[] 9); have z2 : Moves [] w11 (w11.alloc (.cells #[] 9)) := (Moves.refl _ _).alloc _; have z3 := zbox w11 ph) | (go_at_call 12; refine (hhead _).mono ?_; rintro _ _ ⟨rfl, rfl⟩) | (at_builtin; refine strs_append (.tmp 125) (.tmp 128) rfl (.slice (some ⟨w11.heap.size, 0, none⟩) 0 0) (some ⟨w11.heap.size + 1, 0, none⟩) 2 2 [] [ph, ⟨#[]⟩] rfl rfl rfl z3.1 z3.2.1 rfl (fun h => by simp at h) (by simp) ?_; intro v12 w12 hO12 m12 l12; have M12 : Moves [] w11 w12 := (z3.2.2.trans m12 (fun x hx => .inr (by simp [Value.ownBlock] at hx; omega))); have hf12 : ∀ b, v12.ownBlock = some b → w11.heap.size ≤ b := lain_le l12 (by intro b hb; simp [Value.ownBlock] at hb; omega) z3.2.2.size; clear z1 z2 z3 m12 l12) | (go_at_call 20; refine (hfew _).mono ?_; rintro _ _ ⟨n13, rfl, hn13, rfl⟩; have HN13 : Hid (n13 = (zs.take 4).length) := hn13; clear hn13; have HZ12 := (HZ.out.moves (M9.then ((m10.then m11).then M12))).first 4) | (at_builtin; refine strs_append (.tmp 129) (.tmp 131) rfl v12 adz n13 cz ([] ++ [ph, ⟨#[]⟩]) (zs.take 4) rfl rfl rfl hO12 HZ12 HN13.out hnz (hbz ph).out ?_; intro v14 w14 hO14 m14 l14; (obtain ⟨zz, hzz⟩ : ∃ zz, [] ++ [ph, ⟨#[]⟩] ++ zs.take 4 = zz := ⟨_, rfl⟩); rw [hzz] at hO14; (obtain ⟨ad14, cap14, rfl, hc14, hS14⟩ := hO14.at); (obtain ⟨n14, hn14⟩ : ∃ n14, zz.length = n14 := ⟨_, rfl⟩); have HN14 : Hid (zz.length = n14) := hn14; have HZL : Hid ([] ++ [ph, ⟨#[]⟩] ++ zs.take 4 = zz) := hzz; rw [hn14] at hc14 ⊢; clear hn14 hzz))
                  have M14 : Moves [] w9 w14 := ((m10.then m11).then M12).trans m14 (fun x hx => .inr (by have := hf12 x (Option.mem_toList.1 hx); have := (m10.then m11).size; omega))
                  have HZZ : Hid (StrsAt w14 ad14 zz) := hS14
                  have hl14 : n14 ≤ 100 := by
                    have h4 : (zs.take 4).length ≤ 4 := by rw [List.length_take]; omega
                    rw [← HN14.out, ← HZL.out, List.length_append]
                    show 2 + (zs.take 4).length ≤ 100
                    omega
                  clear hS14 HZL hO14 m14 l14 hO12 hf12 HN13 hhead HZ12
                  go_loopw [134] (fun vj w15 => ∃ j : Nat, j ≤ n14 ∧ vj = .int .i64 (j : Nat) ∧ Moves [] w14 w15) (fun vj _ => n14 - (intOf vj).toNat)
                  case atStart => exact ⟨0, by omega, rfl, Moves.refl _ _⟩
                  case round =>
                    obtain ⟨j, hjn, rfl, mj⟩ := hrel
                    by_cases hjl : j < n14
                    · have hjI : (j : Int) < n14 := by omega
                      obtain ⟨nm, hnm⟩ : ∃ s, zz[j]? = some s := ⟨_, List.getElem?_eq_getElem (by have := HN14.out; omega)⟩
                      obtain ⟨gz, oz, rfl, cz0⟩ := HZZ.out j nm hnm
                      replace cz0 := mj.cell cz0
                      have hone : Hid ((ys.filter (fun s => spH s nm)).length = 1) := spCov_one hcov9.out nm
                      clear hnm
                      go_wp2_with fail
                      go_loopw [16, 17] (fun vin vq w16 => ∃ q : Nat, q ≤ n9 ∧ vin = .int .i64 ((((ys.take q).filter (fun s => spH s nm)).length : Nat) : Int) ∧ vq = .int .i64 (q : Nat) ∧ Moves [] w14 w16) (fun _ vq _ => n9 - (intOf vq).toNat)
                      case atStart => exact ⟨0, by omega, by simp, rfl, mj⟩
                      case round =>
                        obtain ⟨q, hqn, rfl, rfl, mq⟩ := hrel
                        by_cases hql : q < n9
                        · have hqI : (q : Int) < n9 := by omega
                          obtain ⟨y, hy⟩ : ∃ s, ys[q]? = some s := ⟨_, List.getElem?_eq_getElem (by have := HN9.out; omega)⟩
                          obtain ⟨_, _, q1, y0, y1⟩ := HS9.out q y hy
                          simp only [Option.some.injEq, Addr.mk.injEq] at q1
                          obtain ⟨rfl, rfl, _⟩ := q1
                          rw [Nat.zero_add] at y0 y1
                          replace y0 := (M14.then mq).cell y0
                          replace y1 := (M14.then mq).cell y1
                          obtain ⟨c, hc⟩ : ∃ c, ((ys.take q).filter (fun s => spH s nm)).length = c := ⟨_, rfl⟩
                          have hc22 : c ≤ q := by rw [← hc]; exact Nat.le_trans (List.length_filter_le _ _) (by rw [List.length_take]; omega)
                          have hstep : ((ys.take (q + 1)).filter (fun s => spH s nm)).length = c + (if spH y nm = true then 1 else 0) := by
                            rw [List.take_add_one, hy, List.filter_append, List.length_append, hc]
                            cases hhh : spH y nm <;> simp [hhh]
                          have HST : Hid (((ys.take (q + 1)).filter (fun s => spH s nm)).length = c + (if spH y nm = true then 1 else 0)) := hstep
                          rw [hc]
                          clear hc hstep hy
                          obtain ⟨ylo, yhi⟩ := y
                          dsimp only at y0 y1
                          cases hHy : spH ⟨ylo, yhi⟩ nm with
                          | true =>
                            have HSU : Hid (((ys.take (q + 1)).filter (fun s => spH s nm)).length = c + 1) := by
                              have h := HST.out
                              rw [hHy] at h
                              simp at h
                              exact h
                            go_wp2_with (go_at_call 15; refine (spHas_w _ _ _ _).mono ?_; rintro _ w17 ⟨rfl, m17⟩; rw [hHy])
                            go_roundw
                            case rel => exact ⟨q + 1, by omega, by rw [HSU.out]; go_num, by go_num, mq.then m17⟩
                            case measure => simp [intOf]; omega
                          | false =>
                            have HSU : Hid (((ys.take (q + 1)).filter (fun s => spH s nm)).length = c) := by
                              have h := HST.out
                              rw [hHy] at h
                              simp at h
                              exact h
                            go_wp2_with (go_at_call 15; refine (spHas_w _ _ _ _).mono ?_; rintro _ w17 ⟨rfl, m17⟩; rw [hHy])
                            go_roundw
                            case rel => exact ⟨q + 1, by omega, by rw [HSU.out], by go_num, mq.then m17⟩
                            case measure => simp [intOf]; omega
                        · obtain rfl : q = n9 := by omega
                          have hall : ((ys.take q).filter (fun s => spH s nm)).length = 1 := by rw [List.take_of_length_le (by have := HN9.out; omega)]; exact hone.out
                          rw [hall]
                          clear hall
                          go_wp2_with fail
                          go_roundw
                          case rel => exact ⟨j + 1, by omega, by go_num, mq⟩
                          case measure => simp [intOf]; omega
                    · obtain rfl : j = n14 := by omega
                      go_wp2_with fail
                      go_roundw
                      case rel => exact ⟨i + 1, ys, g9, cap9, by omega, by go_num, by rw [← HN9.out], HO9.out.moves (M14.then mj) (fun _ _ => by simp), hcov9, by have := HN9.out; omega, M9.then (M14.then mj)⟩
                      case measure => simp [intOf]; omega
        · have hklI : ¬ (k : Int) + 1 < n := by omega
          go_wp2_with fail
          clear hsE
          cases hCC : spC ⟨lo, hi⟩ t with
          | true =>
            by_cases h3 : li.tmod 3 = 0
            ·
              refine (spSplit_yes lo hi t _ hCC).mono ?_
              rintro _ w7 ⟨rfl, m7⟩
              obtain ⟨my, bA, bB⟩ := spBoxes2 w7 #[.string lo, .string t] #[.string t, .string hi] 27
              have M8 := (m5.then m7).then my
              obtain ⟨Q, hQ⟩ : ∃ Q, w7.heap.size = Q := ⟨_, rfl⟩
              rw [hQ] at bA bB
              have vi8 := (M.then M8).cell vi0
              go_wp2_with fail
              generalize ((w7.alloc (.cells #[.string lo, .string t] 27)).alloc (.cells #[.string t, .string hi] 27)) = w9 at *

              have M9 : Moves [] w w9 := M.then M8
              obtain ⟨v9, hv90⟩ : ∃ v9, Value.slice (some ⟨g, 0, none⟩) n cap = v9 := ⟨_, rfl⟩
              have hO9 : OwnS w9 v9 xs := by rw [← hv90]; exact HO.out.moves M8 (fun _ _ => by simp)
              have hcov9 : Hid (spCov xs = true) := hC.out
              have hlen9 : xs.length ≤ i + 2 := by have := HN.out; omega
              rw [hv90]
              clear bA bB hv90
              have hpos9 : xs.length ≠ 0 := by have := HN.out; omega
              obtain ⟨g9, cap9, hv9⟩ : ∃ g9 cap9, v9 = .slice (some ⟨g9, 0, none⟩) xs.length cap9 := by
                rcases hO9.2 with ⟨_, h0⟩ | ⟨gg, cc, cur, e, _⟩
                · exact absurd h0 hpos9
                · exact ⟨gg, cc, e⟩
              obtain ⟨ad9, c9, e9, hc9, _, hS9⟩ := hO9.at
              rw [hv9] at e9
              simp only [Value.slice.injEq] at e9
              obtain ⟨rfl, _, rfl⟩ := e9
              subst hv9
              obtain ⟨ys, hys⟩ : ∃ ys, xs = ys := ⟨_, rfl⟩
              rw [hys] at hO9 hc9 hS9 hcov9 hlen9 hpos9 ⊢
              obtain ⟨n9, hn9⟩ : ∃ n9, ys.length = n9 := ⟨_, rfl⟩
              have HN9 : Hid (n9 = ys.length) := hn9.symm
              rw [hn9] at hO9 hc9 hlen9 ⊢
              have HS9 : Hid (SpsAt w9 (some ⟨g9, 0, none⟩) ys) := hS9
              have HO9 : Hid (OwnS w9 (.slice (some ⟨g9, 0, none⟩) n9 cap9) ys) := hO9
              have hap : Hid (spAp ys = true) := spAp_true (spCov_apart hcov9.out)
              have hl9 : n9 ≤ 1000000 := by omega
              obtain ⟨ph, hph⟩ : ∃ ph, phead t 3 = ph := ⟨_, rfl⟩
              have hhead : ∀ w, Calls Try.prog 12 #[.string t, .int .i64 3] w fun e w' => e = .returned (.string ph) ∧ w = w' := by
                intro w
                have := head_d w t 3
                rw [hph] at this
                exact this
              clear hS9 hO9 hn9 hys hph hpos9
              have hbz : ∀ ph : ByteArray, Hid (([] ++ [ph, ⟨#[]⟩]).length + (zs.take 4).length ≤ 1000000) := fun ph => by
                have h4 : (zs.take 4).length ≤ 4 := by rw [List.length_take]; omega
                show 2 + (zs.take 4).length ≤ 1000000
                omega
              go_wp2_with (first | (go_at_call 18; refine (spCover_w _ _ _ _ ys HS9.out HN9.out hc9 hl9).mono ?_; rintro _ w10 ⟨rfl, m10⟩; rw [hcov9.out]) | (go_at_call 19; refine (spApart_w _ _ _ _ ys (HS9.out.moves m10) HN9.out hc9 hl9).mono ?_; rintro _ w11 ⟨rfl, m11⟩; rw [hap.out]; have z1 := heap_alloc_new w11 (.cells #[] 9); have z2 : Moves [] w11 (w11.alloc (.cells #[] 9)) := (Moves.refl _ _).alloc _; have z3 := zbox w11 ph) | (go_at_call 12; refine (hhead _).mono ?_; rintro _ _ ⟨rfl, rfl⟩) | (at_builtin; refine strs_append (.tmp 125) (.tmp 128) rfl (.slice (some ⟨w11.heap.size, 0, none⟩) 0 0) (some ⟨w11.heap.size + 1, 0, none⟩) 2 2 [] [ph, ⟨#[]⟩] rfl rfl rfl z3.1 z3.2.1 rfl (fun h => by simp at h) (by simp) ?_; intro v12 w12 hO12 m12 l12; have M12 : Moves [] w11 w12 := (z3.2.2.trans m12 (fun x hx => .inr (by simp [Value.ownBlock] at hx; omega))); have hf12 : ∀ b, v12.ownBlock = some b → w11.heap.size ≤ b := lain_le l12 (by intro b hb; simp [Value.ownBlock] at hb; omega) z3.2.2.size; clear z1 z2 z3 m12 l12) | (go_at_call 20; refine (hfew _).mono ?_; rintro _ _ ⟨n13, rfl, hn13, rfl⟩; have HN13 : Hid (n13 = (zs.take 4).length) := hn13; clear hn13; have HZ12 := (HZ.out.moves (M9.then ((m10.then m11).then M12))).first 4) | (at_builtin; refine strs_append (.tmp 129) (.tmp 131) rfl v12 adz n13 cz ([] ++ [ph, ⟨#[]⟩]) (zs.take 4) rfl rfl rfl hO12 HZ12 HN13.out hnz (hbz ph).out ?_; intro v14 w14 hO14 m14 l14; (obtain ⟨zz, hzz⟩ : ∃ zz, [] ++ [ph, ⟨#[]⟩] ++ zs.take 4 = zz := ⟨_, rfl⟩); rw [hzz] at hO14; (obtain ⟨ad14, cap14, rfl, hc14, hS14⟩ := hO14.at); (obtain ⟨n14, hn14⟩ : ∃ n14, zz.length = n14 := ⟨_, rfl⟩); have HN14 : Hid (zz.length = n14) := hn14; have HZL : Hid ([] ++ [ph, ⟨#[]⟩] ++ zs.take 4 = zz) := hzz; rw [hn14] at hc14 ⊢; clear hn14 hzz))
              have M14 : Moves [] w9 w14 := ((m10.then m11).then M12).trans m14 (fun x hx => .inr (by have := hf12 x (Option.mem_toList.1 hx); have := (m10.then m11).size; omega))
              have HZZ : Hid (StrsAt w14 ad14 zz) := hS14
              have hl14 : n14 ≤ 100 := by
                have h4 : (zs.take 4).length ≤ 4 := by rw [List.length_take]; omega
                rw [← HN14.out, ← HZL.out, List.length_append]
                show 2 + (zs.take 4).length ≤ 100
                omega
              clear hS14 HZL hO14 m14 l14 hO12 hf12 HN13 hhead HZ12
              go_loopw [134] (fun vj w15 => ∃ j : Nat, j ≤ n14 ∧ vj = .int .i64 (j : Nat) ∧ Moves [] w14 w15) (fun vj _ => n14 - (intOf vj).toNat)
              case atStart => exact ⟨0, by omega, rfl, Moves.refl _ _⟩
              case round =>
                obtain ⟨j, hjn, rfl, mj⟩ := hrel
                by_cases hjl : j < n14
                · have hjI : (j : Int) < n14 := by omega
                  obtain ⟨nm, hnm⟩ : ∃ s, zz[j]? = some s := ⟨_, List.getElem?_eq_getElem (by have := HN14.out; omega)⟩
                  obtain ⟨gz, oz, rfl, cz0⟩ := HZZ.out j nm hnm
                  replace cz0 := mj.cell cz0
                  have hone : Hid ((ys.filter (fun s => spH s nm)).length = 1) := spCov_one hcov9.out nm
                  clear hnm
                  go_wp2_with fail
                  go_loopw [16, 17] (fun vin vq w16 => ∃ q : Nat, q ≤ n9 ∧ vin = .int .i64 ((((ys.take q).filter (fun s => spH s nm)).length : Nat) : Int) ∧ vq = .int .i64 (q : Nat) ∧ Moves [] w14 w16) (fun _ vq _ => n9 - (intOf vq).toNat)
                  case atStart => exact ⟨0, by omega, by simp, rfl, mj⟩
                  case round =>
                    obtain ⟨q, hqn, rfl, rfl, mq⟩ := hrel
                    by_cases hql : q < n9
                    · have hqI : (q : Int) < n9 := by omega
                      obtain ⟨y, hy⟩ : ∃ s, ys[q]? = some s := ⟨_, List.getElem?_eq_getElem (by have := HN9.out; omega)⟩
                      obtain ⟨_, _, q1, y0, y1⟩ := HS9.out q y hy
                      simp only [Option.some.injEq, Addr.mk.injEq] at q1
                      obtain ⟨rfl, rfl, _⟩ := q1
                      rw [Nat.zero_add] at y0 y1
                      replace y0 := (M14.then mq).cell y0
                      replace y1 := (M14.then mq).cell y1
                      obtain ⟨c, hc⟩ : ∃ c, ((ys.take q).filter (fun s => spH s nm)).length = c := ⟨_, rfl⟩
                      have hc22 : c ≤ q := by rw [← hc]; exact Nat.le_trans (List.length_filter_le _ _) (by rw [List.length_take]; omega)
                      have hstep : ((ys.take (q + 1)).filter (fun s => spH s nm)).length = c + (if spH y nm = true then 1 else 0) := by
                        rw [List.take_add_one, hy, List.filter_append, List.length_append, hc]
                        cases hhh : spH y nm <;> simp [hhh]
                      have HST : Hid (((ys.take (q + 1)).filter (fun s => spH s nm)).length = c + (if spH y nm = true then 1 else 0)) := hstep
                      rw [hc]
                      clear hc hstep hy
                      obtain ⟨ylo, yhi⟩ := y
                      dsimp only at y0 y1
                      cases hHy : spH ⟨ylo, yhi⟩ nm with
                      | true =>
                        have HSU : Hid (((ys.take (q + 1)).filter (fun s => spH s nm)).length = c + 1) := by
                          have h := HST.out
                          rw [hHy] at h
                          simp at h
                          exact h
                        go_wp2_with (go_at_call 15; refine (spHas_w _ _ _ _).mono ?_; rintro _ w17 ⟨rfl, m17⟩; rw [hHy])
                        go_roundw
                        case rel => exact ⟨q + 1, by omega, by rw [HSU.out]; go_num, by go_num, mq.then m17⟩
                        case measure => simp [intOf]; omega
                      | false =>
                        have HSU : Hid (((ys.take (q + 1)).filter (fun s => spH s nm)).length = c) := by
                          have h := HST.out
                          rw [hHy] at h
                          simp at h
                          exact h
                        go_wp2_with (go_at_call 15; refine (spHas_w _ _ _ _).mono ?_; rintro _ w17 ⟨rfl, m17⟩; rw [hHy])
                        go_roundw
                        case rel => exact ⟨q + 1, by omega, by rw [HSU.out], by go_num, mq.then m17⟩
                        case measure => simp [intOf]; omega
                    · obtain rfl : q = n9 := by omega
                      have hall : ((ys.take q).filter (fun s => spH s nm)).length = 1 := by rw [List.take_of_length_le (by have := HN9.out; omega)]; exact hone.out
                      rw [hall]
                      clear hall
                      go_wp2_with fail
                      go_roundw
                      case rel => exact ⟨j + 1, by omega, by go_num, mq⟩
                      case measure => simp [intOf]; omega
                · obtain rfl : j = n14 := by omega
                  go_wp2_with fail
                  go_roundw
                  case rel => exact ⟨i + 1, ys, g9, cap9, by omega, by go_num, by rw [← HN9.out], HO9.out.moves (M14.then mj) (fun _ _ => by simp), hcov9, by have := HN9.out; omega, M9.then (M14.then mj)⟩
                  case measure => simp [intOf]; omega
            ·
              have h3a : (li.tmod 3 != 0) = true := by simp [h3]
              have h3b : (li.tmod 3 == 0) = false := by simp [h3]
              refine (spSplit_yes lo hi t _ hCC).mono ?_
              rintro _ w7 ⟨rfl, m7⟩
              obtain ⟨my, bA, bB⟩ := spBoxes2 w7 #[.string lo, .string t] #[.string t, .string hi] 27
              have M8 := (m5.then m7).then my
              obtain ⟨Q, hQ⟩ : ∃ Q, w7.heap.size = Q := ⟨_, rfl⟩
              rw [hQ] at bA bB
              have vi8 := (M.then M8).cell vi0
              go_wp2_with fail
              generalize ((w7.alloc (.cells #[.string lo, .string t] 27)).alloc (.cells #[.string t, .string hi] 27)) = w8 at *
              obtain ⟨a0, a1, _, _⟩ := sp_cells bA
              obtain ⟨d0, d1, _, _⟩ := sp_cells bB
              have HS8 : Hid (SpsAt w8 (some ⟨g, 0, none⟩) xs) := HS.out.moves M8
              have hTk : Hid (k = (xs.take k).length) := by have := HN.out; show k = _; rw [List.length_take]; omega
              have mW : Moves [] w8 w8.drew := (Moves.refl _ _).drew
              obtain ⟨k1, hk1⟩ : ∃ k1 : Nat, Hid (k + 1 = k1) := ⟨_, rfl⟩
              have hk12 := hk1.out
              have hwrap : IntKind.i64.wrap ((k : Int) + 1) = (k1 : Int) := by rw [IntWalk.i64_in _ (by omega)]; omega
              have hKn : k1 ≤ n := by omega
              have hKnI : (k1 : Int) ≤ n := by omega
              have hKc : (k1 : Int) ≤ cap := by omega
              have hkc : (k : Int) ≤ cap := by omega
              have hkn' : (k : Int) ≤ n := by omega
              have hbd1 : Hid (([] : List Psp).length + (xs.take k).length ≤ 1099511627776) := by show _ ≤ _; rw [List.length_take, HN.out]; simp; omega
              have hbd2 : Hid (([] ++ xs.take k).length + ([(⟨lo, t⟩ : Psp), ⟨t, hi⟩] : List Psp).length ≤ 1099511627776) := by show _ ≤ _; rw [List.nil_append, List.length_take, HN.out]; simp; omega
              have hbd3 : Hid (([] ++ xs.take k ++ [(⟨lo, t⟩ : Psp), ⟨t, hi⟩]).length + (xs.drop k1).length ≤ 1099511627776) := by show _ ≤ _; rw [List.nil_append, List.length_append, List.length_take, List.length_drop, HN.out]; simp; omega
              have hS : ∀ w', Moves [] w8 w' → (w'.cell? ⟨Q, 0, none⟩ = some (.string lo) ∧ w'.cell? ⟨Q, 1, none⟩ = some (.string t) ∧ w'.cell? ⟨Q + 1, 0, none⟩ = some (.string t) ∧ w'.cell? ⟨Q + 1, 1, none⟩ = some (.string hi)) := fun w' m' => ⟨m'.cell a0, m'.cell a1, m'.cell d0, m'.cell d1⟩
              obtain ⟨Y, hYeq, hY⟩ : ∃ Y : Addr, (if cap = k1 then some (⟨g, 0, none⟩ : Addr) else some ⟨g, k1 * 2, none⟩) = some Y ∧ ∀ w', Moves [] w8 w' → SpsAt w' (some Y) (xs.drop k1) := by
                by_cases hcp : cap = k1
                · refine ⟨⟨g, 0, none⟩, by rw [if_pos hcp], fun w' _ j s hs => ?_⟩
                  rw [List.drop_eq_nil_of_le (by have := HN.out; omega)] at hs
                  simp at hs
                · refine ⟨⟨g, k1 * 2, none⟩, by rw [if_neg hcp], fun w' m' => ?_⟩
                  have h := (HS8.out.moves m').drop k1
                  rw [Nat.zero_add] at h
                  exact h
              have HY : Hid (∀ w', Moves [] w8 w' → SpsAt w' (some Y) (xs.drop k1)) := hY
              have hDl : Hid (n - k1 = (xs.drop k1).length) := by show n - k1 = _; rw [List.length_drop, HN.out]
              clear hY
              refine wp_some7 [70, 71, 72, 73, 74, 75, 76, 77, 78, 79, 80, 81, 82, 83, 5] (fun u w' => ∃ v', u 5 = v' ∧ OwnS w' v' (xs.take k ++ (⟨lo, t⟩ : Psp) :: ⟨t, hi⟩ :: xs.drop k1) ∧ Moves [] w8 w') ?_ ?_
              · refine wp_region_noPanic ?_
                refine wp_region_held_drew (S := (fun w' => w'.cell? ⟨Q, 0, none⟩ = some (.string lo) ∧ w'.cell? ⟨Q, 1, none⟩ = some (.string t) ∧ w'.cell? ⟨Q + 1, 0, none⟩ = some (.string t) ∧ w'.cell? ⟨Q + 1, 1, none⟩ = some (.string hi))) (by kernel_rfl) ?_ (fun hHeld => ?_)
                · first | (go_keep; done) | exact hS _ mW
                refine wpAnyH_take (i := 1) (oi := { dst := some 71, op := Op.move (Operand.tmp 5), type := 22, pos := "law.go:93", after := #[], guard := none }) (v := ?_) rfl (by kernel_rfl) (by kernel_rfl) (by kernel_rfl) (fun _ _ _ h => h) (Or.inl ⟨by rfl, ?_⟩) (by assumption) ?_
                rotate_left
                · (intro w hSw; (try dsimp only at hSw); go_simp; try (with_reducible rfl))
                try simp only [Act.put, List.setIfInBounds_toArray, List.set_cons_zero, List.set_cons_succ]
                refine wpAnyH_take (i := 2) (oi := { dst := some 72, op := Op.move (Operand.tmp 8), type := 3, pos := "law.go:93", after := #[], guard := none }) (v := ?_) rfl (by kernel_rfl) (by kernel_rfl) (by kernel_rfl) (fun _ _ _ h => h) (Or.inl ⟨by rfl, ?_⟩) (by assumption) ?_
                rotate_left
                · (intro w hSw; (try dsimp only at hSw); go_simp; try (with_reducible rfl))
                try simp only [Act.put, List.setIfInBounds_toArray, List.set_cons_zero, List.set_cons_succ]
                refine wpAnyH_take (i := 3) (oi := { dst := some 73, op := Op.slice 22 (Operand.tmp 71) none (some (Operand.tmp 72)) none, type := 22, pos := "law.go:93", after := #[{ on := 1, ground := Ground.data }, { on := 2, ground := Ground.data }], guard := none }) (v := ?_) rfl (by kernel_rfl) (by kernel_rfl) (by kernel_rfl) (fun _ _ _ h => h) (Or.inl ⟨by rfl, ?_⟩) (by assumption) ?_
                rotate_left
                · (intro w hSw; (try dsimp only at hSw); go_simp; try (with_reducible rfl))
                try simp only [Act.put, List.setIfInBounds_toArray, List.set_cons_zero, List.set_cons_succ]
                refine wpAnyH_take (i := 5) (oi := { dst := some 75, op := Op.load 27 (Operand.tmp 9), type := 27, pos := "law.go:93", after := #[], guard := none }) (v := ?_) rfl (by kernel_rfl) (by kernel_rfl) (by kernel_rfl) (fun _ _ _ h => h) (Or.inl ⟨by rfl, ?_⟩) (by assumption) ?_
                rotate_left
                · (intro w hSw; (try dsimp only at hSw); go_simp; try (with_reducible rfl))
                try simp only [Act.put, List.setIfInBounds_toArray, List.set_cons_zero, List.set_cons_succ]
                refine wpAnyH_take (i := 6) (oi := { dst := some 76, op := Op.load 27 (Operand.tmp 10), type := 27, pos := "law.go:93", after := #[], guard := none }) (v := ?_) rfl (by kernel_rfl) (by kernel_rfl) (by kernel_rfl) (fun _ _ _ h => h) (Or.inl ⟨by rfl, ?_⟩) (by assumption) ?_
                rotate_left
                · (intro w hSw; (try dsimp only at hSw); go_simp; try (with_reducible rfl))
                try simp only [Act.put, List.setIfInBounds_toArray, List.set_cons_zero, List.set_cons_succ]
                refine wpAnyH_take (i := 9) (oi := { dst := some 79, op := Op.move (Operand.tmp 5), type := 22, pos := "law.go:93", after := #[], guard := none }) (v := ?_) rfl (by kernel_rfl) (by kernel_rfl) (by kernel_rfl) (fun _ _ _ h => h) (Or.inl ⟨by rfl, ?_⟩) (by assumption) ?_
                rotate_left
                · (intro w hSw; (try dsimp only at hSw); go_simp; try (with_reducible rfl))
                try simp only [Act.put, List.setIfInBounds_toArray, List.set_cons_zero, List.set_cons_succ]
                refine wpAnyH_take (i := 10) (oi := { dst := some 80, op := Op.move (Operand.tmp 8), type := 3, pos := "law.go:93", after := #[], guard := none }) (v := ?_) rfl (by kernel_rfl) (by kernel_rfl) (by kernel_rfl) (fun _ _ _ h => h) (Or.inl ⟨by rfl, ?_⟩) (by assumption) ?_
                rotate_left
                · (intro w hSw; (try dsimp only at hSw); go_simp; try (with_reducible rfl))
                try simp only [Act.put, List.setIfInBounds_toArray, List.set_cons_zero, List.set_cons_succ]
                refine wpAnyH_take (i := 11) (oi := { dst := some 81, op := Op.binOp BinOp.add 3 (Operand.tmp 80) (Operand.const (Value.int IntKind.i64 1)) 3, type := 3, pos := "law.go:93", after := #[{ on := 10, ground := Ground.data }], guard := none }) (v := ?_) rfl (by kernel_rfl) (by kernel_rfl) (by kernel_rfl) (fun _ _ _ h => h) (Or.inl ⟨by rfl, ?_⟩) (by assumption) ?_
                rotate_left
                · (intro w hSw; (try dsimp only at hSw); go_simp; try (with_reducible rfl))
                try simp only [Act.put, List.setIfInBounds_toArray, List.set_cons_zero, List.set_cons_succ]
                refine wpAnyH_take (i := 12) (oi := { dst := some 82, op := Op.slice 22 (Operand.tmp 79) (some (Operand.tmp 81)) none none, type := 22, pos := "law.go:93", after := #[{ on := 9, ground := Ground.data }, { on := 11, ground := Ground.data }], guard := none }) (v := ?_) rfl (by kernel_rfl) (by kernel_rfl) (by kernel_rfl) (fun _ _ _ h => h) (Or.inl ⟨by rfl, ?_⟩) (by assumption) ?_
                rotate_left
                · (intro w hSw; (try dsimp only at hSw); go_simp; try (with_reducible rfl))
                try simp only [Act.put, List.setIfInBounds_toArray, List.set_cons_zero, List.set_cons_succ]
                refine wpAnyH_ready (rs := [0, 7]) (by kernel_rfl) (by simp) ?_
                refine AllReadyH.cons (o := { dst := some 70, op := Op.buildSlice 22 0 #[], type := 22, pos := "law.go:93", after := #[], guard := none }) rfl (fun K hK => ?_) (AllReadyH.cons (o := { dst := some 77, op := Op.buildSlice 22 2 #[(0, Operand.tmp 75), (1, Operand.tmp 76)], type := 22, pos := "law.go:93", after := #[{ on := 5, ground := Ground.data }, { on := 6, ground := Ground.data }], guard := none }) rfl (fun K hK => ?_) AllReadyH.nil)
                · go_simp
                  have hleg70 := mW.size
                  obtain ⟨w70, hwa⟩ : ∃ w70, (w8.alloc (.cells #[] 27)).drew = w70 := ⟨_, rfl⟩
                  have h70 : w70.heap[w8.heap.size]? = some (.cells #[] 27 (0, 0)) := by rw [← hwa]; exact heap_alloc_new w8 _
                  have mA : Moves [] w8 w70 := by rw [← hwa]; exact ((Moves.refl _ _).alloc _).drew
                  rw [hwa]
                  obtain ⟨g70, hg70⟩ : ∃ g70, w8.heap.size = g70 := ⟨_, rfl⟩
                  rw [hg70] at h70 ⊢
                  replace hleg70 : w8.heap.size ≤ g70 := by rw [← hg70]; first | exact hleg70 | exact Nat.le_refl _
                  replace mW := mA
                  clear hwa
                  clear mA
                  refine hK.out _ _ ?_ (fun hHeld => ?_)
                  · exact hS _ mW
                  clear hK K
                  try simp only [Act.put, List.setIfInBounds_toArray, List.set_cons_zero, List.set_cons_succ]
                  refine wpAnyH_ready (rs := [4, 7]) (by kernel_rfl) (by simp) ?_
                  refine AllReadyH.cons (o := { dst := some 74, op := Op.call { callee := Callee.builtin Builtin.append, args := #[Operand.tmp 70, Operand.tmp 73], argTypes := #[22, 22] }, type := 22, pos := "law.go:93", after := #[{ on := 0, ground := Ground.data }, { on := 3, ground := Ground.data }], guard := none }) rfl (fun K hK => ?_) (AllReadyH.cons (o := { dst := some 77, op := Op.buildSlice 22 2 #[(0, Operand.tmp 75), (1, Operand.tmp 76)], type := 22, pos := "law.go:93", after := #[{ on := 5, ground := Ground.data }, { on := 6, ground := Ground.data }], guard := none }) rfl (fun K hK => ?_) AllReadyH.nil)
                  · refine spans_step (.tmp 70) (.tmp 73) rfl (.slice (some ⟨g70, 0, none⟩) 0 0) ⟨g, 0, none⟩ k cap [] (xs.take k) rfl rfl (by rfl) (OwnS.empty h70) ((HS8.out.moves mW).first k) hTk.out hbd1.out ?_
                    intro v74 w74 hO74 m74 l74
                    have hsz := mW.size
                    replace mW : Moves [] w8 w74 := mW.trans m74 (fun x hx => .inr (by simp [Value.ownBlock] at hx; omega))
                    have hf74 : ∀ b, v74.ownBlock = some b → w8.heap.size ≤ b := lain_le l74 (by intro b hb; simp [Value.ownBlock] at hb; omega) hsz
                    clear m74 l74 hsz
                    refine hK.out _ _ ?_ (fun hHeld => ?_)
                    · exact hS _ mW
                    clear hK K
                    try simp only [Act.put, List.setIfInBounds_toArray, List.set_cons_zero, List.set_cons_succ]
                    refine wpAnyH_ready (rs := [7]) (by kernel_rfl) (by simp) ?_
                    refine AllReadyH.cons (o := { dst := some 77, op := Op.buildSlice 22 2 #[(0, Operand.tmp 75), (1, Operand.tmp 76)], type := 22, pos := "law.go:93", after := #[{ on := 5, ground := Ground.data }, { on := 6, ground := Ground.data }], guard := none }) rfl (fun K hK => ?_) AllReadyH.nil
                    go_simp
                    have hleg77 := mW.size
                    obtain ⟨w77, hwa⟩ : ∃ w77, w74.alloc (.cells #[.string lo, .string t, .string t, .string hi] 27) = w77 := ⟨_, rfl⟩
                    have h77 : w77.heap[w74.heap.size]? = some (.cells #[.string lo, .string t, .string t, .string hi] 27 (0, 0)) := by rw [← hwa]; exact heap_alloc_new w74 _
                    have mA : Moves [] w74 w77 := by rw [← hwa]; exact (Moves.refl _ _).alloc _
                    rw [hwa]
                    obtain ⟨g77, hg77⟩ : ∃ g77, w74.heap.size = g77 := ⟨_, rfl⟩
                    rw [hg77] at h77 ⊢
                    replace hleg77 : w8.heap.size ≤ g77 := by rw [← hg77]; first | exact hleg77 | exact Nat.le_refl _
                    replace mW := mW.then mA
                    clear hwa
                    replace hO74 := hO74.moves mA (fun _ _ => by simp)
                    clear mA
                    refine hK.out _ _ ?_ (fun hHeld => ?_)
                    · exact hS _ mW
                    clear hK K
                    try simp only [Act.put, List.setIfInBounds_toArray, List.set_cons_zero, List.set_cons_succ]
                    refine wpAnyH_ready (rs := [8]) (by kernel_rfl) (by simp) ?_
                    refine AllReadyH.cons (o := { dst := some 78, op := Op.call { callee := Callee.builtin Builtin.append, args := #[Operand.tmp 74, Operand.tmp 77], argTypes := #[22, 22] }, type := 22, pos := "law.go:93", after := #[{ on := 4, ground := Ground.data }, { on := 7, ground := Ground.data }, { on := 4, ground := Ground.chain }], guard := none }) rfl (fun K hK => ?_) AllReadyH.nil
                    refine spans_step (.tmp 74) (.tmp 77) rfl v74 ⟨g77, 0, none⟩ 2 2 ([] ++ xs.take k) [⟨lo, t⟩, ⟨t, hi⟩] rfl rfl (by rfl) hO74 (SpsAt.block h77) rfl hbd2.out ?_
                    intro v78 w78 hO78 m78 l78
                    have hsz := mW.size
                    replace mW : Moves [] w8 w78 := mW.trans m78 (fun x hx => .inr (hf74 x (Option.mem_toList.1 hx)))
                    have hf78 : ∀ b, v78.ownBlock = some b → w8.heap.size ≤ b := lain_le l78 hf74 hsz
                    clear m78 l78 hsz
                    refine hK.out _ _ ?_ (fun hHeld => ?_)
                    · exact hS _ mW
                    clear hK K
                    try simp only [Act.put, List.setIfInBounds_toArray, List.set_cons_zero, List.set_cons_succ]
                    refine wpAnyH_ready (rs := [13]) (by kernel_rfl) (by simp) ?_
                    refine AllReadyH.cons (o := { dst := some 83, op := Op.call { callee := Callee.builtin Builtin.append, args := #[Operand.tmp 78, Operand.tmp 82], argTypes := #[22, 22] }, type := 22, pos := "law.go:93", after := #[{ on := 8, ground := Ground.data }, { on := 12, ground := Ground.data }, { on := 8, ground := Ground.chain }], guard := none }) rfl (fun K hK => ?_) AllReadyH.nil
                    refine spans_step (.tmp 78) (.tmp 82) rfl v78 Y (n - k1) (cap - k1) ([] ++ xs.take k ++ [⟨lo, t⟩, ⟨t, hi⟩]) (xs.drop k1) rfl rfl (by rfl) hO78 (HY.out _ mW) hDl.out hbd3.out ?_
                    intro v83 w83 hO83 m83 l83
                    replace mW : Moves [] w8 w83 := mW.trans m83 (fun x hx => .inr (hf78 x (Option.mem_toList.1 hx)))
                    clear m83 l83
                    refine hK.out _ _ ?_ (fun hHeld => ?_)
                    · exact hS _ mW
                    clear hK K
                    try simp only [Act.put, List.setIfInBounds_toArray, List.set_cons_zero, List.set_cons_succ]
                    refine wpAnyH_take (i := 14) (oi := { dst := some 5, op := Op.assign (Operand.tmp 83), type := 22, pos := "law.go:93", after := #[{ on := 13, ground := Ground.data }, { on := 13, ground := Ground.chain }, { on := 0, ground := Ground.phase }, { on := 1, ground := Ground.phase }, { on := 2, ground := Ground.phase }, { on := 3, ground := Ground.phase }, { on := 4, ground := Ground.phase }, { on := 5, ground := Ground.phase }, { on := 6, ground := Ground.phase }, { on := 7, ground := Ground.phase }, { on := 8, ground := Ground.phase }, { on := 9, ground := Ground.phase }, { on := 10, ground := Ground.phase }, { on := 11, ground := Ground.phase }, { on := 12, ground := Ground.phase }, { on := 13, ground := Ground.phase }], guard := none }) (v := ?_) rfl (by kernel_rfl) (by kernel_rfl) (by kernel_rfl) (fun _ _ _ h => h) (Or.inl ⟨by rfl, ?_⟩) (by assumption) ?_
                    rotate_left
                    · (intro w hSw; (try dsimp only at hSw); go_simp; try (with_reducible rfl))
                    try simp only [Act.put, List.setIfInBounds_toArray, List.set_cons_zero, List.set_cons_succ]
                    refine wpAnyH_done (by kernel_rfl) ?_ _
                    refine NoPanic.normal ?_
                    exact ⟨rfl, by kernel_rfl, v83, by kernel_rfl, by simpa using hO83, mW⟩
                  · go_simp
                    have hleg77 := mW.size
                    obtain ⟨w77, hwa⟩ : ∃ w77, w70.alloc (.cells #[.string lo, .string t, .string t, .string hi] 27) = w77 := ⟨_, rfl⟩
                    have h77 : w77.heap[w70.heap.size]? = some (.cells #[.string lo, .string t, .string t, .string hi] 27 (0, 0)) := by rw [← hwa]; exact heap_alloc_new w70 _
                    have mA : Moves [] w70 w77 := by rw [← hwa]; exact (Moves.refl _ _).alloc _
                    rw [hwa]
                    obtain ⟨g77, hg77⟩ : ∃ g77, w70.heap.size = g77 := ⟨_, rfl⟩
                    rw [hg77] at h77 ⊢
                    replace hleg77 : w8.heap.size ≤ g77 := by rw [← hg77]; first | exact hleg77 | exact Nat.le_refl _
                    replace mW := mW.then mA
                    clear hwa
                    have hne : g77 ≠ g70 := by have := lt_of_block h70; omega
                    replace h70 := mA.at h70 (by simp)
                    clear mA
                    refine hK.out _ _ ?_ (fun hHeld => ?_)
                    · exact hS _ mW
                    clear hK K
                    try simp only [Act.put, List.setIfInBounds_toArray, List.set_cons_zero, List.set_cons_succ]
                    refine wpAnyH_ready (rs := [4]) (by kernel_rfl) (by simp) ?_
                    refine AllReadyH.cons (o := { dst := some 74, op := Op.call { callee := Callee.builtin Builtin.append, args := #[Operand.tmp 70, Operand.tmp 73], argTypes := #[22, 22] }, type := 22, pos := "law.go:93", after := #[{ on := 0, ground := Ground.data }, { on := 3, ground := Ground.data }], guard := none }) rfl (fun K hK => ?_) AllReadyH.nil
                    refine spans_step (.tmp 70) (.tmp 73) rfl (.slice (some ⟨g70, 0, none⟩) 0 0) ⟨g, 0, none⟩ k cap [] (xs.take k) rfl rfl (by rfl) (OwnS.empty h70) ((HS8.out.moves mW).first k) hTk.out hbd1.out ?_
                    intro v74 w74 hO74 m74 l74
                    have hsz := mW.size
                    replace mW : Moves [] w8 w74 := mW.trans m74 (fun x hx => .inr (by simp [Value.ownBlock] at hx; omega))
                    have hf74 : ∀ b, v74.ownBlock = some b → w8.heap.size ≤ b := lain_le l74 (by intro b hb; simp [Value.ownBlock] at hb; omega) hsz
                    replace h77 := m74.at h77 (by simp [Value.ownBlock]; omega)
                    clear m74 l74 hsz
                    refine hK.out _ _ ?_ (fun hHeld => ?_)
                    · exact hS _ mW
                    clear hK K
                    try simp only [Act.put, List.setIfInBounds_toArray, List.set_cons_zero, List.set_cons_succ]
                    refine wpAnyH_ready (rs := [8]) (by kernel_rfl) (by simp) ?_
                    refine AllReadyH.cons (o := { dst := some 78, op := Op.call { callee := Callee.builtin Builtin.append, args := #[Operand.tmp 74, Operand.tmp 77], argTypes := #[22, 22] }, type := 22, pos := "law.go:93", after := #[{ on := 4, ground := Ground.data }, { on := 7, ground := Ground.data }, { on := 4, ground := Ground.chain }], guard := none }) rfl (fun K hK => ?_) AllReadyH.nil
                    refine spans_step (.tmp 74) (.tmp 77) rfl v74 ⟨g77, 0, none⟩ 2 2 ([] ++ xs.take k) [⟨lo, t⟩, ⟨t, hi⟩] rfl rfl (by rfl) hO74 (SpsAt.block h77) rfl hbd2.out ?_
                    intro v78 w78 hO78 m78 l78
                    have hsz := mW.size
                    replace mW : Moves [] w8 w78 := mW.trans m78 (fun x hx => .inr (hf74 x (Option.mem_toList.1 hx)))
                    have hf78 : ∀ b, v78.ownBlock = some b → w8.heap.size ≤ b := lain_le l78 hf74 hsz
                    clear m78 l78 hsz
                    refine hK.out _ _ ?_ (fun hHeld => ?_)
                    · exact hS _ mW
                    clear hK K
                    try simp only [Act.put, List.setIfInBounds_toArray, List.set_cons_zero, List.set_cons_succ]
                    refine wpAnyH_ready (rs := [13]) (by kernel_rfl) (by simp) ?_
                    refine AllReadyH.cons (o := { dst := some 83, op := Op.call { callee := Callee.builtin Builtin.append, args := #[Operand.tmp 78, Operand.tmp 82], argTypes := #[22, 22] }, type := 22, pos := "law.go:93", after := #[{ on := 8, ground := Ground.data }, { on := 12, ground := Ground.data }, { on := 8, ground := Ground.chain }], guard := none }) rfl (fun K hK => ?_) AllReadyH.nil
                    refine spans_step (.tmp 78) (.tmp 82) rfl v78 Y (n - k1) (cap - k1) ([] ++ xs.take k ++ [⟨lo, t⟩, ⟨t, hi⟩]) (xs.drop k1) rfl rfl (by rfl) hO78 (HY.out _ mW) hDl.out hbd3.out ?_
                    intro v83 w83 hO83 m83 l83
                    replace mW : Moves [] w8 w83 := mW.trans m83 (fun x hx => .inr (hf78 x (Option.mem_toList.1 hx)))
                    clear m83 l83
                    refine hK.out _ _ ?_ (fun hHeld => ?_)
                    · exact hS _ mW
                    clear hK K
                    try simp only [Act.put, List.setIfInBounds_toArray, List.set_cons_zero, List.set_cons_succ]
                    refine wpAnyH_take (i := 14) (oi := { dst := some 5, op := Op.assign (Operand.tmp 83), type := 22, pos := "law.go:93", after := #[{ on := 13, ground := Ground.data }, { on := 13, ground := Ground.chain }, { on := 0, ground := Ground.phase }, { on := 1, ground := Ground.phase }, { on := 2, ground := Ground.phase }, { on := 3, ground := Ground.phase }, { on := 4, ground := Ground.phase }, { on := 5, ground := Ground.phase }, { on := 6, ground := Ground.phase }, { on := 7, ground := Ground.phase }, { on := 8, ground := Ground.phase }, { on := 9, ground := Ground.phase }, { on := 10, ground := Ground.phase }, { on := 11, ground := Ground.phase }, { on := 12, ground := Ground.phase }, { on := 13, ground := Ground.phase }], guard := none }) (v := ?_) rfl (by kernel_rfl) (by kernel_rfl) (by kernel_rfl) (fun _ _ _ h => h) (Or.inl ⟨by rfl, ?_⟩) (by assumption) ?_
                    rotate_left
                    · (intro w hSw; (try dsimp only at hSw); go_simp; try (with_reducible rfl))
                    try simp only [Act.put, List.setIfInBounds_toArray, List.set_cons_zero, List.set_cons_succ]
                    refine wpAnyH_done (by kernel_rfl) ?_ _
                    refine NoPanic.normal ?_
                    exact ⟨rfl, by kernel_rfl, v83, by kernel_rfl, by simpa using hO83, mW⟩
                · go_simp
                  have hleg77 := mW.size
                  obtain ⟨w77, hwa⟩ : ∃ w77, (w8.alloc (.cells #[.string lo, .string t, .string t, .string hi] 27)).drew = w77 := ⟨_, rfl⟩
                  have h77 : w77.heap[w8.heap.size]? = some (.cells #[.string lo, .string t, .string t, .string hi] 27 (0, 0)) := by rw [← hwa]; exact heap_alloc_new w8 _
                  have mA : Moves [] w8 w77 := by rw [← hwa]; exact ((Moves.refl _ _).alloc _).drew
                  rw [hwa]
                  obtain ⟨g77, hg77⟩ : ∃ g77, w8.heap.size = g77 := ⟨_, rfl⟩
                  rw [hg77] at h77 ⊢
                  replace hleg77 : w8.heap.size ≤ g77 := by rw [← hg77]; first | exact hleg77 | exact Nat.le_refl _
                  replace mW := mA
                  clear hwa
                  clear mA
                  refine hK.out _ _ ?_ (fun hHeld => ?_)
                  · exact hS _ mW
                  clear hK K
                  try simp only [Act.put, List.setIfInBounds_toArray, List.set_cons_zero, List.set_cons_succ]
                  refine wpAnyH_ready (rs := [0]) (by kernel_rfl) (by simp) ?_
                  refine AllReadyH.cons (o := { dst := some 70, op := Op.buildSlice 22 0 #[], type := 22, pos := "law.go:93", after := #[], guard := none }) rfl (fun K hK => ?_) AllReadyH.nil
                  go_simp
                  have hleg70 := mW.size
                  obtain ⟨w70, hwa⟩ : ∃ w70, w77.alloc (.cells #[] 27) = w70 := ⟨_, rfl⟩
                  have h70 : w70.heap[w77.heap.size]? = some (.cells #[] 27 (0, 0)) := by rw [← hwa]; exact heap_alloc_new w77 _
                  have mA : Moves [] w77 w70 := by rw [← hwa]; exact (Moves.refl _ _).alloc _
                  rw [hwa]
                  obtain ⟨g70, hg70⟩ : ∃ g70, w77.heap.size = g70 := ⟨_, rfl⟩
                  rw [hg70] at h70 ⊢
                  replace hleg70 : w8.heap.size ≤ g70 := by rw [← hg70]; first | exact hleg70 | exact Nat.le_refl _
                  replace mW := mW.then mA
                  clear hwa
                  have hne : g77 ≠ g70 := by have := lt_of_block h77; omega
                  replace h77 := mA.at h77 (by simp)
                  clear mA
                  refine hK.out _ _ ?_ (fun hHeld => ?_)
                  · exact hS _ mW
                  clear hK K
                  try simp only [Act.put, List.setIfInBounds_toArray, List.set_cons_zero, List.set_cons_succ]
                  refine wpAnyH_ready (rs := [4]) (by kernel_rfl) (by simp) ?_
                  refine AllReadyH.cons (o := { dst := some 74, op := Op.call { callee := Callee.builtin Builtin.append, args := #[Operand.tmp 70, Operand.tmp 73], argTypes := #[22, 22] }, type := 22, pos := "law.go:93", after := #[{ on := 0, ground := Ground.data }, { on := 3, ground := Ground.data }], guard := none }) rfl (fun K hK => ?_) AllReadyH.nil
                  refine spans_step (.tmp 70) (.tmp 73) rfl (.slice (some ⟨g70, 0, none⟩) 0 0) ⟨g, 0, none⟩ k cap [] (xs.take k) rfl rfl (by rfl) (OwnS.empty h70) ((HS8.out.moves mW).first k) hTk.out hbd1.out ?_
                  intro v74 w74 hO74 m74 l74
                  have hsz := mW.size
                  replace mW : Moves [] w8 w74 := mW.trans m74 (fun x hx => .inr (by simp [Value.ownBlock] at hx; omega))
                  have hf74 : ∀ b, v74.ownBlock = some b → w8.heap.size ≤ b := lain_le l74 (by intro b hb; simp [Value.ownBlock] at hb; omega) hsz
                  replace h77 := m74.at h77 (by simp [Value.ownBlock]; omega)
                  clear m74 l74 hsz
                  refine hK.out _ _ ?_ (fun hHeld => ?_)
                  · exact hS _ mW
                  clear hK K
                  try simp only [Act.put, List.setIfInBounds_toArray, List.set_cons_zero, List.set_cons_succ]
                  refine wpAnyH_ready (rs := [8]) (by kernel_rfl) (by simp) ?_
                  refine AllReadyH.cons (o := { dst := some 78, op := Op.call { callee := Callee.builtin Builtin.append, args := #[Operand.tmp 74, Operand.tmp 77], argTypes := #[22, 22] }, type := 22, pos := "law.go:93", after := #[{ on := 4, ground := Ground.data }, { on := 7, ground := Ground.data }, { on := 4, ground := Ground.chain }], guard := none }) rfl (fun K hK => ?_) AllReadyH.nil
                  refine spans_step (.tmp 74) (.tmp 77) rfl v74 ⟨g77, 0, none⟩ 2 2 ([] ++ xs.take k) [⟨lo, t⟩, ⟨t, hi⟩] rfl rfl (by rfl) hO74 (SpsAt.block h77) rfl hbd2.out ?_
                  intro v78 w78 hO78 m78 l78
                  have hsz := mW.size
                  replace mW : Moves [] w8 w78 := mW.trans m78 (fun x hx => .inr (hf74 x (Option.mem_toList.1 hx)))
                  have hf78 : ∀ b, v78.ownBlock = some b → w8.heap.size ≤ b := lain_le l78 hf74 hsz
                  clear m78 l78 hsz
                  refine hK.out _ _ ?_ (fun hHeld => ?_)
                  · exact hS _ mW
                  clear hK K
                  try simp only [Act.put, List.setIfInBounds_toArray, List.set_cons_zero, List.set_cons_succ]
                  refine wpAnyH_ready (rs := [13]) (by kernel_rfl) (by simp) ?_
                  refine AllReadyH.cons (o := { dst := some 83, op := Op.call { callee := Callee.builtin Builtin.append, args := #[Operand.tmp 78, Operand.tmp 82], argTypes := #[22, 22] }, type := 22, pos := "law.go:93", after := #[{ on := 8, ground := Ground.data }, { on := 12, ground := Ground.data }, { on := 8, ground := Ground.chain }], guard := none }) rfl (fun K hK => ?_) AllReadyH.nil
                  refine spans_step (.tmp 78) (.tmp 82) rfl v78 Y (n - k1) (cap - k1) ([] ++ xs.take k ++ [⟨lo, t⟩, ⟨t, hi⟩]) (xs.drop k1) rfl rfl (by rfl) hO78 (HY.out _ mW) hDl.out hbd3.out ?_
                  intro v83 w83 hO83 m83 l83
                  replace mW : Moves [] w8 w83 := mW.trans m83 (fun x hx => .inr (hf78 x (Option.mem_toList.1 hx)))
                  clear m83 l83
                  refine hK.out _ _ ?_ (fun hHeld => ?_)
                  · exact hS _ mW
                  clear hK K
                  try simp only [Act.put, List.setIfInBounds_toArray, List.set_cons_zero, List.set_cons_succ]
                  refine wpAnyH_take (i := 14) (oi := { dst := some 5, op := Op.assign (Operand.tmp 83), type := 22, pos := "law.go:93", after := #[{ on := 13, ground := Ground.data }, { on := 13, ground := Ground.chain }, { on := 0, ground := Ground.phase }, { on := 1, ground := Ground.phase }, { on := 2, ground := Ground.phase }, { on := 3, ground := Ground.phase }, { on := 4, ground := Ground.phase }, { on := 5, ground := Ground.phase }, { on := 6, ground := Ground.phase }, { on := 7, ground := Ground.phase }, { on := 8, ground := Ground.phase }, { on := 9, ground := Ground.phase }, { on := 10, ground := Ground.phase }, { on := 11, ground := Ground.phase }, { on := 12, ground := Ground.phase }, { on := 13, ground := Ground.phase }], guard := none }) (v := ?_) rfl (by kernel_rfl) (by kernel_rfl) (by kernel_rfl) (fun _ _ _ h => h) (Or.inl ⟨by rfl, ?_⟩) (by assumption) ?_
                  rotate_left
                  · (intro w hSw; (try dsimp only at hSw); go_simp; try (with_reducible rfl))
                  try simp only [Act.put, List.setIfInBounds_toArray, List.set_cons_zero, List.set_cons_succ]
                  refine wpAnyH_done (by kernel_rfl) ?_ _
                  refine NoPanic.normal ?_
                  exact ⟨rfl, by kernel_rfl, v83, by kernel_rfl, by simpa using hO83, mW⟩
              · rintro u w9 ⟨v9, hu, hO9, m9⟩
                simp only [List.foldl_cons, List.foldl_nil, List.setIfInBounds_toArray, List.set_cons_zero, List.set_cons_succ, hu]
                clear hu
                generalize u 70 = u70
                generalize u 71 = u71
                generalize u 72 = u72
                generalize u 73 = u73
                generalize u 74 = u74
                generalize u 75 = u75
                generalize u 76 = u76
                generalize u 77 = u77
                generalize u 78 = u78
                generalize u 79 = u79
                generalize u 80 = u80
                generalize u 81 = u81
                generalize u 82 = u82
                generalize u 83 = u83
                have M9 : Moves [] w w9 := M.then (M8.then m9)
                rw [← hk12] at hO9
                have hdr : xs.drop k = ⟨lo, hi⟩ :: xs.drop (k + 1) := drop_at HX.out
                have hcov9 : Hid (spCov (xs.take k ++ (⟨lo, t⟩ : Psp) :: ⟨t, hi⟩ :: xs.drop (k + 1)) = true) := by
                  show spCov _ = true
                  have h := spCov_split hCC (xs.take k) (xs.drop (k + 1))
                  dsimp only at h
                  rw [h, ← hdr, List.take_append_drop]
                  exact hC.out
                have hlen9 : (xs.take k ++ (⟨lo, t⟩ : Psp) :: ⟨t, hi⟩ :: xs.drop (k + 1)).length ≤ i + 2 := by rw [List.length_append, List.length_cons, List.length_cons, List.length_take, List.length_drop, HN.out]; omega
                clear hdr mW hS a0 a1 d0 d1 bA bB hTk HS8 hbd1 hbd2 hbd3 hwrap
                have hpos9 : (xs.take k ++ (⟨lo, t⟩ : Psp) :: ⟨t, hi⟩ :: xs.drop (k + 1)).length ≠ 0 := by simp
                obtain ⟨g9, cap9, hv9⟩ : ∃ g9 cap9, v9 = .slice (some ⟨g9, 0, none⟩) (xs.take k ++ (⟨lo, t⟩ : Psp) :: ⟨t, hi⟩ :: xs.drop (k + 1)).length cap9 := by
                  rcases hO9.2 with ⟨_, h0⟩ | ⟨gg, cc, cur, e, _⟩
                  · exact absurd h0 hpos9
                  · exact ⟨gg, cc, e⟩
                obtain ⟨ad9, c9, e9, hc9, _, hS9⟩ := hO9.at
                rw [hv9] at e9
                simp only [Value.slice.injEq] at e9
                obtain ⟨rfl, _, rfl⟩ := e9
                subst hv9
                obtain ⟨ys, hys⟩ : ∃ ys, (xs.take k ++ (⟨lo, t⟩ : Psp) :: ⟨t, hi⟩ :: xs.drop (k + 1)) = ys := ⟨_, rfl⟩
                rw [hys] at hO9 hc9 hS9 hcov9 hlen9 hpos9 ⊢
                obtain ⟨n9, hn9⟩ : ∃ n9, ys.length = n9 := ⟨_, rfl⟩
                have HN9 : Hid (n9 = ys.length) := hn9.symm
                rw [hn9] at hO9 hc9 hlen9 ⊢
                have HS9 : Hid (SpsAt w9 (some ⟨g9, 0, none⟩) ys) := hS9
                have HO9 : Hid (OwnS w9 (.slice (some ⟨g9, 0, none⟩) n9 cap9) ys) := hO9
                have hap : Hid (spAp ys = true) := spAp_true (spCov_apart hcov9.out)
                have hl9 : n9 ≤ 1000000 := by omega
                obtain ⟨ph, hph⟩ : ∃ ph, phead t 3 = ph := ⟨_, rfl⟩
                have hhead : ∀ w, Calls Try.prog 12 #[.string t, .int .i64 3] w fun e w' => e = .returned (.string ph) ∧ w = w' := by
                  intro w
                  have := head_d w t 3
                  rw [hph] at this
                  exact this
                clear hS9 hO9 hn9 hys hph hpos9
                have hbz : ∀ ph : ByteArray, Hid (([] ++ [ph, ⟨#[]⟩]).length + (zs.take 4).length ≤ 1000000) := fun ph => by
                  have h4 : (zs.take 4).length ≤ 4 := by rw [List.length_take]; omega
                  show 2 + (zs.take 4).length ≤ 1000000
                  omega
                go_wp2_with (first | (go_at_call 18; refine (spCover_w _ _ _ _ ys HS9.out HN9.out hc9 hl9).mono ?_; rintro _ w10 ⟨rfl, m10⟩; rw [hcov9.out]) | (go_at_call 19; refine (spApart_w _ _ _ _ ys (HS9.out.moves m10) HN9.out hc9 hl9).mono ?_; rintro _ w11 ⟨rfl, m11⟩; rw [hap.out]; have z1 := heap_alloc_new w11 (.cells #[] 9); have z2 : Moves [] w11 (w11.alloc (.cells #[] 9)) := (Moves.refl _ _).alloc _; have z3 := zbox w11 ph) | (go_at_call 12; refine (hhead _).mono ?_; rintro _ _ ⟨rfl, rfl⟩) | (at_builtin; refine strs_append (.tmp 125) (.tmp 128) rfl (.slice (some ⟨w11.heap.size, 0, none⟩) 0 0) (some ⟨w11.heap.size + 1, 0, none⟩) 2 2 [] [ph, ⟨#[]⟩] rfl rfl rfl z3.1 z3.2.1 rfl (fun h => by simp at h) (by simp) ?_; intro v12 w12 hO12 m12 l12; have M12 : Moves [] w11 w12 := (z3.2.2.trans m12 (fun x hx => .inr (by simp [Value.ownBlock] at hx; omega))); have hf12 : ∀ b, v12.ownBlock = some b → w11.heap.size ≤ b := lain_le l12 (by intro b hb; simp [Value.ownBlock] at hb; omega) z3.2.2.size; clear z1 z2 z3 m12 l12) | (go_at_call 20; refine (hfew _).mono ?_; rintro _ _ ⟨n13, rfl, hn13, rfl⟩; have HN13 : Hid (n13 = (zs.take 4).length) := hn13; clear hn13; have HZ12 := (HZ.out.moves (M9.then ((m10.then m11).then M12))).first 4) | (at_builtin; refine strs_append (.tmp 129) (.tmp 131) rfl v12 adz n13 cz ([] ++ [ph, ⟨#[]⟩]) (zs.take 4) rfl rfl rfl hO12 HZ12 HN13.out hnz (hbz ph).out ?_; intro v14 w14 hO14 m14 l14; (obtain ⟨zz, hzz⟩ : ∃ zz, [] ++ [ph, ⟨#[]⟩] ++ zs.take 4 = zz := ⟨_, rfl⟩); rw [hzz] at hO14; (obtain ⟨ad14, cap14, rfl, hc14, hS14⟩ := hO14.at); (obtain ⟨n14, hn14⟩ : ∃ n14, zz.length = n14 := ⟨_, rfl⟩); have HN14 : Hid (zz.length = n14) := hn14; have HZL : Hid ([] ++ [ph, ⟨#[]⟩] ++ zs.take 4 = zz) := hzz; rw [hn14] at hc14 ⊢; clear hn14 hzz))
                have M14 : Moves [] w9 w14 := ((m10.then m11).then M12).trans m14 (fun x hx => .inr (by have := hf12 x (Option.mem_toList.1 hx); have := (m10.then m11).size; omega))
                have HZZ : Hid (StrsAt w14 ad14 zz) := hS14
                have hl14 : n14 ≤ 100 := by
                  have h4 : (zs.take 4).length ≤ 4 := by rw [List.length_take]; omega
                  rw [← HN14.out, ← HZL.out, List.length_append]
                  show 2 + (zs.take 4).length ≤ 100
                  omega
                clear hS14 HZL hO14 m14 l14 hO12 hf12 HN13 hhead HZ12
                go_loopw [134] (fun vj w15 => ∃ j : Nat, j ≤ n14 ∧ vj = .int .i64 (j : Nat) ∧ Moves [] w14 w15) (fun vj _ => n14 - (intOf vj).toNat)
                case atStart => exact ⟨0, by omega, rfl, Moves.refl _ _⟩
                case round =>
                  obtain ⟨j, hjn, rfl, mj⟩ := hrel
                  by_cases hjl : j < n14
                  · have hjI : (j : Int) < n14 := by omega
                    obtain ⟨nm, hnm⟩ : ∃ s, zz[j]? = some s := ⟨_, List.getElem?_eq_getElem (by have := HN14.out; omega)⟩
                    obtain ⟨gz, oz, rfl, cz0⟩ := HZZ.out j nm hnm
                    replace cz0 := mj.cell cz0
                    have hone : Hid ((ys.filter (fun s => spH s nm)).length = 1) := spCov_one hcov9.out nm
                    clear hnm
                    go_wp2_with fail
                    go_loopw [16, 17] (fun vin vq w16 => ∃ q : Nat, q ≤ n9 ∧ vin = .int .i64 ((((ys.take q).filter (fun s => spH s nm)).length : Nat) : Int) ∧ vq = .int .i64 (q : Nat) ∧ Moves [] w14 w16) (fun _ vq _ => n9 - (intOf vq).toNat)
                    case atStart => exact ⟨0, by omega, by simp, rfl, mj⟩
                    case round =>
                      obtain ⟨q, hqn, rfl, rfl, mq⟩ := hrel
                      by_cases hql : q < n9
                      · have hqI : (q : Int) < n9 := by omega
                        obtain ⟨y, hy⟩ : ∃ s, ys[q]? = some s := ⟨_, List.getElem?_eq_getElem (by have := HN9.out; omega)⟩
                        obtain ⟨_, _, q1, y0, y1⟩ := HS9.out q y hy
                        simp only [Option.some.injEq, Addr.mk.injEq] at q1
                        obtain ⟨rfl, rfl, _⟩ := q1
                        rw [Nat.zero_add] at y0 y1
                        replace y0 := (M14.then mq).cell y0
                        replace y1 := (M14.then mq).cell y1
                        obtain ⟨c, hc⟩ : ∃ c, ((ys.take q).filter (fun s => spH s nm)).length = c := ⟨_, rfl⟩
                        have hc22 : c ≤ q := by rw [← hc]; exact Nat.le_trans (List.length_filter_le _ _) (by rw [List.length_take]; omega)
                        have hstep : ((ys.take (q + 1)).filter (fun s => spH s nm)).length = c + (if spH y nm = true then 1 else 0) := by
                          rw [List.take_add_one, hy, List.filter_append, List.length_append, hc]
                          cases hhh : spH y nm <;> simp [hhh]
                        have HST : Hid (((ys.take (q + 1)).filter (fun s => spH s nm)).length = c + (if spH y nm = true then 1 else 0)) := hstep
                        rw [hc]
                        clear hc hstep hy
                        obtain ⟨ylo, yhi⟩ := y
                        dsimp only at y0 y1
                        cases hHy : spH ⟨ylo, yhi⟩ nm with
                        | true =>
                          have HSU : Hid (((ys.take (q + 1)).filter (fun s => spH s nm)).length = c + 1) := by
                            have h := HST.out
                            rw [hHy] at h
                            simp at h
                            exact h
                          go_wp2_with (go_at_call 15; refine (spHas_w _ _ _ _).mono ?_; rintro _ w17 ⟨rfl, m17⟩; rw [hHy])
                          go_roundw
                          case rel => exact ⟨q + 1, by omega, by rw [HSU.out]; go_num, by go_num, mq.then m17⟩
                          case measure => simp [intOf]; omega
                        | false =>
                          have HSU : Hid (((ys.take (q + 1)).filter (fun s => spH s nm)).length = c) := by
                            have h := HST.out
                            rw [hHy] at h
                            simp at h
                            exact h
                          go_wp2_with (go_at_call 15; refine (spHas_w _ _ _ _).mono ?_; rintro _ w17 ⟨rfl, m17⟩; rw [hHy])
                          go_roundw
                          case rel => exact ⟨q + 1, by omega, by rw [HSU.out], by go_num, mq.then m17⟩
                          case measure => simp [intOf]; omega
                      · obtain rfl : q = n9 := by omega
                        have hall : ((ys.take q).filter (fun s => spH s nm)).length = 1 := by rw [List.take_of_length_le (by have := HN9.out; omega)]; exact hone.out
                        rw [hall]
                        clear hall
                        go_wp2_with fail
                        go_roundw
                        case rel => exact ⟨j + 1, by omega, by go_num, mq⟩
                        case measure => simp [intOf]; omega
                  · obtain rfl : j = n14 := by omega
                    go_wp2_with fail
                    go_roundw
                    case rel => exact ⟨i + 1, ys, g9, cap9, by omega, by go_num, by rw [← HN9.out], HO9.out.moves (M14.then mj) (fun _ _ => by simp), hcov9, by have := HN9.out; omega, M9.then (M14.then mj)⟩
                    case measure => simp [intOf]; omega
          | false =>
            refine (spSplit_no lo hi t _ hCC).mono ?_
            rintro _ w7 ⟨rfl, m7⟩
            obtain ⟨my, bA, bB⟩ := spBoxes2 w7 #[.string ⟨#[]⟩, .string ⟨#[]⟩] #[.string ⟨#[]⟩, .string ⟨#[]⟩] 27
            have M8 := (m5.then m7).then my
            obtain ⟨Q, hQ⟩ : ∃ Q, w7.heap.size = Q := ⟨_, rfl⟩
            rw [hQ] at bA bB
            have vi8 := (M.then M8).cell vi0
            go_wp2_with fail
            generalize ((w7.alloc (.cells #[.string ⟨#[]⟩, .string ⟨#[]⟩] 27)).alloc (.cells #[.string ⟨#[]⟩, .string ⟨#[]⟩] 27)) = w9 at *

            have M9 : Moves [] w w9 := M.then M8
            obtain ⟨v9, hv90⟩ : ∃ v9, Value.slice (some ⟨g, 0, none⟩) n cap = v9 := ⟨_, rfl⟩
            have hO9 : OwnS w9 v9 xs := by rw [← hv90]; exact HO.out.moves M8 (fun _ _ => by simp)
            have hcov9 : Hid (spCov xs = true) := hC.out
            have hlen9 : xs.length ≤ i + 2 := by have := HN.out; omega
            rw [hv90]
            clear bA bB hv90
            have hpos9 : xs.length ≠ 0 := by have := HN.out; omega
            obtain ⟨g9, cap9, hv9⟩ : ∃ g9 cap9, v9 = .slice (some ⟨g9, 0, none⟩) xs.length cap9 := by
              rcases hO9.2 with ⟨_, h0⟩ | ⟨gg, cc, cur, e, _⟩
              · exact absurd h0 hpos9
              · exact ⟨gg, cc, e⟩
            obtain ⟨ad9, c9, e9, hc9, _, hS9⟩ := hO9.at
            rw [hv9] at e9
            simp only [Value.slice.injEq] at e9
            obtain ⟨rfl, _, rfl⟩ := e9
            subst hv9
            obtain ⟨ys, hys⟩ : ∃ ys, xs = ys := ⟨_, rfl⟩
            rw [hys] at hO9 hc9 hS9 hcov9 hlen9 hpos9 ⊢
            obtain ⟨n9, hn9⟩ : ∃ n9, ys.length = n9 := ⟨_, rfl⟩
            have HN9 : Hid (n9 = ys.length) := hn9.symm
            rw [hn9] at hO9 hc9 hlen9 ⊢
            have HS9 : Hid (SpsAt w9 (some ⟨g9, 0, none⟩) ys) := hS9
            have HO9 : Hid (OwnS w9 (.slice (some ⟨g9, 0, none⟩) n9 cap9) ys) := hO9
            have hap : Hid (spAp ys = true) := spAp_true (spCov_apart hcov9.out)
            have hl9 : n9 ≤ 1000000 := by omega
            obtain ⟨ph, hph⟩ : ∃ ph, phead t 3 = ph := ⟨_, rfl⟩
            have hhead : ∀ w, Calls Try.prog 12 #[.string t, .int .i64 3] w fun e w' => e = .returned (.string ph) ∧ w = w' := by
              intro w
              have := head_d w t 3
              rw [hph] at this
              exact this
            clear hS9 hO9 hn9 hys hph hpos9
            have hbz : ∀ ph : ByteArray, Hid (([] ++ [ph, ⟨#[]⟩]).length + (zs.take 4).length ≤ 1000000) := fun ph => by
              have h4 : (zs.take 4).length ≤ 4 := by rw [List.length_take]; omega
              show 2 + (zs.take 4).length ≤ 1000000
              omega
            go_wp2_with (first | (go_at_call 18; refine (spCover_w _ _ _ _ ys HS9.out HN9.out hc9 hl9).mono ?_; rintro _ w10 ⟨rfl, m10⟩; rw [hcov9.out]) | (go_at_call 19; refine (spApart_w _ _ _ _ ys (HS9.out.moves m10) HN9.out hc9 hl9).mono ?_; rintro _ w11 ⟨rfl, m11⟩; rw [hap.out]; have z1 := heap_alloc_new w11 (.cells #[] 9); have z2 : Moves [] w11 (w11.alloc (.cells #[] 9)) := (Moves.refl _ _).alloc _; have z3 := zbox w11 ph) | (go_at_call 12; refine (hhead _).mono ?_; rintro _ _ ⟨rfl, rfl⟩) | (at_builtin; refine strs_append (.tmp 125) (.tmp 128) rfl (.slice (some ⟨w11.heap.size, 0, none⟩) 0 0) (some ⟨w11.heap.size + 1, 0, none⟩) 2 2 [] [ph, ⟨#[]⟩] rfl rfl rfl z3.1 z3.2.1 rfl (fun h => by simp at h) (by simp) ?_; intro v12 w12 hO12 m12 l12; have M12 : Moves [] w11 w12 := (z3.2.2.trans m12 (fun x hx => .inr (by simp [Value.ownBlock] at hx; omega))); have hf12 : ∀ b, v12.ownBlock = some b → w11.heap.size ≤ b := lain_le l12 (by intro b hb; simp [Value.ownBlock] at hb; omega) z3.2.2.size; clear z1 z2 z3 m12 l12) | (go_at_call 20; refine (hfew _).mono ?_; rintro _ _ ⟨n13, rfl, hn13, rfl⟩; have HN13 : Hid (n13 = (zs.take 4).length) := hn13; clear hn13; have HZ12 := (HZ.out.moves (M9.then ((m10.then m11).then M12))).first 4) | (at_builtin; refine strs_append (.tmp 129) (.tmp 131) rfl v12 adz n13 cz ([] ++ [ph, ⟨#[]⟩]) (zs.take 4) rfl rfl rfl hO12 HZ12 HN13.out hnz (hbz ph).out ?_; intro v14 w14 hO14 m14 l14; (obtain ⟨zz, hzz⟩ : ∃ zz, [] ++ [ph, ⟨#[]⟩] ++ zs.take 4 = zz := ⟨_, rfl⟩); rw [hzz] at hO14; (obtain ⟨ad14, cap14, rfl, hc14, hS14⟩ := hO14.at); (obtain ⟨n14, hn14⟩ : ∃ n14, zz.length = n14 := ⟨_, rfl⟩); have HN14 : Hid (zz.length = n14) := hn14; have HZL : Hid ([] ++ [ph, ⟨#[]⟩] ++ zs.take 4 = zz) := hzz; rw [hn14] at hc14 ⊢; clear hn14 hzz))
            have M14 : Moves [] w9 w14 := ((m10.then m11).then M12).trans m14 (fun x hx => .inr (by have := hf12 x (Option.mem_toList.1 hx); have := (m10.then m11).size; omega))
            have HZZ : Hid (StrsAt w14 ad14 zz) := hS14
            have hl14 : n14 ≤ 100 := by
              have h4 : (zs.take 4).length ≤ 4 := by rw [List.length_take]; omega
              rw [← HN14.out, ← HZL.out, List.length_append]
              show 2 + (zs.take 4).length ≤ 100
              omega
            clear hS14 HZL hO14 m14 l14 hO12 hf12 HN13 hhead HZ12
            go_loopw [134] (fun vj w15 => ∃ j : Nat, j ≤ n14 ∧ vj = .int .i64 (j : Nat) ∧ Moves [] w14 w15) (fun vj _ => n14 - (intOf vj).toNat)
            case atStart => exact ⟨0, by omega, rfl, Moves.refl _ _⟩
            case round =>
              obtain ⟨j, hjn, rfl, mj⟩ := hrel
              by_cases hjl : j < n14
              · have hjI : (j : Int) < n14 := by omega
                obtain ⟨nm, hnm⟩ : ∃ s, zz[j]? = some s := ⟨_, List.getElem?_eq_getElem (by have := HN14.out; omega)⟩
                obtain ⟨gz, oz, rfl, cz0⟩ := HZZ.out j nm hnm
                replace cz0 := mj.cell cz0
                have hone : Hid ((ys.filter (fun s => spH s nm)).length = 1) := spCov_one hcov9.out nm
                clear hnm
                go_wp2_with fail
                go_loopw [16, 17] (fun vin vq w16 => ∃ q : Nat, q ≤ n9 ∧ vin = .int .i64 ((((ys.take q).filter (fun s => spH s nm)).length : Nat) : Int) ∧ vq = .int .i64 (q : Nat) ∧ Moves [] w14 w16) (fun _ vq _ => n9 - (intOf vq).toNat)
                case atStart => exact ⟨0, by omega, by simp, rfl, mj⟩
                case round =>
                  obtain ⟨q, hqn, rfl, rfl, mq⟩ := hrel
                  by_cases hql : q < n9
                  · have hqI : (q : Int) < n9 := by omega
                    obtain ⟨y, hy⟩ : ∃ s, ys[q]? = some s := ⟨_, List.getElem?_eq_getElem (by have := HN9.out; omega)⟩
                    obtain ⟨_, _, q1, y0, y1⟩ := HS9.out q y hy
                    simp only [Option.some.injEq, Addr.mk.injEq] at q1
                    obtain ⟨rfl, rfl, _⟩ := q1
                    rw [Nat.zero_add] at y0 y1
                    replace y0 := (M14.then mq).cell y0
                    replace y1 := (M14.then mq).cell y1
                    obtain ⟨c, hc⟩ : ∃ c, ((ys.take q).filter (fun s => spH s nm)).length = c := ⟨_, rfl⟩
                    have hc22 : c ≤ q := by rw [← hc]; exact Nat.le_trans (List.length_filter_le _ _) (by rw [List.length_take]; omega)
                    have hstep : ((ys.take (q + 1)).filter (fun s => spH s nm)).length = c + (if spH y nm = true then 1 else 0) := by
                      rw [List.take_add_one, hy, List.filter_append, List.length_append, hc]
                      cases hhh : spH y nm <;> simp [hhh]
                    have HST : Hid (((ys.take (q + 1)).filter (fun s => spH s nm)).length = c + (if spH y nm = true then 1 else 0)) := hstep
                    rw [hc]
                    clear hc hstep hy
                    obtain ⟨ylo, yhi⟩ := y
                    dsimp only at y0 y1
                    cases hHy : spH ⟨ylo, yhi⟩ nm with
                    | true =>
                      have HSU : Hid (((ys.take (q + 1)).filter (fun s => spH s nm)).length = c + 1) := by
                        have h := HST.out
                        rw [hHy] at h
                        simp at h
                        exact h
                      go_wp2_with (go_at_call 15; refine (spHas_w _ _ _ _).mono ?_; rintro _ w17 ⟨rfl, m17⟩; rw [hHy])
                      go_roundw
                      case rel => exact ⟨q + 1, by omega, by rw [HSU.out]; go_num, by go_num, mq.then m17⟩
                      case measure => simp [intOf]; omega
                    | false =>
                      have HSU : Hid (((ys.take (q + 1)).filter (fun s => spH s nm)).length = c) := by
                        have h := HST.out
                        rw [hHy] at h
                        simp at h
                        exact h
                      go_wp2_with (go_at_call 15; refine (spHas_w _ _ _ _).mono ?_; rintro _ w17 ⟨rfl, m17⟩; rw [hHy])
                      go_roundw
                      case rel => exact ⟨q + 1, by omega, by rw [HSU.out], by go_num, mq.then m17⟩
                      case measure => simp [intOf]; omega
                  · obtain rfl : q = n9 := by omega
                    have hall : ((ys.take q).filter (fun s => spH s nm)).length = 1 := by rw [List.take_of_length_le (by have := HN9.out; omega)]; exact hone.out
                    rw [hall]
                    clear hall
                    go_wp2_with fail
                    go_roundw
                    case rel => exact ⟨j + 1, by omega, by go_num, mq⟩
                    case measure => simp [intOf]; omega
              · obtain rfl : j = n14 := by omega
                go_wp2_with fail
                go_roundw
                case rel => exact ⟨i + 1, ys, g9, cap9, by omega, by go_num, by rw [← HN9.out], HO9.out.moves (M14.then mj) (fun _ _ => by simp), hcov9, by have := HN9.out; omega, M9.then (M14.then mj)⟩
                case measure => simp [intOf]; omega
    · have hex : ¬ (i : Int) < nv ∨ ((i : Int) < nv ∧ ¬ (i : Int) < 20) := by omega
      rcases hex with h1 | ⟨h1, h2⟩
      all_goals go_wp2_with (go_at_call 11; refine (known7_w _).mono ?_; rintro _ w5 ⟨rfl, m5⟩)
      all_goals go_ret
      all_goals exact ⟨rfl, M.then m5⟩
end Go.Proofs.Ytgeadpmnnjfkkaa
