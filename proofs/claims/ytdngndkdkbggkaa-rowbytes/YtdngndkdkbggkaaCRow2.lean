/-
  row.Copy: for every row the call returns a row of its own, what the chapter says, and writes nothing that was there.
-/
import Derived.Test.YtdngndkdkbggkaaCRow4
namespace Go.Proofs.Ytdngndkdkbggkaa
open Go.RowKit

theorem pright_len4 {R : List Pcol} (h : pright R = true) : R.length ≤ 4 := by
  unfold pright at h
  simp only [Bool.and_eq_true, decide_eq_true_eq] at h
  exact h.1
theorem pright_col {R : List Pcol} (h : pright R = true) {k : Nat} (hk : k < R.length) : colGood R k = true := by
  unfold pright at h
  simp only [Bool.and_eq_true, List.all_eq_true] at h
  exact h.2 k (List.mem_range.2 hk)
theorem pright_at {R : List Pcol} (h : pright R = true) {x : Pcol} (hx : x ∈ R) : pname x.name = true ∧ prightV x.l = true := by
  obtain ⟨k, hk, rfl⟩ := List.mem_iff_getElem.1 hx
  have := pright_col h hk
  unfold colGood at this
  rw [List.getElem?_eq_getElem hk] at this
  simp only [Bool.and_eq_true] at this
  exact this.1
theorem prightV_two {l : List Pver} (h : prightV l = true) : 1 ≤ l.length ∧ l.length ≤ 2 := by
  unfold prightV at h
  simp only [Bool.and_eq_true, decide_eq_true_eq] at h
  exact h.1
theorem pasked_right (R : List Pcol) : pright (pasked R) = true := by
  unfold pasked
  split
  · assumption
  · rfl
theorem pasked_len (R : List Pcol) : (pasked R).length ≤ 4 := pright_len4 (pasked_right R)
theorem pasked_l (R : List Pcol) : ∀ x ∈ pasked R, x.l.length ≤ 2 := fun _ hx => (prightV_two (pright_at (pasked_right R) hx).2).2
theorem pcopy_len (R : List Pcol) : (pcopy R).length ≤ 4 := by unfold pcopy; rw [List.length_map]; exact pasked_len R
theorem pcopy_l (R : List Pcol) : ∀ x ∈ pcopy R, x.l.length ≤ 2 := fun x hx => by
  unfold pcopy at hx
  obtain ⟨y, hy, rfl⟩ := List.mem_map.1 hx
  have := pasked_l R y hy
  show (y.l.map pcanonV).length ≤ 2
  rw [List.length_map]
  exact this

set_option maxRecDepth 100000 in
set_option maxHeartbeats 4000000 in
theorem copy_w (W w : World) (v : Value) (R : List Pcol) (h : RowAt W v R) (m : Moves [] W w) : Calls Try.prog 50 #[v] w fun e w' => ∃ lv, e = .returned (.agg #[lv]) ∧ GrowC w w' lv (pcopy R) ∧ Moves [] w w' := by
  have h0 := h
  obtain ⟨lv, rfl, hl⟩ := h
  obtain ⟨ad, cap, rfl, hc⟩ := hl.slice
  unfold pcopy
  have hm3 : ∀ A B C t u v, Moves [] W (((w.alloc (.cells A t)).alloc (.cells B u)).alloc (.cells C v)) := fun _ _ _ _ _ _ => ((m.alloc _).alloc _).alloc _
  obtain ⟨Z, hZ⟩ : ∃ Z, Hid (pasked R = Z) := ⟨_, rfl⟩
  have hask := fun w1 (m1 : Moves [] W w1) => asked_w W w1 _ R h0 m1
  rw [hZ.out] at hask ⊢
  have hZ1 : Z.length ≤ 1048576 := by rw [← hZ.out]; have := pasked_len R; omega
  have hZ2 : ∀ x ∈ Z, x.l.length ≤ 1048576 := by rw [← hZ.out]; intro x hx; have := pasked_l R x hx; omega
  clear h0 hl
  go_enter Try.func50, Try.ntmps50
  go_wp2_with (go_at_call 61; refine (hask _ (hm3 _ _ _ _ _ _)).mono ?_; rintro _ w2 ⟨ad2, cap2, rfl, hA, m2⟩; obtain ⟨p1, p2, p3, m0⟩ := boxes3 m2; have hcap := hA.slice)
  have HA : Hid (ColsAt W (.slice ad2 Z.length cap2) Z) := hA
  have M0 : Hid (Moves [] w w2) := m0
  have MW : Hid (Moves [] W w) := m
  clear hask hm3 hA m2 p1 m0 m hc
  go_loopw [13] (fun i wr => ∃ k lv, k ≤ Z.length ∧ i = .int .i64 (k : Nat) ∧ Moves [] w wr ∧ wr.heap[w.heap.size + 1]? = some (.cells #[.slice none 0 0] 26 (0, 0)) ∧ wr.heap[w.heap.size + 1 + 1]? = some (.cells #[lv] 26 (0, 0)) ∧ GrowC w wr lv ((Z.take k).map pcanonC)) (fun i _ => Z.length - (intOf i).toNat)
  case atStart => exact ⟨0, _, Nat.zero_le _, rfl, M0.out, p2, p3, by simpa using GrowC.nil _ _⟩
  case round =>
    obtain ⟨k, lv, hk, rfl, mr, q2, q3, hG⟩ := hrel
    obtain ⟨wo, hwo⟩ : ∃ wo, wo = wr := ⟨_, rfl⟩
    subst hwo
    have HG : Hid (GrowC w wo lv ((Z.take k).map pcanonC)) := hG
    obtain ⟨ad3, n3, cap3, rfl, hn3'⟩ := hG.open
    clear hG p2 p3
    by_cases hlt : k < Z.length
    · have hk3 : (k : Int) < Z.length := by omega
      have hx : Z[k]? = some Z[k] := List.getElem?_eq_getElem hlt
      obtain ⟨x, hx2⟩ : ∃ x, x = Z[k] := ⟨_, rfl⟩
      rw [← hx2] at hx
      obtain ⟨g, off, a2, n2, c2, rfl, e0, e1, en, hle, hV⟩ := HA.out.at hx
      have d0 := (MW.out.then mr).cell e0
      have d1 := (MW.out.then mr).cell e1
      have HV : Hid (VersAt W (.slice a2 n2 c2) x.l) := hV
      have Hn : Hid (n2 = x.l.length) := en
      have hn2b : n2 ≤ 1048576 := by rw [en]; exact hZ2 x (List.mem_of_getElem? hx)
      clear hV en hx2
      go_wp2_with fail
      obtain ⟨wb, hwb⟩ : ∃ wb, wo.alloc (.cells #[.string x.name, .slice a2 n2 c2] 45) = wb := ⟨_, rfl⟩
      have mb : Moves [] wo wb := by rw [← hwb]; exact (Moves.refl _ _).alloc _
      have qb : wb.heap[wo.heap.size]? = some (.cells #[.string x.name, .slice a2 n2 c2] 45 (0, 0)) := by rw [← hwb]; exact heap_alloc_new _ _
      rw [hwb]
      clear hwb d0 d1 e0 e1
      go_loopw [6, 20] (fun l i wq => ∃ j : Nat, j ≤ n2 ∧ i = .int .i64 j ∧ Moves [] wb wq ∧ GrowV wb wq l ((x.l.take j).map pcanonV)) (fun _ i _ => n2 - (intOf i).toNat)
      case atStart => exact ⟨0, Nat.zero_le _, rfl, Moves.refl _ _, by simpa using GrowV.nil _ _⟩
      case round =>
        obtain ⟨j, hj, rfl, mq, hGV⟩ := hrel
        obtain ⟨ad4, n4, cap4, rfl, hn4⟩ := hGV.open
        have HGV : Hid (GrowV wb wr (.slice ad4 n4 cap4) ((x.l.take j).map pcanonV)) := hGV
        clear hGV
        have MB : Hid (Moves [] W wb) := (MW.out.then mr).then mb
        by_cases hjt : j < n2
        · have hj3 : (j : Int) < n2 := by omega
          obtain ⟨y, hy⟩ : ∃ y, x.l[j]? = some y := ⟨_, List.getElem?_eq_getElem (by have := Hn.out; omega)⟩
          obtain ⟨g5, off5, a5, n5, c5, rfl, y0, y1, y2, y3, hVC⟩ := HV.out.at hy
          have z0 := (MB.out.then mq).cell y0
          have z1 := (MB.out.then mq).cell y1
          have z2 := (MB.out.then mq).cell y2
          have z3 := (MB.out.then mq).cell y3
          have HVC : Hid (VC wr [.int .i64 y.v.kind, .slice a5 n5 c5, .float .f64 y.v.n] y.v) := hVC.moves (MB.out.then mq)
          clear hVC y0 y1 y2 y3
          go_wp2_with fail
          obtain ⟨wc, hwc⟩ : ∃ wc, wr.alloc (.cells #[.int .i64 y.t, .int .i64 y.v.kind, .slice a5 n5 c5, .float .f64 y.v.n] 69) = wc := ⟨_, rfl⟩
          have mc : Moves [] wr wc := by rw [← hwc]; exact (Moves.refl _ _).alloc _
          have qc : wc.heap[wr.heap.size]? = some (.cells #[.int .i64 y.t, .int .i64 y.v.kind, .slice a5 n5 c5, .float .f64 y.v.n] 69 (0, 0)) := by rw [← hwc]; exact heap_alloc_new _ _
          rw [hwc]
          obtain ⟨b0, b1, b2, b3⟩ := quad_cells qc
          clear hwc qc z0 z1 z2 z3
          have hnb : wr.heap.size ∉ (Value.slice ad4 n4 cap4).ownBlock.toList := HGV.out.ne (Nat.le_refl _)
          have hbd : ((x.l.take j).map pcanonV).length + [pcanonV y].length ≤ 1048576 := by
            have := hZ2 x (List.mem_of_getElem? hx)
            have := Hn.out
            simp
            omega
          go_region_held3 (fun w' => w'.cell? ⟨wr.heap.size, 0, none⟩ = some (.int .i64 y.t) ∧ w'.cell? ⟨wr.heap.size, 1, none⟩ = some (.int .i64 y.v.kind) ∧ w'.cell? ⟨wr.heap.size, 2, none⟩ = some (.slice a5 n5 c5) ∧ w'.cell? ⟨wr.heap.size, 3, none⟩ = some (.float .f64 y.v.n)) (first | exact ⟨m8.cellOf (m7.cell b0) hnb, m8.cellOf (m7.cell b1) hnb, m8.cellOf (m7.cell b2) hnb, m8.cellOf (m7.cell b3) hnb⟩ | exact ⟨(m5.alloc _).cell b0, (m5.alloc _).cell b1, (m5.alloc _).cell b2, (m5.alloc _).cell b3⟩ | exact ⟨m5.cell b0, m5.cell b1, m5.cell b2, m5.cell b3⟩ | exact ⟨b0, b1, b2, b3⟩) (first | (go_at_call 83; refine (canonC_w wr _ _ _ _ _ _ _ HVC.out.va mc.drew).mono ?_; rintro _ w5 ⟨ad6, n6, c6, rfl, hC5, m5, m6⟩; have hvn := vers_new w5 (.int .i64 y.t) _ _ _ (pcanonV y) ⟨_, rfl, hC5⟩; have m7 := m5.alloc (.cells #[.int .i64 y.t, .int .i64 (pcanon y.v).kind, .slice ad6 n6 c6, .float .f64 (pcanon y.v).n] 69); have hG7 := HGV.out.moves0 (mc.drew.then m7)) | (refine growV_step (.tmp 24) (.tmp 31) rfl _ _ ((x.l.take j).map pcanonV) [pcanonV y] rfl rfl (by rfl) hG7 hvn (mq.then (mc.drew.then m7)) hbd ?_; intro v8 w8 hG8 M8 m8 s8 l8))
          rw [take_map _ hy] at hG8
          go_wp2_with fail
          go_roundw
          case rel => exact ⟨j + 1, by omega, by go_num, M8, hG8⟩
          case measure => simp [intOf]; omega
        · have hj3 : ¬ (j : Int) < n2 := by omega
          obtain rfl : j = n2 := by omega
          have hfull : (x.l.take j).map pcanonV = (pcanonC x).l := by rw [Hn.out, List.take_length]; rfl
          have hGF := HGV.out
          rw [hfull] at hGF
          have MQ := mb.then mq
          obtain ⟨s0, s1⟩ := one_cell (MQ.at q3 (by simp))
          obtain ⟨r0, r1⟩ := pair_cells (mq.at qb (by simp))
          have hcn := cols_new wr (.string x.name) _ (pcanonC x) ⟨_, rfl, hGF.at⟩
          have ma : Moves [] wr (wr.alloc (.cells #[.string x.name, .slice ad4 n4 cap4] 45)) := (Moves.refl _ _).alloc _
          have hGC := HG.out.moves0 (MQ.then ma)
          have hbd : ((Z.take k).map pcanonC).length + [pcanonC x].length ≤ 1048576 := by simp; omega
          have hb3 := ma.at (MQ.at q3 (by simp)) (by simp)
          have hb2 := ma.at (MQ.at q2 (by simp)) (by simp)
          have hn3 := hGC.neT hb3 (by decide)
          have hn2 := hGC.neT hb2 (by decide)
          have MR := mr.then (MQ.then ma)
          clear HV hfull
          go_wp2_with (at_builtin; refine growC_append (.tmp 35) (.tmp 40) rfl _ _ ((Z.take k).map pcanonC) [pcanonC x] rfl rfl (by rfl) hGC hcn MR hbd ?_; intro v8 w8 hG8 M8 m8 s8 l8; have c8 := m8.at hb3 hn3; have c7 := m8.at hb2 hn2; obtain ⟨f0, f1⟩ := one_cell c8; have hsl := hG8.open; obtain ⟨ad9, n9, cap9, rfl, hn9⟩ := hsl)
          rw [take_map _ hx] at hG8
          go_roundw
          case rel =>
            have e8 := set_one c8 (.slice ad9 n9 cap9)
            have st : Stay (fun t => t = 5 ∨ t = 69) w8 (w8.setCell ⟨w.heap.size + 1 + 1, 0, none⟩ (.slice ad9 n9 cap9)) := Stay.set c8 (by decide) _
            refine ⟨k + 1, _, by omega, by go_num, M8.setCell (.inr (by show _ ≤ _ + 1 + 1; omega)) _, ?_, e8, hG8.moves (moves_set _ _ _ _) ?_ st⟩
            · exact (moves_set _ _ _ _).at c7 (by simp)
            · intro b hb
              have := hG8.neT c8 (by decide)
              intro hbs
              simp at hbs
              subst hbs
              exact this (by rw [hb]; simp)
          case measure => simp [intOf]; omega
    · have hk3 : ¬ (k : Int) < Z.length := by omega
      obtain rfl : k = Z.length := by omega
      rw [List.take_length] at HG
      obtain ⟨s0, s1⟩ := one_cell q3
      obtain ⟨r0, r1⟩ := one_cell q2
      go_wp2_with fail
      try simp only [Exit.inBlock, Exit.then]
      have st : Stay (fun t => t = 5 ∨ t = 69) wo (wo.setCell ⟨w.heap.size + 1, 0, none⟩ (.slice ad3 n3 cap3)) := Stay.set q2 (by decide) _
      refine bodyPost_ret (ret_row rfl _ _ _ _ rfl (set_one q2 _)) rfl ⟨_, rfl, HG.out.moves (moves_set _ _ _ _) ?_ st, mr.setCell (.inr (by show _ ≤ _ + 1; omega)) _⟩
      intro b hb
      have := HG.out.neT q2 (by decide)
      intro hbs
      simp at hbs
      subst hbs
      exact this (by rw [hb]; simp)
end Go.Proofs.Ytdngndkdkbggkaa
