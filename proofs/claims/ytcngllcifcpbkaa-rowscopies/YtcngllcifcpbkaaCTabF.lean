/-
  The rows that own and Range tell lie in memory of their own.
-/
import Derived.Test.YtcngllcifcpbkaaCBaseM
namespace Go.Proofs.Ytcngllcifcpbkaa
open Go.RowKit

theorem grow_appendM {α : Type} {EC : World → List Value → α → Prop} {o : Oper} {a : Act} {K : Act → World → Prop} {Q : Exit → Act → World → Prop} {W w : World} (s x : Operand) (t e : TypeId) (z : Value) (size bytes : Nat)
    (hinfo : (Try.prog.info? e).map (fun i => (i.zero, i.size, i.bytes)) = some (some z, size, bytes)) (ht : Try.prog.underlying t = some (.slice e)) (hzs : z.cells.size = size) (hsz : 0 < size) (hby : bytes ≤ 100)
    (hone : ∀ w c x, EC w c x → ∀ u ∈ c, u.oneCell' = true) (hstay : ∀ w' c x, EC w c x → Moves (a.eval s).ownBlock.toList w w' → Stay (· ≠ e) w w' → EC w' c x)
    (ho : o.op = .call { callee := .builtin .append, args := #[s, x], argTypes := #[t, t] })
    (v yv : Value) (xs ys : List α) (ds : List (List Value)) (hs : a.eval s = v) (hx : a.eval x = yv)
    (hv : Grow EC e size W w v xs) (hd : Lies w e size yv ds) (hys : All2 (EC w) ds ys) (hm : Moves [] W w) (hb : xs.length + ys.length ≤ 1048576)
    (h : ∀ v' w', Grow EC e size W w' v' (xs ++ ys) → Moves [] W w' → Moves v.ownBlock.toList w w' → Stay (· ≠ e) w w' → Lain w v v' → K (a.put o.dst v') w') :
    o.wp Try.prog a w K Q := by
  obtain ⟨hf, css, hO, hE⟩ := hv
  have hl1 := hE.length
  have hl2 := hys.length
  have fin : ∀ v' w', OwnL w' e size v' (css ++ ds) → Moves v.ownBlock.toList w w' → Lain w v v' → K (a.put o.dst v') w' := by
    intro v' w' h1 h2 h3
    have hst : Stay (· ≠ e) w w' := Stay.ofMovesS h2 (fun k hk c t fz hc hn => hn (hO.block k hk c t fz hc))
    obtain ⟨k1, k2⟩ := appended hm hf h2 h3
    exact h v' w' ⟨k2, _, h1, (hE.mono fun _ _ q => hstay _ _ _ q (hs ▸ h2) hst).append (hys.mono fun _ _ q => hstay _ _ _ q (hs ▸ h2) hst)⟩ k1 h2 hst h3
  obtain ⟨i0, hi, hz0, hz1, hz2⟩ := info_parts hinfo
  obtain ⟨hd0, ad, cap, rfl, hcap, hnil, hd1⟩ := id hd
  cases ad with
  | none =>
    obtain rfl : cap = 0 := hnil rfl
    have h0 : ds.length = 0 := by omega
    obtain rfl : ds = [] := List.eq_nil_of_length_eq_zero h0
    have hrun := run_append_owned_none (P := Try.prog) (w := w) 0 t o.type e i0 size ht hi v css.length css.flatten hO.2
    unfold Oper.wp
    simp [execOp, ho, resolve, invoke, builtin, hs, hx, hrun, Result.andThen]
    exact fin v w (by simpa using hO) (Moves.refl _ _) (.inl rfl)
  | some y =>
    have hfl := flatten_length hd0
    have hbb : (css.length + ds.length) * bytes ≤ 140737488355328 := by
      have := Nat.mul_le_mul (show css.length + ds.length ≤ 1048576 by omega) hby
      omega
    obtain ⟨v', w', hr, g1, g2, _, g4⟩ := run_append_own_at (P := Try.prog) w 0 t o.type e i0 z size bytes ht hi hz0 hz1 hz2 hzs hsz v css.length css.flatten hO.2 y ds.length cap ds.flatten hfl (hd.src hsz) (fun u hu => by
      obtain ⟨c, hc, hu⟩ := List.mem_flatten.1 hu
      exact All2.mem (p := fun c => ∀ u ∈ c, u.oneCell' = true) (fun c b hc => hone _ _ _ hc) hys c hc u hu) (by unfold maxLen; omega) hbb (Nat.zero_le _)
    unfold Oper.wp execOp
    simp only [ho, resolve, invoke, builtin, Sem.run_bind, Sem.run_pure, Result.andThen_ok, List.map_toArray, List.map_cons, List.map_nil, hs, hx, hr]
    refine fin v' w' ⟨fun c hc => ?_, ?_⟩ ((Moves.refl _ _).grown g2 (fun k hk => .inl (by rw [hk]; simp))) g4
    · rcases List.mem_append.1 hc with hc | hc
      · exact hO.1 c hc
      · exact hd0 c hc
    · rw [List.length_append, List.flatten_append]
      exact g1
/-- A row by a name, the row in memory younger than W. -/
def NamF (W w : World) (c : List Value) (x : Pnam) : Prop := ∃ lv, c = [.string x.name, lv] ∧ GrowC W w lv x.r
def GrowF (W w : World) (v : Value) (xs : List Pnam) : Prop := Grow (NamF W) 53 2 W w v xs
def NamsF (W w : World) (v : Value) (xs : List Pnam) : Prop := ∃ css, Lies w 53 2 v css ∧ All2 (NamF W w) css xs
theorem GrowC.blk {W w : World} {v : Value} {xs : List Pcol} (h : GrowC W w v xs) {k : Nat} (hk : v.ownBlock = some k) : ∃ cur, w.heap[k]? = some (.cells cur 33 (0, 0)) := by
  obtain ⟨_, css, h1, h2⟩ := h
  rcases h1.2.2 with ⟨e, _⟩ | ⟨g, cap', cur, e, _, hg, k1, k2, k3, k4⟩
  · rw [e] at hk; simp [Value.ownBlock] at hk
  · rw [e] at hk
    simp [Value.ownBlock] at hk
    subst hk
    exact ⟨cur, hg⟩
theorem NamF.moves {W w w' : World} {S : List Nat} (m : Moves S w w') (st : Stay (fun t => t = 5 ∨ t = 79) w w') (hS : ∀ k cur, w.heap[k]? = some (.cells cur 33 (0, 0)) → k ∉ S) {c : List Value} {x : Pnam} (h : NamF W w c x) : NamF W w' c x := by
  obtain ⟨lv, e, hc⟩ := h
  refine ⟨lv, e, hc.moves m (fun k hk => ?_) st⟩
  obtain ⟨cur, hb⟩ := hc.blk hk
  exact hS k cur hb
theorem NamF.namC {W w : World} {c : List Value} {x : Pnam} (h : NamF W w c x) : NamC w c x := by
  obtain ⟨lv, e, hc⟩ := h
  exact ⟨lv, e, hc.at⟩
theorem GrowF.n {W w : World} {v : Value} {xs : List Pnam} (h : GrowF W w v xs) : GrowN W w v xs := by
  obtain ⟨hf, css, hO, hE⟩ := h
  exact ⟨hf, css, hO, hE.mono fun _ _ q => q.namC⟩
theorem GrowF.nil (W w : World) : GrowF W w (.slice none 0 0) [] := ⟨Fresh.nil _, [], OwnL.nil _ _ _, trivial⟩
theorem GrowF.open {W w : World} {v : Value} {xs : List Pnam} (h : GrowF W w v xs) : ∃ ad n cap, v = .slice ad n cap ∧ Hid (n = xs.length) ∧ n ≤ cap := h.n.open
theorem GrowF.blk {W w : World} {v : Value} {xs : List Pnam} (h : GrowF W w v xs) {k : Nat} (hk : v.ownBlock = some k) : ∃ cur, w.heap[k]? = some (.cells cur 53 (0, 0)) := h.n.blk hk
theorem GrowF.moves0 {W w w' : World} (m : Moves [] w w') {v : Value} {xs : List Pnam} (h : GrowF W w v xs) : GrowF W w' v xs := by
  obtain ⟨hf, css, hO, hE⟩ := h
  exact ⟨hf, css, hO.moves m (by simp), hE.mono fun _ _ q => q.moves m (Stay.ofMoves m) (by simp)⟩
theorem GrowF.elder {W W' w : World} {v : Value} {xs : List Pnam} (h : GrowF W' w v xs) (hle : W.heap.size ≤ W'.heap.size) : GrowF W w v xs := by
  obtain ⟨hf, css, hO, hE⟩ := h
  exact ⟨fun k hk => Nat.le_trans hle (hf k hk), css, hO, hE.mono fun _ _ q => by
    obtain ⟨lv, e, hc⟩ := q
    exact ⟨lv, e, fun k hk => Nat.le_trans hle (hc.1 k hk), hc.2⟩⟩
theorem growF_step {ops : Array Oper} {o : Oper} {a : Act} {K : Act → World → Prop} {Q : Exit → Act → World → Prop} {W w : World} (s x : Operand)
    (ho : o.op = .call { callee := .builtin .append, args := #[s, x], argTypes := #[27, 27] })
    (v yv : Value) (xs ys : List Pnam) (hs : a.eval s = v) (hx : a.eval x = yv) (hw : Region.wanted o (yielded ops a.tmps) = true)
    (hv : GrowF W w v xs) (hy : NamsF W w yv ys) (hm : W.heap.size ≤ w.heap.size) (hb : xs.length + ys.length ≤ 1048576)
    (h : ∀ v' w', GrowF W w' v' (xs ++ ys) → Moves v.ownBlock.toList w w' → Stay (· ≠ 53) w w' → Lain w v v' → K (a.put o.dst v') w') :
    if Region.wanted o (yielded ops a.tmps) then o.wp Try.prog a w K Q else K (a.put o.dst undef) w := by
  rw [if_pos hw]
  obtain ⟨ds, hd, hys⟩ := hy
  have hNv := hv.n
  refine grow_appendM (EC := NamF W) (W := cutTo W w) s x _ 53 _ 2 40 nam_info Try.underlying27 rfl (by omega) (by omega) (fun _ _ _ h => h.namC.one) (fun w2 c y h hm2 hst => h.moves hm2 (hst.weak (by rintro t (rfl | rfl) <;> decide)) (fun k cur hk => by rw [hs]; exact Grow.neT hNv hk (by decide))) ho v yv xs ys ds hs hx ?_ hd hys (cutTo_moves hm) hb ?_
  · unfold GrowF Grow Fresh at hv
    unfold Grow Fresh
    rw [cutTo_size hm]
    exact hv
  · intro v' w' h1 _ h3 h4 h5
    refine h v' w' ?_ h3 h4 h5
    unfold Grow Fresh at h1
    rw [cutTo_size hm] at h1
    exact h1
theorem namsF_new {W : World} (w : World) (c0 c1 : Value) (x : Pnam) (h : NamF W w [c0, c1] x) : NamsF W (w.alloc (.cells #[c0, c1] 53)) (.slice (some ⟨w.heap.size, 0, none⟩) 1 1) [x] :=
  ⟨_, lies_new w [c0, c1] _, h.moves ((Moves.refl [] _).alloc _) (Stay.ofMoves ((Moves.refl _ _).alloc _)) (by simp), trivial⟩

set_option maxRecDepth 100000 in
set_option maxHeartbeats 4000000 in
theorem own_f (W w : World) (q : Nat) (vs : List Value) (LL : List (List Pnam)) (hq : w.heap[q]? = some (.cells vs.toArray 27 (0, 0))) (hA : All2 (NamsAt W) vs LL) (m : Moves [] W w) (hb : LL.flatten.length ≤ 1000) (nl : Nat) (hmm : Hid (nl = LL.length)) (hnl : nl ≤ 2) :
    Calls Try.prog 29 #[.slice (some ⟨q, 0, none⟩) nl nl] w fun e w' => ∃ ad n cap, e = .returned (.slice ad n cap) ∧ GrowF w w' (.slice ad n cap) (pownL LL) ∧ Moves [] w w' := by
  have MW : Hid (Moves [] W w) := m
  have HA : Hid (All2 (NamsAt W) vs LL) := hA
  have HB : Hid (LL.flatten.length ≤ 1000) := hb
  clear m hA hb
  go_enter Try.func29, Try.ntmps29
  go_wp2_with fail
  go_loopw [3, 10] (fun l i wr => ∃ j : Nat, j ≤ nl ∧ i = .int .i64 j ∧ Moves [] w wr ∧ GrowF w wr l (pownL (LL.take j))) (fun _ i _ => nl - (intOf i).toNat)
  case atStart => exact ⟨0, Nat.zero_le _, rfl, Moves.refl _ _, by simpa [pownL] using GrowF.nil _ _⟩
  case round =>
    obtain ⟨j, hj, rfl, mr, hG⟩ := hrel
    obtain ⟨ad3, n3, cap3, rfl, hn3, hc3⟩ := hG.open
    have HG : Hid (GrowF w wr (.slice ad3 n3 cap3) (pownL (LL.take j))) := hG
    clear hG
    obtain ⟨wo, hwo⟩ : ∃ wo, wo = wr := ⟨_, rfl⟩
    subst hwo
    by_cases hjt : j < nl
    · have hj3 : (j : Int) < nl := by omega
      obtain ⟨xs, hxs⟩ : ∃ xs, LL[j]? = some xs := ⟨_, List.getElem?_eq_getElem (by have := hmm.out; omega)⟩
      obtain ⟨v0, hv0, hN0⟩ := HA.out.get hxs
      obtain ⟨ad0, cap0, rfl, hc0⟩ := hN0.slice
      obtain ⟨n0, HN0⟩ : ∃ n0, Hid (n0 = xs.length) := ⟨_, rfl⟩
      rw [← HN0.out] at hN0 hv0 hc0
      have hcell : wo.cell? ⟨q, j, none⟩ = some (.slice ad0 n0 cap0) := mr.cell (by simp [World.cell?, hq, hv0])
      have HN : Hid (NamsAt W (.slice ad0 n0 cap0) xs) := hN0
      have hn0b : n0 ≤ 1000 := by
        have e2 : LL.flatten = (LL.take j).flatten ++ (LL.drop j).flatten := by rw [← List.flatten_append, List.take_append_drop]
        have e3 : LL.drop j = xs :: LL.drop (j + 1) := by
          obtain ⟨h1, h2⟩ := List.getElem?_eq_some_iff.1 hxs
          rw [← h2]
          exact List.drop_eq_getElem_cons h1
        have := HB.out
        rw [e2, e3, List.length_append, List.flatten_cons, List.length_append, ← HN0.out] at this
        omega
      have HX : Hid (LL[j]? = some xs) := hxs
      clear hN0 hv0 hxs
      go_wp2_with fail
      go_loopw [3, 16] (fun l i wq => ∃ k : Nat, k ≤ n0 ∧ i = .int .i64 k ∧ Moves [] w wq ∧ GrowF w wq l (pownL (LL.take j) ++ pownX (xs.take k))) (fun _ i _ => n0 - (intOf i).toNat)
      case atStart => exact ⟨0, Nat.zero_le _, rfl, mr, by simpa [pownX] using HG.out⟩
      case round =>
        obtain ⟨k, hk, rfl, mq, hGV⟩ := hrel
        obtain ⟨ad4, n4, cap4, rfl, hn4, hc4⟩ := hGV.open
        have HGV : Hid (GrowF w wr (.slice ad4 n4 cap4) (pownL (LL.take j) ++ pownX (xs.take k))) := hGV
        clear hGV
        have MR : Hid (Moves [] w wr) := mq
        by_cases hkt : k < n0
        · have hk3 : (k : Int) < n0 := by omega
          obtain ⟨x, hx⟩ : ∃ x, xs[k]? = some x := ⟨_, List.getElem?_eq_getElem (by have := HN0.out; omega)⟩
          obtain ⟨g5, off5, a5, n5, c5, rfl, y0, y1, en5, hC5⟩ := HN.out.at hx
          have z0 := (MW.out.then MR.out).cell y0
          have z1 := (MW.out.then MR.out).cell y1
          have HC5 : Hid (ColsAt W (.slice a5 n5 c5) x.r) := hC5
          have HX2 : Hid (xs[k]? = some x) := hx
          clear y0 y1 en5 hC5 hx
          go_wp2_with fail
          obtain ⟨wc, hwc⟩ : ∃ wc, wr.alloc (.cells #[.string x.name, .slice a5 n5 c5] 53) = wc := ⟨_, rfl⟩
          have mc : Moves [] wr wc := by rw [← hwc]; exact (Moves.refl _ _).alloc _
          have qc : wc.heap[wr.heap.size]? = some (.cells #[.string x.name, .slice a5 n5 c5] 53 (0, 0)) := by rw [← hwc]; exact heap_alloc_new _ _
          rw [hwc]
          obtain ⟨b0, b1⟩ := pair_cells qc
          clear hwc qc z0 z1
          have hnb : wr.heap.size ∉ (Value.slice ad4 n4 cap4).ownBlock.toList := by
            intro hm'
            obtain ⟨cur, hb'⟩ := HGV.out.blk (Option.mem_toList.1 hm')
            have := lt_of_block hb'
            omega
          have hbd : (pownL (LL.take j) ++ pownX (xs.take k)).length + [pown x].length ≤ 1048576 := by
            have e1 : (LL.take j).flatten.length + xs.length ≤ LL.flatten.length := by
              have e2 : LL.flatten = (LL.take j).flatten ++ (LL.drop j).flatten := by rw [← List.flatten_append, List.take_append_drop]
              have e3 : LL.drop j = xs :: LL.drop (j + 1) := by
                obtain ⟨h1, h2⟩ := List.getElem?_eq_some_iff.1 HX.out
                rw [← h2]
                exact List.drop_eq_getElem_cons h1
              rw [e2, e3]
              simp
            have := HB.out
            have := HN0.out
            have e4 : (pownL (LL.take j)).length = (LL.take j).flatten.length := by unfold pownL; rw [List.length_map]
            have e5 : (pownX (xs.take k)).length ≤ xs.length := by simp [pownX]; omega
            rw [List.length_append, e4]
            simp only [List.length_singleton]
            omega
          have MWc : Hid (Moves [] W wc) := (MW.out.then MR.out).then mc
          have HMr : Hid (w.heap.size ≤ wr.heap.size) := MR.out.size
          go_region_held3 (fun w' => w'.cell? ⟨wr.heap.size, 0, none⟩ = some (.string x.name) ∧ w'.cell? ⟨wr.heap.size, 1, none⟩ = some (.slice a5 n5 c5)) (first | exact ⟨m8.cellOf (m7.cell b0) hnb, m8.cellOf (m7.cell b1) hnb⟩ | exact ⟨(m5.alloc _).cell b0, (m5.alloc _).cell b1⟩ | exact ⟨m5.cell b0, m5.cell b1⟩ | exact ⟨b0, b1⟩) (first | (go_at_call 27; refine (copy_w W _ _ x.r ⟨_, rfl, HC5.out⟩ MWc.out.drew).mono ?_; rintro _ w5 ⟨lv5, rfl, hC6, m5'⟩; have m5 := ((Moves.refl [] wc).drew).then m5'; have hsl5 := hC6.open; obtain ⟨ad6, n6, c6, rfl, hn6⟩ := hsl5; have hvn := namsF_new (W := w) w5 (.string x.name) (.slice ad6 n6 c6) (pown x) ⟨_, rfl, fun kk hkk => Nat.le_trans (Nat.le_trans HMr.out mc.size) (hC6.1 kk hkk), hC6.2⟩; have m7 := m5.alloc (.cells #[.string x.name, .slice ad6 n6 c6] 53); have hG7 := HGV.out.moves0 (mc.then m7)) | (refine growF_step (.tmp 20) (.tmp 27) rfl _ _ (pownL (LL.take j) ++ pownX (xs.take k)) [pown x] rfl rfl (by rfl) hG7 hvn (Nat.le_trans HMr.out (mc.then m7).size) hbd ?_; intro v8 w8 hG8 m8 s8 l8))
          have e8 : pownL (LL.take j) ++ pownX (xs.take k) ++ [pown x] = pownL (LL.take j) ++ pownX (xs.take (k + 1)) := by rw [List.append_assoc]; unfold pownX; rw [take_map _ HX2.out]
          rw [e8] at hG8
          have M8 : Moves [] w w8 := (mq.then (mc.then m7)).trans m8 (fun b hb' => .inr (HGV.out.1 b (Option.mem_toList.1 hb')))
          go_wp2_with fail
          go_roundw
          case rel => exact ⟨k + 1, by omega, by go_num, M8, hG8⟩
          case measure => simp [intOf]; omega
        · have hk3 : ¬ (k : Int) < n0 := by omega
          obtain rfl : k = n0 := by omega
          have hGF := HGV.out
          have e9 : pownL (LL.take j) ++ pownX (xs.take k) = pownL (LL.take (j + 1)) := by
            rw [HN0.out, List.take_length, List.take_add_one, HX.out]
            simp [pownL, pownX]
          rw [e9] at hGF
          go_wp2_with fail
          go_roundw
          case rel => exact ⟨j + 1, by omega, by go_num, MR.out, hGF⟩
          case measure => simp [intOf]; omega
    · have hj3 : ¬ (j : Int) < nl := by omega
      obtain rfl : j = nl := by omega
      have hGF := HG.out
      rw [hmm.out, List.take_length] at hGF
      go_wp2_with fail
      go_ret
      exact ⟨_, _, _, rfl, hGF, mr⟩

set_option maxRecDepth 100000 in
set_option maxHeartbeats 4000000 in
theorem trange_f (W w : World) (p : Nat) (a : Option Nat) (xs : List Pnam) (lo hi : ByteArray) (most : Int) (h : TabIs W w p a xs) (hrise : RiseN xs) (hl : xs.length ≤ 1000) :
    Calls Try.prog 14 #[.pointer (some ⟨p, 0, none⟩), .string lo, .string hi, .int .i64 most] w fun e w' => ∃ ad n cap, e = .returned (.tuple #[.slice ad n cap, .string (pnext (pfil xs lo hi) (pmost most))]) ∧ GrowF w w' (.slice ad n cap) (pownX ((pfil xs lo hi).take (pmost most))) ∧ Moves [] w w' := by
  have hB := tbetween_w W w p a xs lo hi h hrise hl
  have hF := pfil_len xs lo hi
  obtain ⟨F, HF⟩ : ∃ F, Hid (pfil xs lo hi = F) := ⟨_, rfl⟩
  rw [HF.out] at hB hF ⊢
  obtain ⟨n, HN⟩ : ∃ n, Hid (n = F.length) := ⟨_, rfl⟩
  obtain ⟨k, HK⟩ : ∃ k, Hid (k = pmost most) := ⟨_, rfl⟩
  rw [← HK.out]
  have hk : min (max most 0) 16 = (k : Int) := by rw [HK.out]; unfold pmost; omega
  obtain ⟨K, hK⟩ : ∃ K : Nat, max most 0 = (K : Int) := ⟨(max most 0).toNat, by omega⟩
  have hkK : k = min K 16 := by omega
  have f0 : F.length ≤ 1000 := by omega
  clear h hk HK
  by_cases hkn : n ≤ k
  · have e1 : pnext F k = ByteArray.empty := by unfold pnext; rw [List.getElem?_eq_none (by have := HN.out; omega)]
    have e2 : F.take k = F := List.take_of_length_le (by have := HN.out; omega)
    have q1 : ¬ (16 : Int) < (n : Int) := by omega
    have q2 : ¬ (K : Int) < (n : Int) := by omega
    have q3 : (n : Int) ≤ 16 := by omega
    have q4 : (n : Int) ≤ (K : Int) := by omega
    rw [e1, e2]
    go_enter Try.func14, Try.ntmps14
    go_wp2_with (go_at_call 37; refine hB.mono ?_; rintro _ w3 ⟨ad3, n3, cap3, rfl, hN3, m3⟩; have HN3 : Hid (NamsAt w3 (.slice ad3 n3 cap3) F) := hN3; obtain rfl : n3 = n := (by have e := HN.out; have e5 := hN3.slice; obtain ⟨_, _, e6, _⟩ := e5; simp at e6; omega); clear hN3)
    all_goals
      refine (own_f w3 _ w3.heap.size [.slice ad3 n3 cap3] [F] (boxesW (Moves.refl [] _)).1 ⟨HN3.out, trivial⟩ ((Moves.refl [] w3).alloc _) (by simp; omega) 1 rfl (by omega)).mono ?_
      rintro _ w5 ⟨ad5, n5, cap5, rfl, hG5, m5⟩
      have m35 := (boxesW m5).2
      have HG5 : GrowF w w5 (.slice ad5 n5 cap5) (pownX F) := by
        have hq := (hG5.elder (W := w) (Nat.le_trans m3.size ((Moves.refl [] w3).alloc _).size))
        simpa [pownL, pownX] using hq
      clear hG5
      go_wp2_with fail
      go_ret2
      exact ⟨_, _, _, rfl, HG5, m3.then m35⟩
  · by_cases hK16 : K ≤ 16
    · obtain rfl : k = K := by omega
      clear hkK
      have f9 : F.length ≤ 1000 := by omega
      have f8 : k ≤ F.length := by have := HN.out; omega
      have f7 : [F.take k].flatten.length ≤ 1000 := by simp; omega
      obtain ⟨x, hx⟩ : ∃ x, F[k]? = some x := ⟨_, List.getElem?_eq_getElem (by have := HN.out; omega)⟩
      have e1 : pnext F k = x.name := by unfold pnext; rw [hx]
      rw [e1]
      have HX : Hid (F[k]? = some x) := hx
      clear hx
      have q1 : ¬ (16 : Int) < (k : Int) := by omega
      have q2 : (k : Int) < (n : Int) := by omega
      have q3 : ¬ ((k : Int) = (n : Int)) := by omega
      have q4 : (k : Int) ≤ 16 := by omega
      have q5 : (k : Int) ≤ (n : Int) := by omega
      go_enter Try.func14, Try.ntmps14
      go_wp2_with (go_at_call 37; refine hB.mono ?_; rintro _ w3 ⟨ad3, n3, cap3, rfl, hN3, m3⟩; have HN3 : Hid (NamsAt w3 (.slice ad3 n3 cap3) F) := hN3; obtain rfl : n3 = n := (by have e := HN.out; have e5 := hN3.slice; obtain ⟨_, _, e6, _⟩ := e5; simp at e6; omega); clear hN3; obtain ⟨g, off, a2, n2, c2, rfl, y0, _, _, _⟩ := HN3.out.at HX.out; have q6 : (k : Int) ≤ (cap3 : Int) := (by have e5 := HN3.out.slice; obtain ⟨_, _, e6, e7⟩ := e5; simp at e6; have := HN.out; omega))
      refine wp_region_noPanic ?_
      refine wp_region_held_drew (S := (fun w' => w'.cell? ⟨g, off + k * 2, none⟩ = some (.string x.name))) (by kernel_rfl) ?_ (fun hHeld => ?_)
      · first | (go_keep; done) | first | exact k4 | exact k3 | exact y0
      refine wpT 0 ⟨some 28, .move (.tmp 10), 27, "rows.go:68", #[], none⟩ ?_
      try simp only [Act.put, List.setIfInBounds_toArray, List.set_cons_zero, List.set_cons_succ]
      refine wpT 1 ⟨some 29, .move (.tmp 11), 3, "rows.go:68", #[], none⟩ ?_
      try simp only [Act.put, List.setIfInBounds_toArray, List.set_cons_zero, List.set_cons_succ]
      refine wpT 2 ⟨some 30, .slice 27 (.tmp 28) none (some (.tmp 29)) none, 27, "rows.go:68", #[⟨0, .data⟩, ⟨1, .data⟩], none⟩ ?_
      try simp only [Act.put, List.setIfInBounds_toArray, List.set_cons_zero, List.set_cons_succ]
      refine wpT 5 ⟨some 33, .move (.tmp 10), 27, "rows.go:68", #[{ on := 10, ground := Ground.gcOnly Departure.lateStores }], none⟩ ?_
      try simp only [Act.put, List.setIfInBounds_toArray, List.set_cons_zero, List.set_cons_succ]
      refine wpT 6 ⟨some 34, .move (.tmp 11), 3, "rows.go:68", #[{ on := 10, ground := Ground.gcOnly Departure.lateStores }], none⟩ ?_
      try simp only [Act.put, List.setIfInBounds_toArray, List.set_cons_zero, List.set_cons_succ]
      refine wpT 7 ⟨some 35, .indexAddr 27 (.tmp 33) (.tmp 34), 0, "rows.go:68", #[⟨5, .data⟩, ⟨6, .data⟩, { on := 10, ground := Ground.gcOnly Departure.lateStores }], none⟩ ?_
      try simp only [Act.put, List.setIfInBounds_toArray, List.set_cons_zero, List.set_cons_succ]
      refine wpT 8 ⟨some 36, .fieldAddr 53 (.tmp 35) 0, 0, "rows.go:68", #[⟨7, .data⟩, { on := 10, ground := Ground.gcOnly Departure.lateStores }], none⟩ ?_
      try simp only [Act.put, List.setIfInBounds_toArray, List.set_cons_zero, List.set_cons_succ]
      refine wpT 9 ⟨some 37, .load 9 (.tmp 36), 9, "rows.go:68", #[⟨8, .data⟩, { on := 10, ground := Ground.gcOnly Departure.lateStores }], none⟩ ?_
      try simp only [Act.put, List.setIfInBounds_toArray, List.set_cons_zero, List.set_cons_succ]
      refine wpAnyH_ready (rs := [3]) (by kernel_rfl) (by simp) ?_
      refine AllReadyH.cons (o := ⟨some 31, .buildSlice 101 1 #[(0, .tmp 30)], 101, "rows.go:68", #[⟨2, .data⟩], none⟩) rfl (fun K hK => ?_) AllReadyH.nil
      go_simp
      have m4 := (Moves.refl [] w3).drew.alloc (.cells #[.slice (some ⟨g, off, none⟩) k cap3] 27)
      have k3 := m4.cell y0
      refine hK.out _ _ ?_ (fun hHeld => ?_)
      · first | exact k4 | exact k3 | exact y0
      clear hK K
      try simp only [Act.put, List.setIfInBounds_toArray, List.set_cons_zero, List.set_cons_succ]
      refine wpAnyH_ready (rs := [4]) (by kernel_rfl) (by simp) ?_
      refine AllReadyH.cons (o := ⟨some 32, .call ⟨.value (.func 29), #[.tmp 31], #[101]⟩, 27, "rows.go:68", #[⟨3, .data⟩], none⟩) rfl (fun K hK => ?_) AllReadyH.nil
      go_simp
      (go_at_call 29; refine (own_f w3 _ w3.heap.size [.slice (some ⟨g, off, none⟩) k cap3] [F.take k] (heap_alloc_new w3.drew _) ⟨HN3.out.take k f8, trivial⟩ m4 f7 1 rfl (by decide)).mono ?_; rintro _ w5 ⟨ad5, n5, cap5, rfl, hG5, m5⟩)
      have m35 : Moves [] w3 w5 := m4.then m5
      have k4 := m35.cell y0
      have HG5 : Hid (GrowF w w5 (.slice ad5 n5 cap5) (pownX (F.take k))) := by
        have hq := (hG5.elder (W := w) (Nat.le_trans m3.size m4.size))
        unfold Hid
        simpa [pownL, pownX] using hq
      clear hG5
      refine hK.out _ _ ?_ (fun hHeld => ?_)
      · first | exact k4 | exact k3 | exact y0
      clear hK K
      try simp only [Act.put, List.setIfInBounds_toArray, List.set_cons_zero, List.set_cons_succ]
      refine wpT 10 ⟨some 8, .assign (.tmp 32), 27, "rows.go:68", #[⟨4, .data⟩, ⟨4, .chain⟩, ⟨0, .phase⟩, ⟨1, .phase⟩, ⟨2, .phase⟩, ⟨3, .phase⟩, ⟨4, .phase⟩, { on := 5, ground := Ground.textOnly Departure.lateStores }, { on := 6, ground := Ground.textOnly Departure.lateStores }, { on := 7, ground := Ground.textOnly Departure.lateStores }, { on := 8, ground := Ground.textOnly Departure.lateStores }, { on := 9, ground := Ground.textOnly Departure.lateStores }], none⟩ ?_
      try simp only [Act.put, List.setIfInBounds_toArray, List.set_cons_zero, List.set_cons_succ]
      refine wpT 11 ⟨some 9, .assign (.tmp 37), 9, "rows.go:68", #[⟨9, .data⟩, ⟨10, .chain⟩, ⟨0, .phase⟩, ⟨1, .phase⟩, ⟨2, .phase⟩, ⟨3, .phase⟩, ⟨4, .phase⟩, ⟨5, .phase⟩, ⟨6, .phase⟩, ⟨7, .phase⟩, ⟨8, .phase⟩, ⟨9, .phase⟩, ⟨10, .phase⟩], none⟩ ?_
      try simp only [Act.put, List.setIfInBounds_toArray, List.set_cons_zero, List.set_cons_succ]
      refine wpAnyH_done (by kernel_rfl) ?_ _
      refine NoPanic.normal ?_
      go_wp2_with fail
      go_ret2
      exact ⟨_, _, _, rfl, HG5.out, m3.then m35⟩
    · obtain rfl : k = 16 := by omega
      clear hkK
      have f9 : F.length ≤ 1000 := by omega
      have f8 : 16 ≤ F.length := by have := HN.out; omega
      have f7 : [F.take 16].flatten.length ≤ 1000 := by simp; omega
      obtain ⟨x, hx⟩ : ∃ x, F[16]? = some x := ⟨_, List.getElem?_eq_getElem (by have := HN.out; omega)⟩
      have e1 : pnext F 16 = x.name := by unfold pnext; rw [hx]
      rw [e1]
      have HX : Hid (F[16]? = some x) := hx
      clear hx
      have q1 : (16 : Int) < (K : Int) := by omega
      have q2 : (16 : Int) < (n : Int) := by omega
      have q3 : ¬ ((16 : Int) = (n : Int)) := by omega
      have q4 : ¬ (K : Int) ≤ 16 := by omega
      have q5 : (16 : Int) ≤ (n : Int) := by omega
      go_enter Try.func14, Try.ntmps14
      go_wp2_with (go_at_call 37; refine hB.mono ?_; rintro _ w3 ⟨ad3, n3, cap3, rfl, hN3, m3⟩; have HN3 : Hid (NamsAt w3 (.slice ad3 n3 cap3) F) := hN3; obtain rfl : n3 = n := (by have e := HN.out; have e5 := hN3.slice; obtain ⟨_, _, e6, _⟩ := e5; simp at e6; omega); clear hN3; obtain ⟨g, off, a2, n2, c2, rfl, y0, _, _, _⟩ := HN3.out.at HX.out; have q6 : (16 : Int) ≤ (cap3 : Int) := (by have e5 := HN3.out.slice; obtain ⟨_, _, e6, e7⟩ := e5; simp at e6; have := HN.out; omega))
      refine wp_region_noPanic ?_
      refine wp_region_held_drew (S := (fun w' => w'.cell? ⟨g, off + 16 * 2, none⟩ = some (.string x.name))) (by kernel_rfl) ?_ (fun hHeld => ?_)
      · first | (go_keep; done) | first | exact k4 | exact k3 | exact y0
      refine wpT 0 ⟨some 28, .move (.tmp 10), 27, "rows.go:68", #[], none⟩ ?_
      try simp only [Act.put, List.setIfInBounds_toArray, List.set_cons_zero, List.set_cons_succ]
      refine wpT 1 ⟨some 29, .move (.tmp 11), 3, "rows.go:68", #[], none⟩ ?_
      try simp only [Act.put, List.setIfInBounds_toArray, List.set_cons_zero, List.set_cons_succ]
      refine wpT 2 ⟨some 30, .slice 27 (.tmp 28) none (some (.tmp 29)) none, 27, "rows.go:68", #[⟨0, .data⟩, ⟨1, .data⟩], none⟩ ?_
      try simp only [Act.put, List.setIfInBounds_toArray, List.set_cons_zero, List.set_cons_succ]
      refine wpT 5 ⟨some 33, .move (.tmp 10), 27, "rows.go:68", #[{ on := 10, ground := Ground.gcOnly Departure.lateStores }], none⟩ ?_
      try simp only [Act.put, List.setIfInBounds_toArray, List.set_cons_zero, List.set_cons_succ]
      refine wpT 6 ⟨some 34, .move (.tmp 11), 3, "rows.go:68", #[{ on := 10, ground := Ground.gcOnly Departure.lateStores }], none⟩ ?_
      try simp only [Act.put, List.setIfInBounds_toArray, List.set_cons_zero, List.set_cons_succ]
      refine wpT 7 ⟨some 35, .indexAddr 27 (.tmp 33) (.tmp 34), 0, "rows.go:68", #[⟨5, .data⟩, ⟨6, .data⟩, { on := 10, ground := Ground.gcOnly Departure.lateStores }], none⟩ ?_
      try simp only [Act.put, List.setIfInBounds_toArray, List.set_cons_zero, List.set_cons_succ]
      refine wpT 8 ⟨some 36, .fieldAddr 53 (.tmp 35) 0, 0, "rows.go:68", #[⟨7, .data⟩, { on := 10, ground := Ground.gcOnly Departure.lateStores }], none⟩ ?_
      try simp only [Act.put, List.setIfInBounds_toArray, List.set_cons_zero, List.set_cons_succ]
      refine wpT 9 ⟨some 37, .load 9 (.tmp 36), 9, "rows.go:68", #[⟨8, .data⟩, { on := 10, ground := Ground.gcOnly Departure.lateStores }], none⟩ ?_
      try simp only [Act.put, List.setIfInBounds_toArray, List.set_cons_zero, List.set_cons_succ]
      refine wpAnyH_ready (rs := [3]) (by kernel_rfl) (by simp) ?_
      refine AllReadyH.cons (o := ⟨some 31, .buildSlice 101 1 #[(0, .tmp 30)], 101, "rows.go:68", #[⟨2, .data⟩], none⟩) rfl (fun K hK => ?_) AllReadyH.nil
      go_simp
      have m4 := (Moves.refl [] w3).drew.alloc (.cells #[.slice (some ⟨g, off, none⟩) 16 cap3] 27)
      have k3 := m4.cell y0
      refine hK.out _ _ ?_ (fun hHeld => ?_)
      · first | exact k4 | exact k3 | exact y0
      clear hK K
      try simp only [Act.put, List.setIfInBounds_toArray, List.set_cons_zero, List.set_cons_succ]
      refine wpAnyH_ready (rs := [4]) (by kernel_rfl) (by simp) ?_
      refine AllReadyH.cons (o := ⟨some 32, .call ⟨.value (.func 29), #[.tmp 31], #[101]⟩, 27, "rows.go:68", #[⟨3, .data⟩], none⟩) rfl (fun K hK => ?_) AllReadyH.nil
      go_simp
      (go_at_call 29; refine (own_f w3 _ w3.heap.size [.slice (some ⟨g, off, none⟩) 16 cap3] [F.take 16] (heap_alloc_new w3.drew _) ⟨HN3.out.take 16 f8, trivial⟩ m4 f7 1 rfl (by decide)).mono ?_; rintro _ w5 ⟨ad5, n5, cap5, rfl, hG5, m5⟩)
      have m35 : Moves [] w3 w5 := m4.then m5
      have k4 := m35.cell y0
      have HG5 : Hid (GrowF w w5 (.slice ad5 n5 cap5) (pownX (F.take 16))) := by
        have hq := (hG5.elder (W := w) (Nat.le_trans m3.size m4.size))
        unfold Hid
        simpa [pownL, pownX] using hq
      clear hG5
      refine hK.out _ _ ?_ (fun hHeld => ?_)
      · first | exact k4 | exact k3 | exact y0
      clear hK K
      try simp only [Act.put, List.setIfInBounds_toArray, List.set_cons_zero, List.set_cons_succ]
      refine wpT 10 ⟨some 8, .assign (.tmp 32), 27, "rows.go:68", #[⟨4, .data⟩, ⟨4, .chain⟩, ⟨0, .phase⟩, ⟨1, .phase⟩, ⟨2, .phase⟩, ⟨3, .phase⟩, ⟨4, .phase⟩, { on := 5, ground := Ground.textOnly Departure.lateStores }, { on := 6, ground := Ground.textOnly Departure.lateStores }, { on := 7, ground := Ground.textOnly Departure.lateStores }, { on := 8, ground := Ground.textOnly Departure.lateStores }, { on := 9, ground := Ground.textOnly Departure.lateStores }], none⟩ ?_
      try simp only [Act.put, List.setIfInBounds_toArray, List.set_cons_zero, List.set_cons_succ]
      refine wpT 11 ⟨some 9, .assign (.tmp 37), 9, "rows.go:68", #[⟨9, .data⟩, ⟨10, .chain⟩, ⟨0, .phase⟩, ⟨1, .phase⟩, ⟨2, .phase⟩, ⟨3, .phase⟩, ⟨4, .phase⟩, ⟨5, .phase⟩, ⟨6, .phase⟩, ⟨7, .phase⟩, ⟨8, .phase⟩, ⟨9, .phase⟩, ⟨10, .phase⟩], none⟩ ?_
      try simp only [Act.put, List.setIfInBounds_toArray, List.set_cons_zero, List.set_cons_succ]
      refine wpAnyH_done (by kernel_rfl) ?_ _
      refine NoPanic.normal ?_
      go_wp2_with fail
      go_ret2
      exact ⟨_, _, _, rfl, HG5.out, m3.then m35⟩
end Go.Proofs.Ytcngllcifcpbkaa
