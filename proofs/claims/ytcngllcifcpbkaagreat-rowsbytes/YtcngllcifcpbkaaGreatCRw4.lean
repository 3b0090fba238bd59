/- ours -/
import Derived.Test.YtcngllcifcpbkaaGreatCBaseY
import Derived.Test.YtcngllcifcpbkaaGreatCBaseW
import Derived.Test.YtcngllcifcpbkaaGreatCBaseX
namespace Go.Proofs.YtcngllcifcpbkaaGreat
open Go.RowKit

theorem own_empty1 (w : World) (o : Obj) : Own ((w.alloc o).alloc (.cells #[] 5)) (.slice (some ⟨w.heap.size + 1, 0, none⟩) 0 0) [] := by
 have := own_empty (w.alloc o)
 simpa using this
theorem has_new1 (w : World) (o : Obj) (b : Nat) : IsB ((w.alloc o).alloc (.cells #[.int .u8 (b : Int)] 5)) (w.heap.size + 1) (.slice (some ⟨w.heap.size + 1, 0, none⟩) 1 1) [b] := by
 have := has_new (w.alloc o) b
 simpa using this
theorem fresh_at (W : World) (g n cap : Nat) (h : W.heap.size ≤ g) : Fresh W (.slice (some ⟨g, 0, none⟩) n cap) := fun k hk => by simp [Value.ownBlock] at hk; omega
theorem own_append_wp {o : Oper} {a : Act} {K : Act → World → Prop} {Q : Exit → Act → World → Prop} {w : World} (s x : Operand)
  (ho : o.op = .call { callee := .builtin .append, args := #[s, x], argTypes := #[40, 40] })
  (v xv : Value) (bs cs : List Nat) (g : Nat) (hs : a.eval s = v) (hx : a.eval x = xv)
  (hv : Own w v bs) (hc : IsB w g xv cs) (hb : bs.length + cs.length ≤ 1099511627776)
  (h : ∀ v' w', Own w' v' (bs ++ cs) → Moves v.ownBlock.toList w w' → Lain w v v' → K (a.put o.dst v') w') : o.wp Tryz.prog a w K Q := by
 obtain ⟨i0, hi, hz0, hz1, hz2⟩ := info_parts Tryz.info5
 obtain ⟨ad, n, cap, rfl, rfl, hle, hnil, hhas⟩ := hc
 have fin : ∀ v' w', w'.ownsRow 0 5 1 v' (bs.length + cs.length) (u8s bs ++ u8s cs) → w.grownBy w' v.ownBlock → Lain w v v' → K (a.put o.dst v') w' := by
  intro v' w' h1 h2 h3
  refine h v' w' ?_ ((Moves.refl _ _).grown h2 (fun k hk => .inl (by rw [hk]; simp))) h3
  unfold Own
  rw [u8s_append, List.length_append]
  exact h1
 cases ad with
 | none =>
  obtain rfl : cap = 0 := hnil rfl
  have h0 : cs.length = 0 := by omega
  obtain rfl : cs = [] := List.eq_nil_of_length_eq_zero h0
  have hrun := run_append_owned_none (P := Tryz.prog) (w := w) 0 40 o.type 5 i0 1 Tryz.underlying40 hi v bs.length (u8s bs) hv
  unfold Oper.wp
  simp [execOp, ho, resolve, invoke, builtin, hs, hx, hrun, Result.andThen]
  exact fin v w (by simpa [u8s, Own] using hv) (World.grownBy.refl _ _) (.inl rfl)
 | some y =>
  obtain ⟨v', w', hr, g1, g2, _, g4⟩ := run_append_own_at (P := Tryz.prog) w 0 40 o.type 5 i0 (.int .u8 0) 1 1 Tryz.underlying40 hi hz0 hz1 hz2 rfl (by omega) v bs.length (u8s bs) hv y cs.length cap (u8s cs) (by simp [u8s]) (by
   intro j u hj
   obtain ⟨b, hjb, rfl⟩ := u8s_get hj
   rcases hhas with rfl | ⟨off, hy, hcell⟩
   ·simp at hjb
   ·simp only [Option.some.injEq] at hy
    subst hy
    have := hcell j b hjb
    have e : (⟨g, off, none⟩ : Addr).add j = ⟨g, off + j, none⟩ := by unfold Addr.add; split <;> simp_all
    rw [e]; exact this) (u8s_one cs) (by unfold maxLen; omega) (by omega) (Nat.zero_le _)
  unfold Oper.wp execOp
  simp only [ho, resolve, invoke, builtin, Sem.run_bind, Sem.run_pure, Result.andThen_ok, List.map_toArray, List.map_cons, List.map_nil, hs, hx, hr]
  exact fin v' w' g1 g2 g4
theorem wpOpP_append {ops : Array Oper} {o : Oper} {a : Act} {K : Act → World → Prop} {Q : Exit → Act → World → Prop} {w : World} (s x : Operand)
  (ho : o.op = .call { callee := .builtin .append, args := #[s, x], argTypes := #[40, 40] })
  (v xv : Value) (bs cs : List Nat) (g : Nat) (hs : a.eval s = v) (hx : a.eval x = xv) (hw : Region.wanted o (yielded ops a.tmps) = true)
  (hv : Own w v bs) (hc : IsB w g xv cs) (hb : bs.length + cs.length ≤ 1099511627776)
  (h : ∀ v' w', Own w' v' (bs ++ cs) → Moves v.ownBlock.toList w w' → Lain w v v' → K (a.put o.dst v') w') :
  if Region.wanted o (yielded ops a.tmps) then o.wp Tryz.prog a w K Q else K (a.put o.dst undef) w := by
 rw [if_pos hw]
 exact own_append_wp s x ho v xv bs cs g hs hx hv hc hb h
theorem refPutV_w (W w : World) (v : Value) (bs : List Nat) (k : Int) (ad : Option Addr) (len cap n : Nat) (x : Pv) (hO : Own w v bs) (h : VA W [.int .i64 k, .slice ad len cap, .float .f64 n] x) (m : Moves [] W w) (hb : bs.length + 2000010 ≤ 1099511627776) :
  Calls Tryz.prog 72 #[v, .agg #[.int .i64 k, .slice ad len cap, .float .f64 n]] w fun e w' => ∃ v', e = .returned v' ∧ Own w' v' (bs ++ penc x) ∧ Moves [] w w' ∧ Fresh w v' := by
 obtain ⟨g', hV, hl⟩ := h.vis
 obtain ⟨e0, hI⟩ := hV
 exact rPut_v v _ bs _ _ _ w e0 hO.isB (hI.moves m (by simp)) hb hl (by rw [venc_p])

theorem pright_enc (R : List Pcol) : pencCs (R.map pcanonC) = pencCs R := by
 unfold pencCs
 rw [List.map_map]
 congr 1
 exact List.map_congr_left fun x _ => pencC_canon x
theorem canon_good {R : List Pcol} (hr : pright R = true) : ∀ c ∈ R.map pcanonC, pname c.name = true ∧ (∀ y ∈ c.l, ptime y.t = true ∧ pvr y.v = true) ∧ c.l.length ≤ 2 := by
 intro c hc
 obtain ⟨x, hx, rfl⟩ := List.mem_map.1 hc
 obtain ⟨h1, h2⟩ := pright_at hr hx
 refine ⟨h1, ?_, ?_⟩
 ·intro y hy
  obtain ⟨z, hz, rfl⟩ := List.mem_map.1 hy
  have := prightV_time h2 z hz
  refine ⟨this.1, ?_⟩
  have h3 := this.2
  show pvr (pcanon z.v) = true
  unfold pvr vright at h3 ⊢
  simp only [Pv.vm, Bool.or_eq_true, Bool.and_eq_true, beq_iff_eq] at h3 ⊢
  rcases h3 with ⟨k1, k2⟩ | k1
  ·have e : kd z.v.kind = 1 := by rw [k1]; decide
   exact .inl ⟨by show kd z.v.kind = 1; exact e, decide_eq_true (by show (if kd z.v.kind = 1 then z.v.bs else []).length ≤ 16; rw [if_pos e]; exact of_decide_eq_true k2)⟩
  ·exact .inr (by show kd z.v.kind = 2; rw [k1]; decide)
 ·show (x.l.map pcanonV).length ≤ 2
  rw [List.length_map]
  exact (prightV_two h2).2

set_option maxRecDepth 100000 in
set_option maxHeartbeats 8000000 in
theorem refWrite_w (W w : World) (bv : Value) (g : Nat) (bs : List Nat) (v : Value) (R : List Pcol) (hb : IsB w g bv bs) (hl : bs.length ≤ 900000) (h : RowAt W v R) (m : Moves [] W w) (hr : pright R = true) :
  Calls Tryz.prog 40 #[bv, v] w fun e w' => ∃ ad n cap, e = .returned (.slice ad n cap) ∧ Own w' (.slice ad n cap) (bs ++ pencR R) ∧ Moves [] w w' ∧ Fresh w (.slice ad n cap) := by
 have h0 := h
 obtain ⟨lv, rfl, hlv⟩ := h
 obtain ⟨ad, cap, rfl, hc⟩ := hlv.slice
 obtain ⟨adb, nb, capb, rfl, _⟩ := id hb
 have HB : Hid (IsB w g (.slice adb nb capb) bs) := hb
 obtain ⟨Z, hZ⟩ : ∃ Z, Hid (R.map pcanonC = Z) := ⟨_, rfl⟩
 have HZG : Hid (∀ c ∈ Z, pname c.name = true ∧ (∀ y ∈ c.l, ptime y.t = true ∧ pvr y.v = true) ∧ c.l.length ≤ 2) := by unfold Hid; rw [← hZ.out]; exact canon_good hr
 have hZ4 : Z.length ≤ 4 := by rw [← hZ.out, List.length_map]; exact pright_len4 hr
 have HFIN : Hid (bs ++ pencR R = bs ++ [Z.length] ++ pencCs Z) := by
  show bs ++ pencR R = _
  unfold pencR
  rw [← pright_enc R, hZ.out, ← hZ.out, List.length_map]
  simp
 have hcp := fun w1 (m1 : Moves [] W w1) => refCopy_yes W w1 _ R h0 m1 hr
 rw [hZ.out] at hcp
 have mW1 : Moves [] W (w.alloc (.cells #[.slice ad R.length cap] 52)) := m.alloc _
 have q0 := heap_alloc_new w (.cells #[.slice ad R.length cap] 52)
 clear h0 hlv hb hr hc
 go_enter Tryz.func40, Tryz.ntmps40
 go_wp2_with (go_at_call 71; refine (hcp _ mW1).mono ?_; rintro _ w2 ⟨ad2, n2, cap2, rfl, hG2, m2, _⟩; have q2 := m2.at q0 (by simp); obtain ⟨c0, c1⟩ := one_cell q2)
 have M2 : Moves [] w w2 := ((Moves.refl [] w).alloc _).then m2
 have hs2 : w.heap.size < w2.heap.size := lt_of_block q2
 obtain ⟨w3, hw3⟩ : ∃ w3, w2.setCell ⟨w.heap.size, 0, none⟩ (.slice ad2 n2 cap2) = w3 := ⟨_, rfl⟩
 have q3 : w3.heap[w.heap.size]? = some (.cells #[.slice ad2 n2 cap2] 52 (0, 0)) := by rw [← hw3]; exact set_one q2 _
 have M3 : Moves [] w w3 := by rw [← hw3]; exact M2.setCell (.inr (Nat.le_refl _)) _
 have hCA : ColsAt w3 (.slice ad2 n2 cap2) Z := by
  rw [← hw3]
  have st : Stay (fun t => t ≠ 52) w2 (w2.setCell ⟨w.heap.size, 0, none⟩ (.slice ad2 n2 cap2)) := Stay.set q2 (by simp) _
  obtain ⟨css, k1, k2⟩ := hG2.at
  exact ⟨css, k1.stay st (by decide), k2.mono fun _ _ k => k.stay st (by decide) (by decide)⟩
 have hB3 : IsB w3 g (.slice adb nb capb) bs := HB.out.moves M3 (by simp)
 have Hn2 : Hid (n2 = Z.length) := by
  obtain ⟨_, _, e, _⟩ := hG2.slice
  simp at e
  exact e.2.1
 rw [hw3]
 have HCA : Hid (ColsAt w3 (.slice ad2 n2 cap2) Z) := hCA
 have hn24 : n2 ≤ 4 := by rw [Hn2.out]; exact hZ4
 have hn24' : (n2 : Int) < 256 := by omega
 have hwn2 : IntKind.u8.wrap (n2 : Int) = (n2 : Int) := by rw [IntKind.wrap_u8]; omega
 obtain ⟨b0, b1⟩ := one_cell q3
 clear hw3 hcp hG2 q0 q2 c0 c1 hCA mW1 m2 M2 hs2 HB
 have hl1 : ([] : List Nat).length + bs.length ≤ 1099511627776 := by rw [List.length_nil]; omega
 have hl2 : bs.length + [n2].length ≤ 1099511627776 := by rw [List.length_singleton]; omega
 go_wp2_with fail
 refine wp_some [9, 10, 11, 12, 13, 14, 15, 16, 17, 0] (fun u w' => ∃ ad n cap, u 0 = .slice ad n cap ∧ Own w' (.slice ad n cap) (bs ++ [n2]) ∧ Moves [] w3 w' ∧ Fresh w3 (.slice ad n cap)) ?_ ?_
 ·skip
  have hS : ∀ w', Moves [] w3 w' → w'.cell? ⟨w.heap.size, 0, none⟩ = some (.slice ad2 n2 cap2) := fun w' m' => m'.cell b0
  have md : Moves [] w3 w3.drew := (Moves.refl _ _).drew
  refine wp_region_noPanic ?_
  refine wp_region_held_drew (S := (fun w' => w'.cell? ⟨w.heap.size, 0, none⟩ = some (.slice ad2 n2 cap2))) (by kernel_rfl) ?_ (fun hHeld => ?_)
  ·first | (go_keep; done) | (refine hS _ ?_; first | with_reducible assumption | exact Moves.alloc (by with_reducible assumption) _ | exact Moves.alloc (Moves.alloc (by with_reducible assumption) _) _)
  generalize w3.drew = wd at *
  refine wpT 1 ⟨some 10, .move (.tmp 0), 40, "ref.go:148", #[], none⟩ ?_
  refine wpT 3 ⟨some 12, .fieldAddr 52 (.tmp 3) 0, 0, "ref.go:148", #[], none⟩ ?_
  refine wpT 4 ⟨some 13, .load 50 (.tmp 12), 50, "ref.go:148", #[⟨3, .data⟩], none⟩ ?_
  refine wpT 5 ⟨some 14, .call ⟨.builtin .len, #[.tmp 13], #[50]⟩, 3, "ref.go:148", #[⟨4, .data⟩], none⟩ ?_
  refine wpT 6 ⟨some 15, .convert 3 5 (.tmp 14), 5, "ref.go:148", #[⟨5, .data⟩], none⟩ ?_
  refine wpAnyH_ready (rs := [0, 7]) (by kernel_rfl) (by simp) ?_
  refine AllReadyH.cons (o := ⟨some 9, .buildSlice 40 0 #[], 40, "ref.go:148", #[], none⟩) rfl (fun K hK => ?_) (AllReadyH.cons (o := ⟨some 16, .buildSlice 40 1 #[(0, .tmp 15)], 40, "ref.go:148", #[⟨6, .data⟩], none⟩) rfl (fun K hK => ?_) AllReadyH.nil)
  ·go_simp
   refine hK.out _ _ ?_ (fun hHeld => ?_)
   ·(refine hS _ ?_; first | with_reducible assumption | exact Moves.alloc (by with_reducible assumption) _ | exact Moves.alloc (Moves.alloc (by with_reducible assumption) _) _)
   clear hK K
   refine wpAnyH_ready (rs := [2, 7]) (by kernel_rfl) (by simp) ?_
   refine AllReadyH.cons (o := ⟨some 11, .call ⟨.builtin .append, #[.tmp 9, .tmp 10], #[40, 40]⟩, 40, "ref.go:148", #[⟨0, .data⟩, ⟨1, .data⟩], none⟩) rfl (fun K hK => ?_) (AllReadyH.cons (o := ⟨some 16, .buildSlice 40 1 #[(0, .tmp 15)], 40, "ref.go:148", #[⟨6, .data⟩], none⟩) rfl (fun K hK => ?_) AllReadyH.nil)
   ·refine wpOpP_append (.tmp 9) (.tmp 10) rfl (.slice (some ⟨wd.heap.size, 0, none⟩) 0 0) _ [] bs g rfl rfl rfl (own_empty wd) (hB3.moves (md.alloc _) (by simp)) hl1 ?_
    intro v2 w2 hO2 m2 l2
    rw [List.nil_append] at hO2
    obtain ⟨M2, f2⟩ := appended (md.alloc _) (fresh_at w3 _ _ _ (by have := md.size; omega)) m2 l2
    have hI2 := hO2.isB
    obtain ⟨ad2', n2', cap2', rfl, _⟩ := hI2
    refine hK.out _ _ ?_ (fun hHeld => ?_)
    ·(refine hS _ ?_; first | with_reducible assumption | exact Moves.alloc (by with_reducible assumption) _ | exact Moves.alloc (Moves.alloc (by with_reducible assumption) _) _)
    clear hK K
    try simp only [Act.put, sp1, sp2, sp3]
    refine wpR 7 ⟨some 16, .buildSlice 40 1 #[(0, .tmp 15)], 40, "ref.go:148", #[⟨6, .data⟩], none⟩ (fun K hK => ?_)
    go_simp
    refine hK.out _ _ ?_ (fun hHeld => ?_)
    ·(refine hS _ ?_; first | with_reducible assumption | exact Moves.alloc (by with_reducible assumption) _ | exact Moves.alloc (Moves.alloc (by with_reducible assumption) _) _)
    clear hK K
    try simp only [Act.put, sp1, sp2, sp3]
    refine wpR 8 ⟨some 17, .call ⟨.builtin .append, #[.tmp 11, .tmp 16], #[40, 40]⟩, 40, "ref.go:148", #[⟨2, .data⟩, ⟨7, .data⟩, ⟨2, .chain⟩], none⟩ (fun K hK => ?_)
    refine wpOpP_append (.tmp 11) (.tmp 16) rfl _ _ bs [n2] w2.heap.size rfl rfl rfl (hO2.moves ((Moves.refl [] _).alloc _) (by simp)) (has_new w2 n2) hl2 ?_
    intro v8 w8 hO8 m8 l8
    obtain ⟨M8, f8⟩ := appended (M2.alloc _) f2 m8 l8
    have hI8 := hO8.isB
    obtain ⟨ad8, n8, cap8, rfl, _⟩ := hI8
    refine hK.out _ _ ?_ (fun hHeld => ?_)
    ·(refine hS _ ?_; first | with_reducible assumption | exact Moves.alloc (by with_reducible assumption) _ | exact Moves.alloc (Moves.alloc (by with_reducible assumption) _) _)
    clear hK K
    try simp only [Act.put, sp1, sp2, sp3]
    refine wpT 9 ⟨some 0, .assign (.tmp 17), 40, "ref.go:148", #[⟨8, .data⟩, ⟨8, .chain⟩, ⟨0, .phase⟩, ⟨1, .phase⟩, ⟨2, .phase⟩, ⟨3, .phase⟩, ⟨4, .phase⟩, ⟨5, .phase⟩, ⟨6, .phase⟩, ⟨7, .phase⟩, ⟨8, .phase⟩], none⟩ ?_
    refine wpAnyH_done (by kernel_rfl) ?_ _
    refine NoPanic.normal ?_
    exact ⟨rfl, by kernel_rfl, _, _, _, rfl, hO8, M8, f8⟩
   ·go_simp
    refine hK.out _ _ ?_ (fun hHeld => ?_)
    ·(refine hS _ ?_; first | with_reducible assumption | exact Moves.alloc (by with_reducible assumption) _ | exact Moves.alloc (Moves.alloc (by with_reducible assumption) _) _)
    clear hK K
    refine wpR 2 ⟨some 11, .call ⟨.builtin .append, #[.tmp 9, .tmp 10], #[40, 40]⟩, 40, "ref.go:148", #[⟨0, .data⟩, ⟨1, .data⟩], none⟩ (fun K hK => ?_)
    refine wpOpP_append (.tmp 9) (.tmp 10) rfl (.slice (some ⟨wd.heap.size, 0, none⟩) 0 0) _ [] bs g rfl rfl rfl ((own_empty wd).moves ((Moves.refl [] _).alloc _) (by simp)) (hB3.moves ((md.alloc _).alloc _) (by simp)) hl1 ?_
    intro v2 w2 hO2 m2 l2
    rw [List.nil_append] at hO2
    obtain ⟨M2, f2⟩ := appended ((md.alloc _).alloc _) (fresh_at w3 _ _ _ (by have := md.size; omega)) m2 l2
    have hI2 := hO2.isB
    obtain ⟨ad2', n2', cap2', rfl, _⟩ := hI2
    have hN2 := (has_new1 wd (.cells #[] 5) n2).moves m2 (by simp [Value.ownBlock])
    refine hK.out _ _ ?_ (fun hHeld => ?_)
    ·(refine hS _ ?_; first | with_reducible assumption | exact Moves.alloc (by with_reducible assumption) _ | exact Moves.alloc (Moves.alloc (by with_reducible assumption) _) _)
    clear hK K
    try simp only [Act.put, sp1, sp2, sp3]
    refine wpR 8 ⟨some 17, .call ⟨.builtin .append, #[.tmp 11, .tmp 16], #[40, 40]⟩, 40, "ref.go:148", #[⟨2, .data⟩, ⟨7, .data⟩, ⟨2, .chain⟩], none⟩ (fun K hK => ?_)
    refine wpOpP_append (.tmp 11) (.tmp 16) rfl _ _ bs [n2] (wd.heap.size + 1) rfl rfl rfl hO2 hN2 hl2 ?_
    intro v8 w8 hO8 m8 l8
    obtain ⟨M8, f8⟩ := appended M2 f2 m8 l8
    have hI8 := hO8.isB
    obtain ⟨ad8, n8, cap8, rfl, _⟩ := hI8
    refine hK.out _ _ ?_ (fun hHeld => ?_)
    ·(refine hS _ ?_; first | with_reducible assumption | exact Moves.alloc (by with_reducible assumption) _ | exact Moves.alloc (Moves.alloc (by with_reducible assumption) _) _)
    clear hK K
    try simp only [Act.put, sp1, sp2, sp3]
    refine wpT 9 ⟨some 0, .assign (.tmp 17), 40, "ref.go:148", #[⟨8, .data⟩, ⟨8, .chain⟩, ⟨0, .phase⟩, ⟨1, .phase⟩, ⟨2, .phase⟩, ⟨3, .phase⟩, ⟨4, .phase⟩, ⟨5, .phase⟩, ⟨6, .phase⟩, ⟨7, .phase⟩, ⟨8, .phase⟩], none⟩ ?_
    refine wpAnyH_done (by kernel_rfl) ?_ _
    refine NoPanic.normal ?_
    exact ⟨rfl, by kernel_rfl, _, _, _, rfl, hO8, M8, f8⟩
  ·go_simp
   refine hK.out _ _ ?_ (fun hHeld => ?_)
   ·(refine hS _ ?_; first | with_reducible assumption | exact Moves.alloc (by with_reducible assumption) _ | exact Moves.alloc (Moves.alloc (by with_reducible assumption) _) _)
   clear hK K
   refine wpR 0 ⟨some 9, .buildSlice 40 0 #[], 40, "ref.go:148", #[], none⟩ (fun K hK => ?_)
   go_simp
   refine hK.out _ _ ?_ (fun hHeld => ?_)
   ·(refine hS _ ?_; first | with_reducible assumption | exact Moves.alloc (by with_reducible assumption) _ | exact Moves.alloc (Moves.alloc (by with_reducible assumption) _) _)
   clear hK K
   refine wpR 2 ⟨some 11, .call ⟨.builtin .append, #[.tmp 9, .tmp 10], #[40, 40]⟩, 40, "ref.go:148", #[⟨0, .data⟩, ⟨1, .data⟩], none⟩ (fun K hK => ?_)
   refine wpOpP_append (.tmp 9) (.tmp 10) rfl (.slice (some ⟨(wd.heap.size + 1), 0, none⟩) 0 0) _ [] bs g rfl rfl rfl (own_empty1 wd (.cells #[.int .u8 (n2 : Int)] 5)) (hB3.moves ((md.alloc _).alloc _) (by simp)) hl1 ?_
   intro v2 w2 hO2 m2 l2
   rw [List.nil_append] at hO2
   obtain ⟨M2, f2⟩ := appended ((md.alloc _).alloc _) (fresh_at w3 _ _ _ (by have := md.size; omega)) m2 l2
   have hI2 := hO2.isB
   obtain ⟨ad2', n2', cap2', rfl, _⟩ := hI2
   have hN2 := ((has_new wd n2).moves ((Moves.refl [] _).alloc (.cells #[] 5)) (by simp)).moves m2 (by simp [Value.ownBlock])
   refine hK.out _ _ ?_ (fun hHeld => ?_)
   ·(refine hS _ ?_; first | with_reducible assumption | exact Moves.alloc (by with_reducible assumption) _ | exact Moves.alloc (Moves.alloc (by with_reducible assumption) _) _)
   clear hK K
   try simp only [Act.put, sp1, sp2, sp3]
   refine wpR 8 ⟨some 17, .call ⟨.builtin .append, #[.tmp 11, .tmp 16], #[40, 40]⟩, 40, "ref.go:148", #[⟨2, .data⟩, ⟨7, .data⟩, ⟨2, .chain⟩], none⟩ (fun K hK => ?_)
   refine wpOpP_append (.tmp 11) (.tmp 16) rfl _ _ bs [n2] wd.heap.size rfl rfl rfl hO2 hN2 hl2 ?_
   intro v8 w8 hO8 m8 l8
   obtain ⟨M8, f8⟩ := appended M2 f2 m8 l8
   have hI8 := hO8.isB
   obtain ⟨ad8, n8, cap8, rfl, _⟩ := hI8
   refine hK.out _ _ ?_ (fun hHeld => ?_)
   ·(refine hS _ ?_; first | with_reducible assumption | exact Moves.alloc (by with_reducible assumption) _ | exact Moves.alloc (Moves.alloc (by with_reducible assumption) _) _)
   clear hK K
   try simp only [Act.put, sp1, sp2, sp3]
   refine wpT 9 ⟨some 0, .assign (.tmp 17), 40, "ref.go:148", #[⟨8, .data⟩, ⟨8, .chain⟩, ⟨0, .phase⟩, ⟨1, .phase⟩, ⟨2, .phase⟩, ⟨3, .phase⟩, ⟨4, .phase⟩, ⟨5, .phase⟩, ⟨6, .phase⟩, ⟨7, .phase⟩, ⟨8, .phase⟩], none⟩ ?_
   refine wpAnyH_done (by kernel_rfl) ?_ _
   refine NoPanic.normal ?_
   exact ⟨rfl, by kernel_rfl, _, _, _, rfl, hO8, M8, f8⟩
 rintro u w4 ⟨ad4, n4, cap4, e4, hO4, m4, f4⟩
 simp only [List.foldl_cons, List.foldl_nil, List.setIfInBounds_toArray, List.set_cons_zero, List.set_cons_succ, e4]
 clear e4
 generalize u 9 = u9
 generalize u 10 = u10
 generalize u 11 = u11
 generalize u 12 = u12
 generalize u 13 = u13
 generalize u 14 = u14
 generalize u 15 = u15
 generalize u 16 = u16
 generalize u 17 = u17
 obtain ⟨E, hE⟩ : ∃ E, Hid (bs ++ [n2] = E) := ⟨_, rfl⟩
 have hEl : E.length ≤ 900001 := by rw [← hE.out, List.length_append, List.length_singleton]; omega
 rw [hE.out] at hO4
 clear hB3 hl1 hl2 b0 b1
 go_wp2_with fail
 go_loopw [0, 5] (fun v i wr => ∃ (k : Nat) (ad : Option Addr) (n cap : Nat), k ≤ n2 ∧ i = .int .i64 (k : Nat) ∧ v = .slice ad n cap ∧ Own wr (.slice ad n cap) (E ++ pencCs (Z.take k)) ∧ Moves [] w3 wr ∧ Fresh w3 (.slice ad n cap)) (fun _ i _ => n2 - (intOf i).toNat)
 case atStart => exact ⟨0, ad4, n4, cap4, Nat.zero_le _, rfl, rfl, by simpa [pencCs] using hO4, m4, f4⟩
 case round =>
  obtain ⟨k, ad5, n5, cap5, hk, rfl, rfl, hO5, m5, f5⟩ := hrel
  clear hO4 m4 f4
  have q5 := m5.at q3 (by simp)
  obtain ⟨b0, b1⟩ := one_cell q5
  by_cases hlt : k < n2
  ·have hk3 : (k : Int) < n2 := by omega
   obtain ⟨x, hx⟩ : ∃ x, Z[k]? = some x := ⟨_, List.getElem?_eq_getElem (by have := Hn2.out; omega)⟩
   obtain ⟨g6, off6, a6, n6, c6, rfl, y0, y1, hn6, _, hV6⟩ := HCA.out.at hx
   have z0 := m5.cell y0
   have z1 := m5.cell y1
   obtain ⟨hnm, hvt, hl6⟩ := HZG.out x (List.mem_of_getElem? hx)
   have HVT : Hid (∀ y ∈ x.l, ptime y.t = true ∧ pvr y.v = true) := hvt
   have HV6 : Hid (VersAt w3 (.slice a6 n6 c6) x.l) := hV6
   have Hn6 : Hid (n6 = x.l.length) := hn6
   have hn62 : n6 ≤ 2 := by omega
   have hn6' : (n6 : Int) < 256 := by omega
   have hwn6 : IntKind.u8.wrap (n6 : Int) = (n6 : Int) := by rw [IntKind.wrap_u8]; omega
   have HZ1 : Hid (w3.cell? ⟨g6, off6 + k * 2 + 1, none⟩ = some (.slice a6 n6 c6)) := y1
   have hnsz : x.name.size ≤ 16 := by unfold pname at hnm; simp only [Bool.and_eq_true, decide_eq_true_eq] at hnm; exact hnm.2
   have hlen : (pencCs (Z.take k)).length ≤ 316 := by
    have h1 : ∀ l : List Pcol, (∀ c ∈ l, pname c.name = true ∧ (∀ y ∈ c.l, ptime y.t = true ∧ pvr y.v = true) ∧ c.l.length ≤ 2) → (pencCs l).length ≤ l.length * 79 := by
     intro l
     induction l with
     | nil => intro _; simp [pencCs]
     | cons y l ih =>
      intro hh
      have h1 := ih (fun z hz => hh z (by simp [hz]))
      obtain ⟨g1, g2, g3⟩ := hh y (by simp)
      have h4 := pencVs_len (l := y.l) (fun z hz => (g2 z hz).2)
      unfold pname at g1
      simp only [Bool.and_eq_true, decide_eq_true_eq] at g1
      have e : pencCs (y :: l) = pencC y ++ pencCs l := by simp [pencCs]
      rw [e, List.length_append, List.length_cons]
      unfold pencC
      simp only [List.length_append, be_length, sbs_length, List.length_singleton]
      omega
    have h2 := h1 (Z.take k) (fun z hz => HZG.out z (List.mem_of_mem_take hz))
    rw [List.length_take] at h2
    omega
   obtain ⟨D, hD⟩ : ∃ D, E ++ pencCs (Z.take k) = D := ⟨_, rfl⟩
   have hDl : D.length ≤ 900317 := by rw [← hD, List.length_append]; omega
   have HD : Hid (E ++ pencCs (Z.take (k + 1)) = D ++ be 4 (sbs x.name).length ++ sbs x.name ++ [n6] ++ pencVs x.l) := by
    show E ++ pencCs (Z.take (k + 1)) = _
    rw [pencCs_step hx, ← hD, hn6, sbs_length]
    unfold pencC
    simp
   rw [hD] at hO5
   have hsl : (sbs x.name).length ≤ 1048576 := by rw [sbs_length]; omega
   have hDt : D.length + 2000000 ≤ 1099511627776 := by omega
   have hDa : (D ++ be 4 (sbs x.name).length ++ sbs x.name).length + [n6].length ≤ 1099511627776 := by simp only [List.length_append, be_length, List.length_singleton, sbs_length]; omega
   have hD2l : (D ++ be 4 (sbs x.name).length ++ sbs x.name ++ [n6]).length ≤ 900338 := by simp only [List.length_append, be_length, List.length_singleton, sbs_length]; omega
   clear hV6 y0 y1 hlen hD hn6 hvt hl6
   go_wp2_with fail
   refine wp_some [25, 26, 27, 28, 29, 30, 31, 32, 33, 34, 35, 36, 37, 38, 39, 40, 41, 42, 43, 0] (fun u w' => ∃ ad n cap, u 0 = .slice ad n cap ∧ Own w' (.slice ad n cap) (D ++ be 4 (sbs x.name).length ++ sbs x.name ++ [n6]) ∧ Moves [] wr w' ∧ Fresh wr (.slice ad n cap)) ?_ ?_
   ·skip
    have hS : ∀ w', Moves [] wr w' → w'.cell? ⟨w.heap.size, 0, none⟩ = some (.slice (some ⟨g6, off6, none⟩) n2 cap2) ∧ w'.cell? ⟨g6, off6 + k * 2, none⟩ = some (.string x.name) ∧ w'.cell? ⟨g6, off6 + k * 2 + 1, none⟩ = some (.slice a6 n6 c6) := fun w' m' => ⟨m'.cell b0, m'.cell z0, m'.cell z1⟩
    have md : Moves [] wr wr.drew := (Moves.refl _ _).drew
    obtain ⟨wd, hwd⟩ : ∃ wd, wr.drew = wd := ⟨_, rfl⟩
    rw [hwd] at md
    obtain ⟨capA, wA, hrunA, hcA, _, mA0⟩ := strBytes_new wd x.name
    have mA := md.then mA0
    obtain ⟨gA, hgA⟩ : ∃ gA, wd.heap.size = gA := ⟨_, rfl⟩
    rw [hgA] at hrunA hcA
    obtain ⟨capB, wB, hrunB, hcB, _, mB0⟩ := strBytes_new (wd.alloc (.cells #[.int .u8 (n6 : Int)] 5)) x.name
    have mB := (md.alloc _).then mB0
    have hBB := (has_new wd n6).moves mB0 (by simp)
    obtain ⟨gB, hgB⟩ : ∃ gB, (wd.alloc (.cells #[.int .u8 (n6 : Int)] 5)).heap.size = gB := ⟨_, rfl⟩
    rw [hgB] at hrunB hcB
    clear mA0 mB0 hgA hgB
    refine wp_region_noPanic ?_
    refine wp_region_held_drew (S := (fun w' => w'.cell? ⟨w.heap.size, 0, none⟩ = some (.slice (some ⟨g6, off6, none⟩) n2 cap2) ∧ w'.cell? ⟨g6, off6 + k * 2, none⟩ = some (.string x.name) ∧ w'.cell? ⟨g6, off6 + k * 2 + 1, none⟩ = some (.slice a6 n6 c6))) (by kernel_rfl) ?_ (fun hHeld => ?_)
    ·first | (go_keep; done) | (refine hS _ ?_; first | with_reducible assumption | exact Moves.alloc (by with_reducible assumption) _ | exact Moves.alloc (Moves.alloc (by with_reducible assumption) _) _)
    rw [hwd] at hHeld ⊢
    refine wpT 0 ⟨some 25, .move (.tmp 0), 40, "ref.go:150", #[], none⟩ ?_
    refine wpT 1 ⟨some 26, .fieldAddr 52 (.tmp 3) 0, 0, "ref.go:150", #[], none⟩ ?_
    refine wpT 2 ⟨some 27, .load 50 (.tmp 26), 50, "ref.go:150", #[⟨1, .data⟩], none⟩ ?_
    refine wpT 3 ⟨some 28, .move (.tmp 5), 3, "ref.go:150", #[], none⟩ ?_
    refine wpT 4 ⟨some 29, .indexAddr 50 (.tmp 27) (.tmp 28), 0, "ref.go:150", #[⟨2, .data⟩, ⟨3, .data⟩], none⟩ ?_
    refine wpT 5 ⟨some 30, .fieldAddr 124 (.tmp 29) 0, 0, "ref.go:150", #[⟨4, .data⟩], none⟩ ?_
    refine wpT 6 ⟨some 31, .load 9 (.tmp 30), 9, "ref.go:150", #[⟨5, .data⟩], none⟩ ?_
    refine wpT 9 ⟨some 34, .fieldAddr 52 (.tmp 3) 0, 0, "ref.go:150", #[], none⟩ ?_
    refine wpT 10 ⟨some 35, .load 50 (.tmp 34), 50, "ref.go:150", #[⟨9, .data⟩], none⟩ ?_
    refine wpT 11 ⟨some 36, .move (.tmp 5), 3, "ref.go:150", #[], none⟩ ?_
    refine wpT 12 ⟨some 37, .indexAddr 50 (.tmp 35) (.tmp 36), 0, "ref.go:150", #[⟨10, .data⟩, ⟨11, .data⟩], none⟩ ?_
    refine wpT 13 ⟨some 38, .fieldAddr 124 (.tmp 37) 1, 0, "ref.go:150", #[⟨12, .data⟩], none⟩ ?_
    refine wpT 14 ⟨some 39, .load 122 (.tmp 38), 122, "ref.go:150", #[⟨13, .data⟩], none⟩ ?_
    refine wpT 15 ⟨some 40, .call ⟨.builtin .len, #[.tmp 39], #[122]⟩, 3, "ref.go:150", #[⟨14, .data⟩], none⟩ ?_
    refine wpT 16 ⟨some 41, .convert 3 5 (.tmp 40), 5, "ref.go:150", #[⟨15, .data⟩], none⟩ ?_
    refine wpAnyH_ready (rs := [7, 17]) (by kernel_rfl) (by simp) ?_
    refine AllReadyH.cons (o := ⟨some 32, .convert 9 40 (.tmp 31), 40, "ref.go:150", #[⟨6, .data⟩], none⟩) rfl (fun K hK => ?_) (AllReadyH.cons (o := ⟨some 42, .buildSlice 40 1 #[(0, .tmp 41)], 40, "ref.go:150", #[⟨16, .data⟩], none⟩) rfl (fun K hK => ?_) AllReadyH.nil)
    ·go_simp
     refine hK.out _ _ ?_ (fun hHeld => ?_)
     ·(refine hS _ ?_; first | with_reducible assumption | exact Moves.alloc (by with_reducible assumption) _ | exact Moves.alloc (Moves.alloc (by with_reducible assumption) _) _)
     clear hK K
     refine wpAnyH_ready (rs := [8, 17]) (by kernel_rfl) (by simp) ?_
     refine AllReadyH.cons (o := ⟨some 33, .call ⟨.value (.func 41), #[.tmp 25, .tmp 32], #[40, 40]⟩, 40, "ref.go:150", #[⟨0, .data⟩, ⟨7, .data⟩], none⟩) rfl (fun K hK => ?_) (AllReadyH.cons (o := ⟨some 42, .buildSlice 40 1 #[(0, .tmp 41)], 40, "ref.go:150", #[⟨16, .data⟩], none⟩) rfl (fun K hK => ?_) AllReadyH.nil)
     ·go_simp
      (go_at_call 41; refine (rtext_w _ _ D _ gA (sbs x.name) _ (hO5.moves mA (by simp)).isB hcA hDt hsl).mono ?_; rintro _ w8 ⟨v8, rfl, hO8, m8, f8⟩)
      have M8 := mA.then m8
      have hI8 := hO8.isB
      obtain ⟨ad8, n8, cap8, rfl, _⟩ := hI8
      have F8 : Fresh wr (.slice ad8 n8 cap8) := fun j hj => Nat.le_trans mA.size (f8 j hj)
      refine hK.out _ _ ?_ (fun hHeld => ?_)
      ·(refine hS _ ?_; first | with_reducible assumption | exact Moves.alloc (by with_reducible assumption) _ | exact Moves.alloc (Moves.alloc (by with_reducible assumption) _) _)
      clear hK K
      refine wpR 17 ⟨some 42, .buildSlice 40 1 #[(0, .tmp 41)], 40, "ref.go:150", #[⟨16, .data⟩], none⟩ (fun K hK => ?_)
      go_simp
      refine hK.out _ _ ?_ (fun hHeld => ?_)
      ·(refine hS _ ?_; first | with_reducible assumption | exact Moves.alloc (by with_reducible assumption) _ | exact Moves.alloc (Moves.alloc (by with_reducible assumption) _) _)
      clear hK K
      refine wpR 18 ⟨some 43, .call ⟨.builtin .append, #[.tmp 33, .tmp 42], #[40, 40]⟩, 40, "ref.go:150", #[⟨8, .data⟩, ⟨17, .data⟩, ⟨8, .chain⟩], none⟩ (fun K hK => ?_)
      refine wpOpP_append (.tmp 33) (.tmp 42) rfl _ _ _ [n6] w8.heap.size rfl rfl rfl (hO8.moves ((Moves.refl [] _).alloc _) (by simp)) (has_new w8 n6) hDa ?_
      intro v9 w9 hO9 m9 l9
      obtain ⟨M9, f9⟩ := appended (M8.alloc _) F8 m9 l9
      have hI9 := hO9.isB
      obtain ⟨ad9, n9, cap9, rfl, _⟩ := hI9
      refine hK.out _ _ ?_ (fun hHeld => ?_)
      ·(refine hS _ ?_; first | with_reducible assumption | exact Moves.alloc (by with_reducible assumption) _ | exact Moves.alloc (Moves.alloc (by with_reducible assumption) _) _)
      clear hK K
      try simp only [Act.put, sp1, sp2, sp3]
      refine wpT 19 ⟨some 0, .assign (.tmp 43), 40, "ref.go:150", #[⟨18, .data⟩, ⟨18, .chain⟩, ⟨0, .phase⟩, ⟨1, .phase⟩, ⟨2, .phase⟩, ⟨3, .phase⟩, ⟨4, .phase⟩, ⟨5, .phase⟩, ⟨6, .phase⟩, ⟨7, .phase⟩, ⟨8, .phase⟩, ⟨9, .phase⟩, ⟨10, .phase⟩, ⟨11, .phase⟩, ⟨12, .phase⟩, ⟨13, .phase⟩, ⟨14, .phase⟩, ⟨15, .phase⟩, ⟨16, .phase⟩, ⟨17, .phase⟩, ⟨18, .phase⟩], none⟩ ?_
      refine wpAnyH_done (by kernel_rfl) ?_ _
      refine NoPanic.normal ?_
      exact ⟨rfl, by kernel_rfl, _, _, _, rfl, hO9, M9, f9⟩
     ·go_simp
      have hBn := has_new wA n6
      have hcA' := hcA.moves ((Moves.refl [] wA).alloc (.cells #[.int .u8 (n6 : Int)] 5)) (by simp)
      refine hK.out _ _ ?_ (fun hHeld => ?_)
      ·(refine hS _ ?_; first | with_reducible assumption | exact Moves.alloc (by with_reducible assumption) _ | exact Moves.alloc (Moves.alloc (by with_reducible assumption) _) _)
      clear hK K
      refine wpR 8 ⟨some 33, .call ⟨.value (.func 41), #[.tmp 25, .tmp 32], #[40, 40]⟩, 40, "ref.go:150", #[⟨0, .data⟩, ⟨7, .data⟩], none⟩ (fun K hK => ?_)
      go_simp
      (go_at_call 41; refine (rtext_w _ _ D _ gA (sbs x.name) _ (hO5.moves (mA.alloc _) (by simp)).isB hcA' hDt hsl).mono ?_; rintro _ w8 ⟨v8, rfl, hO8, m8, f8⟩)
      have M8 := (mA.alloc _).then m8
      have hI8 := hO8.isB
      obtain ⟨ad8, n8, cap8, rfl, _⟩ := hI8
      have F8 : Fresh wr (.slice ad8 n8 cap8) := fun j hj => Nat.le_trans (mA.alloc _).size (f8 j hj)
      have hN8 := hBn.moves m8 (by simp)
      refine hK.out _ _ ?_ (fun hHeld => ?_)
      ·(refine hS _ ?_; first | with_reducible assumption | exact Moves.alloc (by with_reducible assumption) _ | exact Moves.alloc (Moves.alloc (by with_reducible assumption) _) _)
      clear hK K
      refine wpR 18 ⟨some 43, .call ⟨.builtin .append, #[.tmp 33, .tmp 42], #[40, 40]⟩, 40, "ref.go:150", #[⟨8, .data⟩, ⟨17, .data⟩, ⟨8, .chain⟩], none⟩ (fun K hK => ?_)
      refine wpOpP_append (.tmp 33) (.tmp 42) rfl _ _ _ [n6] wA.heap.size rfl rfl rfl hO8 hN8 hDa ?_
      intro v9 w9 hO9 m9 l9
      obtain ⟨M9, f9⟩ := appended M8 F8 m9 l9
      have hI9 := hO9.isB
      obtain ⟨ad9, n9, cap9, rfl, _⟩ := hI9
      refine hK.out _ _ ?_ (fun hHeld => ?_)
      ·(refine hS _ ?_; first | with_reducible assumption | exact Moves.alloc (by with_reducible assumption) _ | exact Moves.alloc (Moves.alloc (by with_reducible assumption) _) _)
      clear hK K
      try simp only [Act.put, sp1, sp2, sp3]
      refine wpT 19 ⟨some 0, .assign (.tmp 43), 40, "ref.go:150", #[⟨18, .data⟩, ⟨18, .chain⟩, ⟨0, .phase⟩, ⟨1, .phase⟩, ⟨2, .phase⟩, ⟨3, .phase⟩, ⟨4, .phase⟩, ⟨5, .phase⟩, ⟨6, .phase⟩, ⟨7, .phase⟩, ⟨8, .phase⟩, ⟨9, .phase⟩, ⟨10, .phase⟩, ⟨11, .phase⟩, ⟨12, .phase⟩, ⟨13, .phase⟩, ⟨14, .phase⟩, ⟨15, .phase⟩, ⟨16, .phase⟩, ⟨17, .phase⟩, ⟨18, .phase⟩], none⟩ ?_
      refine wpAnyH_done (by kernel_rfl) ?_ _
      refine NoPanic.normal ?_
      exact ⟨rfl, by kernel_rfl, _, _, _, rfl, hO9, M9, f9⟩
    ·go_simp
     refine hK.out _ _ ?_ (fun hHeld => ?_)
     ·(refine hS _ ?_; first | with_reducible assumption | exact Moves.alloc (by with_reducible assumption) _ | exact Moves.alloc (Moves.alloc (by with_reducible assumption) _) _)
     clear hK K
     refine wpR 7 ⟨some 32, .convert 9 40 (.tmp 31), 40, "ref.go:150", #[⟨6, .data⟩], none⟩ (fun K hK => ?_)
     go_simp
     refine hK.out _ _ ?_ (fun hHeld => ?_)
     ·(refine hS _ ?_; first | with_reducible assumption | exact Moves.alloc (by with_reducible assumption) _ | exact Moves.alloc (Moves.alloc (by with_reducible assumption) _) _)
     clear hK K
     refine wpR 8 ⟨some 33, .call ⟨.value (.func 41), #[.tmp 25, .tmp 32], #[40, 40]⟩, 40, "ref.go:150", #[⟨0, .data⟩, ⟨7, .data⟩], none⟩ (fun K hK => ?_)
     go_simp
     (go_at_call 41; refine (rtext_w _ _ D _ gB (sbs x.name) _ (hO5.moves mB (by simp)).isB hcB hDt hsl).mono ?_; rintro _ w8 ⟨v8, rfl, hO8, m8, f8⟩)
     have M8 := mB.then m8
     have hI8 := hO8.isB
     obtain ⟨ad8, n8, cap8, rfl, _⟩ := hI8
     have F8 : Fresh wr (.slice ad8 n8 cap8) := fun j hj => Nat.le_trans mB.size (f8 j hj)
     have hN8 := hBB.moves m8 (by simp)
     refine hK.out _ _ ?_ (fun hHeld => ?_)
     ·(refine hS _ ?_; first | with_reducible assumption | exact Moves.alloc (by with_reducible assumption) _ | exact Moves.alloc (Moves.alloc (by with_reducible assumption) _) _)
     clear hK K
     refine wpR 18 ⟨some 43, .call ⟨.builtin .append, #[.tmp 33, .tmp 42], #[40, 40]⟩, 40, "ref.go:150", #[⟨8, .data⟩, ⟨17, .data⟩, ⟨8, .chain⟩], none⟩ (fun K hK => ?_)
     refine wpOpP_append (.tmp 33) (.tmp 42) rfl _ _ _ [n6] wd.heap.size rfl rfl rfl hO8 hN8 hDa ?_
     intro v9 w9 hO9 m9 l9
     obtain ⟨M9, f9⟩ := appended M8 F8 m9 l9
     have hI9 := hO9.isB
     obtain ⟨ad9, n9, cap9, rfl, _⟩ := hI9
     refine hK.out _ _ ?_ (fun hHeld => ?_)
     ·(refine hS _ ?_; first | with_reducible assumption | exact Moves.alloc (by with_reducible assumption) _ | exact Moves.alloc (Moves.alloc (by with_reducible assumption) _) _)
     clear hK K
     try simp only [Act.put, sp1, sp2, sp3]
     refine wpT 19 ⟨some 0, .assign (.tmp 43), 40, "ref.go:150", #[⟨18, .data⟩, ⟨18, .chain⟩, ⟨0, .phase⟩, ⟨1, .phase⟩, ⟨2, .phase⟩, ⟨3, .phase⟩, ⟨4, .phase⟩, ⟨5, .phase⟩, ⟨6, .phase⟩, ⟨7, .phase⟩, ⟨8, .phase⟩, ⟨9, .phase⟩, ⟨10, .phase⟩, ⟨11, .phase⟩, ⟨12, .phase⟩, ⟨13, .phase⟩, ⟨14, .phase⟩, ⟨15, .phase⟩, ⟨16, .phase⟩, ⟨17, .phase⟩, ⟨18, .phase⟩], none⟩ ?_
     refine wpAnyH_done (by kernel_rfl) ?_ _
     refine NoPanic.normal ?_
     exact ⟨rfl, by kernel_rfl, _, _, _, rfl, hO9, M9, f9⟩
   rintro u w6 ⟨ad6, n7, cap6, e6, hO6, m6, f6⟩
   simp only [List.foldl_cons, List.foldl_nil, List.setIfInBounds_toArray, List.set_cons_zero, List.set_cons_succ, e6]
   clear e6
   generalize u 25 = u25
   generalize u 26 = u26
   generalize u 27 = u27
   generalize u 28 = u28
   generalize u 29 = u29
   generalize u 30 = u30
   generalize u 31 = u31
   generalize u 32 = u32
   generalize u 33 = u33
   generalize u 34 = u34
   generalize u 35 = u35
   generalize u 36 = u36
   generalize u 37 = u37
   generalize u 38 = u38
   generalize u 39 = u39
   generalize u 40 = u40
   generalize u 41 = u41
   generalize u 42 = u42
   generalize u 43 = u43
   have M6 : Moves [] w3 w6 := m5.then m6
   have F6 : Fresh w3 (.slice ad6 n7 cap6) := fun j hj => Nat.le_trans m5.size (f6 j hj)
   obtain ⟨D2, hD2⟩ : ∃ D2, D ++ be 4 (sbs x.name).length ++ sbs x.name ++ [n6] = D2 := ⟨_, rfl⟩
   rw [hD2] at hO6 HD hD2l
   clear hD2 m6 f6 m5 hO5 f5 z0 z1 b0 b1 hDa hDt
   go_wp2_with fail
   go_loopw [0, 6] (fun v i wq => ∃ (j : Nat) (ad : Option Addr) (n cap : Nat), j ≤ n6 ∧ i = .int .i64 (j : Nat) ∧ v = .slice ad n cap ∧ Own wq (.slice ad n cap) (D2 ++ pencVs (x.l.take j)) ∧ Moves [] w3 wq ∧ Fresh w3 (.slice ad n cap)) (fun _ i _ => n6 - (intOf i).toNat)
   case atStart => exact ⟨0, ad6, n7, cap6, Nat.zero_le _, rfl, rfl, by simpa [pencVs] using hO6, M6, F6⟩
   case round =>
    obtain ⟨j, ad7, n8, cap7, hj, rfl, rfl, hO7, m7, f7⟩ := hrel
    clear hO6 M6 F6
    obtain ⟨b0, b1⟩ := one_cell (m7.at q3 (by simp))
    obtain ⟨g6', off6', a6', n6', c6', eg, y0, y1, _, _, _⟩ := HCA.out.at hx
    simp at eg
    obtain ⟨rfl, rfl⟩ := eg
    have z1' : wr.cell? ⟨g6, off6 + k * 2 + 1, none⟩ = some (.slice a6 n6 c6) := m7.cell HZ1.out
    clear y0 y1
    by_cases hjt : j < n6
    ·have hj3 : (j : Int) < n6 := by omega
     obtain ⟨y, hy⟩ : ∃ y, x.l[j]? = some y := ⟨_, List.getElem?_eq_getElem (by have := Hn6.out; omega)⟩
     obtain ⟨g8, off8, a8, n9, c8, rfl, v0, v1, v2, v3, hVC⟩ := HV6.out.at hy
     have x0 := m7.cell v0
     have x1 := m7.cell v1
     have x2 := m7.cell v2
     have x3 := m7.cell v3
     have x2b : wr.cell? ⟨g8, off8 + j * 4 + 1 + 1, none⟩ = some (.slice a8 n9 c8) := x2
     have x3b : wr.cell? ⟨g8, off8 + j * 4 + 1 + 2, none⟩ = some (.float .f64 y.v.n) := x3
     have HVA : Hid (VA wr [.int .i64 y.v.kind, .slice a8 n9 c8, .float .f64 y.v.n] y.v) := hVC.va.moves m7
     have hrt := HVT.out y (List.mem_of_getElem? hy)
     have htm : 0 ≤ y.t ∧ y.t ≤ 1099511627776 := by have := hrt.1; unfold ptime at this; simpa using this
     have hft : Pl.Fits y.t.toNat := by unfold Pl.Fits; omega
     have hlen : (pencVs (x.l.take j)).length ≤ 58 := by
      have h1 := pencVs_len (l := x.l.take j) (fun z hz => (HVT.out z (List.mem_of_mem_take hz)).2)
      rw [List.length_take] at h1
      omega
     obtain ⟨D3, hD3⟩ : ∃ D3, D2 ++ pencVs (x.l.take j) = D3 := ⟨_, rfl⟩
     have hDl3 : D3.length + 16 ≤ 1099511627776 := by rw [← hD3, List.length_append]; omega
     have hDl4 : (D3 ++ be 8 y.t.toNat).length + 2000010 ≤ 1099511627776 := by rw [← hD3]; simp only [List.length_append, be_length]; omega
     have HD3 : Hid (D2 ++ pencVs (x.l.take (j + 1)) = D3 ++ be 8 y.t.toNat ++ penc y.v) := by
      show D2 ++ pencVs (x.l.take (j + 1)) = _
      rw [pencVs_step hy, ← hD3]
      unfold pencV
      simp
     rw [hD3] at hO7
     clear hVC v0 v1 v2 v3 hlen hD3 hrt hy
     go_wp2_with fail
     go_region_held3 (fun w' => w'.cell? ⟨w.heap.size, 0, none⟩ = some (.slice (some ⟨g6, off6, none⟩) n2 cap2) ∧ w'.cell? ⟨g6, off6 + k * 2 + 1, none⟩ = some (.slice (some ⟨g8, off8, none⟩) n6 c6) ∧ w'.cell? ⟨g8, off8 + j * 4, none⟩ = some (.int .i64 y.t) ∧ w'.cell? ⟨g8, off8 + j * 4 + 1, none⟩ = some (.int .i64 y.v.kind) ∧ w'.cell? ⟨g8, off8 + j * 4 + 2, none⟩ = some (.slice a8 n9 c8) ∧ w'.cell? ⟨g8, off8 + j * 4 + 3, none⟩ = some (.float .f64 y.v.n) ∧ w'.cell? ⟨g8, off8 + j * 4 + 1 + 1, none⟩ = some (.slice a8 n9 c8) ∧ w'.cell? ⟨g8, off8 + j * 4 + 1 + 2, none⟩ = some (.float .f64 y.v.n)) (first | exact ⟨M9.cell b0, M9.cell z1', M9.cell x0, M9.cell x1, M9.cell x2, M9.cell x3, M9.cell x2b, M9.cell x3b⟩ | exact ⟨m8.cell b0, m8.cell z1', m8.cell x0, m8.cell x1, m8.cell x2, m8.cell x3, m8.cell x2b, m8.cell x3b⟩ | exact ⟨b0, z1', x0, x1, x2, x3, x2b, x3b⟩) (first | (go_at_call 73; refine (rlong_w _ _ D3 y.t.toNat _ (by first | omega | (rw [IntKind.wrap_u64]; omega)) _ (hO7.moves (Moves.refl [] _).drew (by simp)).isB hDl3 hft).mono ?_; rintro _ w8 ⟨v8, rfl, hO8, m8', f8⟩; have m8 := (Moves.refl [] wr).drew.then m8'; have hB8 := hO8.isB; obtain ⟨adv8, nv8, cv8, rfl, _⟩ := hB8) | (go_at_call 72; refine (refPutV_w wr _ _ _ _ _ _ _ _ y.v hO8 HVA.out m8 hDl4).mono ?_; rintro _ w9 ⟨v9, rfl, hO9, m9, f9⟩; have M9 := m8.then m9; have hB9 := hO9.isB; obtain ⟨adv9, nv9, cv9, rfl, _⟩ := hB9))
     go_wp2_with fail
     go_roundw
     case rel => exact ⟨j + 1, adv9, nv9, cv9, by omega, by go_num, rfl, by rw [HD3.out]; exact hO9, m7.then M9, fun b hb => Nat.le_trans (Nat.le_trans m7.size m8.size) (f9 b hb)⟩
     case measure => simp [intOf]; omega
    ·have hj3 : ¬ (j : Int) < n6 := by omega
     obtain rfl : j = n6 := by omega
     have hfull : x.l.take j = x.l := by rw [Hn6.out, List.take_length]
     rw [hfull, ← HD.out] at hO7
     go_wp2_with fail
     go_roundw
     case rel => exact ⟨k + 1, ad7, n8, cap7, by omega, by go_num, rfl, hO7, m7, f7⟩
     case measure => simp [intOf]; omega
  ·have hk3 : ¬ (k : Int) < n2 := by omega
   obtain rfl : k = n2 := by omega
   have hfull : Z.take k = Z := by rw [Hn2.out, List.take_length]
   rw [hfull, ← hE.out, Hn2.out, ← HFIN.out] at hO5
   go_wp2_with fail
   go_ret
   exact ⟨_, _, _, rfl, hO5, M3.then m5, fun b hb => Nat.le_trans M3.size (f5 b hb)⟩
end Go.Proofs.YtcngllcifcpbkaaGreat
