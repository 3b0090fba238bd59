/- ours -/
import Derived.Test.YtilbbnmhnacnlaaGreatCB04
import Derived.Test.YtilbbnmhnacnlaaGreatCB18
import Derived.Test.YtilbbnmhnacnlaaGreatCB19
namespace Go.Proofs.YtilbbnmhnacnlaaGreat
open Go.RowKit

theorem GrowV.cut {W w : World} (h : W.heap.size ≤ w.heap.size) {u : World} {v : Value} {xs : List Pver} : GrowV (cutTo W w) u v xs ↔ GrowV W u v xs := by
  unfold GrowV Grow Fresh
  rw [cutTo_size h]
theorem GrowC.cut {W w : World} (h : W.heap.size ≤ w.heap.size) {u : World} {v : Value} {xs : List Pcol} : GrowC (cutTo W w) u v xs ↔ GrowC W u v xs := by
  unfold GrowC Grow Fresh
  rw [cutTo_size h]
theorem growV_stepS {ops : Array Oper} {o : Oper} {a : Act} {K : Act → World → Prop} {Q : Exit → Act → World → Prop} {W w : World} (s x : Operand)
    (ho : o.op = .call { callee := .builtin .append, args := #[s, x], argTypes := #[142, 142] })
    (v yv : Value) (xs ys : List Pver) (hs : a.eval s = v) (hx : a.eval x = yv) (hw : Region.wanted o (yielded ops a.tmps) = true)
    (hv : GrowV W w v xs) (hy : VersAt w yv ys) (hm : W.heap.size ≤ w.heap.size) (hb : xs.length + ys.length ≤ 1048576)
    (h : ∀ v' w', GrowV W w' v' (xs ++ ys) → Moves v.ownBlock.toList w w' → Stay (· ≠ 146) w w' → Lain w v v' → K (a.put o.dst v') w') :
    if Region.wanted o (yielded ops a.tmps) then o.wp Tryz.prog a w K Q else K (a.put o.dst undef) w :=
  growV_step s x ho v yv xs ys hs hx hw ((GrowV.cut hm).2 hv) hy (cutTo_moves hm) hb (fun v' w' h1 _ h3 h4 h5 => h v' w' ((GrowV.cut hm).1 h1) h3 h4 h5)
theorem growC_stepS {ops : Array Oper} {o : Oper} {a : Act} {K : Act → World → Prop} {Q : Exit → Act → World → Prop} {W w : World} (s x : Operand)
    (ho : o.op = .call { callee := .builtin .append, args := #[s, x], argTypes := #[95, 95] })
    (v yv : Value) (xs ys : List Pcol) (hs : a.eval s = v) (hx : a.eval x = yv) (hw : Region.wanted o (yielded ops a.tmps) = true)
    (hv : GrowC W w v xs) (hy : ColsAt w yv ys) (hm : W.heap.size ≤ w.heap.size) (hb : xs.length + ys.length ≤ 1048576)
    (h : ∀ v' w', GrowC W w' v' (xs ++ ys) → Moves v.ownBlock.toList w w' → Stay (· ≠ 144) w w' → Lain w v v' → K (a.put o.dst v') w') :
    if Region.wanted o (yielded ops a.tmps) then o.wp Tryz.prog a w K Q else K (a.put o.dst undef) w :=
  growC_step s x ho v yv xs ys hs hx hw ((GrowC.cut hm).2 hv) hy (cutTo_moves hm) hb (fun v' w' h1 _ h3 h4 h5 => h v' w' ((GrowC.cut hm).1 h1) h3 h4 h5)
theorem VC.ofOwn {w : World} {v : Value} {tx : List Nat} {p : Pv} {ad : Option Addr} {len cap : Nat} (hv : v = .slice ad len cap) (ho : Own w v p.bs) (hf : Pl.Fits p.n) (hx : ∀ z ∈ p.bs, z < 256) (hl : p.bs.length ≤ 1048576) (_ : tx = p.bs) : VC w [.int .i64 p.kind, .slice ad len cap, .float .f64 p.n] p := by
  subst hv
  refine ⟨ad, len, cap, _, rfl, ho.isB, hf, hx, hl, ?_⟩
  rcases ho.2 with ⟨_, h0⟩ | ⟨g, c, cur, h1, _, h3, _⟩
  · exact .inl (List.eq_nil_of_length_eq_zero h0)
  · rw [h1]
    exact .inr ⟨_, _, h3⟩
theorem Grow.notP {α : Type} {EC : World → List Value → α → Prop} {e : TypeId} {size : Nat} {W w : World} {v : Value} {xs : List α} (h : Grow EC e size W w v xs) {p : Nat} (hp : p < W.heap.size) : p ∉ v.ownBlock.toList := by
  intro hk
  have := h.1 p (by cases hq : v.ownBlock <;> simp_all)
  omega
theorem GrowV.movesP {W w w' : World} {v : Value} {xs : List Pver} {p : Nat} {c : Array Value} {t : TypeId} {fz : Nat × Nat} (h : GrowV W w v xs) (m : Moves [p] w w') (hp : p < W.heap.size) (hpt : w.heap[p]? = some (.cells c t fz)) (ht : t ≠ 5) : GrowV W w' v xs :=
  h.moves m (fun k hk hx => by simp at hx; subst hx; exact Grow.notP h hp (by rw [hk]; simp)) (Stay.ofMovesS m (fun k hk c' t' fz' hc he => by simp at hk; subst hk; rw [hpt] at hc; simp at hc; exact ht (hc.2.1.trans he)))
theorem GrowC.movesP {W w w' : World} {v : Value} {xs : List Pcol} {p : Nat} {c : Array Value} {t : TypeId} {fz : Nat × Nat} (h : GrowC W w v xs) (m : Moves [p] w w') (hp : p < W.heap.size) (hpt : w.heap[p]? = some (.cells c t fz)) (ht : t ≠ 5) (ht2 : t ≠ 146) : GrowC W w' v xs :=
  h.moves m (fun k hk hx => by simp at hx; subst hx; exact Grow.notP h hp (by rw [hk]; simp)) (Stay.ofMovesS m (fun k hk c' t' fz' hc he => by simp at hk; subst hk; rw [hpt] at hc; simp at hc; rcases he with he | he; exact ht (hc.2.1.trans he); exact ht2 (hc.2.1.trans he)))
theorem RdIs.block {w : World} {p g : Nat} {bs : List Nat} {fl : Bool} (h : RdIs w p g bs fl) : ∃ c, w.heap[p]? = some (.cells c 201 (0, 0)) := by
  obtain ⟨v, h, _⟩ := h
  exact ⟨_, h⟩

theorem take_fin {w wq w5 w6 w8 : World} {p g pb : Nat} {nm : ByteArray} {ad4 ad8 : Option Addr} {n4 cap4 n8 cap8 : Nat} {l : List Pver} {x : Pver} {b3 : List Nat} {R : Obj} (hg : g < w.heap.size) (hp : p < w.heap.size) (hpb : w.heap.size < pb)
    (hbox : wq.heap[pb]? = some (.cells #[.string nm, .slice ad4 n4 cap4] 144 (0, 0))) (hres : wq.heap[w.heap.size]? = some R) (hM : Moves [p] w wq) (hG4 : GrowV w wq (.slice ad4 n4 cap4) l) (hRt : ∀ c t fz, R = .cells c t fz → t ≠ 146)
    (hr5 : RdIs w5 p g b3 false) (m5 : Moves [p] wq w5) (m6 : Moves [] w5 w6) (m8 : Moves (Value.slice ad4 n4 cap4).ownBlock.toList w6 w8) (hG8 : GrowV w w8 (.slice ad8 n8 cap8) (l ++ [x])) :
    w8.heap[pb]? = some (.cells #[.string nm, .slice ad4 n4 cap4] 144 (0, 0)) ∧ GrowV w (w8.setCell ⟨pb, 1, none⟩ (.slice ad8 n8 cap8)) (.slice ad8 n8 cap8) (l ++ [x]) ∧ (w8.setCell ⟨pb, 1, none⟩ (.slice ad8 n8 cap8)).heap[pb]? = some (.cells #[.string nm, .slice ad8 n8 cap8] 144 (0, 0)) ∧ RdIs (w8.setCell ⟨pb, 1, none⟩ (.slice ad8 n8 cap8)) p g b3 false ∧ Moves [p] w (w8.setCell ⟨pb, 1, none⟩ (.slice ad8 n8 cap8)) ∧ (w8.setCell ⟨pb, 1, none⟩ (.slice ad8 n8 cap8)).heap[w.heap.size]? = some R := by
  have hnb : pb ∉ (Value.slice ad4 n4 cap4).ownBlock.toList := Grow.neT hG4 hbox (by decide)
  have hnr : w.heap.size ∉ (Value.slice ad4 n4 cap4).ownBlock.toList := by
    intro hk
    obtain ⟨_, css, h1, _⟩ := hG4
    cases R with
    | cells c t fz => exact h1.ne hres (hRt c t fz rfl) (by cases hq : (Value.slice ad4 n4 cap4).ownBlock <;> simp_all)
    | _ =>
      rcases h1.2.2 with ⟨h0, _⟩ | ⟨g', c', cur, h0, _, h3, _⟩
      · rw [h0] at hk; simp [Value.ownBlock] at hk
      · rw [h0] at hk
        simp [Value.ownBlock] at hk
        subst hk
        rw [hres] at h3
        simp at h3
  have h8 := m8.at (m6.at (m5.at hbox (by simp; omega)) (by simp)) hnb
  have hst : Stay (· = 5) w8 (w8.setCell ⟨pb, 1, none⟩ (.slice ad8 n8 cap8)) := Stay.set h8 (by decide) _
  have hp8 : p ∉ (Value.slice ad4 n4 cap4).ownBlock.toList := Grow.notP hG4 hp
  have hg8 : g ∉ (Value.slice ad4 n4 cap4).ownBlock.toList := Grow.notP hG4 hg
  refine ⟨h8, hG8.moves (moves_set _ _ _ _) ?_ hst, heap_set (i := 1) h8 _, ?_, ?_, ?_⟩
  · intro k hk hx
    simp at hx
    subst hx
    exact (Grow.neT hG8 h8 (by decide)) (by rw [hk]; simp)
  · exact ((hr5.moves m6 (by simp) (by simp)).moves m8 hp8 hg8).moves (moves_set _ _ _ _) (by simp; omega) (by simp; omega)
  · refine Moves.setCell ?_ (.inr (by show w.heap.size ≤ pb; omega)) _
    refine ((hM.then m5).then (m6.mono (by simp))).trans m8 (fun k hk => .inr ?_)
    exact hG4.1 k (by cases hq : (Value.slice ad4 n4 cap4).ownBlock <;> simp_all)
  · exact (moves_set _ _ _ _).at (m8.at (m6.at (m5.at hres (by simp; omega)) (by simp)) hnr) (by simp; omega)

theorem Tryz.size144 : (Tryz.prog.info? 144).map (·.size) = some 2 := by kernel_rfl
theorem ret_col {fn : Func} {p : Tmp} (h : fn.results = #[.cell p 144]) (tmps : Array Value) (w : World) (g : Nat) (x y : Value) (hp : tmps.getD p undef = .pointer (some ⟨g, 0, none⟩)) (hg : w.heap[g]? = some (.cells #[x, y] 144 (0, 0))) :
    (results fn tmps).run Tryz.prog w = .ok (.agg #[x, y]) w :=
  results_cell_row h tmps w g 144 _ (0, 0) _ hp hg Tryz.underlying144 rfl Tryz.size144

def TookC (w w' : World) (p g : Nat) (bs : List Nat) (e : Ending) : Prop :=
  (∃ c rest ad n cap, dCol tAny bs = some (c, rest) ∧ e = .returned (.agg #[.string c.name, .slice ad n cap]) ∧ GrowV w w' (.slice ad n cap) c.l ∧ RdIs w' p g rest false ∧ Moves [p] w w') ∨ (dCol tAny bs = none ∧ e = .panicked (stop p) ∧ ∃ bs', RdIs w' p g bs' true ∧ Moves [p] w w')

set_option maxRecDepth 100000 in
set_option maxHeartbeats 4000000 in
theorem takeColumn_w (N : Nat) (p g : Nat) (bs : List Nat) (w : World) (h : RdIs w p g bs false) (ho : OctN N bs) (hg : g < w.heap.size) :
    Calls Tryz.prog 169 #[.pointer (some ⟨p, 0, none⟩)] w fun e w' => TookC w w' p g bs e := by
  have hp := h.ltp
  have m0 : Moves [] w (w.alloc (.cells #[.string ByteArray.empty, .slice none 0 0] 144)) := (Moves.refl _ _).alloc _
  have hr0 := h.moves m0 (by simp) (by simp)
  have q0 := heap_alloc_new w (.cells #[.string ByteArray.empty, .slice none 0 0] 144)
  have hbx : w.heap.size ∉ [p] := by simp; omega
  cases hd1 : dText 16 bs with
  | none =>
    have hok := dText_no hd1
    have HNO : Hid (dCol tAny bs = none) := dCol_no1 hd1
    clear hd1
    go_enter Tryz.func169, Tryz.ntmps169
    go_wp2_with (go_at_call 140; refine (rtextr_fail_w _ g bs 16 _ hr0 ho.2 hok).mono ?_; rintro _ w2 ⟨rfl, hr2, m2⟩)
    exact ⟨rfl, .inr ⟨HNO.out, rfl, bs, hr2, (m0.mono (by simp)).then m2⟩⟩
  | some q =>
    obtain ⟨tx, b1⟩ := q
    have HT : Hid (dText 16 bs = some (tx, b1)) := hd1
    obtain ⟨hok, htx, hb1⟩ := dText_yes hd1
    have hotx := (dText_text hd1 ho).1
    have ho1 := dText_rest hd1 ho
    have HTX : Hid ((bs.drop 4).take (val (bs.take 4)) = tx) := htx
    have HB1 : Hid ((bs.drop 4).drop (val (bs.take 4)) = b1) := hb1
    clear hd1 htx hb1
    by_cases hb : 1 ≤ b1.length
    · have hv1 := val_lt ho1.2 1
      obtain ⟨cnt, hcnt⟩ : ∃ cnt, val (b1.take 1) = cnt := ⟨_, rfl⟩
      have HC : Hid (val (b1.take 1) = cnt) := hcnt
      rw [hcnt] at hv1
      have hcn : cnt < 256 := hv1
      have hcn' : (cnt : Int) < 256 := by omega
      obtain ⟨b1', hb1'⟩ : ∃ b1', Hid (b1.drop 1 = b1') := ⟨_, rfl⟩
      have ho1' : OctN N b1' := by rw [← hb1'.out]; exact ho1.drop 1
      clear hcnt hv1
      go_enter Tryz.func169, Tryz.ntmps169
      go_wp2_with (first | (go_at_call 140; refine (rtextr_w _ g bs 16 _ hr0 ho.2 hok).mono ?_; rintro _ w2 ⟨v2, rfl, hO2, hr2, m2, f2⟩; rw [HTX.out] at hO2; rw [HB1.out] at hr2; have hstr := run_str hO2.isB hotx; have q2 := m2.at q0 hbx) | (go_at_call 135; refine (rbyte_w _ g b1 _ (hr2.moves ((Moves.refl [] _).alloc _) (by simp) (by simp)) hb ho1.2).mono ?_; rintro _ w3 ⟨rfl, hr3, m3⟩; rw [HC.out]; rw [hb1'.out] at hr3))
      have hs2 : w.heap.size < w2.heap.size := lt_of_block q2
      have ma : Moves [] w2 (w2.alloc (.cells #[.string (strOf tx), .slice none 0 0] 144)) := (Moves.refl _ _).alloc _
      have qb := m3.at (heap_alloc_new w2 (.cells #[.string (strOf tx), .slice none 0 0] 144)) (by simp; omega)
      have q3 := m3.at (ma.at q2 (by simp)) hbx
      have M3 : Moves [p] w w3 := (((m0.mono (by simp)).then m2).then (ma.mono (by simp))).then m3
      obtain ⟨pb, hpb⟩ : ∃ pb, w2.heap.size = pb := ⟨_, rfl⟩
      rw [hpb] at qb hs2 ⊢
      clear hO2 hr2 m2 f2 q2 m3 ma hr0 q0 m0 hstr hok h hpb HTX HB1
      go_loopw [11] (fun i wr => ∃ (j : Nat) (l : List Pver) (b2 : List Nat) (lv : Value), j ≤ cnt ∧ i = .int .u8 (j : Int) ∧ iter (dVer tAny) j b1' = some (l, b2) ∧ RdIs wr p g b2 false ∧ Moves [p] w wr ∧ wr.heap[w.heap.size]? = some (.cells #[.string ByteArray.empty, .slice none 0 0] 144 (0, 0)) ∧ wr.heap[pb]? = some (.cells #[.string (strOf tx), lv] 144 (0, 0)) ∧ GrowV w wr lv l) (fun i _ => cnt - (intOf i).toNat)
      case atStart => exact ⟨0, [], b1', _, Nat.zero_le _, rfl, rfl, hr3, M3, q3, qb, GrowV.nil _ _⟩
      case round =>
        obtain ⟨j, l, b2, lv, hj, rfl, hit, hr4, M4, q4, hbox, hG4⟩ := hrel
        clear hr3 M3 q3 qb
        have ho2 : OctN N b2 := iter_rest (P := OctN N) (fun b x c => dVer_rest) hit ho1'
        obtain ⟨ad4, n4, cap4, rfl, hn4⟩ := hG4.open
        have HIT : Hid (iter (dVer tAny) j b1' = some (l, b2)) := hit
        have HG : Hid (GrowV w wr (.slice ad4 n4 cap4) l) := hG4
        have hll : Hid (l.length = j) := iter_len hit
        clear hit hG4
        by_cases hlt : j < cnt
        · have hj3 : (j : Int) < cnt := by omega
          have hj4 : (j : Int) + 1 < 256 := by omega
          by_cases h8 : 8 ≤ b2.length
          · cases hdv0 : dVal (b2.drop 8) with
            | none =>
              have HNO : Hid (dCol tAny bs = none) := dCol_no3 HT.out (by rw [HC.out, hb1'.out]; exact iter_none (iter_stop HIT.out (dVer_no3 hdv0)) (by omega))
              have hdv := dVal_no hdv0
              have hob := (ho2.drop 8).2
              clear hdv0
              go_wp2_with (go_at_call 196; refine (rlongr_w _ g b2 _ hr4 h8 ho2.2).mono ?_; rintro _ w5 ⟨rfl, hr5, m5⟩)
              have hq1 := (pair_cells (m5.at hbox (by simp; omega))).2
              have HM : Hid (Moves [p] w w5) := M4.then m5
              have hrd : RdIs w5.drew p g (b2.drop 8) false := hr5
              clear hr4 hbox q4 M4 hr5 m5
              refine wp_region_held_drew (S := (fun w' => w'.cell? ⟨pb, 1, none⟩ = some (.slice ad4 n4 cap4))) (by kernel_rfl) ?_ (fun hHeld => ?_)
              · first | (go_keep; done) | first | exact hq1 | exact k5 | exact k6 | exact k8
              refine wpT 0 ⟨some 16, .fieldAddr 144 (.tmp 3) 1, 0, "row.go:164", #[], none⟩ ?_
              refine wpT 1 ⟨some 17, .load 142 (.tmp 16), 142, "row.go:164", #[⟨0, .data⟩], none⟩ ?_
              refine wpT 2 ⟨some 18, .move (.tmp 4), 2, "row.go:164", #[], none⟩ ?_
              refine wpT 3 ⟨some 19, .move (.tmp 0), 176, "row.go:164", #[], none⟩ ?_
              refine wpR 4 ⟨some 20, .call ⟨.value (.func 197), #[.tmp 19], #[176]⟩, 30, "row.go:164", #[⟨3, .data⟩], none⟩ (fun K hK => ?_)
              go_simp
              (go_at_call 197; refine (vGet_fail _ g _ _ hrd hob hdv).mono ?_; rintro _ w6 ⟨rfl, bs', hr6, m6⟩)
              exact ⟨rfl, .inr ⟨HNO.out, rfl, bs', hr6, HM.out.drew.then m6⟩⟩
            | some q =>
              obtain ⟨pv, b3⟩ := q
              have hdx := dVer_of (T := tAny) h8 rfl hdv0
              have HIT2 : Hid (iter (dVer tAny) (j + 1) b1' = some (l ++ [⟨wrap64 (val (b2.take 8) : Int), pv⟩], b3)) := iter_step HIT.out hdx
              have hdv := dVal_yes hdv0
              have hob := (ho2.drop 8).2
              obtain ⟨x, hx⟩ : ∃ x : Pver, (⟨wrap64 (val (b2.take 8) : Int), pv⟩ : Pver) = x := ⟨_, rfl⟩
              have hxv : pv = x.v := by rw [← hx]
              rw [hxv] at hdv hdv0
              have hxl : x.v.bs.length ≤ 16 := by
                rcases hdv.2 with ⟨_, hok, _, htx, _⟩ | ⟨_, _, _, htx, _⟩
                · rw [htx, List.length_take]
                  have := hok.2.2.1 (by omega)
                  omega
                · rw [htx]; simp
              have HX : Hid (⟨wrap64 (val (b2.take 8) : Int), x.v⟩ = x) := by rw [← hxv]; exact hx
              have HX2 : Hid ((⟨wrap64 (val (b2.take 8) : Int), pv⟩ : Pver) = x) := hx
              clear hdv0 hdx hx hxv
              have hbd : l.length + [(⟨wrap64 (val (b2.take 8) : Int), x.v⟩ : Pver)].length ≤ 1048576 := by have := hll.out; simp; omega
              go_wp2_with (go_at_call 196; refine (rlongr_w _ g b2 _ hr4 h8 ho2.2).mono ?_; rintro _ w5 ⟨rfl, hr5, m5⟩)
              obtain ⟨wq, hwq⟩ : ∃ wq, w5 = wq := ⟨_, rfl⟩
              subst hwq
              obtain ⟨cR, hcR⟩ := hr4.block
              have HGq : Hid (GrowV w w5 (.slice ad4 n4 cap4) l) := HG.out.movesP m5 hp hcR (by decide)
              have hboxq := m5.at hbox (by simp; omega)
              have hq1 := (pair_cells hboxq).2
              have Mq : Moves [p] w w5 := M4.then m5
              have q5 := m5.at q4 hbx
              obtain ⟨cQ, hcQ⟩ := hr5.block
              have hrd : RdIs w5.drew p g (b2.drop 8) false := hr5
              have HNB : Hid (pb ∉ (Value.slice ad4 n4 cap4).ownBlock.toList) := Grow.neT HGq.out hboxq (by decide)
              have hpb1 : pb ∉ [p] := by simp; omega
              clear hr4 hbox q4 M4 HG hcR m5
              refine wp_some [16, 17, 18, 19, 20, 21, 22, 23, 24] (fun _ w' => ∃ ad n cap, GrowV w w' (.slice ad n cap) (l ++ [x]) ∧ w'.heap[pb]? = some (.cells #[.string (strOf tx), .slice ad n cap] 144 (0, 0)) ∧ RdIs w' p g b3 false ∧ Moves [p] w w' ∧ w'.heap[w.heap.size]? = some (.cells #[.string ByteArray.empty, .slice none 0 0] 144 (0, 0))) ?_ ?_
              · skip
                refine wp_region_noPanic ?_
                refine region_peel (S := (fun w' => w'.cell? ⟨pb, 1, none⟩ = some (.slice ad4 n4 cap4))) (pre := #[⟨some 16, .fieldAddr 144 (.tmp 3) 1, 0, "row.go:164", #[], none⟩, ⟨some 17, .load 142 (.tmp 16), 142, "row.go:164", #[⟨0, .data⟩], none⟩, ⟨some 18, .move (.tmp 4), 2, "row.go:164", #[], none⟩, ⟨some 19, .move (.tmp 0), 176, "row.go:164", #[], none⟩, ⟨some 20, .call ⟨.value (.func 197), #[.tmp 19], #[176]⟩, 30, "row.go:164", #[⟨3, .data⟩], none⟩, ⟨some 21, .build 146 #[(0, .tmp 18), (1, .tmp 20)], 146, "row.go:164", #[⟨2, .data⟩, ⟨4, .data⟩], none⟩, ⟨some 22, .buildSlice 142 1 #[(0, .tmp 21)], 142, "row.go:164", #[⟨5, .data⟩], none⟩, ⟨some 23, .call ⟨.builtin .append, #[.tmp 17, .tmp 22], #[142, 142]⟩, 142, "row.go:164", #[⟨1, .data⟩, ⟨6, .data⟩, ⟨4, .chain⟩], none⟩, ⟨some 24, .fieldAddr 144 (.tmp 3) 1, 0, "row.go:164", #[⟨0, .phase⟩, ⟨1, .phase⟩, ⟨2, .phase⟩, ⟨3, .phase⟩, ⟨4, .phase⟩, ⟨5, .phase⟩, ⟨6, .phase⟩, ⟨7, .phase⟩], none⟩]) (o := ⟨none, .store 142 (.tmp 24) (.tmp 23), 0, "row.go:164", #[⟨8, .data⟩, ⟨7, .data⟩, ⟨7, .chain⟩, ⟨0, .phase⟩, ⟨1, .phase⟩, ⟨2, .phase⟩, ⟨3, .phase⟩, ⟨4, .phase⟩, ⟨5, .phase⟩, ⟨6, .phase⟩, ⟨7, .phase⟩], none⟩) (by kernel_rfl) (by kernel_rfl) (by kernel_rfl) ?_ (fun hHeld => ?_)
                · first | exact hq1 | exact k5 | exact k6 | exact k8
                refine wpT 0 ⟨some 16, .fieldAddr 144 (.tmp 3) 1, 0, "row.go:164", #[], none⟩ ?_
                refine wpT 1 ⟨some 17, .load 142 (.tmp 16), 142, "row.go:164", #[⟨0, .data⟩], none⟩ ?_
                refine wpT 2 ⟨some 18, .move (.tmp 4), 2, "row.go:164", #[], none⟩ ?_
                refine wpT 3 ⟨some 19, .move (.tmp 0), 176, "row.go:164", #[], none⟩ ?_
                refine wpR 4 ⟨some 20, .call ⟨.value (.func 197), #[.tmp 19], #[176]⟩, 30, "row.go:164", #[⟨3, .data⟩], none⟩ (fun K hK => ?_)
                go_simp
                (go_at_call 197; refine (vGet_ok _ g _ _ _ _ _ _ hrd hob hdv).mono ?_; rintro _ w6 ⟨c5, rfl, hc5⟩; obtain ⟨k5', v5, g5, b5, n5⟩ := c5; obtain ⟨hk5, hb5, hn5, ho5, hf5, hi5, hr5', m5⟩ := hc5; simp only at hk5 hb5 hn5; subst hk5 hb5 hn5; simp only [Vm.val]; have hB5 := ho5.isB; obtain ⟨ad5, len5, cap5, rfl, _⟩ := hB5)
                replace m5 := ((Moves.refl [p] w5).drew).then m5
                have k5 := m5.cellOf hq1 hpb1
                have hVC5 : VC w6 [.int .i64 x.v.kind, .slice ad5 len5 cap5, .float .f64 x.v.n] x.v := VC.ofOwn rfl ho5 hi5.fits hi5.oct (by omega) rfl
                have hG5 := HGq.out.movesP m5 hp hcQ (by decide)
                refine hK.out _ _ ?_ (fun hHeld => ?_)
                · first | exact hq1 | exact k5 | exact k6 | exact k8
                clear hK K
                refine wpT 5 ⟨some 21, .build 146 #[(0, .tmp 18), (1, .tmp 20)], 146, "row.go:164", #[⟨2, .data⟩, ⟨4, .data⟩], none⟩ ?_
                refine wpR 6 ⟨some 22, .buildSlice 142 1 #[(0, .tmp 21)], 142, "row.go:164", #[⟨5, .data⟩], none⟩ (fun K hK => ?_)
                go_simp
                have k6 := ((Moves.refl [] w6).alloc (.cells #[.int .i64 (wrap64 (val (b2.take 8) : Int)), .int .i64 x.v.kind, .slice ad5 len5 cap5, .float .f64 x.v.n] 146)).cell k5
                refine hK.out _ _ ?_ (fun hHeld => ?_)
                · first | exact hq1 | exact k5 | exact k6 | exact k8
                clear hK K
                refine wpR 7 ⟨some 23, .call ⟨.builtin .append, #[.tmp 17, .tmp 22], #[142, 142]⟩, 142, "row.go:164", #[⟨1, .data⟩, ⟨6, .data⟩, ⟨4, .chain⟩], none⟩ (fun K hK => ?_)
                refine growV_stepS (.tmp 17) (.tmp 22) rfl _ _ l [⟨wrap64 (val (b2.take 8) : Int), x.v⟩] rfl rfl (by rfl) (hG5.moves0 ((Moves.refl _ _).alloc _)) (vers_new w6 _ _ _ _ ⟨wrap64 (val (b2.take 8) : Int), x.v⟩ ⟨_, rfl, hVC5⟩) (by have := m5.size; have := Mq.size; simp; omega) hbd ?_
                intro v8 w8 hG8 m8 s8 l8
                have hsl := hG8.open
                obtain ⟨ad8, n8, cap8, rfl, hn8⟩ := hsl
                have hnb8 : pb ∉ (Value.slice ad4 n4 cap4).ownBlock.toList := HNB.out
                have k8 := m8.cellOf k6 hnb8
                rw [HX.out] at hG8
                obtain ⟨F0, F1, F2, F3, F4, F5⟩ := take_fin hg hp hs2 hboxq q5 Mq HGq.out (fun c t fz e => by cases e; decide) hr5' m5 ((Moves.refl [] w6).alloc _) m8 hG8
                have fz8 : w8.frozen? ⟨pb, 1, none⟩ = false := by simp [World.frozen?, F0]
                refine hK.out _ _ ?_ (fun hHeld => ?_)
                · first | exact hq1 | exact k5 | exact k6 | exact k8
                clear hK K
                try simp only [Act.put, sp1, sp2, sp3]
                refine wpT 8 ⟨some 24, .fieldAddr 144 (.tmp 3) 1, 0, "row.go:164", #[⟨0, .phase⟩, ⟨1, .phase⟩, ⟨2, .phase⟩, ⟨3, .phase⟩, ⟨4, .phase⟩, ⟨5, .phase⟩, ⟨6, .phase⟩, ⟨7, .phase⟩], none⟩ ?_
                refine wpAnyH_done (by kernel_rfl) ?_ _
                unfold PeelQ
                refine wpOp_of_wp rfl rfl ?_
                go_simp
                exact NoPanic.normal ⟨rfl, by kernel_rfl, _, _, _, F1, F2, F3, F4, F5⟩
              · rintro u w9 ⟨ad9, n9, cap9, hG9, hbox9, hr9, M9, q9⟩
                simp only [List.foldl_cons, List.foldl_nil, List.setIfInBounds_toArray, List.set_cons_zero, List.set_cons_succ]
                generalize u 16 = u16
                generalize u 17 = u17
                generalize u 18 = u18
                generalize u 19 = u19
                generalize u 20 = u20
                generalize u 21 = u21
                generalize u 22 = u22
                generalize u 23 = u23
                generalize u 24 = u24
                clear hrd hboxq hq1 Mq q5 hcQ hr5 HGq
                go_wp2_with fail
                go_roundw
                case rel => exact ⟨j + 1, l ++ [x], b3, _, by omega, by go_num, by rw [← HX2.out]; exact HIT2.out, hr9, M9, q9, hbox9, hG9⟩
                case measure => simp [intOf]; omega
          · have HNO : Hid (dCol tAny bs = none) := dCol_no3 HT.out (by rw [HC.out, hb1'.out]; exact iter_none (iter_stop HIT.out (dVer_no1 h8)) (by omega))
            go_wp2_with (go_at_call 196; refine (rlongr_fail_w _ g b2 _ hr4 (by omega)).mono ?_; rintro _ w5 ⟨rfl, hr5, m5⟩)
            exact ⟨rfl, .inr ⟨HNO.out, rfl, b2, hr5, M4.then m5⟩⟩
        · have hj3 : ¬ (j : Int) < cnt := by omega
          obtain rfl : j = cnt := by omega
          have HYES : Hid (dCol tAny bs = some (⟨strOf tx, l⟩, b2)) := dCol_of HT.out hb (by rw [HC.out, hb1'.out]; exact HIT.out)
          obtain ⟨k0, k1⟩ := pair_cells hbox
          obtain ⟨s0, s1⟩ := pair_cells q4
          have f4 : ∀ i : Nat, wr.frozen? ⟨w.heap.size, i, none⟩ = false := fun i => by simp [World.frozen?, q4]
          have hf0 := f4 0
          have hf1 := f4 1
          go_wp2_with fail
          try simp only [Exit.inBlock, Exit.then]
          have s2 : Moves [w.heap.size] wr ((wr.setCell ⟨w.heap.size, 0, none⟩ (.string (strOf tx))).setCell ⟨w.heap.size, 1, none⟩ (.slice ad4 n4 cap4)) := (moves_set _ _ _ _).then (moves_set _ _ _ _)
          have sst : Stay (· = 5) wr ((wr.setCell ⟨w.heap.size, 0, none⟩ (.string (strOf tx))).setCell ⟨w.heap.size, 1, none⟩ (.slice ad4 n4 cap4)) := Stay.ofMovesS s2 (fun k hk c' t' fz' hc he => by simp at hk; subst hk; rw [q4] at hc; simp at hc; rw [← hc.2.1] at he; exact absurd he (by decide))
          refine bodyPost_ret (ret_col rfl _ _ _ _ _ rfl (heap_set (i := 1) (heap_set (i := 0) q4 _) _)) rfl (.inl ⟨_, b2, ad4, n4, cap4, HYES.out, rfl, HG.out.moves s2 ?_ sst, hr4.moves s2 (by simp; omega) (by simp; omega), M4.trans s2 (fun k hk => .inr (by simp at hk; omega))⟩)
          intro k hk hx
          simp at hx
          subst hx
          exact (Grow.neT HG.out q4 (by decide)) (by rw [hk]; simp)
    · have HNO : Hid (dCol tAny bs = none) := dCol_no2 HT.out hb
      go_enter Tryz.func169, Tryz.ntmps169
      go_wp2_with (first | (go_at_call 140; refine (rtextr_w _ g bs 16 _ hr0 ho.2 hok).mono ?_; rintro _ w2 ⟨v2, rfl, hO2, hr2, m2, f2⟩; rw [HTX.out] at hO2; rw [HB1.out] at hr2; have hstr := run_str hO2.isB hotx; have q2 := m2.at q0 hbx) | (go_at_call 135; refine (rbyte_fail_w _ g b1 _ (hr2.moves ((Moves.refl [] _).alloc _) (by simp) (by simp)) (by omega)).mono ?_; rintro _ w3 ⟨rfl, hr3, m3⟩))
      exact ⟨rfl, .inr ⟨HNO.out, rfl, b1, hr3, (((m0.mono (by simp)).then m2).then (((Moves.refl [] _).alloc _).mono (by simp))).then m3⟩⟩
end Go.Proofs.YtilbbnmhnacnlaaGreat
