/-
  cmd.takeOp of any bytes.
-/
import Derived.Test.YtcamhlnkcoicpaaGreatCTt8
import Derived.Test.YtcamhlnkcoicpaaGreatCB21
namespace Go.Proofs.YtcamhlnkcoicpaaGreat
open Go.RowKit

/-- A list of changes of the call's own, whose values are its own too. -/
def GrowD (W w : World) (v : Value) (xs : List Pchg) : Prop := Grow ChgD 27 6 W w v xs
theorem ChgD.one {w : World} {c : List Value} {x : Pchg} (h : ChgD w c x) : ∀ u ∈ c, u.oneCell' = true := by
  obtain ⟨a, n, cap, rfl, _⟩ := h
  intro u hu
  simp at hu
  rcases hu with rfl | rfl | rfl | rfl | rfl | rfl <;> rfl
theorem ChgD.stay {T : TypeId → Prop} {w w' : World} (st : Stay T w w') (hT : T 5) {c : List Value} {x : Pchg} (h : ChgD w c x) : ChgD w' c x := by
  obtain ⟨a, n, cap, e, h1⟩ := h
  exact ⟨a, n, cap, e, h1.stay st hT⟩
theorem GrowD.nil (W w : World) : GrowD W w (.slice none 0 0) [] := ⟨Fresh.nil _, [], OwnL.nil _ _ _, trivial⟩
theorem GrowD.moves {W w w' : World} {S : List Nat} (m : Moves S w w') {v : Value} {xs : List Pchg} (h : GrowD W w v xs) (hv : ∀ k, v.ownBlock = some k → k ∉ S) (hs : Stay (· = 5) w w') : GrowD W w' v xs := by
  obtain ⟨h1, css, h2, h3⟩ := h
  exact ⟨h1, css, h2.moves m hv, h3.mono (fun _ _ k => k.stay hs rfl)⟩
theorem GrowD.moves0 {W w w' : World} (m : Moves [] w w') {v : Value} {xs : List Pchg} (h : GrowD W w v xs) : GrowD W w' v xs := h.moves m (by simp) (Stay.ofMoves m)
theorem GrowD.elder {W W' w : World} {v : Value} {xs : List Pchg} (h : GrowD W' w v xs) (hle : W.heap.size ≤ W'.heap.size) : GrowD W w v xs := ⟨fun k hk => Nat.le_trans hle (h.1 k hk), h.2⟩
/-- A box of another type is written. -/
theorem GrowD.box {W w w' : World} {v : Value} {xs : List Pchg} {b : Nat} {c : Array Value} {t : TypeId} {fz : Nat × Nat} (h : GrowD W w v xs) (m : Moves [b] w w') (hb : w.heap[b]? = some (.cells c t fz)) (h1 : t ≠ 5) (h2 : t ≠ 27) : GrowD W w' v xs := by
  refine h.moves m (fun k hk hm => ?_) (Stay.ofMovesS m (fun k hk c' t' fz' hc he => ?_))
  · simp at hm
    subst hm
    exact (Grow.neT h hb h2) (by rw [hk]; simp)
  · simp at hk
    subst hk
    rw [hb] at hc
    simp at hc
    exact h1 (hc.2.1.trans he)
theorem GrowD.open {W w : World} {v : Value} {xs : List Pchg} (h : GrowD W w v xs) : ∃ ad n cap, v = .slice ad n cap ∧ Hid (n = xs.length) := by
  obtain ⟨_, css, h1, h2⟩ := h
  obtain ⟨ad, cap, rfl, _⟩ := h1.slice
  exact ⟨ad, _, cap, rfl, h2.length⟩
theorem GrowD.chgs {W w : World} {ad : Option Addr} {n cap : Nat} {xs : List Pchg} (h : GrowD W w (.slice ad n cap) xs) : ChgsAt w ad xs ∧ n = xs.length := by
  obtain ⟨_, css, h1, h2⟩ := h
  have hL := Lies.ofOwn h1
  obtain ⟨_, _, e, _⟩ := hL.slice
  simp only [Value.slice.injEq] at e
  refine ⟨fun k c hc => ?_, by rw [e.2.1]; exact h2.length⟩
  obtain ⟨cs, hcs, a, n', cap', rfl, hv⟩ := h2.get hc
  obtain ⟨g, off, e2, h4⟩ := hL.at hcs
  exact ⟨g, off, a, n', cap', e2, h4 0 _ rfl, h4 1 _ rfl, h4 2 _ rfl, h4 3 _ rfl, h4 4 _ rfl, h4 5 _ rfl, hv.va⟩
theorem chgD_new (w : World) (x : Pchg) (a : Option Addr) (n cap : Nat) (hv : VC w [.int .i64 x.v.kind, .slice a n cap, .float .f64 x.v.n] x.v) : ∃ ds, Lies (w.alloc (.cells #[.int .i64 x.kind, .string x.col, .int .i64 x.t, .int .i64 x.v.kind, .slice a n cap, .float .f64 x.v.n] 27)) 27 6 (.slice (some ⟨w.heap.size, 0, none⟩) 1 1) ds ∧ All2 (ChgD (w.alloc (.cells #[.int .i64 x.kind, .string x.col, .int .i64 x.t, .int .i64 x.v.kind, .slice a n cap, .float .f64 x.v.n] 27))) ds [x] :=
  ⟨_, lies_new w [.int .i64 x.kind, .string x.col, .int .i64 x.t, .int .i64 x.v.kind, .slice a n cap, .float .f64 x.v.n] 27, ⟨a, n, cap, rfl, hv.moves0 ((Moves.refl _ _).alloc _)⟩, trivial⟩
theorem growD_stepS {ops : Array Oper} {o : Oper} {a : Act} {K : Act → World → Prop} {Q : Exit → Act → World → Prop} {W w : World} (s x : Operand)
    (ho : o.op = .call { callee := .builtin .append, args := #[s, x], argTypes := #[28, 28] })
    (v yv : Value) (xs ys : List Pchg) (ds : List (List Value)) (hs : a.eval s = v) (hx : a.eval x = yv) (hw : Region.wanted o (yielded ops a.tmps) = true)
    (hv : GrowD W w v xs) (hd : Lies w 27 6 yv ds) (hys : All2 (ChgD w) ds ys) (hm : W.heap.size ≤ w.heap.size) (hb : xs.length + ys.length ≤ 1048576)
    (h : ∀ v' w', GrowD W w' v' (xs ++ ys) → Moves v.ownBlock.toList w w' → Stay (· ≠ 27) w w' → Lain w v v' → K (a.put o.dst v') w') :
    if Region.wanted o (yielded ops a.tmps) then o.wp Tryz.prog a w K Q else K (a.put o.dst undef) w := by
  rw [if_pos hw]
  have hv2 : GrowD (cutTo W w) w v xs := ⟨fun k hk => by rw [cutTo_size hm]; exact hv.1 k hk, hv.2⟩
  exact grow_append s x _ 27 _ 6 72 chg_info Tryz.underlying28 rfl (by omega) (by omega) (fun _ _ _ h => h.one) (fun _ _ _ _ h st => h.stay st (by decide)) ho v yv xs ys ds hs hx hv2 hd hys (cutTo_moves hm) hb (fun v' w' h1 _ h3 h4 h5 => h v' w' ⟨fun k hk => by have := h1.1 k hk; rw [cutTo_size hm] at this; exact this, h1.2⟩ h3 h4 h5)

def dOpK (k : Nat) (row : ByteArray) : List Nat → Option (Pop × List Nat) :=
  if k = 2 then pbn dCd fun cd => pbn (dNum 1) fun n => pbn (iter dChg n) fun l => fun bs => some (⟨(k : Int), row, ⟨#[]⟩, cd, l, 0⟩, bs)
  else if k = 3 then pbn (dText 16) fun hi => pbn (dNum 1) fun m => fun bs => some (⟨(k : Int), row, strOf hi, cdz, [], (m : Int)⟩, bs)
  else fun bs => some (⟨(k : Int), row, ⟨#[]⟩, cdz, [], 0⟩, bs)
theorem dOpK2 {k : Nat} {row : ByteArray} (h : k = 2) : dOpK k row = pbn dCd fun cd => pbn (dNum 1) fun n => pbn (iter dChg n) fun l => fun bs => some (⟨(k : Int), row, ⟨#[]⟩, cd, l, 0⟩, bs) := if_pos h
theorem dOpK3 {k : Nat} {row : ByteArray} (h : k = 3) : dOpK k row = pbn (dText 16) fun hi => pbn (dNum 1) fun m => fun bs => some (⟨(k : Int), row, strOf hi, cdz, [], (m : Int)⟩, bs) := by unfold dOpK; rw [if_neg (by omega), if_pos h]
theorem dOpK0 {k : Nat} {row : ByteArray} (h : ¬ k = 2 ∧ ¬ k = 3) : dOpK k row = fun bs => some (⟨(k : Int), row, ⟨#[]⟩, cdz, [], 0⟩, bs) := by unfold dOpK; rw [if_neg h.1, if_neg h.2]
/-- What cmd.takeOp reads. -/
def dOp : List Nat → Option (Pop × List Nat) := pbn (dNum 1) fun k => pbn (dText 16) fun tx => dOpK k (strOf tx)
/-- An operation in memory of one's own. -/
def OpD (W w : World) (c : List Value) (p : Pop) : Prop := ∃ ca cn cc lv, c = [.int .i64 p.kind, .string p.row, .string p.hi, .bool p.cd.has, .bool p.cd.want, .string p.cd.col, .int .i64 p.cd.v.kind, .slice ca cn cc, .float .f64 p.cd.v.n, lv, .int .i64 p.most] ∧ VC w [.int .i64 p.cd.v.kind, .slice ca cn cc, .float .f64 p.cd.v.n] p.cd.v ∧ GrowD W w lv p.l
def TookO (w0 : World) (r g : Nat) (o : Option (Pop × List Nat)) (e : Ending) (w' : World) : Prop := match o with
  | some (p, rest) => ∃ c, e = .returned (.agg c.toArray) ∧ OpD w0 w' c p ∧ RdIs w' r g rest false ∧ Moves [r] w0 w'
  | none => e = .panicked (stop r) ∧ (∃ bs', RdIs w' r g bs' true) ∧ Moves [r] w0 w'
theorem Tryz.size32 : (Tryz.prog.info? 32).map (·.size) = some 11 := by kernel_rfl
theorem ret_op {fn : Func} {p : Tmp} (h : fn.results = #[.cell p 32]) (tmps : Array Value) (w : World) (g : Nat) (x0 x1 x2 x3 x4 x5 x6 x7 x8 x9 x10 : Value) (hp : tmps.getD p undef = .pointer (some ⟨g, 0, none⟩)) (hg : w.heap[g]? = some (.cells #[x0, x1, x2, x3, x4, x5, x6, x7, x8, x9, x10] 32 (0, 0))) :
    (results fn tmps).run Tryz.prog w = .ok (.agg #[x0, x1, x2, x3, x4, x5, x6, x7, x8, x9, x10]) w :=
  results_cell_row h tmps w g 32 _ (0, 0) _ hp hg Tryz.underlying32 rfl Tryz.size32
theorem stored6at3 {w : World} {p : Nat} {a0 a1 a2 a3 a4 a5 a6 a7 a8 a9 a10 : Value} {t : TypeId} (hp : w.heap[p]? = some (.cells #[a0, a1, a2, a3, a4, a5, a6, a7, a8, a9, a10] t (0, 0))) (x3 x4 x5 x6 x7 x8 : Value) :
    ((((((w.setCell ⟨p, 3, none⟩ x3).setCell ⟨p, 4, none⟩ x4).setCell ⟨p, 5, none⟩ x5).setCell ⟨p, 6, none⟩ x6).setCell ⟨p, 7, none⟩ x7).setCell ⟨p, 8, none⟩ x8).heap[p]? = some (.cells #[a0, a1, a2, x3, x4, x5, x6, x7, x8, a9, a10] t (0, 0)) ∧ Moves [p] w ((((((w.setCell ⟨p, 3, none⟩ x3).setCell ⟨p, 4, none⟩ x4).setCell ⟨p, 5, none⟩ x5).setCell ⟨p, 6, none⟩ x6).setCell ⟨p, 7, none⟩ x7).setCell ⟨p, 8, none⟩ x8) :=
  ⟨heap_set (i := 8) (heap_set (i := 7) (heap_set (i := 6) (heap_set (i := 5) (heap_set (i := 4) (heap_set (i := 3) hp x3) x4) x5) x6) x7) x8, (((((moves_set _ _ _ _).then (moves_set _ _ _ _)).then (moves_set _ _ _ _)).then (moves_set _ _ _ _)).then (moves_set _ _ _ _)).then (moves_set _ _ _ _)⟩

theorem takeOp_fin {N : Nat} {w w7 w8 : World} {r g R B : Nat} {b6 : List Nat} {Zr : Array Value} {x0 x1 x2 x3 x4 x5 x6 x7 x8 x10 : Value} {ad ad8 : Option Addr} {nn cap n8 cap8 : Nat} {xs ys : List Pchg} {cv : List Value} {pv : Pv}
    (hT : TkB N w w7 r g b6 [(R, Zr, 32), (B, #[x0, x1, x2, x3, x4, x5, x6, x7, x8, .slice ad nn cap, x10], 32)]) (hG : GrowD w w7 (.slice ad nn cap) xs) (m8 : Moves (Value.slice ad nn cap).ownBlock.toList w7 w8) (hG8 : GrowD w w8 (.slice ad8 n8 cap8) ys) (s8 : Stay (· ≠ 27) w7 w8) (hV : VC w7 cv pv) :
    w8.heap[B]? = some (.cells #[x0, x1, x2, x3, x4, x5, x6, x7, x8, .slice ad nn cap, x10] 32 (0, 0)) ∧ GrowD w (w8.setCell ⟨B, 9, none⟩ (.slice ad8 n8 cap8)) (.slice ad8 n8 cap8) ys ∧ TkB N w (w8.setCell ⟨B, 9, none⟩ (.slice ad8 n8 cap8)) r g b6 [(R, Zr, 32), (B, #[x0, x1, x2, x3, x4, x5, x6, x7, x8, .slice ad8 n8 cap8, x10], 32)] ∧ VC (w8.setCell ⟨B, 9, none⟩ (.slice ad8 n8 cap8)) cv pv := by
  have k1 := hT.hr
  have k2 := hT.hg
  have nB : B ∉ (Value.slice ad nn cap).ownBlock.toList := Grow.neT hG (hT.at 1 rfl) (by decide)
  have nR : R ∉ (Value.slice ad nn cap).ownBlock.toList := Grow.neT hG (hT.at 0 rfl) (by decide)
  have b8 := m8.at (hT.at 1 rfl) nB
  have r8 := m8.at (hT.at 0 rfl) nR
  have T8 : TkB N w w8 r g b6 [(R, Zr, 32), (B, #[x0, x1, x2, x3, x4, x5, x6, x7, x8, .slice ad nn cap, x10], 32)] := by
    refine ⟨hT.rd.moves m8 (Grow.notP hG k1) (Grow.notP hG k2), fun x hx => ?_, hT.nd, hT.mv.trans m8 (fun x hx => .inr (hG.1 x (Option.mem_toList.1 hx))), k1, k2, hT.oct⟩
    simp at hx
    rcases hx with rfl | rfl
    · exact ⟨r8, hT.ge 0 rfl⟩
    · exact ⟨b8, hT.ge 1 rfl⟩
  have T9 := T8.set 1 rfl (moves_set w8 B 9 (.slice ad8 n8 cap8)) (heap_set (i := 9) b8 (.slice ad8 n8 cap8))
  exact ⟨b8, hG8.box (moves_set _ _ _ _) b8 (by decide) (by decide), T9, (hV.stay s8 (by decide)).box (moves_set _ _ _ _) b8 (by decide)⟩
theorem dChg_rest {N : Nat} {bs b : List Nat} {x : Pchg} (h : dChg bs = some (x, b)) (ho : OctN N bs) : OctN N b := by
  unfold dChg at h
  cases e1 : dNum 1 bs with
  | none => rw [pbn_none e1] at h; simp at h
  | some pr =>
    obtain ⟨k, b1⟩ := pr
    rw [pbn_some e1] at h
    have h1 := (dNum_oct e1 ho).1
    have hgd : ∀ {c : Pchg} {bb : List Nat}, OctN N bb → chgGuard c bb = some (x, b) → OctN N b := fun hb hq => by
      unfold chgGuard at hq
      split at hq
      · simp at hq
        rw [← hq.2]
        exact hb
      · simp at hq
    have ht : ∀ {f : List Nat → List Nat → Option (Pchg × List Nat)} , (∀ tx bb, OctN N bb → f tx bb = some (x, b) → OctN N b) → pbn (dText 16) f b1 = some (x, b) → OctN N b := fun hf hq => by
      cases e2 : dText 16 b1 with
      | none => rw [pbn_none e2] at hq; simp at hq
      | some pr =>
        obtain ⟨tx, b2⟩ := pr
        rw [pbn_some e2] at hq
        exact hf tx b2 (dText_rest e2 h1) hq
    have hnn : ∀ {f : Nat → List Nat → Option (Pchg × List Nat)} {b2 : List Nat}, OctN N b2 → (∀ t bb, OctN N bb → f t bb = some (x, b) → OctN N b) → pbn (dNum 8) f b2 = some (x, b) → OctN N b := fun h2 hf hq => by
      rename_i f b2
      cases e3 : dNum 8 b2 with
      | none => rw [pbn_none e3] at hq; simp at hq
      | some pr =>
        obtain ⟨t, b3⟩ := pr
        rw [pbn_some e3] at hq
        exact hf t b3 (dNum_oct e3 h2).1 hq
    by_cases k4 : k = 4
    · rw [dChgK4 k4] at h
      exact hgd h1 h
    · by_cases k3 : k = 3
      · rw [dChgK3 k3] at h
        exact ht (fun _ _ hb hq => hgd hb hq) h
      · by_cases k2 : k = 2
        · rw [dChgK2 k2] at h
          exact ht (fun _ _ hb hq => hnn hb (fun _ _ hb2 hq2 => hgd hb2 hq2) hq) h
        · by_cases k15 : k = 1 ∨ k = 5
          · rw [dChgK15 k15] at h
            refine ht (fun _ _ hb hq => hnn hb (fun _ b3 hb2 hq2 => ?_) hq) h
            cases e4 : dVal b3 with
            | none => rw [pbn_none e4] at hq2; simp at hq2
            | some pr =>
              obtain ⟨v, b4⟩ := pr
              rw [pbn_some e4] at hq2
              exact hgd (dVal_rest e4 hb2) hq2
          · rw [dChgK0 (by omega)] at h
            simp at h
theorem dCd_rest {N : Nat} {bs b : List Nat} {x : Pcd} (h : dCd bs = some (x, b)) (ho : OctN N bs) : OctN N b := by
  unfold dCd at h
  cases e1 : dNum 1 bs with
  | none => rw [pbn_none e1] at h; simp at h
  | some pr =>
    obtain ⟨k, b1⟩ := pr
    rw [pbn_some e1] at h
    have h1 := (dNum_oct e1 ho).1
    have hgd : ∀ {c : Pcd} {bb : List Nat}, OctN N bb → cdGuard c bb = some (x, b) → OctN N b := fun hb hq => by
      unfold cdGuard at hq
      split at hq
      · simp at hq
        rw [← hq.2]
        exact hb
      · simp at hq
    have ht : ∀ {f : List Nat → List Nat → Option (Pcd × List Nat)} , (∀ tx bb, OctN N bb → f tx bb = some (x, b) → OctN N b) → pbn (dText 16) f b1 = some (x, b) → OctN N b := fun hf hq => by
      cases e2 : dText 16 b1 with
      | none => rw [pbn_none e2] at hq; simp at hq
      | some pr =>
        obtain ⟨tx, b2⟩ := pr
        rw [pbn_some e2] at hq
        exact hf tx b2 (dText_rest e2 h1) hq
    by_cases k0 : k = 0
    · rw [dCdK0 k0] at h
      simp at h
      rw [← h.2]
      exact h1
    · by_cases k1 : k = 1
      · rw [dCdK1 k1] at h
        exact ht (fun _ _ hb hq => hgd hb hq) h
      · by_cases k2 : k = 2
        · rw [dCdK2 k2] at h
          refine ht (fun _ b2 hb hq => ?_) h
          cases e4 : dVal b2 with
          | none => rw [pbn_none e4] at hq; simp at hq
          | some pr =>
            obtain ⟨v, b4⟩ := pr
            rw [pbn_some e4] at hq
            exact hgd (dVal_rest e4 hb) hq
        · rw [dCdK3 (by omega)] at h
          simp at h

set_option maxRecDepth 100000 in
set_option maxHeartbeats 32000000 in
theorem ctakeOp_w (N r g : Nat) (bs : List Nat) (w : World) (h : RdIs w r g bs false) (ho : OctN N bs) (hg : g < w.heap.size) :
    Calls Tryz.prog 107 #[.pointer (some ⟨r, 0, none⟩)] w fun e w' => TookO w r g (dOp bs) e w' := by
  have T0 := (TkB.start h ho hg).new #[.int .i64 0, .string ⟨#[]⟩, .string ⟨#[]⟩, .bool false, .bool false, .string ⟨#[]⟩, .int .i64 0, .slice none 0 0, .float .f64 0, .slice none 0 0, .int .i64 0] 32
  obtain ⟨R, hR⟩ : ∃ R, w.heap.size = R := ⟨_, rfl⟩
  rw [hR] at T0
  have hc := rbyteD_w N r g bs _ T0.rd ho
  have D0 : Hid (dOp bs = pbn (dNum 1) _ bs) := rfl
  have HT0 : Hid _ := T0
  clear T0
  go_enter Tryz.func107, Tryz.ntmps107
  go_wp2_with fail
  cases e1 : dNum 1 bs with
  | none =>
    rw [e1] at hc
    refine hc.mono ?_
    rintro _ w1 ⟨rfl, hr1, m1⟩
    refine ⟨rfl, ?_⟩
    show TookO w r g (dOp bs) _ _
    rw [D0.out, pbn_none e1]
    exact ⟨rfl, ⟨_, hr1⟩, HT0.out.mv.then m1⟩
  | some pr =>
    obtain ⟨k, b1⟩ := pr
    rw [e1] at hc
    obtain ⟨ho1, hk⟩ := dNum_oct e1 ho
    have D1 : dOp bs = (pbn (dText 16) fun tx => dOpK k (strOf tx)) b1 := D0.out.trans (pbn_some e1)
    refine hc.mono ?_
    rintro _ w1 ⟨rfl, hr1, m1⟩
    have wc : IntKind.i64.wrap (k : Int) = (k : Int) := by rw [IntWalk.i64_in _ (by omega)]
    have HT1 : Hid _ := HT0.out.read hr1 m1 ho1
    have HD1 : Hid (dOp bs = _) := D1
    clear hc hr1 m1 HT0 D0 e1 D1
    have hc := cname_w N r g b1 w1 HT1.out.rd ho1
    go_wp2_with fail
    cases e2 : dText 16 b1 with
    | none =>
      rw [e2] at hc
      refine hc.mono ?_
      rintro _ w2 ⟨rfl, hr2, m2⟩
      refine ⟨rfl, ?_⟩
      show TookO w r g (dOp bs) _ _
      rw [HD1.out, pbn_none e2]
      exact ⟨rfl, ⟨_, hr2⟩, HT1.out.mv.then m2⟩
    | some pr =>
      obtain ⟨tx, b2⟩ := pr
      rw [e2] at hc
      obtain ⟨z, hz⟩ : ∃ z, strOf tx = z := ⟨_, rfl⟩
      have D2 := HD1.out.trans (pbn_some e2)
      simp only [hz] at D2
      dsimp only at hc
      rw [hz] at hc
      refine hc.mono ?_
      rintro _ w2 ⟨rfl, hr2, m2⟩
      have T2 := (HT1.out.read hr2 m2 (dText_rest e2 ho1)).new #[.int .i64 (k : Int), .string z, .string ⟨#[]⟩, .bool false, .bool false, .string ⟨#[]⟩, .int .i64 0, .slice none 0 0, .float .f64 0, .slice none 0 0, .int .i64 0] 32
      obtain ⟨B, hB⟩ : ∃ B, w2.heap.size = B := ⟨_, rfl⟩
      rw [hB] at T2
      have HT2 : Hid (TkB N w (w2.alloc (.cells #[.int .i64 (k : Int), .string z, .string ⟨#[]⟩, .bool false, .bool false, .string ⟨#[]⟩, .int .i64 0, .slice none 0 0, .float .f64 0, .slice none 0 0, .int .i64 0] 32)) r g b2 [(R, #[.int .i64 0, .string ⟨#[]⟩, .string ⟨#[]⟩, .bool false, .bool false, .string ⟨#[]⟩, .int .i64 0, .slice none 0 0, .float .f64 0, .slice none 0 0, .int .i64 0], 32), (B, #[.int .i64 (k : Int), .string z, .string ⟨#[]⟩, .bool false, .bool false, .string ⟨#[]⟩, .int .i64 0, .slice none 0 0, .float .f64 0, .slice none 0 0, .int .i64 0], 32)]) := T2
      have HD2 : Hid (dOp bs = dOpK k z b2) := D2
      clear T2 hc hr2 m2 HT1 HD1 e2 D2 hz
      by_cases hK2 : k = 2
      · have hK := hK2
        clear hK2
        have D3 := HD2.out
        rw [dOpK2 hK] at D3
        have HD3 : Hid (dOp bs = _) := D3
        clear D3 HD2
        have n2 : ((k : Int) == 2) = true := beq_iff_eq.2 (by omega)
        clear hK
        have hc := cdTake_w N r g b2 (w2.alloc (.cells #[.int .i64 (k : Int), .string z, .string ⟨#[]⟩, .bool false, .bool false, .string ⟨#[]⟩, .int .i64 0, .slice none 0 0, .float .f64 0, .slice none 0 0, .int .i64 0] 32)) HT2.out.rd HT2.out.oct (Nat.lt_of_lt_of_le HT2.out.hg HT2.out.mv.size)
        go_wp2_with fail
        clear n2
        cases e3 : dCd b2 with
        | none =>
          rw [e3] at hc
          refine hc.mono ?_
          rintro _ w3 ⟨rfl, hr3, m3⟩
          refine ⟨rfl, ?_⟩
          show TookO w r g (dOp bs) _ _
          rw [HD3.out, pbn_none e3]
          exact ⟨rfl, hr3, HT2.out.mv.then m3⟩
        | some pr =>
          obtain ⟨cd, b3⟩ := pr
          rw [e3] at hc
          have D4 := HD3.out.trans (pbn_some e3)
          refine hc.mono ?_
          rintro _ w3 ⟨c3, rfl, hcd, hr3, m3⟩
          obtain ⟨ca, cn, cc, rfl, hvc⟩ := hcd
          have HD4 : Hid (dOp bs = _) := D4
          have T3 := HT2.out.read hr3 m3 (dCd_rest e3 HT2.out.oct)
          obtain ⟨y0, y1, y2, y3, y4, y5, y6, y7, y8, y9, y10⟩ := eleven_cells (T3.at 1 rfl)
          have yfz := eleven_fz (T3.at 1 rfl)
          have so := stored6at3 (T3.at 1 rfl) (.bool cd.has) (.bool cd.want) (.string cd.col) (.int .i64 cd.v.kind) (.slice ca cn cc) (.float .f64 cd.v.n)
          have T4 := T3.set 1 rfl so.2 so.1
          have hvc4 := hvc.box so.2 (T3.at 1 rfl) (by decide)
          obtain ⟨v4, hv4⟩ : ∃ v4, (((((w3.setCell ⟨B, 3, none⟩ (.bool cd.has)).setCell ⟨B, 4, none⟩ (.bool cd.want)).setCell ⟨B, 5, none⟩ (.string cd.col)).setCell ⟨B, 6, none⟩ (.int .i64 cd.v.kind)).setCell ⟨B, 7, none⟩ (.slice ca cn cc)).setCell ⟨B, 8, none⟩ (.float .f64 cd.v.n) = v4 := ⟨_, rfl⟩
          rw [hv4] at T4 hvc4
          have HT4 : Hid (TkB N w v4 r g b3 [(R, #[.int .i64 0, .string ⟨#[]⟩, .string ⟨#[]⟩, .bool false, .bool false, .string ⟨#[]⟩, .int .i64 0, .slice none 0 0, .float .f64 0, .slice none 0 0, .int .i64 0], 32), (B, #[.int .i64 (k : Int), .string z, .string ⟨#[]⟩, .bool cd.has, .bool cd.want, .string cd.col, .int .i64 cd.v.kind, .slice ca cn cc, .float .f64 cd.v.n, .slice none 0 0, .int .i64 0], 32)]) := T4
          have HV4 : Hid (VC v4 [.int .i64 cd.v.kind, .slice ca cn cc, .float .f64 cd.v.n] cd.v) := hvc4
          clear hc hr3 m3 T3 T4 D4 HT2 HD3 e3 so hvc hvc4
          have hc := rbyteD_w N r g b3 v4 HT4.out.rd HT4.out.oct
          go_wp2_with fail
          clear y0 y1 y2 y3 y4 y5 y6 y7 y8 y9 y10 yfz hv4
          cases e5 : dNum 1 b3 with
          | none =>
            rw [e5] at hc
            refine hc.mono ?_
            rintro _ w5 ⟨rfl, hr5, m5⟩
            refine ⟨rfl, ?_⟩
            show TookO w r g (dOp bs) _ _
            rw [HD4.out, pbn_none e5]
            exact ⟨rfl, ⟨_, hr5⟩, HT4.out.mv.then m5⟩
          | some pr =>
            obtain ⟨n, b5⟩ := pr
            rw [e5] at hc
            have D5 := HD4.out.trans (pbn_some e5)
            obtain ⟨ho5, hn⟩ := dNum_oct e5 HT4.out.oct
            refine hc.mono ?_
            rintro _ w5 ⟨rfl, hr5, m5⟩
            obtain ⟨cR5, hcR5⟩ := HT4.out.rd.block
            have hvc5 := HV4.out.box m5 hcR5 (by decide)
            have hn255 : n ≤ 255 := by omega
            have HD5 : Hid (dOp bs = pbn (iter dChg n) _ b5) := D5
            have HT5 : Hid (TkB N w w5 r g b5 [(R, #[.int .i64 0, .string ⟨#[]⟩, .string ⟨#[]⟩, .bool false, .bool false, .string ⟨#[]⟩, .int .i64 0, .slice none 0 0, .float .f64 0, .slice none 0 0, .int .i64 0], 32), (B, #[.int .i64 (k : Int), .string z, .string ⟨#[]⟩, .bool cd.has, .bool cd.want, .string cd.col, .int .i64 cd.v.kind, .slice ca cn cc, .float .f64 cd.v.n, .slice none 0 0, .int .i64 0], 32)]) := HT4.out.read hr5 m5 ho5
            have HV5 : Hid (VC w5 [.int .i64 cd.v.kind, .slice ca cn cc, .float .f64 cd.v.n] cd.v) := hvc5
            clear hc hr5 m5 HT4 HV4 HD4 e5 D5 hcR5 hvc5 ho5
            go_wp2_with fail
            go_loopw [19] (fun iv wr => ∃ (j : Nat) (lv : Value) (xs : List Pchg) (b' : List Nat), j ≤ n ∧ iv = .int .u8 (j : Int) ∧ iter dChg j b5 = some (xs, b') ∧ TkB N w wr r g b' [(R, #[.int .i64 0, .string ⟨#[]⟩, .string ⟨#[]⟩, .bool false, .bool false, .string ⟨#[]⟩, .int .i64 0, .slice none 0 0, .float .f64 0, .slice none 0 0, .int .i64 0], 32), (B, #[.int .i64 (k : Int), .string z, .string ⟨#[]⟩, .bool cd.has, .bool cd.want, .string cd.col, .int .i64 cd.v.kind, .slice ca cn cc, .float .f64 cd.v.n, lv, .int .i64 0], 32)] ∧ GrowD w wr lv xs ∧ VC wr [.int .i64 cd.v.kind, .slice ca cn cc, .float .f64 cd.v.n] cd.v) (fun iv _ => (n - intOf iv).toNat)
            case atStart => exact ⟨0, _, [], b5, Nat.zero_le _, rfl, rfl, HT5.out, GrowD.nil _ _, HV5.out⟩
            case round =>
              obtain ⟨j, lv, xs, b', hj, rfl, hit, hT, hG, hV⟩ := hrel
              have HIT : Hid (iter dChg j b5 = some (xs, b')) := hit
              obtain ⟨ad, nn, cap, rfl, hnn⟩ := hG.open
              have HT : Hid (TkB N w wr r g b' [(R, #[.int .i64 0, .string ⟨#[]⟩, .string ⟨#[]⟩, .bool false, .bool false, .string ⟨#[]⟩, .int .i64 0, .slice none 0 0, .float .f64 0, .slice none 0 0, .int .i64 0], 32), (B, #[.int .i64 (k : Int), .string z, .string ⟨#[]⟩, .bool cd.has, .bool cd.want, .string cd.col, .int .i64 cd.v.kind, .slice ca cn cc, .float .f64 cd.v.n, .slice ad nn cap, .int .i64 0], 32)]) := hT
              have HG : Hid (GrowD w wr (.slice ad nn cap) xs) := hG
              have HV : Hid (VC wr [.int .i64 cd.v.kind, .slice ca cn cc, .float .f64 cd.v.n] cd.v) := hV
              have hxl : xs.length = j := iter_len hit
              clear hit hT HT5 HV5 hG hV
              by_cases hjn : j < n
              · have hjn' : (j : Int) < (n : Int) := by omega
                obtain ⟨y0, y1, y2, y3, y4, y5, y6, y7, y8, y9, y10⟩ := eleven_cells (HT.out.at 1 rfl)
                clear y0 y1 y2 y3 y4 y5 y6 y7 y8 y10
                have hlr := HT.out.hr
                have hge := HT.out.ge 1 rfl
                have hBr : B ∉ [r] := by simp; omega
                have htk := chgTake_w N r g b' wr.drew (HT.out.rd.moves (Moves.refl [] wr).drew (by simp) (by simp)) HT.out.oct (Nat.lt_of_lt_of_le HT.out.hg HT.out.mv.size)
                cases hdc : dChg b' with
                | none =>
                  rw [hdc] at htk
                  have HNO : Hid (dOp bs = none) := by
                    unfold Hid
                    rw [HD5.out]
                    exact pbn_none (iter_none (iter_stop HIT.out hdc) (by omega))
                  go_wp2_with fail
                  refine wp_region_held_drew (S := (fun w' => w'.cell? ⟨B, 9, none⟩ = some (.slice ad nn cap))) (by kernel_rfl) ?_ (fun hHeld => ?_)
                  · first | (go_keep; done) | first | exact y9 | exact k5 | exact k6 | exact k8
                  refine wpAnyH_take (i := 0) (oi := { dst := some 21, op := Op.fieldAddr 32 (Operand.tmp 3) 4, type := 0, pos := "cmd.go:206", after := #[], guard := none }) (v := ?_) rfl (by kernel_rfl) (by kernel_rfl) (by kernel_rfl) (fun _ _ _ h => h) (Or.inl ⟨by rfl, ?_⟩) (by assumption) ?_
                  rotate_left
                  · (intro w hSw; (try dsimp only at hSw); go_simp; try (with_reducible rfl))
                  try simp only [Act.put, List.setIfInBounds_toArray, List.set_cons_zero, List.set_cons_succ]
                  refine wpAnyH_take (i := 1) (oi := { dst := some 22, op := Op.load 28 (Operand.tmp 21), type := 28, pos := "cmd.go:206", after := #[{ on := 0, ground := Ground.data }], guard := none }) (v := ?_) rfl (by kernel_rfl) (by kernel_rfl) (by kernel_rfl) (fun _ _ _ h => h) (Or.inl ⟨by rfl, ?_⟩) (by assumption) ?_
                  rotate_left
                  · (intro w hSw; (try dsimp only at hSw); go_simp; try (with_reducible rfl))
                  try simp only [Act.put, List.setIfInBounds_toArray, List.set_cons_zero, List.set_cons_succ]
                  refine wpAnyH_take (i := 2) (oi := { dst := some 23, op := Op.move (Operand.tmp 0), type := 110, pos := "cmd.go:206", after := #[], guard := none }) (v := ?_) rfl (by kernel_rfl) (by kernel_rfl) (by kernel_rfl) (fun _ _ _ h => h) (Or.inl ⟨by rfl, ?_⟩) (by assumption) ?_
                  rotate_left
                  · (intro w hSw; (try dsimp only at hSw); go_simp; try (with_reducible rfl))
                  try simp only [Act.put, List.setIfInBounds_toArray, List.set_cons_zero, List.set_cons_succ]
                  refine wpAnyH_ready (rs := [3]) (by kernel_rfl) (by simp) ?_
                  refine AllReadyH.cons (o := { dst := some 24, op := Op.call { callee := Callee.value (Operand.func 146), args := #[Operand.tmp 23], argTypes := #[110] }, type := 27, pos := "cmd.go:206", after := #[{ on := 2, ground := Ground.data }], guard := none }) rfl (fun K hK => ?_) AllReadyH.nil
                  go_simp
                  (go_at_call 146; refine htk.mono ?_; rintro _ w6 ⟨rfl, hr6, m6⟩)
                  refine ⟨rfl, ?_⟩
                  show TookO w r g (dOp bs) _ _
                  rw [HNO.out]
                  exact ⟨rfl, hr6, HT.out.mv.then ((Moves.refl [r] wr).drew.then m6)⟩
                | some pr =>
                  obtain ⟨x, b6⟩ := pr
                  rw [hdc] at htk
                  have HIT2 : Hid (iter dChg (j + 1) b5 = some (xs ++ [x], b6)) := iter_step HIT.out hdc
                  have ho6 := dChg_rest hdc HT.out.oct
                  have hbd : xs.length + [x].length ≤ 1048576 := by simp; omega
                  have HNB : Hid (B ∉ (Value.slice ad nn cap).ownBlock.toList) := Grow.neT HG.out (HT.out.at 1 rfl) (by decide)
                  obtain ⟨cR, hcR⟩ := HT.out.rd.block
                  have HCR : Hid _ := hcR
                  clear hcR hdc
                  go_wp2_with fail
                  refine wp_some [21, 22, 23, 24, 25, 26, 27] (fun _ w' => ∃ lv, GrowD w w' lv (xs ++ [x]) ∧ TkB N w w' r g b6 [(R, #[.int .i64 0, .string ⟨#[]⟩, .string ⟨#[]⟩, .bool false, .bool false, .string ⟨#[]⟩, .int .i64 0, .slice none 0 0, .float .f64 0, .slice none 0 0, .int .i64 0], 32), (B, #[.int .i64 (k : Int), .string z, .string ⟨#[]⟩, .bool cd.has, .bool cd.want, .string cd.col, .int .i64 cd.v.kind, .slice ca cn cc, .float .f64 cd.v.n, lv, .int .i64 0], 32)] ∧ VC w' [.int .i64 cd.v.kind, .slice ca cn cc, .float .f64 cd.v.n] cd.v) ?_ ?_
                  · skip
                    refine wp_region_noPanic ?_
                    refine region_peel (S := (fun w' => w'.cell? ⟨B, 9, none⟩ = some (.slice ad nn cap))) (pre := #[{ dst := some 21, op := Op.fieldAddr 32 (Operand.tmp 3) 4, type := 0, pos := "cmd.go:206", after := #[], guard := none }, { dst := some 22, op := Op.load 28 (Operand.tmp 21), type := 28, pos := "cmd.go:206", after := #[{ on := 0, ground := Ground.data }], guard := none }, { dst := some 23, op := Op.move (Operand.tmp 0), type := 110, pos := "cmd.go:206", after := #[], guard := none }, { dst := some 24, op := Op.call { callee := Callee.value (Operand.func 146), args := #[Operand.tmp 23], argTypes := #[110] }, type := 27, pos := "cmd.go:206", after := #[{ on := 2, ground := Ground.data }], guard := none }, { dst := some 25, op := Op.buildSlice 28 1 #[(0, Operand.tmp 24)], type := 28, pos := "cmd.go:206", after := #[{ on := 3, ground := Ground.data }], guard := none }, { dst := some 26, op := Op.call { callee := Callee.builtin Builtin.append, args := #[Operand.tmp 22, Operand.tmp 25], argTypes := #[28, 28] }, type := 28, pos := "cmd.go:206", after := #[{ on := 1, ground := Ground.data }, { on := 4, ground := Ground.data }, { on := 3, ground := Ground.chain }], guard := none }, { dst := some 27, op := Op.fieldAddr 32 (Operand.tmp 3) 4, type := 0, pos := "cmd.go:206", after := #[{ on := 0, ground := Ground.phase }, { on := 1, ground := Ground.phase }, { on := 2, ground := Ground.phase }, { on := 3, ground := Ground.phase }, { on := 4, ground := Ground.phase }, { on := 5, ground := Ground.phase }], guard := none }]) (o := { dst := none, op := Op.store 28 (Operand.tmp 27) (Operand.tmp 26), type := 0, pos := "cmd.go:206", after := #[{ on := 6, ground := Ground.data }, { on := 5, ground := Ground.data }, { on := 5, ground := Ground.chain }, { on := 0, ground := Ground.phase }, { on := 1, ground := Ground.phase }, { on := 2, ground := Ground.phase }, { on := 3, ground := Ground.phase }, { on := 4, ground := Ground.phase }, { on := 5, ground := Ground.phase }], guard := none }) (by kernel_rfl) (by kernel_rfl) (by kernel_rfl) ?_ (fun hHeld => ?_)
                    · first | exact y9 | exact k5 | exact k6 | exact k8
                    refine wpAnyH_take (i := 0) (oi := { dst := some 21, op := Op.fieldAddr 32 (Operand.tmp 3) 4, type := 0, pos := "cmd.go:206", after := #[], guard := none }) (v := ?_) rfl (by kernel_rfl) (by kernel_rfl) (by kernel_rfl) (fun _ _ _ h => h) (Or.inl ⟨by rfl, ?_⟩) (by assumption) ?_
                    rotate_left
                    · (intro w hSw; (try dsimp only at hSw); go_simp; try (with_reducible rfl))
                    try simp only [Act.put, List.setIfInBounds_toArray, List.set_cons_zero, List.set_cons_succ]
                    refine wpAnyH_take (i := 1) (oi := { dst := some 22, op := Op.load 28 (Operand.tmp 21), type := 28, pos := "cmd.go:206", after := #[{ on := 0, ground := Ground.data }], guard := none }) (v := ?_) rfl (by kernel_rfl) (by kernel_rfl) (by kernel_rfl) (fun _ _ _ h => h) (Or.inl ⟨by rfl, ?_⟩) (by assumption) ?_
                    rotate_left
                    · (intro w hSw; (try dsimp only at hSw); go_simp; try (with_reducible rfl))
                    try simp only [Act.put, List.setIfInBounds_toArray, List.set_cons_zero, List.set_cons_succ]
                    refine wpAnyH_take (i := 2) (oi := { dst := some 23, op := Op.move (Operand.tmp 0), type := 110, pos := "cmd.go:206", after := #[], guard := none }) (v := ?_) rfl (by kernel_rfl) (by kernel_rfl) (by kernel_rfl) (fun _ _ _ h => h) (Or.inl ⟨by rfl, ?_⟩) (by assumption) ?_
                    rotate_left
                    · (intro w hSw; (try dsimp only at hSw); go_simp; try (with_reducible rfl))
                    try simp only [Act.put, List.setIfInBounds_toArray, List.set_cons_zero, List.set_cons_succ]
                    refine wpAnyH_ready (rs := [3]) (by kernel_rfl) (by simp) ?_
                    refine AllReadyH.cons (o := { dst := some 24, op := Op.call { callee := Callee.value (Operand.func 146), args := #[Operand.tmp 23], argTypes := #[110] }, type := 27, pos := "cmd.go:206", after := #[{ on := 2, ground := Ground.data }], guard := none }) rfl (fun K hK => ?_) AllReadyH.nil
                    go_simp
                    (go_at_call 146; refine htk.mono ?_; rintro _ w6 ⟨c6, rfl, hD6, hr6, m6⟩; obtain ⟨a5, n5, c5, rfl, hV6⟩ := hD6)
                    replace m6 := ((Moves.refl [r] wr).drew).then m6
                    have k5 := m6.cellOf y9 hBr
                    refine hK.out _ _ ?_ (fun hHeld => ?_)
                    · first | exact y9 | exact k5 | exact k6 | exact k8
                    clear hK K
                    try simp only [Act.put, List.setIfInBounds_toArray, List.set_cons_zero, List.set_cons_succ]
                    refine wpAnyH_ready (rs := [4]) (by kernel_rfl) (by simp) ?_
                    refine AllReadyH.cons (o := { dst := some 25, op := Op.buildSlice 28 1 #[(0, Operand.tmp 24)], type := 28, pos := "cmd.go:206", after := #[{ on := 3, ground := Ground.data }], guard := none }) rfl (fun K hK => ?_) AllReadyH.nil
                    go_simp
                    have k6 := ((Moves.refl [] w6).alloc (.cells #[.int .i64 x.kind, .string x.col, .int .i64 x.t, .int .i64 x.v.kind, .slice a5 n5 c5, .float .f64 x.v.n] 27)).cell k5
                    refine hK.out _ _ ?_ (fun hHeld => ?_)
                    · first | exact y9 | exact k5 | exact k6 | exact k8
                    clear hK K
                    try simp only [Act.put, List.setIfInBounds_toArray, List.set_cons_zero, List.set_cons_succ]
                    refine wpAnyH_ready (rs := [5]) (by kernel_rfl) (by simp) ?_
                    refine AllReadyH.cons (o := { dst := some 26, op := Op.call { callee := Callee.builtin Builtin.append, args := #[Operand.tmp 22, Operand.tmp 25], argTypes := #[28, 28] }, type := 28, pos := "cmd.go:206", after := #[{ on := 1, ground := Ground.data }, { on := 4, ground := Ground.data }, { on := 3, ground := Ground.chain }], guard := none }) rfl (fun K hK => ?_) AllReadyH.nil
                    obtain ⟨ds, hds, hda⟩ := chgD_new w6 x a5 n5 c5 hV6
                    have T6 := HT.out.read hr6 m6 ho6
                    have hG6 : GrowD w w6 (.slice ad nn cap) xs := HG.out.moves m6 (fun k hk hm => by simp at hm; subst hm; exact Grow.notP HG.out HT.out.hr (by rw [hk]; simp)) (Stay.ofMovesS m6 (fun k hk c' t' fz' hc he => by simp at hk; subst hk; rw [HCR.out] at hc; simp at hc; rw [← hc.2.1] at he; revert he; decide))
                    have hV7 := HV.out.box m6 HCR.out (by decide)
                    refine growD_stepS (.tmp 22) (.tmp 25) rfl _ _ xs [x] ds rfl rfl (by rfl) (hG6.moves0 ((Moves.refl _ _).alloc _)) hds hda (by have := T6.mv.size; simp; omega) hbd ?_
                    intro v8 w8 hG8 m8 s8 l8
                    obtain ⟨ad8, n8, cap8, rfl, hn8⟩ := hG8.open
                    have k8 := m8.cellOf k6 HNB.out
                    have F := takeOp_fin (T6.moves ((Moves.refl [] w6).alloc (.cells #[.int .i64 x.kind, .string x.col, .int .i64 x.t, .int .i64 x.v.kind, .slice a5 n5 c5, .float .f64 x.v.n] 27))) (hG6.moves0 ((Moves.refl _ _).alloc _)) m8 hG8 s8 (hV7.moves0 ((Moves.refl _ _).alloc _))
                    have fz8 : w8.frozen? ⟨B, 9, none⟩ = false := eleven_fz F.1 9
                    refine hK.out _ _ ?_ (fun hHeld => ?_)
                    · first | exact y9 | exact k5 | exact k6 | exact k8
                    clear hK K
                    try simp only [Act.put, List.setIfInBounds_toArray, List.set_cons_zero, List.set_cons_succ]
                    refine wpAnyH_take (i := 6) (oi := { dst := some 27, op := Op.fieldAddr 32 (Operand.tmp 3) 4, type := 0, pos := "cmd.go:206", after := #[{ on := 0, ground := Ground.phase }, { on := 1, ground := Ground.phase }, { on := 2, ground := Ground.phase }, { on := 3, ground := Ground.phase }, { on := 4, ground := Ground.phase }, { on := 5, ground := Ground.phase }], guard := none }) (v := ?_) rfl (by kernel_rfl) (by kernel_rfl) (by kernel_rfl) (fun _ _ _ h => h) (Or.inl ⟨by rfl, ?_⟩) (by assumption) ?_
                    rotate_left
                    · (intro w hSw; (try dsimp only at hSw); go_simp; try (with_reducible rfl))
                    try simp only [Act.put, List.setIfInBounds_toArray, List.set_cons_zero, List.set_cons_succ]
                    refine wpAnyH_done (by kernel_rfl) ?_ _
                    unfold PeelQ
                    dsimp only
                    refine wpOp_of_wp rfl rfl ?_
                    go_simp
                    first | exact NoPanic.normal ⟨rfl, by kernel_rfl, _, F.2⟩ | exact ⟨rfl, by kernel_rfl, _, F.2⟩
                  · rintro u w9 ⟨lv9, hG9, hT9, hV9⟩
                    obtain ⟨ad9, nn9, cap9, rfl, hn9⟩ := hG9.open
                    simp only [List.foldl_cons, List.foldl_nil, List.setIfInBounds_toArray, List.set_cons_zero, List.set_cons_succ]
                    generalize u 21 = u21
                    generalize u 22 = u22
                    generalize u 23 = u23
                    generalize u 24 = u24
                    generalize u 25 = u25
                    generalize u 26 = u26
                    generalize u 27 = u27
                    have HG9 : Hid _ := hG9
                    have HT9 : Hid _ := hT9
                    have HV9 : Hid _ := hV9
                    have wj : IntKind.u8.wrap ((j : Int) + 1) = (j : Int) + 1 := by rw [IntWalk.u8_in _ (by omega)]
                    clear hG9 hT9 hV9 htk y9 HT HG HV HNB HCR
                    go_wp2_with fail
                    go_roundw
                    case rel => exact ⟨j + 1, _, xs ++ [x], b6, by omega, by go_num, HIT2.out, HT9.out, HG9.out, HV9.out⟩
                    case measure => simp [intOf]; omega
              · have hjn' : ¬ (j : Int) < (n : Int) := by omega
                obtain rfl : j = n := by omega
                have HD6 : Hid (dOp bs = some (⟨(k : Int), z, ⟨#[]⟩, cd, xs, 0⟩, b')) := by
                  unfold Hid
                  rw [HD5.out, pbn_some HIT.out]
                clear HD5 HIT
                obtain ⟨y0, y1, y2, y3, y4, y5, y6, y7, y8, y9, y10⟩ := eleven_cells (HT.out.at 1 rfl)
                obtain ⟨q0, q1, q2, q3, q4, q5, q6, q7, q8, q9, q10⟩ := eleven_cells (HT.out.at 0 rfl)
                have qfz := eleven_fz (HT.out.at 0 rfl)
                go_wp2_with fail
                have so := stored11 (HT.out.at 0 rfl) (.int .i64 (k : Int)) (.string z) (.string ⟨#[]⟩) (.bool cd.has) (.bool cd.want) (.string cd.col) (.int .i64 cd.v.kind) (.slice ca cn cc) (.float .f64 cd.v.n) (.slice ad nn cap) (.int .i64 0)
                have T10 := HT.out.set 0 rfl so.2 so.1
                refine bodyPost_ret (ret_op rfl _ _ _ _ _ _ _ _ _ _ _ _ _ _ rfl so.1) rfl ?_
                show TookO w r g (dOp bs) _ _
                rw [HD6.out]
                exact ⟨_, rfl, ⟨_, _, _, _, rfl, HV.out.box so.2 (HT.out.at 0 rfl) (by decide), HG.out.box so.2 (HT.out.at 0 rfl) (by decide) (by decide)⟩, T10.rd, T10.mv⟩
      · by_cases hK3 : k = 3
        · have hK := hK3
          clear hK3 hK2
          have D3 := HD2.out
          rw [dOpK3 hK] at D3
          have HD3 : Hid (dOp bs = _) := D3
          clear D3 HD2
          have n2 : ((k : Int) == 2) = false := beq_eq_false_iff_ne.2 (by omega)
          have n3 : ((k : Int) == 3) = true := beq_iff_eq.2 (by omega)
          clear hK
          have hc := cname_w N r g b2 (w2.alloc (.cells #[.int .i64 (k : Int), .string z, .string ⟨#[]⟩, .bool false, .bool false, .string ⟨#[]⟩, .int .i64 0, .slice none 0 0, .float .f64 0, .slice none 0 0, .int .i64 0] 32)) HT2.out.rd HT2.out.oct
          go_wp2_with fail
          clear n2 n3
          cases e3 : dText 16 b2 with
          | none =>
            rw [e3] at hc
            refine hc.mono ?_
            rintro _ w3 ⟨rfl, hr3, m3⟩
            refine ⟨rfl, ?_⟩
            show TookO w r g (dOp bs) _ _
            rw [HD3.out, pbn_none e3]
            exact ⟨rfl, ⟨_, hr3⟩, HT2.out.mv.then m3⟩
          | some pr =>
            obtain ⟨tx, b3⟩ := pr
            rw [e3] at hc
            obtain ⟨hz, hhz⟩ : ∃ hz, strOf tx = hz := ⟨_, rfl⟩
            have D4 := HD3.out.trans (pbn_some e3)
            simp only [hhz] at D4
            dsimp only at hc
            rw [hhz] at hc
            refine hc.mono ?_
            rintro _ w3 ⟨rfl, hr3, m3⟩
            have HD4 : Hid (dOp bs = _) := D4
            have T3 := HT2.out.read hr3 m3 (dText_rest e3 HT2.out.oct)
            have p2 := (eleven_cells (T3.at 1 rfl)).2.2.1
            have u2 := eleven_fz (T3.at 1 rfl) 2
            have T4 := T3.set 1 rfl (moves_set w3 B 2 (.string hz)) (heap_set (i := 2) (T3.at 1 rfl) (.string hz))
            obtain ⟨v4, hv4⟩ : ∃ v4, w3.setCell ⟨B, 2, none⟩ (.string hz) = v4 := ⟨_, rfl⟩
            rw [hv4] at T4
            have HT4 : Hid (TkB N w v4 r g b3 [(R, #[.int .i64 0, .string ⟨#[]⟩, .string ⟨#[]⟩, .bool false, .bool false, .string ⟨#[]⟩, .int .i64 0, .slice none 0 0, .float .f64 0, .slice none 0 0, .int .i64 0], 32), (B, #[.int .i64 (k : Int), .string z, .string hz, .bool false, .bool false, .string ⟨#[]⟩, .int .i64 0, .slice none 0 0, .float .f64 0, .slice none 0 0, .int .i64 0], 32)]) := T4
            clear hc hr3 m3 T3 T4 D4 HT2 HD3 e3 hhz
            have hc := rbyteD_w N r g b3 v4 HT4.out.rd HT4.out.oct
            go_wp2_with fail
            clear p2 u2 hv4
            cases e5 : dNum 1 b3 with
            | none =>
              rw [e5] at hc
              refine hc.mono ?_
              rintro _ w5 ⟨rfl, hr5, m5⟩
              refine ⟨rfl, ?_⟩
              show TookO w r g (dOp bs) _ _
              rw [HD4.out, pbn_none e5]
              exact ⟨rfl, ⟨_, hr5⟩, HT4.out.mv.then m5⟩
            | some pr =>
              obtain ⟨m, b5⟩ := pr
              rw [e5] at hc
              have D5 := HD4.out.trans (pbn_some e5)
              have hm := (dNum_oct e5 HT4.out.oct).2
              refine hc.mono ?_
              rintro _ w5 ⟨rfl, hr5, m5⟩
              have wm : IntKind.i64.wrap (m : Int) = (m : Int) := by rw [IntWalk.i64_in _ (by omega)]
              have HD5 : Hid (dOp bs = _) := D5
              have T5 := HT4.out.read hr5 m5 (dNum_oct e5 HT4.out.oct).1
              have p10 := (eleven_cells (T5.at 1 rfl)).2.2.2.2.2.2.2.2.2.2
              have u10 := eleven_fz (T5.at 1 rfl) 10
              have T6 := T5.set 1 rfl (moves_set w5 B 10 (.int .i64 (m : Int))) (heap_set (i := 10) (T5.at 1 rfl) (.int .i64 (m : Int)))
              obtain ⟨v6, hv6⟩ : ∃ v6, w5.setCell ⟨B, 10, none⟩ (.int .i64 (m : Int)) = v6 := ⟨_, rfl⟩
              rw [hv6] at T6
              have HT6 : Hid (TkB N w v6 r g b5 [(R, #[.int .i64 0, .string ⟨#[]⟩, .string ⟨#[]⟩, .bool false, .bool false, .string ⟨#[]⟩, .int .i64 0, .slice none 0 0, .float .f64 0, .slice none 0 0, .int .i64 0], 32), (B, #[.int .i64 (k : Int), .string z, .string hz, .bool false, .bool false, .string ⟨#[]⟩, .int .i64 0, .slice none 0 0, .float .f64 0, .slice none 0 0, .int .i64 (m : Int)], 32)]) := T6
              clear hc hr5 m5 T5 T6 D5 HT4 HD4 e5
              obtain ⟨y0, y1, y2, y3, y4, y5, y6, y7, y8, y9, y10⟩ := eleven_cells (HT6.out.at 1 rfl)
              obtain ⟨q0, q1, q2, q3, q4, q5, q6, q7, q8, q9, q10⟩ := eleven_cells (HT6.out.at 0 rfl)
              have qfz := eleven_fz (HT6.out.at 0 rfl)
              go_wp2_with fail
              have so := stored11 (HT6.out.at 0 rfl) (.int .i64 (k : Int)) (.string z) (.string hz) (.bool false) (.bool false) (.string ⟨#[]⟩) (.int .i64 0) (.slice none 0 0) (.float .f64 0) (.slice none 0 0) (.int .i64 (m : Int))
              have T10 := HT6.out.set 0 rfl so.2 so.1
              refine bodyPost_ret (ret_op rfl _ _ _ _ _ _ _ _ _ _ _ _ _ _ rfl so.1) rfl ?_
              show TookO w r g (dOp bs) _ _
              rw [HD5.out]
              exact ⟨_, rfl, ⟨_, _, _, _, rfl, vc_pz _, GrowD.nil _ _⟩, T10.rd, T10.mv⟩
        · have hK : ¬ k = 2 ∧ ¬ k = 3 := ⟨hK2, hK3⟩
          clear hK2 hK3
          have D3 := HD2.out
          rw [dOpK0 hK] at D3
          have HD3 : Hid (dOp bs = _) := D3
          clear D3 HD2
          have n2 : ((k : Int) == 2) = false := beq_eq_false_iff_ne.2 (by omega)
          have n3 : ((k : Int) == 3) = false := beq_eq_false_iff_ne.2 (by omega)
          clear hK
          obtain ⟨v2, hv2⟩ : ∃ v2, (w2.alloc (.cells #[.int .i64 (k : Int), .string z, .string ⟨#[]⟩, .bool false, .bool false, .string ⟨#[]⟩, .int .i64 0, .slice none 0 0, .float .f64 0, .slice none 0 0, .int .i64 0] 32)) = v2 := ⟨_, rfl⟩
          clear hv2
          obtain ⟨y0, y1, y2, y3, y4, y5, y6, y7, y8, y9, y10⟩ := eleven_cells (HT2.out.at 1 rfl)
          obtain ⟨q0, q1, q2, q3, q4, q5, q6, q7, q8, q9, q10⟩ := eleven_cells (HT2.out.at 0 rfl)
          have qfz := eleven_fz (HT2.out.at 0 rfl)
          go_wp2_with fail
          have so := stored11 (HT2.out.at 0 rfl) (.int .i64 (k : Int)) (.string z) (.string ⟨#[]⟩) (.bool false) (.bool false) (.string ⟨#[]⟩) (.int .i64 0) (.slice none 0 0) (.float .f64 0) (.slice none 0 0) (.int .i64 0)
          have T10 := HT2.out.set 0 rfl so.2 so.1
          refine bodyPost_ret (ret_op rfl _ _ _ _ _ _ _ _ _ _ _ _ _ _ rfl so.1) rfl ?_
          show TookO w r g (dOp bs) _ _
          rw [HD3.out]
          exact ⟨_, rfl, ⟨_, _, _, _, rfl, vc_pz _, GrowD.nil _ _⟩, T10.rd, T10.mv⟩
end Go.Proofs.YtcamhlnkcoicpaaGreat
