/-
  SpanBytes' walk.
-/
import Derived.Test.YtgeadpmnnjfkkaaCSp12
import Derived.Test.YtgeadpmnnjfkkaaCSpT
namespace Go.Proofs.Ytgeadpmnnjfkkaa
open Go.RowKit

set_option maxRecDepth 100000 in
theorem back7_ok (p g qa : Nat) (lo hi : ByteArray) (w : World) (h : RdIs w p g (spEnc ⟨lo, hi⟩) false) (hR : spR ⟨lo, hi⟩ = true) (ha : w.heap[qa]? = some (.cells #[.string ⟨#[]⟩, .string ⟨#[]⟩] 27 (0, 0))) (hpa : qa ≠ p) (hga : g ≠ qa) :
    Calls Try.prog 25 #[.pointer (some ⟨p, 0, none⟩), .pointer (some ⟨qa, 0, none⟩)] w fun e w' => e = .returned (.tuple #[]) ∧ RdIs w' p g [] false ∧ w'.heap[qa]? = some (.cells #[.string lo, .string hi] 27 (0, 0)) ∧ Moves [p, qa] w w' := by
  have hT := spTake_ok p g lo hi w h hR
  clear h hR
  go_enter Try.func25, Try.ntmps25
  go_wp2_with fail
  refine hT.mono ?_
  rintro _ w2 ⟨rfl, hr2, m2⟩
  have ha2 := m2.at ha (by simpa using hpa)
  obtain ⟨c0, c1, f0, f1⟩ := sp_cells ha2
  have st := spStored1 (a := .string lo) (b := .string hi) ha2
  go_wp2_with fail
  go_end0
  exact ⟨rfl, hr2.moves st.2 (by simpa using Ne.symm hpa) (by simpa using hga), st.1, (m2.mono (by simp)).then (st.2.mono (by simp))⟩
set_option maxRecDepth 100000 in
theorem back7_fail (p g qa : Nat) (lo hi : ByteArray) (w : World) (h : RdIs w p g (spEnc ⟨lo, hi⟩) false) (hR : spR ⟨lo, hi⟩ = false) (k1 : lo.size ≤ 1000) (k2 : hi.size ≤ 1000) :
    Calls Try.prog 25 #[.pointer (some ⟨p, 0, none⟩), .pointer (some ⟨qa, 0, none⟩)] w fun e w' => e = .panicked (stop p) ∧ (∃ bs, RdIs w' p g bs true) ∧ Moves [p] w w' := by
  have hT := spTake_fail p g lo hi w h hR k1 k2
  clear h hR
  go_enter Try.func25, Try.ntmps25
  go_wp2_with fail
  refine hT.mono ?_
  rintro _ w2 ⟨rfl, hr2, m2⟩
  exact ⟨rfl, rfl, hr2, m2⟩
set_option maxHeartbeats 1000000 in
theorem read_stopE (F : Nat) (cap : Array Value) (v : Value) (g : Nat) (bs : List Nat) (w : World) (hv : IsB w g v bs) (hg : g ≠ w.heap.size) (Q : World → Prop)
    (hcf : ∀ (args : Array Value) (w : World), (callFunc F args).run Try.prog w = .ok (.enter F args) w)
    (hf : ∀ w1, Begun w1 w.heap.size g bs false → Moves [] w w1 → Calls Try.prog F (#[.pointer (some ⟨w.heap.size, 0, none⟩)] ++ cap) w1 fun e w2 => e = .panicked (stop w.heap.size) ∧ (∃ bs', Begun w2 w.heap.size g bs' true) ∧ Q w2) :
    Calls Try.prog 23 #[v, .func (.func F) #[] cap] w fun e w' => e = .returned (.bool false) ∧ ∃ w2, Q w2 ∧ Moves [w.heap.size] w2 w' := by
  have hmf : ∀ (fn : Fn) (first cap : Array Value) (w : World), (Instr.makeFunc fn first cap).run Try.prog w = .ok (.func fn first cap) w := fun _ _ _ _ => rfl
  have hne : ∀ w : World, (binOp .eql 51 (.func (.func F) #[] cap) .nilFunc).run Try.prog w = .ok (.bool false) w := by intro w; kernel_rfl
  obtain ⟨hb1, hm1⟩ := begun hv hg
  obtain ⟨ad, n, c, rfl, hn, _⟩ := hv
  go_enter_defers Try.func23, Try.ntmps23
  go_wp2_with fail
  refine (hf _ hb1 hm1).mono ?_
  rintro _ w2 ⟨rfl, ⟨bs', hr2, hq2⟩, hQ2⟩
  clear hf hb1 hm1
  go_wp2_with fail
  refine leaves_cons (f := 41) (args := #[.pointer (some ⟨w.heap.size + 1, 0, none⟩)]) (by simp) (by simp [go_sem]) ?_
  refine (caught_stop w.heap.size (w.heap.size + 1) _ hr2.rdAt hq2 (by omega)).mono ?_
  rintro e u' w3 ⟨rfl, rfl, m3⟩
  simp [Leaves, settle, results, Try.results23, go_sem]
  exact ⟨w2, hQ2, m3⟩

theorem own_away {w : World} {v : Value} {bs : List Nat} {q : Nat} {x y : Value} (hv : Own w v bs) (hn : bs ≠ []) (ha : w.heap[q]? = some (.cells #[x, y] 27 (0, 0))) : v.ownBlock.getD 0 ≠ q := by
  intro e
  have hx := hv.ne ha (by decide)
  cases hq : v.ownBlock with
  | none =>
    rcases hv.2 with ⟨_, h0⟩ | ⟨gg, cap, cur, rfl, _⟩
    · exact hn (List.eq_nil_of_length_eq_zero h0)
    · simp [Value.ownBlock] at hq
  | some k => rw [hq] at e hx; simp at e; subst e; exact hx rfl
theorem read7_ok (v : Value) (qa : Nat) (lo hi : ByteArray) (w : World) (hv : Own w v (spEnc ⟨lo, hi⟩)) (hR : spR ⟨lo, hi⟩ = true) (ha : w.heap[qa]? = some (.cells #[.string ⟨#[]⟩, .string ⟨#[]⟩] 27 (0, 0))) :
    Calls Try.prog 23 #[v, .func (.func 25) #[] #[.pointer (some ⟨qa, 0, none⟩)]] w fun e w' => e = .returned (.bool true) ∧ w'.heap[qa]? = some (.cells #[.string lo, .string hi] 27 (0, 0)) ∧ Moves [qa] w w' := by
  have la := lt_of_block ha
  have hga := own_away hv (spEnc_ne _) ha
  have hB := hv.isB
  obtain ⟨g, hgd⟩ : ∃ g, v.ownBlock.getD 0 = g := ⟨_, rfl⟩
  rw [hgd] at hB hga
  have hgl := hB.lt (spEnc_ne _)
  refine (read_ret 25 #[.pointer (some ⟨qa, 0, none⟩)] v g (spEnc ⟨lo, hi⟩) [] w hB (by omega) (fun w2 => w2.heap[qa]? = some (.cells #[.string lo, .string hi] 27 (0, 0)) ∧ Moves [qa] w w2) (fun _ _ => rfl) ?_).mono ?_
  · intro w1 hbg hm
    refine (back7_ok w.heap.size g qa lo hi w1 hbg.1 hR (hm.at ha (by simp)) (by omega) hga).mono ?_
    rintro _ w2 ⟨rfl, hr, h1, m⟩
    exact ⟨rfl, ⟨hr, m.at hbg.2 (by simp; omega)⟩, h1, (hm.mono (by simp)).trans m (fun x hx => by simp at hx; rcases hx with rfl | rfl; exact .inr (Nat.le_refl _); exact .inl (by simp))⟩
  · rintro _ w' ⟨rfl, w2, ⟨h2, m2⟩, m3⟩
    exact ⟨rfl, m3.at h2 (by simp; omega), m2.trans m3 (fun x hx => .inr (by simp at hx; omega))⟩
theorem read7_fail (v : Value) (qa : Nat) (lo hi : ByteArray) (w : World) (hv : Own w v (spEnc ⟨lo, hi⟩)) (hR : spR ⟨lo, hi⟩ = false) (k1 : lo.size ≤ 1000) (k2 : hi.size ≤ 1000) :
    Calls Try.prog 23 #[v, .func (.func 25) #[] #[.pointer (some ⟨qa, 0, none⟩)]] w fun e w' => e = .returned (.bool false) ∧ Moves [] w w' := by
  have hB := hv.isB
  obtain ⟨g, hgd⟩ : ∃ g, v.ownBlock.getD 0 = g := ⟨_, rfl⟩
  rw [hgd] at hB
  have hgl := hB.lt (spEnc_ne _)
  refine (read_stopE 25 #[.pointer (some ⟨qa, 0, none⟩)] v g (spEnc ⟨lo, hi⟩) w hB (by omega) (fun w2 => Moves [] w w2) (fun _ _ => rfl) ?_).mono ?_
  · intro w1 hbg hm
    refine (back7_fail w.heap.size g qa lo hi w1 hbg.1 hR k1 k2).mono ?_
    rintro _ w2 ⟨rfl, ⟨bs', hr⟩, m⟩
    exact ⟨rfl, ⟨bs', hr, m.at hbg.2 (by simp)⟩, hm.trans m (fun x hx => .inr (by simp at hx; omega))⟩
  · rintro _ w' ⟨rfl, w2, h2, m2⟩
    exact ⟨rfl, h2.trans m2 (fun x hx => .inr (by simp at hx; omega))⟩

theorem phead_size (s : ByteArray) (k : Nat) : (phead s k).size ≤ k := by
  unfold phead
  split
  · rw [ByteArray.size_extract]; omega
  · omega
set_option maxRecDepth 100000 in
set_option maxHeartbeats 8000000 in
theorem spanBytes_w (na nb : Int) (la ha : ByteArray) (w : World) : Calls Try.prog 6 #[.int .i64 na, .int .i64 nb, .agg #[.string la, .string ha]] w fun e w' => e = .returned (.bool true) ∧ Moves [] w w' := by
  obtain ⟨lo, hi, hlo, hhi, hmade⟩ := made7_w na nb
  have z1 := phead_size la 20
  have z2 := phead_size ha 20
  obtain ⟨xa, hxa⟩ : ∃ x, phead la 20 = x := ⟨_, rfl⟩
  obtain ⟨ya, hya⟩ : ∃ x, phead ha 20 = x := ⟨_, rfl⟩
  rw [hxa] at z1
  rw [hya] at z2
  have HZ : Hid (∀ s ∈ [(⟨lo, hi⟩ : Psp), ⟨xa, ya⟩, ⟨⟨#[]⟩, ⟨#[]⟩⟩], s.lo.size ≤ 1000 ∧ s.hi.size ≤ 1000) := by
    have g1 : lo.size ≤ 16 := of_decide_eq_true hlo
    have g2 : hi.size ≤ 16 := of_decide_eq_true hhi
    intro s hs
    simp only [List.mem_cons, List.not_mem_nil, or_false] at hs
    rcases hs with rfl | rfl | rfl
    · exact ⟨by show lo.size ≤ 1000; omega, by show hi.size ≤ 1000; omega⟩
    · exact ⟨by show xa.size ≤ 1000; omega, by show ya.size ≤ 1000; omega⟩
    · exact ⟨by decide, by decide⟩
  clear z1 z2 hlo hhi
  have M : Moves [] w (w.alloc (.cells #[.string la, .string ha] 27)) := (Moves.refl _ _).alloc _
  have b3 := heap_alloc_new w (.cells #[.string la, .string ha] 27)
  obtain ⟨P, hP⟩ : ∃ P, w.heap.size = P := ⟨_, rfl⟩
  have hPP : w.heap.size ≤ P := by omega
  rw [hP] at b3
  go_enter Try.func6, Try.ntmps6
  go_wp2_with fail
  generalize (w.alloc (.cells #[.string la, .string ha] 27)) = w1 at *
  obtain ⟨c0, c1, f0, f1⟩ := sp_cells b3
  have st1 := spStored1 (a := .string xa) (b := .string ya) b3
  refine wp_some7 [12, 13, 14, 15, 16, 17, 18] (fun _ w' => w'.heap[P]? = some (.cells #[.string xa, .string ya] 27 (0, 0)) ∧ Moves [] w w') ?_ ?_
  · refine wp_region_noPanic ?_
    refine region_peel (S := (fun w' => w'.cell? ⟨P, 0, none⟩ = some (.string la) ∧ w'.cell? ⟨P, 1, none⟩ = some (.string ha))) (pre := #[{ dst := some 12, op := Op.fieldAddr 27 (Operand.tmp 5) 0, type := 0, pos := "law.go:128", after := #[], guard := none }, { dst := some 13, op := Op.load 9 (Operand.tmp 12), type := 9, pos := "law.go:128", after := #[{ on := 0, ground := Ground.data }], guard := none }, { dst := some 14, op := Op.call { callee := Callee.value (Operand.func 12), args := #[Operand.tmp 13, Operand.const (Value.int IntKind.i64 20)], argTypes := #[9, 3] }, type := 9, pos := "law.go:128", after := #[{ on := 1, ground := Ground.data }], guard := none }, { dst := some 15, op := Op.fieldAddr 27 (Operand.tmp 5) 1, type := 0, pos := "law.go:128", after := #[], guard := none }, { dst := some 16, op := Op.load 9 (Operand.tmp 15), type := 9, pos := "law.go:128", after := #[{ on := 3, ground := Ground.data }], guard := none }, { dst := some 17, op := Op.call { callee := Callee.value (Operand.func 12), args := #[Operand.tmp 16, Operand.const (Value.int IntKind.i64 20)], argTypes := #[9, 3] }, type := 9, pos := "law.go:128", after := #[{ on := 4, ground := Ground.data }, { on := 2, ground := Ground.chain }], guard := none }, { dst := some 18, op := Op.build 27 #[(0, Operand.tmp 14), (1, Operand.tmp 17)], type := 27, pos := "law.go:128", after := #[{ on := 2, ground := Ground.data }, { on := 5, ground := Ground.data }], guard := none }]) (o := { dst := none, op := Op.store 27 (Operand.tmp 5) (Operand.tmp 18), type := 0, pos := "law.go:128", after := #[{ on := 6, ground := Ground.data }, { on := 5, ground := Ground.chain }, { on := 0, ground := Ground.phase }, { on := 1, ground := Ground.phase }, { on := 2, ground := Ground.phase }, { on := 3, ground := Ground.phase }, { on := 4, ground := Ground.phase }, { on := 5, ground := Ground.phase }, { on := 6, ground := Ground.phase }], guard := none }) (by kernel_rfl) (by kernel_rfl) (by kernel_rfl) ?_ (fun hHeld => ?_)
    · exact ⟨c0, c1⟩
    refine wpAnyH_take (i := 0) (oi := { dst := some 12, op := Op.fieldAddr 27 (Operand.tmp 5) 0, type := 0, pos := "law.go:128", after := #[], guard := none }) (v := ?_) rfl (by kernel_rfl) (by kernel_rfl) (by kernel_rfl) (fun _ _ _ h => h) (Or.inl ⟨by rfl, ?_⟩) (by assumption) ?_
    rotate_left
    · (intro w hSw; (try dsimp only at hSw); go_simp; try (with_reducible rfl))
    try simp only [Act.put, List.setIfInBounds_toArray, List.set_cons_zero, List.set_cons_succ]
    refine wpAnyH_take (i := 1) (oi := { dst := some 13, op := Op.load 9 (Operand.tmp 12), type := 9, pos := "law.go:128", after := #[{ on := 0, ground := Ground.data }], guard := none }) (v := ?_) rfl (by kernel_rfl) (by kernel_rfl) (by kernel_rfl) (fun _ _ _ h => h) (Or.inl ⟨by rfl, ?_⟩) (by assumption) ?_
    rotate_left
    · (intro w hSw; (try dsimp only at hSw); go_simp; try (with_reducible rfl))
    try simp only [Act.put, List.setIfInBounds_toArray, List.set_cons_zero, List.set_cons_succ]
    refine wpAnyH_take (i := 3) (oi := { dst := some 15, op := Op.fieldAddr 27 (Operand.tmp 5) 1, type := 0, pos := "law.go:128", after := #[], guard := none }) (v := ?_) rfl (by kernel_rfl) (by kernel_rfl) (by kernel_rfl) (fun _ _ _ h => h) (Or.inl ⟨by rfl, ?_⟩) (by assumption) ?_
    rotate_left
    · (intro w hSw; (try dsimp only at hSw); go_simp; try (with_reducible rfl))
    try simp only [Act.put, List.setIfInBounds_toArray, List.set_cons_zero, List.set_cons_succ]
    refine wpAnyH_take (i := 4) (oi := { dst := some 16, op := Op.load 9 (Operand.tmp 15), type := 9, pos := "law.go:128", after := #[{ on := 3, ground := Ground.data }], guard := none }) (v := ?_) rfl (by kernel_rfl) (by kernel_rfl) (by kernel_rfl) (fun _ _ _ h => h) (Or.inl ⟨by rfl, ?_⟩) (by assumption) ?_
    rotate_left
    · (intro w hSw; (try dsimp only at hSw); go_simp; try (with_reducible rfl))
    try simp only [Act.put, List.setIfInBounds_toArray, List.set_cons_zero, List.set_cons_succ]
    refine wpAnyH_ready (rs := [2]) (by kernel_rfl) (by simp) ?_
    refine AllReadyH.cons (o := { dst := some 14, op := Op.call { callee := Callee.value (Operand.func 12), args := #[Operand.tmp 13, Operand.const (Value.int IntKind.i64 20)], argTypes := #[9, 3] }, type := 9, pos := "law.go:128", after := #[{ on := 1, ground := Ground.data }], guard := none }) rfl (fun K hK => ?_) AllReadyH.nil
    go_simp
    refine (head_d _ _ 20).mono ?_
    rintro _ _ ⟨rfl, rfl⟩
    rw [hxa]
    refine hK.out _ _ ?_ (fun hHeld => ?_)
    · exact ⟨c0, c1⟩
    clear hK K
    try simp only [Act.put, List.setIfInBounds_toArray, List.set_cons_zero, List.set_cons_succ]
    refine wpAnyH_ready (rs := [5]) (by kernel_rfl) (by simp) ?_
    refine AllReadyH.cons (o := { dst := some 17, op := Op.call { callee := Callee.value (Operand.func 12), args := #[Operand.tmp 16, Operand.const (Value.int IntKind.i64 20)], argTypes := #[9, 3] }, type := 9, pos := "law.go:128", after := #[{ on := 4, ground := Ground.data }, { on := 2, ground := Ground.chain }], guard := none }) rfl (fun K hK => ?_) AllReadyH.nil
    go_simp
    refine (head_d _ _ 20).mono ?_
    rintro _ _ ⟨rfl, rfl⟩
    rw [hya]
    refine hK.out _ _ ?_ (fun hHeld => ?_)
    · exact ⟨c0, c1⟩
    clear hK K
    try simp only [Act.put, List.setIfInBounds_toArray, List.set_cons_zero, List.set_cons_succ]
    refine wpAnyH_take (i := 6) (oi := { dst := some 18, op := Op.build 27 #[(0, Operand.tmp 14), (1, Operand.tmp 17)], type := 27, pos := "law.go:128", after := #[{ on := 2, ground := Ground.data }, { on := 5, ground := Ground.data }], guard := none }) (v := ?_) rfl (by kernel_rfl) (by kernel_rfl) (by kernel_rfl) (fun _ _ _ h => h) (Or.inl ⟨by rfl, ?_⟩) (by assumption) ?_
    rotate_left
    · (intro w hSw; (try dsimp only at hSw); go_simp; try (with_reducible rfl))
    try simp only [Act.put, List.setIfInBounds_toArray, List.set_cons_zero, List.set_cons_succ]
    refine wpAnyH_done (by kernel_rfl) ?_ _
    unfold PeelQ
    refine wpOp_of_wp rfl rfl ?_
    go_simp
    exact NoPanic.normal ⟨rfl, by kernel_rfl, st1.1, (M.trans st1.2 (fun x hx => .inr (by simp at hx; omega))).drew⟩
  · intro u w2 ⟨b3, M⟩
    clear c0 c1 f0 f1 st1
    simp only [List.foldl_cons, List.foldl_nil, List.setIfInBounds_toArray, List.set_cons_zero, List.set_cons_succ]
    generalize u 12 = u12
    generalize u 13 = u13
    generalize u 14 = u14
    generalize u 15 = u15
    generalize u 16 = u16
    generalize u 17 = u17
    generalize u 18 = u18
    clear hxa hya
    obtain ⟨c0, c1, _, _⟩ := sp_cells b3
    go_wp2_with fail
    go_region_held3 (fun w' => w'.cell? ⟨P, 0, none⟩ = some (.string xa) ∧ w'.cell? ⟨P, 1, none⟩ = some (.string ya)) (first | (with_reducible exact ⟨c0, c1⟩) | (go_keep; done)) ((go_at_call 13; refine (hmade _).mono ?_; rintro _ wx ⟨rfl, mx⟩; clear hmade; replace M : Moves [] w wx := (by first | exact M.then mx | exact M.drew.then mx); replace c0 := mx.cell c0; replace c1 := mx.cell c1))
    go_wp2_with fail
    have hS0 := SpsAt.block (xs := [⟨lo, hi⟩, ⟨xa, ya⟩, ⟨⟨#[]⟩, ⟨#[]⟩⟩]) (heap_alloc_new wx (.cells #[.string lo, .string hi, .string xa, .string ya, .string ⟨#[]⟩, .string ⟨#[]⟩] 27))
    have M3 := M.alloc (.cells #[.string lo, .string hi, .string xa, .string ya, .string ⟨#[]⟩, .string ⟨#[]⟩] 27)
    obtain ⟨B, hB⟩ : ∃ B, wx.heap.size = B := ⟨_, rfl⟩
    rw [hB] at hS0 ⊢
    generalize (wx.alloc (.cells #[.string lo, .string hi, .string xa, .string ya, .string ⟨#[]⟩, .string ⟨#[]⟩] 27)) = w3 at *
    obtain ⟨xs, hxs⟩ : ∃ xs, [(⟨lo, hi⟩ : Psp), ⟨xa, ya⟩, ⟨⟨#[]⟩, ⟨#[]⟩⟩] = xs := ⟨_, rfl⟩
    have HL : Hid (xs.length = 3) := by rw [← hxs]; rfl
    rw [hxs] at HZ hS0
    have HS : Hid (SpsAt w3 (some ⟨B, 0, none⟩) xs) := hS0
    clear hxs hS0 hB c0 c1 M
    go_loopw [26] (fun vi wr => ∃ k : Nat, k ≤ 3 ∧ vi = .int .i64 (k : Nat) ∧ Moves [] w3 wr) (fun vi _ => 3 - (intOf vi).toNat)
    case atStart => exact ⟨0, by omega, rfl, Moves.refl _ _⟩
    case round =>
      obtain ⟨k, hk3, rfl, mr⟩ := hrel
      by_cases hlt : k < 3
      · have hkI : (k : Int) < 3 := by omega
        obtain ⟨s, hs⟩ : ∃ s, xs[k]? = some s := ⟨_, List.getElem?_eq_getElem (by have := HL.out; omega)⟩
        obtain ⟨k1, k2⟩ := HZ.out s (List.mem_of_getElem? hs)
        obtain ⟨_, _, q1, i0, i1⟩ := HS.out k s hs
        simp only [Option.some.injEq, Addr.mk.injEq] at q1
        obtain ⟨rfl, rfl, _⟩ := q1
        rw [Nat.zero_add] at i0 i1
        replace i0 := mr.cell i0
        replace i1 := mr.cell i1
        obtain ⟨lo, hi⟩ := s
        dsimp only at i0 i1 k1 k2
        have hq := heap_alloc_new wr (.cells #[.string lo, .string hi] 27)
        have mq : Moves [] wr (wr.alloc (.cells #[.string lo, .string hi] 27)) := (Moves.refl _ _).alloc _
        obtain ⟨Q, hQ⟩ : ∃ Q, wr.heap.size = Q := ⟨_, rfl⟩
        have lQ : wr.heap.size ≤ Q := by omega
        rw [hQ] at hq
        go_wp2_with fail
        generalize (wr.alloc (.cells #[.string lo, .string hi] 27)) = w4 at *
        refine (new_w _).mono ?_
        rintro _ w5 ⟨rfl, hW5, m5⟩
        obtain ⟨p, hp⟩ : ∃ p, w4.heap.size = p := ⟨_, rfl⟩
        rw [hp] at hW5
        have hq5 := m5.at hq (by simp)
        have lQp : Q < p := by have := lt_of_block hq; omega
        obtain ⟨c0, c1, _, _⟩ := sp_cells hq5
        go_wp2_with fail
        refine (spWrite_w lo hi p w5 hW5 k1 k2).mono ?_
        rintro _ w6 ⟨rfl, a6, hw6⟩
        have hq6 := hw6.2.1.at hq5 (by simp; omega)
        have M6 : Moves [] wr w6 := (mq.then m5).trans hw6.2.1 (fun x hx => .inr (by simp at hx; have := mq.size; omega))
        have hb := heap_alloc_new w6 (.cells #[.string ⟨#[]⟩, .string ⟨#[]⟩] 27)
        have mb : Moves [] w6 (w6.alloc (.cells #[.string ⟨#[]⟩, .string ⟨#[]⟩] 27)) := (Moves.refl _ _).alloc _
        obtain ⟨R, hR0⟩ : ∃ R, w6.heap.size = R := ⟨_, rfl⟩
        have lR : wr.heap.size ≤ R := by have := M6.size; omega
        have lQR : Q < R := by have := lt_of_block hq6; omega
        rw [hR0] at hb
        have hq7 := mb.at hq6 (by simp)
        have hW7 := hw6.1.moves mb (by simp) (by simp)
        have M7 := M6.then mb
        have hl : (spEnc ⟨lo, hi⟩).length ≤ 1099511627776 := by unfold spEnc; simp only [List.length_append, be_length, zbs_length]; omega
        clear hw6 hq5 hq6 hW5 hq mq m5 c0 c1
        have hmf : ∀ (fn : Fn) (first cap : Array Value) (w : World), (Instr.makeFunc fn first cap).run Try.prog w = .ok (.func fn first cap) w := fun _ _ _ _ => rfl
        go_wp2_with fail
        generalize (w6.alloc (.cells #[.string ⟨#[]⟩, .string ⟨#[]⟩] 27)) = w7 at *
        refine (done_w p a6 (spEnc ⟨lo, hi⟩) _ hW7 hl).mono ?_
        rintro _ w8 ⟨v8, rfl, hO8, m8, f8⟩
        have hq8 := m8.at hq7 (by simp)
        have hb8 := m8.at hb (by simp)
        have M8 := M7.then m8
        clear hW7 hq7 hb
        cases hR : spR ⟨lo, hi⟩ with
        | true =>
          go_wp2_with fail
          refine (read7_ok v8 R lo hi _ hO8 hR hb8).mono ?_
          rintro _ w9 ⟨rfl, hb9, m9⟩
          have hq9 := m9.at hq8 (by simp; omega)
          have M9 : Moves [] wr w9 := M8.trans m9 (fun x hx => .inr (by simp at hx; omega))
          obtain ⟨c0, c1, _, _⟩ := sp_cells hq9
          obtain ⟨d0, d1, _, _⟩ := sp_cells hb9
          go_wp2_with (go_at_call 27; refine (spRight_w _ _ _).mono ?_; rintro _ w10 ⟨rfl, m10⟩; simp only [hR]; replace c0 := m10.cell c0; replace c1 := m10.cell c1; replace d0 := m10.cell d0; replace d1 := m10.cell d1)
          go_roundw
          case rel => exact ⟨k + 1, by omega, by go_num, (mr.then M9).then m10⟩
          case measure => simp [intOf]; omega
        | false =>
          go_wp2_with fail
          refine (read7_fail v8 R lo hi _ hO8 hR k1 k2).mono ?_
          rintro _ w9 ⟨rfl, m9⟩
          have hq9 := m9.at hq8 (by simp)
          have M9 : Moves [] wr w9 := M8.then m9
          obtain ⟨c0, c1, _, _⟩ := sp_cells hq9
          go_wp2_with (go_at_call 27; refine (spRight_w _ _ _).mono ?_; rintro _ w10 ⟨rfl, m10⟩; simp only [hR])
          go_roundw
          case rel => exact ⟨k + 1, by omega, by go_num, (mr.then M9).then m10⟩
          case measure => simp [intOf]; omega
      · obtain rfl : k = 3 := by omega
        go_wp2_with (go_at_call 11; refine (known7_w _).mono ?_; rintro _ w5 ⟨rfl, m5⟩)
        go_ret
        exact ⟨rfl, (M3.then mr).then m5⟩
end Go.Proofs.Ytgeadpmnnjfkkaa
