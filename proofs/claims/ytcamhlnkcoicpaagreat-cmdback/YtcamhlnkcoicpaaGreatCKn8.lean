/-
  cmd's Wrap and Unwrap.
-/
import Derived.Test.YtcamhlnkcoicpaaGreatCB23
import Derived.Deep.RegionHeld3
namespace Go.Proofs.YtcamhlnkcoicpaaGreat
open Go.RowKit

def encW (k s : Nat) (b : List Nat) : List Nat := [k] ++ be 4 s ++ be 4 b.length ++ b

set_option maxRecDepth 100000 in
set_option maxHeartbeats 4000000 in
theorem wrap_w (W w : World) (k s : Nat) (v : Value) (g : Nat) (b : List Nat) (h : IsB W g v b) (m : Moves [] W w) (hk : k ≤ 255) (hs : s < 4294967296) (hl : b.length ≤ 1048576) (hpos : 0 < W.heap.size) :
    Calls Tryz.prog 21 #[.int .i64 (k : Int), .int .i64 (s : Int), v] w fun e w' => ∃ v', e = .returned v' ∧ Own w' v' (encW k s b) ∧ Moves [] w w' := by
  obtain ⟨g1, hg1, hv1⟩ := isB_inA h hpos
  obtain ⟨ad, n, cap, rfl, _⟩ := id h
  have wk : IntKind.u8.wrap (k : Int) = (k : Int) := by rw [IntWalk.u8_in _ (by omega)]
  have ws : IntKind.u32.wrap (s : Int) = (s : Int) := by rw [IntWalk.u32_in _ (by omega)]
  have sz := m.size
  clear h
  go_enter Tryz.func21, Tryz.ntmps21
  go_wp2_with fail
  refine (new_w w).mono ?_
  rintro _ w3 ⟨rfl, hW3, m3⟩
  obtain ⟨q, hq⟩ : ∃ q, w.heap.size = q := ⟨_, rfl⟩
  rw [hq] at hW3 ⊢
  have S3 : WrS w w3 q none [] := ⟨hW3, m3, by omega, by simp⟩
  have h4 := wbyte_w q none [] k (k : Int) rfl w3 S3.wr (by rw [List.length_nil]; omega)
  rw [List.nil_append] at h4
  go_wp2_with fail
  refine h4.mono ?_
  rintro _ w4 ⟨rfl, a4, hW4⟩
  have S4 := S3.wrote hW4
  have h5 := wnum_w q a4 [k] s (s : Int) rfl w4 S4.wr (by rw [List.length_singleton]; omega) hs
  clear h4
  go_wp2_with fail
  refine h5.mono ?_
  rintro _ w5 ⟨rfl, a5, hW5⟩
  have S5 := S4.wrote hW5
  have l5 : ([k] ++ be 4 s).length = 5 := by rw [List.length_append, List.length_singleton, be_length]
  have h6 := wtext_any q a5 ([k] ++ be 4 s) b g1 _ w5 S5.wr (by rw [l5]; omega) (hv1.moves (m.then S5.moves) (by simp)) hl (S5.past (by omega))
  clear h5
  go_wp2_with fail
  refine h6.mono ?_
  rintro _ w6 ⟨rfl, a6, hW6⟩
  have S6 := S5.wrote hW6
  have l6 : ([k] ++ be 4 s ++ be 4 b.length ++ b).length ≤ 1099511627776 := by rw [List.length_append, List.length_append, l5, be_length]; omega
  have h7 := done_w q a6 _ w6 S6.wr l6
  clear h6
  go_wp2_with fail
  refine h7.mono ?_
  rintro _ w7 ⟨v7, rfl, hO7, m7, f7⟩
  clear h7
  go_wp2_with fail
  go_ret
  exact ⟨_, rfl, hO7, S6.moves.then m7⟩

/-- What Unwrap reads. -/
def dWrap : List Nat → Option ((Nat × Nat × List Nat) × List Nat) := pbn (dNum 1) fun k => pbn (dNum 4) fun s => pbn (dText 1048576) fun b => fun r => some ((k, s, b), r)
theorem dWrap_enc {k s : Nat} {b : List Nat} (hs : s < 4294967296) (hl : b.length ≤ 1048576) (r : List Nat) : dWrap (encW k s b ++ r) = some ((k, s, b), r) := by
  have e : encW k s b ++ r = [k] ++ (be 4 s ++ (be 4 b.length ++ (b ++ r))) := by unfold encW; simp
  rw [e]
  unfold dWrap
  rw [pbn_some (dNum_one _ _), pbn_some (dNum_be hs _), pbn_some (dText_enc (Nat.le_refl _) b r hl)]
theorem dWrap_mono : Mono dWrap := by
  unfold dWrap
  exact pbn_mono (dNum_mono 1) fun k => pbn_mono (dNum_mono 4) fun s => pbn_mono (dText_mono _) fun b => fun bs x r h t => by
    simp at h ⊢
    exact ⟨h.1, by rw [h.2]⟩

set_option maxRecDepth 100000 in
set_option maxHeartbeats 4000000 in
theorem unwrap1_w (N p g qa qb qc : Nat) (bs : List Nat) (w : World) (h : RdIs w p g bs false) (ho : OctN N bs) (ha : w.heap[qa]? = some (.cells #[.int .i64 0] 3 (0, 0))) (hb : w.heap[qb]? = some (.cells #[.int .i64 0] 3 (0, 0))) (hc : w.heap[qc]? = some (.cells #[.slice none 0 0] 23 (0, 0))) (hd : qa ≠ p ∧ qb ≠ p ∧ qc ≠ p ∧ qa ≠ qb ∧ qa ≠ qc ∧ qb ≠ qc ∧ g ≠ qa ∧ g ≠ qb ∧ g ≠ qc) :
    Calls Tryz.prog 63 #[.pointer (some ⟨p, 0, none⟩), .pointer (some ⟨qa, 0, none⟩), .pointer (some ⟨qb, 0, none⟩), .pointer (some ⟨qc, 0, none⟩)] w fun e w' =>
      (∃ k s b rest v, dWrap bs = some ((k, s, b), rest) ∧ e = .returned (.tuple #[]) ∧ RdIs w' p g rest false ∧ w'.heap[qa]? = some (.cells #[.int .i64 ((k : Nat) : Int)] 3 (0, 0)) ∧ w'.heap[qb]? = some (.cells #[.int .i64 ((s : Nat) : Int)] 3 (0, 0)) ∧ w'.heap[qc]? = some (.cells #[v] 23 (0, 0)) ∧ Own w' v b ∧ Fresh w v ∧ Moves [p, qa, qb, qc] w w') ∨ (dWrap bs = none ∧ e = .panicked (stop p) ∧ ∃ bs', RdIs w' p g bs' true ∧ Moves [p] w w') := by
  obtain ⟨d1, d2, d3, d4, d5, d6, d7, d8, d9⟩ := hd
  have hby := rbyteD_w N p g bs w h ho
  have D0 : Hid (dWrap bs = pbn (dNum 1) _ bs) := rfl
  go_enter Tryz.func63, Tryz.ntmps63
  go_wp2_with fail
  cases e1 : dNum 1 bs with
  | none =>
    rw [e1] at hby
    refine hby.mono ?_
    rintro _ w1 ⟨rfl, hr1, m1⟩
    refine ⟨rfl, .inr ⟨by rw [D0.out, pbn_none e1], rfl, _, hr1, m1⟩⟩
  | some pr =>
    obtain ⟨k, b1⟩ := pr
    rw [e1] at hby
    obtain ⟨ho1, hk⟩ := dNum_oct e1 ho
    have D1 : Hid (dWrap bs = pbn (dNum 4) _ b1) := D0.out.trans (pbn_some e1)
    refine hby.mono ?_
    rintro _ w1 ⟨rfl, hr1, m1⟩
    have wc : IntKind.i64.wrap (k : Int) = (k : Int) := by rw [IntWalk.i64_in _ (by omega)]
    have hnu := rnumD_w N p g b1 w1 hr1 ho1
    clear hby e1 D0
    go_wp2_with fail
    cases e2 : dNum 4 b1 with
    | none =>
      rw [e2] at hnu
      refine hnu.mono ?_
      rintro _ w2 ⟨rfl, hr2, m2⟩
      refine ⟨rfl, .inr ⟨by rw [D1.out, pbn_none e2], rfl, _, hr2, m1.then m2⟩⟩
    | some pr =>
      obtain ⟨s, b2⟩ := pr
      rw [e2] at hnu
      obtain ⟨ho2, hs⟩ := dNum_oct e2 ho1
      have D2 : Hid (dWrap bs = pbn (dText 1048576) _ b2) := D1.out.trans (pbn_some e2)
      refine hnu.mono ?_
      rintro _ w2 ⟨rfl, hr2, m2⟩
      have wc2 : IntKind.i64.wrap (s : Int) = (s : Int) := by rw [IntWalk.i64_in _ (by omega)]
      have htx := rtextD_w N p g b2 w2 hr2 ho2
      clear hnu e2 D1
      go_wp2_with fail
      cases e3 : dText 1048576 b2 with
      | none =>
        rw [e3] at htx
        refine htx.mono ?_
        rintro _ w3 ⟨rfl, hr3, m3⟩
        refine ⟨rfl, .inr ⟨by rw [D2.out, pbn_none e3], rfl, _, hr3, (m1.then m2).then m3⟩⟩
      | some pr =>
        obtain ⟨b, b3⟩ := pr
        rw [e3] at htx
        have D3 : Hid (dWrap bs = some ((k, s, b), b3)) := D2.out.trans (pbn_some e3)
        refine htx.mono ?_
        rintro _ w3 ⟨v3, rfl, hO, hr3, m3, hF⟩
        have M3 := (m1.then m2).then m3
        have a3 := M3.at ha (by simpa using d1)
        have b3' := M3.at hb (by simpa using d2)
        have c3 := M3.at hc (by simpa using d3)
        have la := lt_of_block ha
        have lb := lt_of_block hb
        have lc := lt_of_block hc
        have HM : Hid (Moves [p] w w3) := M3
        have HF : Hid (Fresh w2 v3) := hF
        have HS2 : Hid (w.heap.size ≤ w2.heap.size) := (m1.then m2).size
        have HR : Hid (RdIs w3 p g b3 false) := hr3
        have HO : Hid (Own w3 v3 b) := hO
        obtain ⟨x1, x2⟩ := one_cell a3
        obtain ⟨y1, y2⟩ := one_cell b3'
        obtain ⟨z1, z2⟩ := one_cell c3
        obtain ⟨ad3, n3, c33, rfl⟩ : ∃ ad n cap, v3 = .slice ad n cap := by obtain ⟨_, _, _, e, _⟩ := hO.isB; exact ⟨_, _, _, e⟩
        have HA : Hid _ := a3
        have HB : Hid _ := b3'
        have HC : Hid _ := c3
        clear htx e3 D2 hO hr3 m1 m2 m3 M3 hF hr1 hr2 h ha hb hc a3 b3' c3
        go_wp2_with fail
        go_end0
        have s1 : Moves [qa] w3 (w3.setCell ⟨qa, 0, none⟩ (.int .i64 (k : Int))) := moves_set _ _ _ _
        have s2 : Moves [qb] (w3.setCell ⟨qa, 0, none⟩ (.int .i64 (k : Int))) ((w3.setCell ⟨qa, 0, none⟩ (.int .i64 (k : Int))).setCell ⟨qb, 0, none⟩ (.int .i64 (s : Int))) := moves_set _ _ _ _
        have s3 : Moves [qc] ((w3.setCell ⟨qa, 0, none⟩ (.int .i64 (k : Int))).setCell ⟨qb, 0, none⟩ (.int .i64 (s : Int))) (((w3.setCell ⟨qa, 0, none⟩ (.int .i64 (k : Int))).setCell ⟨qb, 0, none⟩ (.int .i64 (s : Int))).setCell ⟨qc, 0, none⟩ (.slice ad3 n3 c33)) := moves_set _ _ _ _
        have na : ∀ q, q < w.heap.size → (Value.slice ad3 n3 c33).ownBlock ≠ some q := fun q hq he => by
          have := HF.out q he
          have := HS2.out
          omega
        refine .inl ⟨k, s, b, b3, _, D3.out, rfl, ((HR.out.moves s1 (by simpa using Ne.symm d1) (by simpa using d7)).moves s2 (by simpa using Ne.symm d2) (by simpa using d8)).moves s3 (by simpa using Ne.symm d3) (by simpa using d9), s3.at (s2.at (set_one HA.out _) (by simpa using d4)) (by simpa using d5), s3.at (set_one (s1.at HB.out (by simpa using Ne.symm d4)) _) (by simpa using d6), set_one (s2.at (s1.at HC.out (by simpa using Ne.symm d5)) (by simpa using Ne.symm d6)) _, ?_, fun q hq => Nat.le_trans HS2.out (HF.out q hq), (((HM.out.mono (by simp)).then (s1.mono (by simp))).then (s2.mono (by simp))).then (s3.mono (by simp))⟩
        exact ((HO.out.moves s1 (fun q hq hm => na qa la (by simp at hm; rw [← hm]; exact hq))).moves s2 (fun q hq hm => na qb lb (by simp at hm; rw [← hm]; exact hq))).moves s3 (fun q hq hm => na qc lc (by simp at hm; rw [← hm]; exact hq))

set_option maxRecDepth 100000 in
theorem uread_w (N g qa qb qc : Nat) (v : Value) (bs : List Nat) (w : World) (hv : IsB w g v bs) (ho : OctN N bs) (ha : w.heap[qa]? = some (.cells #[.int .i64 0] 3 (0, 0))) (hb : w.heap[qb]? = some (.cells #[.int .i64 0] 3 (0, 0))) (hc : w.heap[qc]? = some (.cells #[.slice none 0 0] 23 (0, 0))) (hg : g < w.heap.size) (hd : qa ≠ qb ∧ qa ≠ qc ∧ qb ≠ qc ∧ g ≠ qa ∧ g ≠ qb ∧ g ≠ qc) :
    Calls Tryz.prog 56 #[v, .func (.func 63) #[] #[.pointer (some ⟨qa, 0, none⟩), .pointer (some ⟨qb, 0, none⟩), .pointer (some ⟨qc, 0, none⟩)]] w fun e w' =>
      (∃ k s b rest u, dWrap bs = some ((k, s, b), rest) ∧ e = .returned (.bool ((rest.length : Int) == 0)) ∧ w'.heap[qa]? = some (.cells #[.int .i64 ((k : Nat) : Int)] 3 (0, 0)) ∧ w'.heap[qb]? = some (.cells #[.int .i64 ((s : Nat) : Int)] 3 (0, 0)) ∧ w'.heap[qc]? = some (.cells #[u] 23 (0, 0)) ∧ Own w' u b ∧ Moves [qa, qb, qc] w w') ∨ (dWrap bs = none ∧ e = .returned (.bool false) ∧ Moves [] w w') := by
  obtain ⟨d4, d5, d6, d7, d8, d9⟩ := hd
  have la := lt_of_block ha
  have lb := lt_of_block hb
  have lc := lt_of_block hc
  refine (read_any 63 #[.pointer (some ⟨qa, 0, none⟩), .pointer (some ⟨qb, 0, none⟩), .pointer (some ⟨qc, 0, none⟩)] v g bs w hv (by omega) (fun rest w2 => ∃ k s b u, dWrap bs = some ((k, s, b), rest) ∧ (∃ c, w2.heap[w.heap.size]? = some (.cells c 149 (0, 0))) ∧ w2.heap[qa]? = some (.cells #[.int .i64 ((k : Nat) : Int)] 3 (0, 0)) ∧ w2.heap[qb]? = some (.cells #[.int .i64 ((s : Nat) : Int)] 3 (0, 0)) ∧ w2.heap[qc]? = some (.cells #[u] 23 (0, 0)) ∧ Own w2 u b ∧ Moves [qa, qb, qc] w w2) (fun _ w2 => dWrap bs = none ∧ Moves [] w w2) (fun _ _ => rfl) ?_).mono ?_
  · intro w1 hbg hm
    have hlt1 : w.heap.size < w1.heap.size := hbg.1.ltp
    refine (unwrap1_w N w.heap.size g qa qb qc bs w1 hbg.1 ho (hm.at ha (by simp)) (hm.at hb (by simp)) (hm.at hc (by simp)) ⟨by omega, by omega, by omega, d4, d5, d6, d7, d8, d9⟩).mono ?_
    rintro _ w2 (⟨k, s, b, rest, u, hd, rfl, hr, h1, h2, h3, hO, _, m⟩ | ⟨hd, rfl, bs', hr, m⟩)
    · refine .inl ⟨rfl, rest, ⟨hr, m.at hbg.2 (by simp; omega)⟩, k, s, b, u, hd, hr.block, h1, h2, h3, hO, ?_⟩
      exact (hm.mono (by simp)).trans m (fun x hx => by
          simp at hx
          rcases hx with rfl | rfl | rfl | rfl
          · exact .inr (Nat.le_refl _)
          · exact .inl (by simp)
          · exact .inl (by simp)
          · exact .inl (by simp))
    · exact .inr ⟨rfl, bs', ⟨hr, m.at hbg.2 (by simp)⟩, hd, hm.trans m (fun x hx => .inr (by simp at hx; omega))⟩
  · rintro _ w' (⟨rest, rfl, w2, ⟨k, s, b, u, hd, ⟨c2, hc2⟩, h1, h2, h3, hO, m⟩, m2⟩ | ⟨rfl, bs', w2, ⟨hd, m⟩, m2⟩)
    · exact .inl ⟨k, s, b, rest, u, hd, rfl, m2.at h1 (by simp; omega), m2.at h2 (by simp; omega), m2.at h3 (by simp; omega), hO.moves m2 (fun q hq hm => by simp at hm; subst hm; exact hO.ne hc2 (by decide) hq), m.trans m2 (fun x hx => .inr (by simp at hx; omega))⟩
    · exact .inr ⟨hd, rfl, m.trans m2 (fun x hx => .inr (by simp at hx; omega))⟩

theorem ret4 {fn : Func} {a b c d : Tmp} (h : fn.results = #[.tmp a, .tmp b, .tmp c, .tmp d]) (tmps : Array Value) (w : World) : (results fn tmps).run Tryz.prog w = .ok (.tuple #[tmps.getD a undef, tmps.getD b undef, tmps.getD c undef, tmps.getD d undef]) w := by
  simp only [results, h]
  simp
/-- All of the bytes are a request that was wrapped. -/
def dWrapW (bs : List Nat) : Option (Nat × Nat × List Nat) := match dWrap bs with
  | some (x, []) => some x
  | _ => none
def Unw (w0 : World) (o : Option (Nat × Nat × List Nat)) (e : Ending) (w' : World) : Prop := match o with
  | some (k, s, b) => ∃ u, e = .returned (.tuple #[.int .i64 (k : Int), .int .i64 (s : Int), u, .bool true]) ∧ Own w' u b ∧ Moves [] w0 w'
  | none => e = .returned (.tuple #[.int .i64 0, .int .i64 0, .slice none 0 0, .bool false]) ∧ Moves [] w0 w'
theorem dWrapW_enc {k s : Nat} {b : List Nat} (hs : s < 4294967296) (hl : b.length ≤ 1048576) : dWrapW (encW k s b) = some (k, s, b) := by
  have q := dWrap_enc (k := k) hs hl []
  rw [List.append_nil] at q
  unfold dWrapW
  rw [q]
theorem dWrapW_cut {k s : Nat} {b : List Nat} (hs : s < 4294967296) (hl : b.length ≤ 1048576) {n : Nat} (hn : n < (encW k s b).length) : dWrapW ((encW k s b).take n) = none := by
  unfold dWrapW
  cases hd : dWrap ((encW k s b).take n) with
  | none => rfl
  | some z =>
    obtain ⟨x, r⟩ := z
    cases r with
    | cons _ _ => rfl
    | nil =>
      have e1 := dWrap_mono _ _ _ hd ((encW k s b).drop n)
      have e2 := dWrap_enc (k := k) hs hl []
      rw [List.append_nil] at e2
      rw [List.take_append_drop, e2] at e1
      simp only [Option.some.injEq, Prod.mk.injEq, List.nil_append] at e1
      have := congrArg List.length e1.2
      simp at this
      omega

set_option maxRecDepth 100000 in
set_option maxHeartbeats 4000000 in
theorem unwrap_w (N : Nat) (v : Value) (g : Nat) (bs : List Nat) (w : World) (hv0 : IsB w g v bs) (ho : OctN N bs) (hpos : 0 < w.heap.size) :
    Calls Tryz.prog 22 #[v] w fun e w' => Unw w (dWrapW bs) e w' := by
  obtain ⟨ad, len, cap, rfl, _⟩ := id hv0
  obtain ⟨g1, hg1, hv1⟩ := isB_inA hv0 hpos
  go_enter Tryz.func22, Tryz.ntmps22
  go_wp2_with fail
  obtain ⟨w1, hw1⟩ : ∃ w1, ((w.alloc (.cells #[.int .i64 0] 3)).alloc (.cells #[.int .i64 0] 3)).alloc (.cells #[.slice none 0 0] 23) = w1 := ⟨_, rfl⟩
  rw [hw1]
  obtain ⟨pa, pb, pc, n1⟩ : w1.heap[w.heap.size]? = some (.cells #[.int .i64 0] 3 (0, 0)) ∧ w1.heap[w.heap.size + 1]? = some (.cells #[.int .i64 0] 3 (0, 0)) ∧ w1.heap[w.heap.size + 1 + 1]? = some (.cells #[.slice none 0 0] 23 (0, 0)) ∧ Moves [] w w1 := by
    have e1 : (w.alloc (.cells #[.int .i64 0] 3)).heap.size = w.heap.size + 1 := by simp
    have e2 : ((w.alloc (.cells #[.int .i64 0] 3)).alloc (.cells #[.int .i64 0] 3)).heap.size = w.heap.size + 1 + 1 := by simp
    have h1 := heap_alloc_new w (.cells #[.int .i64 0] 3)
    have h2 := heap_alloc_new (w.alloc (.cells #[.int .i64 0] 3)) (.cells #[.int .i64 0] 3)
    have h3 := heap_alloc_new ((w.alloc (.cells #[.int .i64 0] 3)).alloc (.cells #[.int .i64 0] 3)) (.cells #[.slice none 0 0] 23)
    rw [e1] at h2
    rw [e2] at h3
    rw [← hw1]
    refine ⟨?_, ?_, h3, (((Moves.refl _ _).alloc _).alloc _).alloc _⟩
    · exact (((Moves.refl [] _).alloc _).alloc _).at h1 (by simp)
    · exact ((Moves.refl [] _).alloc _).at h2 (by simp)
  clear hw1
  have sz := n1.size
  obtain ⟨D, hD⟩ : ∃ D, w.heap.size = D := ⟨_, rfl⟩
  rw [hD] at pa pb pc hg1 ⊢
  have lc := lt_of_block pc
  refine (uread_w N g1 D (D + 1) (D + 1 + 1) _ bs w1 (hv1.moves n1 (by simp)) ho pa pb pc (by omega) ⟨by omega, by omega, by omega, by omega, by omega, by omega⟩).mono ?_
  rintro _ w2 (⟨k, s, b, rest, u, hd, rfl, h1, h2, h3, hO, m2⟩ | ⟨hd, rfl, m2⟩)
  · have HM : Hid (Moves [] w w2) := n1.trans m2 (fun x hx => .inr (by simp at hx; omega))
    cases rest with
    | nil =>
      have HW : Hid (dWrapW bs = some (k, s, b)) := by unfold Hid dWrapW; rw [hd]
      obtain ⟨x1, _⟩ := one_cell h1
      obtain ⟨y1, _⟩ := one_cell h2
      obtain ⟨z1, _⟩ := one_cell h3
      have HO : Hid (Own w2 u b) := hO
      clear hd hO m2 n1 hv1 hv0 h1 h2 h3 pa pb pc
      go_wp2_with fail
      go_region_held3 (fun w' => w'.cell? ⟨D, 0, none⟩ = some (.int .i64 (k : Int)) ∧ w'.cell? ⟨D + 1, 0, none⟩ = some (.int .i64 (s : Int)) ∧ w'.cell? ⟨D + 1 + 1, 0, none⟩ = some u) (first | (with_reducible exact ⟨x1, y1, z1⟩) | (go_keep; done)) (fail)
      go_wp2_with fail
      try simp only [Exit.inBlock, Exit.then]
      refine bodyPost_ret (ret4 rfl _ _) rfl ?_
      show Unw w (dWrapW bs) _ _
      rw [HW.out]
      exact ⟨_, rfl, HO.out.moves (Moves.refl [] _).drew (by simp), HM.out.drew⟩
    | cons r1 rs =>
      have HW : Hid (dWrapW bs = none) := by unfold Hid dWrapW; rw [hd]
      clear hd hO m2 n1 hv1 hv0 h1 h2 h3 pa pb pc
      go_wp2_with fail
      try simp only [Exit.inBlock, Exit.then]
      refine bodyPost_ret (ret4 rfl _ _) rfl ?_
      show Unw w (dWrapW bs) _ _
      rw [HW.out]
      exact ⟨rfl, HM.out⟩
  · have HM : Hid (Moves [] w w2) := n1.then m2
    have HW : Hid (dWrapW bs = none) := by unfold Hid dWrapW; rw [hd]
    clear hd m2 n1 hv1 hv0 pa pb pc
    go_wp2_with fail
    try simp only [Exit.inBlock, Exit.then]
    refine bodyPost_ret (ret4 rfl _ _) rfl ?_
    show Unw w (dWrapW bs) _ _
    rw [HW.out]
    exact ⟨rfl, HM.out⟩
end Go.Proofs.YtcamhlnkcoicpaaGreat
