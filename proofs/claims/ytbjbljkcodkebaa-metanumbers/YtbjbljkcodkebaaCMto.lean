/-
  MetaPlays: tables of tablets are what the document says, for any that are put; written and read.
-/
import Derived.Test.YtbjbljkcodkebaaCMtl
import Derived.Test.YtbjbljkcodkebaaCMtm
import Derived.Test.YtbjbljkcodkebaaCBaseD
namespace Go.Proofs.Ytbjbljkcodkebaa
open Go.RowKit

theorem may_fit {xs : List Ptb} (h : mayT xs = 0) : ∀ x ∈ xs, FitT x := by
  obtain ⟨hcov, hbad, _⟩ := may_cov h
  intro x hx
  have hb : tbBad x = false := by
    cases hq : tbBad x with
    | false => rfl
    | true => rw [List.any_eq_true.2 ⟨x, hx, hq⟩] at hbad; simp at hbad
  unfold tbBad at hb
  simp only [Bool.or_eq_false_iff, decide_eq_false_iff_not] at hb
  obtain ⟨⟨⟨h1, h2⟩, h3⟩, h4⟩ := hb
  exact ⟨cov_R hcov x.sp (List.mem_map_of_mem hx), by omega, by omega, by omega, by omega⟩
theorem encM_ne (xs : List Ptb) : encM xs ≠ [] := by
  intro e
  have := congrArg List.length e
  unfold encM at this
  simp [be_length] at this
theorem encM_len {xs : List Ptb} (h : ∀ x ∈ xs, FitT x) (hl : xs.length ≤ 16) : (encM xs).length ≤ 1000 := by
  have := encTs_len xs h
  unfold encM
  rw [List.length_append, be_length]
  omega
theorem isB_lt {w : World} {g : Nat} {v : Value} {bs : List Nat} (h : IsB w g v bs) (hne : bs ≠ []) : g < w.heap.size := by
  obtain ⟨ad, n, cap, h1, h2, h3, h4, h5⟩ := h
  rcases h5 with rfl | ⟨off, h5, h6⟩
  · exact absurd rfl hne
  · cases bs with
    | nil => exact absurd rfl hne
    | cons b bs => exact lt_of_cell (h6 0 b rfl)

set_option maxRecDepth 100000 in
/-- The function that keeps what it took. -/
theorem ptakes_w (w : World) (r g D : Nat) (xs : List Ptb) (dv : Value) (h : RdIs w r g (encM xs) false) (hmay : mayT xs = 0) (hr : r < w.heap.size) (hg : g < w.heap.size) (hD : w.heap[D]? = some (.cells #[dv] 28 (0, 0))) (hDr : D ≠ r) (hDg : D ≠ g) :
    Calls Try.prog 39 #[.pointer (some ⟨r, 0, none⟩), .pointer (some ⟨D, 0, none⟩)] w fun e w' => e = .returned (.tuple #[]) ∧ ∃ q, w'.heap[D]? = some (.cells #[.pointer (some ⟨q, 0, none⟩)] 28 (0, 0)) ∧ RdIs w' r g [] false ∧ MtB w.heap.size w' q xs ∧ Moves [r, D] w w' ∧ w.heap.size ≤ q := by
  have hT := mtTake_w w r g xs h hmay (may_cov hmay).2.2 (may_fit hmay) hr hg
  have lD := lt_of_block hD
  go_enter Try.func39, Try.ntmps39
  go_wp2_with fail
  refine hT.mono ?_
  rintro _ w2 ⟨q, rfl, hM, hq, hR, m2⟩
  have hD2 := m2.at hD (by simpa using hDr)
  obtain ⟨x1, x2⟩ := one_cell hD2
  go_wp2_with fail
  go_end0
  have ms := moves_set w2 D 0 (.pointer (some ⟨q, 0, none⟩))
  exact ⟨rfl, q, set_one hD2 _, hR.moves ms (by simp; omega) (by simp; omega), hM.moves ms (by simp; omega) (by simp; omega), (m2.mono (by simp)).then (ms.mono (by simp)), hq⟩

set_option maxRecDepth 100000 in
theorem pread_w (v : Value) (g D : Nat) (xs : List Ptb) (dv : Value) (w : World) (hv : IsB w g v (encM xs)) (hg : g < w.heap.size) (hmay : mayT xs = 0) (hD : w.heap[D]? = some (.cells #[dv] 28 (0, 0))) (hDg : D ≠ g) :
    Calls Try.prog 37 #[v, .func (.func 39) #[] #[.pointer (some ⟨D, 0, none⟩)]] w fun e w' => e = .returned (.bool true) ∧ ∃ q, w'.heap[D]? = some (.cells #[.pointer (some ⟨q, 0, none⟩)] 28 (0, 0)) ∧ MtIs w' q xs ∧ Moves [D] w w' := by
  have lD := lt_of_block hD
  refine (read_ret 39 #[.pointer (some ⟨D, 0, none⟩)] v g (encM xs) [] w hv (by omega) (fun w2 => ∃ q, w2.heap[D]? = some (.cells #[.pointer (some ⟨q, 0, none⟩)] 28 (0, 0)) ∧ MtB (w.heap.size + 1) w2 q xs ∧ Moves [D] w w2 ∧ w.heap.size < q) (fun _ _ => rfl) ?_).mono ?_
  · intro w1 hb hm
    have hlt := lt_of_block hb.2
    have sz := hm.size
    refine (ptakes_w w1 w.heap.size g D xs dv hb.1 hmay (by omega) (by omega) (hm.at hD (by simp)) (by omega) hDg).mono ?_
    rintro _ w2 ⟨rfl, q, k1, k2, k3, k4, k5⟩
    refine ⟨rfl, ⟨k2, k4.at hb.2 (by simp; omega)⟩, q, k1, k3.weak (by omega), ?_, by omega⟩
    exact (hm.mono (by simp)).trans k4 (fun x hx => by simp at hx; rcases hx with rfl | rfl; exact .inr (by omega); exact .inl (by simp))
  · rintro _ w' ⟨rfl, w2, ⟨q, k1, k2, k3, k4⟩, m2⟩
    exact ⟨rfl, q, m2.at k1 (by simp; omega), (k2.moves m2 (by simp) (by simp; omega)).is, k3.trans m2 (fun x hx => .inr (by simp at hx; omega))⟩

set_option maxRecDepth 100000 in
set_option maxHeartbeats 16000000 in
theorem play11_w (lv : Value) (W w : World) (hl : DArgs11 W lv) (mW : Moves [] W w) : Calls Try.prog 12 #[lv] w fun e w' => e = .returned (.bool true) ∧ Moves [] w w' := by
  obtain ⟨adl, len, capl, rfl, hcl, hD⟩ := hl
  have HD : Hid (∀ k, k < len → ∃ b off z0 z1 z2 z3 aR lR cR gR rs, adl = some ⟨b, off, none⟩ ∧ W.cell? ⟨b, off + k * 5, none⟩ = some (.int .i64 z0) ∧ W.cell? ⟨b, off + k * 5 + 1, none⟩ = some (.int .i64 z1) ∧ W.cell? ⟨b, off + k * 5 + 2, none⟩ = some (.int .i64 z2) ∧ W.cell? ⟨b, off + k * 5 + 3, none⟩ = some (.int .i64 z3) ∧ W.cell? ⟨b, off + k * 5 + 4, none⟩ = some (.slice aR lR cR) ∧ TbL W gR (.slice aR lR cR) rs) := hD
  have mA : Moves [] w (w.alloc (.cells #[.string ⟨#[]⟩, .string ⟨#[]⟩, .int .i64 1, .int .i64 1] 25)) := (Moves.refl _ _).alloc _
  have hnew := mtNew_yes _ _ _ k11 (tb_new w ⟨⟨#[]⟩, ⟨#[]⟩, 1, 1⟩) (by decide) k11_may
  clear hD
  go_enter Try.func12, Try.ntmps12
  go_wp2_with fail
  refine hnew.mono ?_
  rintro _ w1 ⟨p, rfl, hM1, hp1, m1⟩
  have hpe : ∀ w1 : World, (binOp .eql 28 (.pointer (some ⟨p, 0, none⟩)) (.pointer none)).run Try.prog w1 = .ok (.bool false) w1 := by intro w1; kernel_rfl
  have hp : w.heap.size ≤ p := by have := mA.size; omega
  have hpl := hM1.lt
  have mB : Moves [] w1 (w1.alloc (.cells #[.string ⟨#[]⟩, .string ⟨#[]⟩, .int .i64 1, .int .i64 1] 25)) := (Moves.refl _ _).alloc _
  have HI1 : Hid (MtIs (w1.alloc (.cells #[.string ⟨#[]⟩, .string ⟨#[]⟩, .int .i64 1, .int .i64 1] 25)) p k11 ∧ mayT k11 = 0 ∧ TbL (w1.alloc (.cells #[.string ⟨#[]⟩, .string ⟨#[]⟩, .int .i64 1, .int .i64 1] 25)) w1.heap.size (.slice (some ⟨w1.heap.size, 0, none⟩) 1 1) k11 ∧ w1.heap.size ≠ p) := ⟨hM1.moves0 mB, k11_may, tb_new w1 ⟨⟨#[]⟩, ⟨#[]⟩, 1, 1⟩, by omega⟩
  have M1 : Moves [] w (w1.alloc (.cells #[.string ⟨#[]⟩, .string ⟨#[]⟩, .int .i64 1, .int .i64 1] 25)) := (mA.then m1).then mB
  clear hnew hM1 hp1 hpl
  go_wp2_with fail
  go_loopw [5, 6] (fun vm vi wr => ∃ (i : Nat) (xs : List Ptb) (gm : Nat) (u : Value), i ≤ 40 ∧ u = vm ∧ vi = .int .i64 (i : Nat) ∧ Hid (MtIs wr p xs ∧ mayT xs = 0 ∧ TbL wr gm u xs ∧ gm ≠ p) ∧ Moves [] w wr) (fun _ vi _ => 40 - (intOf vi).toNat)
  case atStart => exact ⟨0, k11, _, _, by omega, rfl, rfl, HI1.out, M1⟩
  case round =>
    obtain ⟨i, xs, gm, u, hi40, rfl, rfl, hI, mr⟩ := hrel
    obtain ⟨hM, hmay, hTm, hgp⟩ := hI.out
    obtain ⟨_, _, h16⟩ := may_cov hmay
    have hne := may_ne hmay
    have HM : Hid (MtIs wr p xs) := hM
    have HMAY : Hid (mayT xs = 0) := hmay
    obtain ⟨ad, n, cap, rfl, hn, hc, HT⟩ := hTm.open
    clear hI hM hmay hTm
    by_cases hgo : i < len ∧ i < 40
    · have hk1 : (i : Int) < len := by omega
      have hk2 : (i : Int) < 40 := by omega
      obtain ⟨bd, od, z0, z1, z2, z3, aR, lR, cR, gR, rs, ead, y0, y1, y2, y3, y4, hTR⟩ := HD.out i hgo.1
      subst ead
      have MW := mW.then mr
      have c0 := MW.cell y0
      have c1 := MW.cell y1
      have c2 := MW.cell y2
      have c3 := MW.cell y3
      have c4 := MW.cell y4
      have HY2 : Hid (W.cell? ⟨bd, od + i * 5 + 2, none⟩ = some (.int .i64 z2)) := y2
      have hask := asked11_w wr gm n cap ad xs HT.out hne (by omega) z0 z1 z2 z3 ((i : Int) + 2) gR aR lR cR rs (hTR.moves MW (by simp))
      clear hTR y0 y1 y2 y3 y4 hgo
      go_wp2_with fail
      refine hask.mono ?_
      rintro _ w3 ⟨v3, g3, ys, rfl, hT3, m3⟩
      have hlp := lput_w w3 gm _ xs (HT.out.moves m3 (by simp)) h16 g3 v3 ys hT3.out.1 hT3.out.2
      obtain ⟨E, hE⟩ : ∃ E, lpErr xs ys = E := ⟨_, rfl⟩
      rw [hE] at hlp
      have HE : Hid (lpErr xs ys = E) := hE
      obtain ⟨ad3, n3, cap3, rfl, _, _, HT3⟩ := hT3.out.1.open
      clear hask c0 c1 c2 c3 c4 hE
      go_wp2_with fail
      refine hlp.mono ?_
      rintro _ w4 ⟨v4, rfl, ⟨g4, hT4, hg4⟩, m4⟩
      have M4 : Moves [] wr w4 := m3.then m4
      have hput := mtPut_w w4 p xs (HM.out.moves0 M4) hne h16 g3 _ ys (HT3.out.moves m4 (by simp)) hT3.out.2
      have hg4p : g4 ≠ p := by
        rcases hg4 with e | e
        · rw [e]; exact hgp
        · have := HM.out.lt
          have := m3.size
          omega
      have HT4 : Hid (TbL w4 g4 v4 (lpTo xs ys)) := hT4
      clear hlp hT4
      go_wp2_with fail
      refine hput.mono ?_
      rintro _ w5 ⟨r, xs5, rfl, hP, hM5, m5⟩
      obtain ⟨hr5, hx5⟩ := put_law HMAY.out hP
      have hrE : r = E := hr5.trans HE.out
      subst hrE
      have HM5 : Hid (MtIs w5 p xs5) := hM5
      have HMAY5 : Hid (mayT xs5 = 0) := put_may hP HMAY.out
      have HT5 : Hid (TbL w5 g4 v4 xs5) := by
        unfold Hid
        rw [hx5]
        exact HT4.out.moves m5 (by simpa using hg4p)
      have M5 : Moves [] w w5 := (mr.then M4).trans m5 (fun k hk => .inr (by simp at hk; omega))
      have d2 := (mW.then M5).cell HY2.out
      obtain ⟨s, hrow⟩ := row_d z2
      obtain ⟨_, _, h165⟩ := may_cov HMAY5.out
      have hne5 := may_ne HMAY5.out
      clear hput hP hM5 hr5 hx5 m5
      go_wp2_with fail
      refine (hrow w5).mono ?_
      rintro _ w6 ⟨rfl, m6⟩
      have ht1 := tells11_w w6 p xs5 (HM5.out.moves0 m6) HMAY5.out g4 v4 (HT5.out.moves m6 (by simp)) s
      clear d2
      go_wp2_with fail
      refine ht1.mono ?_
      rintro _ w7 ⟨rfl, m7⟩
      have m57 := m6.then m7
      have ht2 := tells11_w w7 p xs5 (HM5.out.moves0 m57) HMAY5.out g4 v4 (HT5.out.moves m57 (by simp)) ⟨#[]⟩
      clear ht1
      go_wp2_with fail
      refine ht2.mono ?_
      rintro _ w8 ⟨rfl, m8⟩
      have m58 := m57.then m8
      have hcp := mtCopy_w w8 p xs5 (HM5.out.moves0 m58) hne5 (by omega)
      clear ht2
      go_wp2_with fail
      refine hcp.mono ?_
      rintro _ w9 ⟨q, rfl, hMq, hq, m9⟩
      have m59 := m58.then m9
      have hqe : ∀ w1 : World, (binOp .eql 28 (.pointer (some ⟨q, 0, none⟩)) (.pointer none)).run Try.prog w1 = .ok (.bool false) w1 := by intro w1; kernel_rfl
      have hsm := mtSame_yes w9 q p xs5 hMq (HM5.out.moves0 m59) hne5 (by omega)
      clear hcp hMq
      go_wp2_with fail
      refine hsm.mono ?_
      rintro _ w10 ⟨rfl, m10⟩
      have m510 := m59.then m10
      obtain ⟨ad4, n4, cap4, rfl, _, _, HT4'⟩ := HT5.out.open
      clear hsm
      go_wp2_with fail
      go_roundw
      case rel => exact ⟨i + 1, xs5, g4, _, by omega, rfl, by go_num, ⟨HM5.out.moves0 m510, HMAY5.out, HT5.out.moves m510 (by simp), hg4p⟩, M5.then m510⟩
      case measure => simp [intOf]; omega
    · have hmf : ∀ (fn : Fn) (first cap : Array Value) (w : World), (Instr.makeFunc fn first cap).run Try.prog w = .ok (.func fn first cap) w := fun _ _ _ _ => rfl
      by_cases hil : (i : Int) < len
      · have hi2 : ¬ (i : Int) < 40 := by omega
        clear hgo
        go_wp2_with fail
        refine (new_w wr).mono ?_
        rintro _ w2 ⟨rfl, hW2, m2⟩
        obtain ⟨Q, hQ⟩ : ∃ Q, wr.heap.size = Q := ⟨_, rfl⟩
        rw [hQ] at hW2 ⊢
        have hqe : ∀ w1 : World, (binOp .eql 71 (.pointer (some ⟨Q, 0, none⟩)) (.pointer none)).run Try.prog w1 = .ok (.bool false) w1 := by intro w1; kernel_rfl
        have hwr := mtWrite_w wr w2 p Q xs HM.out m2 hW2 (by omega) hne h16 (may_fit HMAY.out)
        have HQ : Hid (wr.heap.size = Q) := hQ
        clear hQ
        go_wp2_with fail
        refine hwr.mono ?_
        rintro _ w3 ⟨rfl, b3, hW3⟩
        have M3 : Moves [] wr w3 := m2.trans hW3.2.1 (fun x hx => .inr (by have := HQ.out; simp at hx; omega))
        have mD : Moves [] w3 (w3.alloc (.cells #[.pointer none] 28)) := (Moves.refl _ _).alloc _
        have hDb : (w3.alloc (.cells #[.pointer none] 28)).heap[w3.heap.size]? = some (.cells #[.pointer none] 28 (0, 0)) := heap_alloc_new w3 _
        have hDs : (w3.alloc (.cells #[.pointer none] 28)).heap.size = w3.heap.size + 1 := by simp
        have hdn := done_w Q b3 (encM xs) _ (hW3.1.moves mD (by simp) (by simp)) (by have := encM_len (may_fit HMAY.out) h16; omega)
        have hDl : wr.heap.size ≤ w3.heap.size := M3.size
        have hp3 : p < w3.heap.size := by have := HM.out.lt; omega
        clear hwr hW2 hW3
        obtain ⟨D, hDe⟩ : ∃ D, w3.heap.size = D := ⟨_, rfl⟩
        rw [hDe] at hDb hDs hDl hp3
        go_wp2_with fail
        obtain ⟨w4, hw4⟩ : ∃ w4, w3.alloc (.cells #[.pointer none] 28) = w4 := ⟨_, rfl⟩
        rw [hw4] at mD hDb hDs hdn ⊢
        refine hdn.mono ?_
        rintro _ w5 ⟨v5, rfl, hO5, m5, f5⟩
        have hB5 := hO5.isB
        have hg5 := isB_lt hB5 (encM_ne xs)
        have hD5 := m5.at hDb (by simp)
        have hDg : D ≠ v5.ownBlock.getD 0 := by
          cases hob : v5.ownBlock with
          | none => simp; omega
          | some k => have := f5 k hob; simp; omega
        generalize v5.ownBlock.getD 0 = g5 at hB5 hg5 hDg
        have hrd := pread_w v5 g5 D xs _ w5 hB5 hg5 HMAY.out hD5 hDg
        obtain ⟨a5, n5, c5, rfl, _⟩ := hB5
        clear hdn hDb hO5 hg5 hDg f5 hw4
        go_wp2_with fail
        refine hrd.mono ?_
        rintro _ w6 ⟨rfl, q, hD6, hM6, m6⟩
        obtain ⟨e1, _⟩ := one_cell hD6
        have M6 : Moves [] wr w6 := ((M3.then mD).then m5).trans m6 (fun x hx => .inr (by simp at hx; omega))
        have hq2 : ∀ w1 : World, (binOp .neq 28 (.pointer (some ⟨q, 0, none⟩)) (.pointer none)).run Try.prog w1 = .ok (.bool true) w1 := by intro w1; kernel_rfl
        have hsm := mtSame_yes w6 q p xs hM6 (HM.out.moves0 M6) hne (by omega)
        clear hrd hD6 hD5
        go_wp2_with fail
        refine hsm.mono ?_
        rintro _ w7 ⟨rfl, m7⟩
        have e2 := m7.cell e1
        have htl := tells11_w w7 q xs (hM6.moves0 m7) HMAY.out gm _ (HT.out.moves (M6.then m7) (by simp)) ⟨#[109]⟩
        clear hsm e1
        go_wp2_with fail
        refine htl.mono ?_
        rintro _ w8 ⟨rfl, m8⟩
        go_wp2_with fail
        go_ret
        exact ⟨rfl, mr.then ((M6.then m7).then m8)⟩
      · clear hgo
        go_wp2_with fail
        refine (new_w wr).mono ?_
        rintro _ w2 ⟨rfl, hW2, m2⟩
        obtain ⟨Q, hQ⟩ : ∃ Q, wr.heap.size = Q := ⟨_, rfl⟩
        rw [hQ] at hW2 ⊢
        have hqe : ∀ w1 : World, (binOp .eql 71 (.pointer (some ⟨Q, 0, none⟩)) (.pointer none)).run Try.prog w1 = .ok (.bool false) w1 := by intro w1; kernel_rfl
        have hwr := mtWrite_w wr w2 p Q xs HM.out m2 hW2 (by omega) hne h16 (may_fit HMAY.out)
        have HQ : Hid (wr.heap.size = Q) := hQ
        clear hQ
        go_wp2_with fail
        refine hwr.mono ?_
        rintro _ w3 ⟨rfl, b3, hW3⟩
        have M3 : Moves [] wr w3 := m2.trans hW3.2.1 (fun x hx => .inr (by have := HQ.out; simp at hx; omega))
        have mD : Moves [] w3 (w3.alloc (.cells #[.pointer none] 28)) := (Moves.refl _ _).alloc _
        have hDb : (w3.alloc (.cells #[.pointer none] 28)).heap[w3.heap.size]? = some (.cells #[.pointer none] 28 (0, 0)) := heap_alloc_new w3 _
        have hDs : (w3.alloc (.cells #[.pointer none] 28)).heap.size = w3.heap.size + 1 := by simp
        have hdn := done_w Q b3 (encM xs) _ (hW3.1.moves mD (by simp) (by simp)) (by have := encM_len (may_fit HMAY.out) h16; omega)
        have hDl : wr.heap.size ≤ w3.heap.size := M3.size
        have hp3 : p < w3.heap.size := by have := HM.out.lt; omega
        clear hwr hW2 hW3
        obtain ⟨D, hDe⟩ : ∃ D, w3.heap.size = D := ⟨_, rfl⟩
        rw [hDe] at hDb hDs hDl hp3
        go_wp2_with fail
        obtain ⟨w4, hw4⟩ : ∃ w4, w3.alloc (.cells #[.pointer none] 28) = w4 := ⟨_, rfl⟩
        rw [hw4] at mD hDb hDs hdn ⊢
        refine hdn.mono ?_
        rintro _ w5 ⟨v5, rfl, hO5, m5, f5⟩
        have hB5 := hO5.isB
        have hg5 := isB_lt hB5 (encM_ne xs)
        have hD5 := m5.at hDb (by simp)
        have hDg : D ≠ v5.ownBlock.getD 0 := by
          cases hob : v5.ownBlock with
          | none => simp; omega
          | some k => have := f5 k hob; simp; omega
        generalize v5.ownBlock.getD 0 = g5 at hB5 hg5 hDg
        have hrd := pread_w v5 g5 D xs _ w5 hB5 hg5 HMAY.out hD5 hDg
        obtain ⟨a5, n5, c5, rfl, _⟩ := hB5
        clear hdn hDb hO5 hg5 hDg f5 hw4
        go_wp2_with fail
        refine hrd.mono ?_
        rintro _ w6 ⟨rfl, q, hD6, hM6, m6⟩
        obtain ⟨e1, _⟩ := one_cell hD6
        have M6 : Moves [] wr w6 := ((M3.then mD).then m5).trans m6 (fun x hx => .inr (by simp at hx; omega))
        have hq2 : ∀ w1 : World, (binOp .neq 28 (.pointer (some ⟨q, 0, none⟩)) (.pointer none)).run Try.prog w1 = .ok (.bool true) w1 := by intro w1; kernel_rfl
        have hsm := mtSame_yes w6 q p xs hM6 (HM.out.moves0 M6) hne (by omega)
        clear hrd hD6 hD5
        go_wp2_with fail
        refine hsm.mono ?_
        rintro _ w7 ⟨rfl, m7⟩
        have e2 := m7.cell e1
        have htl := tells11_w w7 q xs (hM6.moves0 m7) HMAY.out gm _ (HT.out.moves (M6.then m7) (by simp)) ⟨#[109]⟩
        clear hsm e1
        go_wp2_with fail
        refine htl.mono ?_
        rintro _ w8 ⟨rfl, m8⟩
        go_wp2_with fail
        go_ret
        exact ⟨rfl, mr.then ((M6.then m7).then m8)⟩

end Go.Proofs.Ytbjbljkcodkebaa
