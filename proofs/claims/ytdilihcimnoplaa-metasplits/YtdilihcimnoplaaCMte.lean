/-
  MetaSplits' walk.
-/
import Derived.Test.YtdilihcimnoplaaCMtc
import Derived.Test.YtdilihcimnoplaaCMtd
import Derived.Test.YtdilihcimnoplaaCOpen7
import Derived.Test.YtdilihcimnoplaaCPeel
namespace Go.Proofs.Ytdilihcimnoplaa
open Go.RowKit

/-- One behind the other: where the one ends the other begins; the last ends nowhere. -/
theorem spK_next : ∀ (t : List Ptb) (hi : ByteArray), spK hi (t.map Ptb.sp) = true → (∀ i x y, t[i]? = some x → t[i + 1]? = some y → bz x.hi = false ∧ x.hi = y.lo) ∧ (∀ i x, t[i]? = some x → i + 1 = t.length → bz x.hi = true) ∧ (∀ y, t[0]? = some y → bz hi = false ∧ hi = y.lo) ∧ (t = [] → bz hi = true)
  | [], hi, h => ⟨fun i x y hx => by simp at hx, fun i x hx => by simp at hx, fun y hy => by simp at hy, fun _ => h⟩
  | a :: t, hi, h => by
    simp only [List.map_cons, spK, Bool.and_eq_true, Bool.not_eq_true'] at h
    obtain ⟨⟨⟨h1, h2⟩, h3⟩, h4⟩ := h
    obtain ⟨p1, p2, p3, p4⟩ := spK_next t a.hi h4
    refine ⟨fun i x y hx hy => ?_, fun i x hx hi' => ?_, fun y hy => ?_, fun e => by simp at e⟩
    · match i, hx, hy with
      | 0, hx, hy => simp at hx; subst hx; exact p3 y (by simpa using hy)
      | i + 1, hx, hy => exact p1 i x y (by simpa using hx) (by simpa using hy)
    · match i, hx with
      | 0, hx => simp at hx hi'; subst hx; exact p4 hi'
      | i + 1, hx => exact p2 i x (by simpa using hx) (by simpa using hi')
    · simp at hy; subst hy; exact ⟨h1, zeq_iff.1 h2⟩
theorem cov_next {xs : List Ptb} (h : spCov (xs.map Ptb.sp) = true) : (∀ i x y, xs[i]? = some x → xs[i + 1]? = some y → bz x.hi = false ∧ x.hi = y.lo) ∧ (∀ i x, xs[i]? = some x → i + 1 = xs.length → bz x.hi = true) := by
  cases xs with
  | nil => simp [spCov] at h
  | cons a t =>
    simp only [List.map_cons, spCov, Bool.and_eq_true] at h
    obtain ⟨⟨h1, h2⟩, h4⟩ := h
    obtain ⟨p1, p2, p3, p4⟩ := spK_next t a.hi h4
    refine ⟨fun i x y hx hy => ?_, fun i x hx hi' => ?_⟩
    · match i, hx, hy with
      | 0, hx, hy => simp at hx; subst hx; exact p3 y (by simpa using hy)
      | i + 1, hx, hy => exact p1 i x y (by simpa using hx) (by simpa using hy)
    · match i, hx with
      | 0, hx => simp at hx hi'; subst hx; exact p4 hi'
      | i + 1, hx => exact p2 i x (by simpa using hx) (by simpa using hi')
/-- The tablet that has a name. -/
theorem last_has {xs : List Ptb} (h : spCov (xs.map Ptb.sp) = true) {s : ByteArray} {i : Nat} (hi : LastZ (xs.map Ptb.lo) s i) {x : Ptb} (hx : xs[i]? = some x) : spH x.sp s = true := by
  obtain ⟨c1, c2⟩ := cov_next h
  have hl : (xs.map Ptb.lo)[i]? = some x.lo := by rw [List.getElem?_map, hx]; rfl
  have a1 := hi.lo i x.lo hl (Nat.le_refl _)
  unfold spH spB
  rw [show x.sp.lo = x.lo from rfl, show x.sp.hi = x.hi from rfl, a1]
  by_cases hlast : i + 1 = xs.length
  · rw [c2 i x hx hlast]; rfl
  · have hlt := hi.lt
    simp only [List.length_map] at hlt
    obtain ⟨y, hy⟩ : ∃ y, xs[i + 1]? = some y := ⟨_, List.getElem?_eq_getElem (by omega)⟩
    obtain ⟨e1, e2⟩ := c1 i x y hx hy
    have a2 := hi.hi (i + 1) y.lo (by rw [List.getElem?_map, hy]; rfl) (by omega)
    rw [e2, a2]
    simp
theorem last_first {xs : List Ptb} (h : spCov (xs.map Ptb.sp) = true) {i : Nat} {x : Ptb} (hx : xs[i]? = some x) : bz x.lo = decide (i = 0) := by
  obtain ⟨hr, a, t, rfl, ha⟩ := cov_rise h
  by_cases hi : i = 0
  · subst hi
    simp at hx
    subst hx
    rw [bz_iff.2 ha]
    rfl
  · rw [decide_eq_false hi]
    have h0 : ((a :: t).map Ptb.lo)[0]? = some a.lo := rfl
    have h1 : ((a :: t).map Ptb.lo)[i]? = some x.lo := by rw [List.getElem?_map, hx]; rfl
    have := hr.lt h0 h1 (by omega)
    rw [ha, nil_zlt] at this
    simpa using this
/-- Are the tablets the same? -/
def tbEq (y x : Ptb) : Bool := decide (y.lo.toList = x.lo.toList) && (decide (y.hi.toList = x.hi.toList) && (decide (y.g = x.g) && decide (y.n = x.n)))
theorem tbEq_self (x : Ptb) : tbEq x x = true := by simp [tbEq]
theorem tb_eql (y x : Ptb) (w1 : World) : (binOp .eql 25 (.agg #[.string y.lo, .string y.hi, .int .i64 y.g, .int .i64 y.n]) (.agg #[.string x.lo, .string x.hi, .int .i64 x.g, .int .i64 x.n])).run Try.prog w1 = .ok (.bool (tbEq y x)) w1 := by
  obtain ⟨q, hq⟩ : ∃ q, tbEq y x = q := ⟨_, rfl⟩
  rw [hq]
  go_simp
  unfold tbEq at hq
  by_cases h1 : y.lo.toList = x.lo.toList <;> by_cases h2 : y.hi.toList = x.hi.toList <;> by_cases h3 : y.g = x.g <;> by_cases h4 : y.n = x.n <;> simp [h1, h2, h3, h4] at hq ⊢ <;> exact hq
theorem eqGuard25 (i j : Nat) (y x : Ptb) (w : World) : (eqGuard .eql 25 (.tmp i) (.tmp j) (.agg #[.string y.lo, .string y.hi, .int .i64 y.g, .int .i64 y.n]) (.agg #[.string x.lo, .string x.hi, .int .i64 x.g, .int .i64 x.n])).run Try.prog w = .ok () w := by
  kernel_rfl
theorem wp_eql25 {o : Oper} {a : Act} {w : World} {K : Act → World → Prop} {Q : Exit → Act → World → Prop} (i j : Nat) (ho : o.op = .binOp .eql 25 (.tmp i) (.tmp j) 25) (y x : Ptb) (hs : a.eval (.tmp i) = .agg #[.string y.lo, .string y.hi, .int .i64 y.g, .int .i64 y.n]) (ht : a.eval (.tmp j) = .agg #[.string x.lo, .string x.hi, .int .i64 x.g, .int .i64 x.n]) (h : K (a.put o.dst (.bool (tbEq y x))) w) : o.wp Try.prog a w K Q := by
  unfold Oper.wp execOp
  simp only [ho, hs, ht, Sem.run_bind, tb_eql, Sem.run_pure, eqGuard25, Result.andThen_ok]
  exact h

/-- A list of what is put, handed in. -/
def DArgs11 (W : World) (v : Value) : Prop := ∃ ad len cap, v = .slice ad len cap ∧ len ≤ cap ∧ ∀ k, k < len → ∃ b off z0 z1 z2 z3 aR lR cR gR rs, ad = some ⟨b, off, none⟩ ∧ W.cell? ⟨b, off + k * 5, none⟩ = some (.int .i64 z0) ∧ W.cell? ⟨b, off + k * 5 + 1, none⟩ = some (.int .i64 z1) ∧ W.cell? ⟨b, off + k * 5 + 2, none⟩ = some (.int .i64 z2) ∧ W.cell? ⟨b, off + k * 5 + 3, none⟩ = some (.int .i64 z3) ∧ W.cell? ⟨b, off + k * 5 + 4, none⟩ = some (.slice aR lR cR) ∧ TbL W gR (.slice aR lR cR) rs

theorem put_may {xs ys xs' : List Ptb} {r : Int} (h : PutIs xs ys r xs') (hm : mayT xs = 0) : mayT xs' = 0 := by
  rcases h with ⟨_, _, rfl⟩ | ⟨_, _, zs, _, _, h3, rfl⟩
  · exact hm
  · split
    · rename_i e; rw [← h3]; exact e
    · exact hm
theorem may_ne {xs : List Ptb} (h : mayT xs = 0) : xs ≠ [] := by
  rintro rfl
  simp [mayT, spCov] at h

set_option maxRecDepth 100000 in
set_option maxHeartbeats 16000000 in
theorem metaSplits_w (lv nv : Value) (w : World) (hl : DArgs11 w lv) (hz : ZArgs w nv) : Calls Try.prog 6 #[lv, nv] w fun e w' => e = .returned (.bool true) ∧ Moves [] w w' := by
  obtain ⟨adl, len, capl, rfl, hcl, hD⟩ := hl
  obtain ⟨adz, ss, capz, rfl, hcz, _, hZ⟩ := hz
  obtain ⟨nz, hnz⟩ : ∃ nz, ss.length = nz := ⟨_, rfl⟩
  rw [hnz] at hcz ⊢
  have HNZ : Hid (ss.length = nz) := hnz
  have HD : Hid (∀ k, k < len → ∃ b off z0 z1 z2 z3 aR lR cR gR rs, adl = some ⟨b, off, none⟩ ∧ w.cell? ⟨b, off + k * 5, none⟩ = some (.int .i64 z0) ∧ w.cell? ⟨b, off + k * 5 + 1, none⟩ = some (.int .i64 z1) ∧ w.cell? ⟨b, off + k * 5 + 2, none⟩ = some (.int .i64 z2) ∧ w.cell? ⟨b, off + k * 5 + 3, none⟩ = some (.int .i64 z3) ∧ w.cell? ⟨b, off + k * 5 + 4, none⟩ = some (.slice aR lR cR) ∧ TbL w gR (.slice aR lR cR) rs) := hD
  have HZ : Hid (StrsAt w adz ss) := hZ
  have mA : Moves [] w (w.alloc (.cells #[.string ⟨#[]⟩, .string ⟨#[]⟩, .int .i64 1, .int .i64 1] 25)) := (Moves.refl _ _).alloc _
  have hnew := mtNew_yes _ _ _ k11 (tb_new w ⟨⟨#[]⟩, ⟨#[]⟩, 1, 1⟩) (by decide) k11_may
  have hmx : Try.prog.follows .mixedOrders = true := by kernel_rfl
  clear hD hZ hnz
  go_enter Try.func6, Try.ntmps6
  go_wp2_with fail
  refine hnew.mono ?_
  rintro _ w1 ⟨p, rfl, hM1, hp1, m1⟩
  have hpe : ∀ w1 : World, (binOp .eql 28 (.pointer (some ⟨p, 0, none⟩)) (.pointer none)).run Try.prog w1 = .ok (.bool false) w1 := by intro w1; kernel_rfl
  have hp : w.heap.size ≤ p := by have := mA.size; omega
  have HM1 : Hid (MtIs w1 p k11) := hM1
  have M1 : Moves [] w w1 := mA.then m1
  clear hnew hM1 hp1
  go_wp2_with fail
  go_loopw [7] (fun vi wr => ∃ (i : Nat) (xs : List Ptb), i ≤ 25 ∧ vi = .int .i64 (i : Nat) ∧ Hid (MtIs wr p xs ∧ mayT xs = 0) ∧ Moves [] w wr) (fun vi _ => 25 - (intOf vi).toNat)
  case atStart => exact ⟨0, k11, by omega, rfl, ⟨HM1.out, k11_may⟩, M1⟩
  case round =>
    obtain ⟨i, xs, hi25, rfl, hI, mr⟩ := hrel
    by_cases hgo : i < len ∧ i < 25
    · have hk1 : (i : Int) < len := by omega
      have hk2 : (i : Int) < 25 := by omega
      obtain ⟨hM, hmay⟩ := hI.out
      obtain ⟨hcov, hbad, h16⟩ := may_cov hmay
      have hne := may_ne hmay
      have hal := mtAll_w wr p xs hM hne (by omega)
      have HMAY : Hid (mayT xs = 0) := hmay
      clear hcov hbad hmay hM
      go_wp2_with fail
      refine hal.mono ?_
      rintro _ w2 ⟨v2, rfl, hO2, hF2, m2⟩
      obtain ⟨g2, hT2, hg2⟩ := hO2.ex hF2
      obtain ⟨ad2, n2, cap2, rfl, hn2, hc2, HT2⟩ := hT2.open
      have hn20 : ¬ (n2 : Int) = 0 := by have := hn2.out; have := List.length_pos_iff.2 hne; omega
      have hn2b : ((n2 : Int) == 0) = false := by simpa using hn20
      obtain ⟨bd, od, z0, z1, z2, z3, aR, lR, cR, gR, rs, ead, y0, y1, y2, y3, y4, hTR⟩ := HD.out i hgo.1
      subst ead
      have M2 : Moves [] w w2 := mr.then m2
      replace y0 := M2.cell y0
      replace y1 := M2.cell y1
      replace y2 := M2.cell y2
      replace y3 := M2.cell y3
      replace y4 := M2.cell y4
      have hask := asked11_w w2 g2 n2 cap2 ad2 xs HT2.out hne (by omega) z0 z1 z2 z3 ((i : Int) + 2) gR aR lR cR rs (hTR.moves M2 (by simp))
      have HM2 : Hid (MtIs w2 p xs) := hI.out.1.moves0 m2
      clear hal hO2 hF2 hT2 hTR
      go_wp2_with fail
      refine hask.mono ?_
      rintro _ w3 ⟨v3, g3, ys, rfl, hT3, m3⟩
      have hput := mtPut_w w3 p xs (HM2.out.moves0 m3) hne h16 g3 v3 ys hT3.out.1 hT3.out.2
      obtain ⟨ad3, n3, cap3, rfl, _, _, _⟩ := hT3.out.1.open
      clear hask y0 y1 y2 y3 y4
      go_wp2_with fail
      refine hput.mono ?_
      rintro _ w4 ⟨r, xs4, rfl, hP, hM4, m4⟩
      have HI4 : Hid (MtIs w4 p xs4 ∧ mayT xs4 = 0) := ⟨hM4, put_may hP HMAY.out⟩
      have M4 : Moves [] w w4 := (M2.then m3).trans m4 (fun k hk => .inr (by simp at hk; omega))
      obtain ⟨hcov, hbad, h164⟩ := may_cov HI4.out.2
      have hne4 := may_ne HI4.out.2
      have HCOV : Hid (spCov (xs4.map Ptb.sp) = true) := hcov
      clear hput hP hM4 hcov hbad h16 hne m4
      go_wp2_with fail
      go_loopw [9] (fun vk wr => ∃ k : Nat, k ≤ 4 ∧ vk = .int .i64 (k : Nat) ∧ Hid (MtIs wr p xs4) ∧ Moves [] w wr) (fun vk _ => 4 - (intOf vk).toNat)
      case atStart => exact ⟨0, by omega, rfl, HI4.out.1, M4⟩
      case round =>
        obtain ⟨k, hk4, rfl, hMk, mk⟩ := hrel
        by_cases hgk : k < nz ∧ k < 4
        · have hkz : (k : Int) < nz := by omega
          have hkz4 : (k : Int) < 4 := by omega
          obtain ⟨s, hs⟩ : ∃ s, ss[k]? = some s := ⟨_, List.getElem?_eq_getElem (by have := HNZ.out; omega)⟩
          obtain ⟨bz0, oz, eaz, hc⟩ := HZ.out k s hs
          subst eaz
          obtain ⟨i0, hi0⟩ := cov_last HCOV.out s
          have hlt0 := hi0.lt
          simp only [List.length_map] at hlt0
          obtain ⟨x, hx⟩ : ∃ x, xs4[i0]? = some x := ⟨_, List.getElem?_eq_getElem hlt0⟩
          have c0 := mk.cell hc
          have hfi := mtFind_w wr p xs4 hMk.out HCOV.out (by omega) s i0 hi0 x hx
          have HLAST : Hid (LastZ (xs4.map Ptb.lo) s i0) := hi0
          have HXI : Hid (xs4[i0]? = some x) := hx
          have hhas0 := last_has HCOV.out hi0 hx
          have hfirst := last_first HCOV.out hx
          obtain ⟨b, hb⟩ : ∃ b, b = if i0 = 0 then Ptb.zero else (xs4[i0 - 1]?).getD Ptb.zero := ⟨_, rfl⟩
          have hbx : 0 < i0 → b.hi = x.lo := by
            intro h0
            obtain ⟨y, hy⟩ : ∃ y, xs4[i0 - 1]? = some y := ⟨_, List.getElem?_eq_getElem (by omega)⟩
            rw [hb, if_neg (by omega), hy]
            exact ((cov_next HCOV.out).1 (i0 - 1) y x hy (by rw [show i0 - 1 + 1 = i0 by omega]; exact hx)).2
          have HB : Hid (b = if i0 = 0 then Ptb.zero else (xs4[i0 - 1]?).getD Ptb.zero) := hb
          have HLT0 : Hid (i0 < xs4.length) := hlt0
          have HBX : Hid (0 < i0 → b.hi = x.lo) := hbx
          have HFI : Hid (bz x.lo = decide (i0 = 0)) := hfirst
          clear hi0 hx hb hlt0 hbx hfirst hs hc
          go_wp2_with fail
          refine hfi.mono ?_
          rintro _ w5 ⟨rfl, m5⟩
          have mB5 : Moves [] w5 (w5.alloc (.cells #[.string x.lo, .string x.hi, .int .i64 x.g, .int .i64 x.n] 25)) := (Moves.refl _ _).alloc _
          have hQ1 := heap_alloc_new w5 (.cells #[.string x.lo, .string x.hi, .int .i64 x.g, .int .i64 x.n] 25)
          have hM5 := (hMk.out.moves0 m5).moves0 mB5
          have M5 : Moves [] w _ := (mk.then m5).then mB5
          have c5 := (m5.then mB5).cell c0
          obtain ⟨Q1, hQ1e⟩ : ∃ Q1, w5.heap.size = Q1 := ⟨_, rfl⟩
          rw [hQ1e] at hQ1
          go_wp2_with fail
          obtain ⟨w5a, hw5a⟩ : ∃ w5a, w5.alloc (.cells #[.string x.lo, .string x.hi, .int .i64 x.g, .int .i64 x.n] 25) = w5a := ⟨_, rfl⟩
          rw [hw5a] at hQ1 hM5 M5 c5 ⊢
          clear hw5a mB5 m5 c0 hfi
          refine (mtBefore_w w5a p xs4 hM5 HCOV.out (by omega) s i0 HLAST.out b HB.out).mono ?_
          rintro _ w6 ⟨rfl, m6⟩
          have mB6 : Moves [] w6 (w6.alloc (.cells #[.string b.lo, .string b.hi, .int .i64 b.g, .int .i64 b.n] 25)) := (Moves.refl _ _).alloc _
          have hQ2 := heap_alloc_new w6 (.cells #[.string b.lo, .string b.hi, .int .i64 b.g, .int .i64 b.n] 25)
          replace hQ1 := (m6.then mB6).at hQ1 (by simp)
          have hM6 := (hM5.moves0 m6).moves0 mB6
          have M6 : Moves [] w _ := (M5.then m6).then mB6
          have c6 := (m6.then mB6).cell c5
          obtain ⟨Q2, hQ2e⟩ : ∃ Q2, w6.heap.size = Q2 := ⟨_, rfl⟩
          rw [hQ2e] at hQ2
          obtain ⟨ok, hok⟩ : ∃ ok, decide (0 < i0) = ok := ⟨_, rfl⟩
          rw [hok]
          go_wp2_with fail
          obtain ⟨w6a, hw6a⟩ : ∃ w6a, w6.alloc (.cells #[.string b.lo, .string b.hi, .int .i64 b.g, .int .i64 b.n] 25) = w6a := ⟨_, rfl⟩
          rw [hw6a] at hQ1 hQ2 hM6 M6 c6 ⊢
          clear hw6a mB6 m6 c5 hM5 M5
          refine (mtMetas_w w6a p xs4 hM6 hne4 (by omega)).mono ?_
          rintro _ w7 ⟨v7, rfl, hMs, m7⟩
          obtain ⟨ad7, n7, cap7, rfl, hn7, hc7, HMs⟩ := hMs.open
          have hM7 := hM6.moves0 m7
          have M7 := M6.then m7
          have c7 := m7.cell c6
          replace hQ1 := m7.at hQ1 (by simp)
          replace hQ2 := m7.at hQ2 (by simp)
          have hme := mtMeta_w w7 p xs4 hM7 HCOV.out (by omega) s i0 HLAST.out
          obtain ⟨j4, hj4⟩ : ∃ j4, Hid (i0 / 4 = j4) := ⟨_, rfl⟩
          rw [hj4.out] at hme
          have hj4n : (j4 : Int) < n7 := by have := hn7.out; rw [fours_len] at this; have := HLT0.out; have := hj4.out; omega
          clear hMs hM6 M6 c6
          go_wp2_with fail
          refine hme.mono ?_
          rintro _ w8 ⟨rfl, m8⟩
          have hM8 : Hid (MtIs w8 p xs4) := hM7.moves0 m8
          have M8 := M7.then m8
          have c8 := m8.cell c7
          replace hQ1 := m8.at hQ1 (by simp)
          replace hQ2 := m8.at hQ2 (by simp)
          have HMs8 : Hid (MsAt w6a.heap.size w8 (.slice ad7 n7 cap7) (fours xs4)) := HMs.out.moves0 m8
          obtain ⟨e0, e1, e2, e3, _⟩ := four_cells hQ1
          obtain ⟨d0, d1, _, _, _⟩ := four_cells hQ2
          have hhas : ∀ w1 : World, Calls Try.prog 24 #[.agg #[.string x.lo, .string x.hi], .string s] w1 fun e w' => e = .returned (.bool true) ∧ Moves [] w1 w' := by
            intro w1
            have := rfHas7_w x.lo x.hi s w1
            rw [show (⟨x.lo, x.hi⟩ : Psp) = x.sp from rfl, hhas0] at this
            exact this
          have hS : ∀ w', Moves [] w8 w' → (w'.cell? ⟨Q1, 0, none⟩ = some (.string x.lo) ∧ w'.cell? ⟨Q1, 1, none⟩ = some (.string x.hi) ∧ w'.cell? ⟨Q2, 0, none⟩ = some (.string b.lo) ∧ w'.cell? ⟨Q2, 1, none⟩ = some (.string b.hi) ∧ w'.cell? ⟨bz0, oz + k, none⟩ = some (.string s)) := fun w' m' => ⟨m'.cell e0, m'.cell e1, m'.cell d0, m'.cell d1, m'.cell c8⟩
          have mW : Moves [] w8 w8.drew := (Moves.refl _ _).drew
          have hj0 : decide ((j4 : Int) < 0) = false := decide_eq_false (by omega)
          have hjn : decide ((n7 : Int) ≤ (j4 : Int)) = false := decide_eq_false (by omega)
          have hpost : ∀ (u : Nat → Value) (w9 : World), u 124 = .bool false ∧ Moves [] w8 w9 → True := fun _ _ _ => trivial
          clear m8 hme hM7 M7 c7 hhas0 hpost
          go_wp2_with fail
          refine wp_some7 [87, 88, 89, 90, 91, 92, 93, 94, 95, 96, 97, 98, 99, 100, 101, 102, 103, 104, 105, 106, 107, 108, 109, 110, 111, 112, 113, 114, 115, 116, 117, 118, 119, 120, 121, 122, 123, 124] (fun u w' => u 124 = .bool (decide (n7 ≤ j4)) ∧ Moves [] w8 w') ?_ ?_
          · cases ok with
            | true =>
              have hpos : 0 < i0 := of_decide_eq_true hok
              have hlo : x.lo.toList.isEmpty = false := by have := HFI.out; unfold bz at this; rw [this]; exact decide_eq_false (by omega)
              have hbe : (b.hi.toList == x.lo.toList) = true := by rw [HBX.out hpos]; exact beq_self_eq_true _
              clear hpos hok
              refine wp_region_noPanic ?_
              refine wp_region_held_drew (S := (fun w' => w'.cell? ⟨Q1, 0, none⟩ = some (.string x.lo) ∧ w'.cell? ⟨Q1, 1, none⟩ = some (.string x.hi) ∧ w'.cell? ⟨Q2, 0, none⟩ = some (.string b.lo) ∧ w'.cell? ⟨Q2, 1, none⟩ = some (.string b.hi) ∧ w'.cell? ⟨bz0, oz + k, none⟩ = some (.string s))) (by kernel_rfl) ?_ (fun hHeld => ?_)
              · first | (go_keep; done) | exact hS _ mW
              refine wpAnyH_take (i := 0) (oi := { dst := some 87, op := Op.fieldAddr 25 (Operand.tmp 10) 0, type := 0, pos := "law.go:245", after := #[], guard := none }) (v := ?_) rfl (by kernel_rfl) (by kernel_rfl) (by kernel_rfl) (fun _ _ _ h => h) (Or.inl ⟨by rfl, ?_⟩) (by assumption) ?_
              rotate_left
              · (intro w hSw; (try dsimp only at hSw); go_simp; try (with_reducible rfl))
              try simp only [Act.put, List.setIfInBounds_toArray, List.set_cons_zero, List.set_cons_succ]
              refine wpAnyH_take (i := 1) (oi := { dst := some 88, op := Op.load 23 (Operand.tmp 87), type := 23, pos := "law.go:245", after := #[{ on := 0, ground := Ground.data }], guard := none }) (v := ?_) rfl (by kernel_rfl) (by kernel_rfl) (by kernel_rfl) (fun _ _ _ h => h) (Or.inl ⟨by rfl, ?_⟩) (by assumption) ?_
              rotate_left
              · (intro w hSw; (try dsimp only at hSw); go_simp; try (with_reducible rfl))
              try simp only [Act.put, List.setIfInBounds_toArray, List.set_cons_zero, List.set_cons_succ]
              refine wpAnyH_take (i := 2) (oi := { dst := some 89, op := Op.move (Operand.tmp 1), type := 49, pos := "law.go:245", after := #[], guard := none }) (v := ?_) rfl (by kernel_rfl) (by kernel_rfl) (by kernel_rfl) (fun _ _ _ h => h) (Or.inl ⟨by rfl, ?_⟩) (by assumption) ?_
              rotate_left
              · (intro w hSw; (try dsimp only at hSw); go_simp; try (with_reducible rfl))
              try simp only [Act.put, List.setIfInBounds_toArray, List.set_cons_zero, List.set_cons_succ]
              refine wpAnyH_take (i := 3) (oi := { dst := some 90, op := Op.move (Operand.tmp 9), type := 3, pos := "law.go:245", after := #[], guard := none }) (v := ?_) rfl (by kernel_rfl) (by kernel_rfl) (by kernel_rfl) (fun _ _ _ h => h) (Or.inl ⟨by rfl, ?_⟩) (by assumption) ?_
              rotate_left
              · (intro w hSw; (try dsimp only at hSw); go_simp; try (with_reducible rfl))
              try simp only [Act.put, List.setIfInBounds_toArray, List.set_cons_zero, List.set_cons_succ]
              refine wpAnyH_take (i := 4) (oi := { dst := some 91, op := Op.indexAddr 49 (Operand.tmp 89) (Operand.tmp 90), type := 0, pos := "law.go:245", after := #[{ on := 2, ground := Ground.data }, { on := 3, ground := Ground.data }], guard := none }) (v := ?_) rfl (by kernel_rfl) (by kernel_rfl) (by kernel_rfl) (fun _ _ _ h => h) (Or.inl ⟨by rfl, ?_⟩) (by assumption) ?_
              rotate_left
              · (intro w hSw; (try dsimp only at hSw); go_simp; try (with_reducible rfl))
              try simp only [Act.put, List.setIfInBounds_toArray, List.set_cons_zero, List.set_cons_succ]
              refine wpAnyH_take (i := 5) (oi := { dst := some 92, op := Op.load 9 (Operand.tmp 91), type := 9, pos := "law.go:245", after := #[{ on := 4, ground := Ground.data }], guard := none }) (v := ?_) rfl (by kernel_rfl) (by kernel_rfl) (by kernel_rfl) (fun _ _ _ h => h) (Or.inl ⟨by rfl, ?_⟩) (by assumption) ?_
              rotate_left
              · (intro w hSw; (try dsimp only at hSw); go_simp; try (with_reducible rfl))
              try simp only [Act.put, List.setIfInBounds_toArray, List.set_cons_zero, List.set_cons_succ]
              refine wpAnyH_ready (rs := [6]) (by kernel_rfl) (by simp) ?_
              refine AllReadyH.cons (o := { dst := some 93, op := Op.call { callee := Callee.value (Operand.func 24), args := #[Operand.tmp 88, Operand.tmp 92], argTypes := #[23, 9] }, type := 4, pos := "law.go:245", after := #[{ on := 1, ground := Ground.data }, { on := 5, ground := Ground.data }], guard := none }) rfl (fun K hK => ?_) AllReadyH.nil
              go_simp
              refine (hhas _).mono ?_
              rintro _ w9 ⟨rfl, m9⟩
              replace mW := mW.then m9
              refine hK.out _ _ ?_ (fun hHeld => ?_)
              · exact hS _ mW
              clear hK K
              try simp only [Act.put, List.setIfInBounds_toArray, List.set_cons_zero, List.set_cons_succ]
              refine wpAnyH_take (i := 7) (oi := { dst := some 94, op := Op.unOp UnOp.not 4 (Operand.tmp 93), type := 4, pos := "law.go:245", after := #[{ on := 6, ground := Ground.data }], guard := none }) (v := ?_) rfl (by kernel_rfl) (by kernel_rfl) (by kernel_rfl) (fun _ _ _ h => h) (Or.inl ⟨by rfl, ?_⟩) (by assumption) ?_
              rotate_left
              · (intro w hSw; (try dsimp only at hSw); go_simp; try (with_reducible rfl))
              try simp only [Act.put, List.setIfInBounds_toArray, List.set_cons_zero, List.set_cons_succ]
              refine wpAnyH_take (i := 8) (oi := { dst := some 95, op := Op.move (Operand.tmp 94), type := 4, pos := "law.go:245", after := #[{ on := 7, ground := Ground.data }, { on := 6, ground := Ground.chain }], guard := none }) (v := ?_) rfl (by kernel_rfl) (by kernel_rfl) (by kernel_rfl) (fun _ _ _ h => h) (Or.inl ⟨by rfl, ?_⟩) (by assumption) ?_
              rotate_left
              · (intro w hSw; (try dsimp only at hSw); go_simp; try (with_reducible rfl))
              try simp only [Act.put, List.setIfInBounds_toArray, List.set_cons_zero, List.set_cons_succ]
              refine wpAnyH_take (i := 9) (oi := { dst := some 96, op := Op.move (Operand.tmp 12), type := 4, pos := "law.go:245", after := #[{ on := 8, ground := Ground.guard }], guard := some (8, false) }) (v := ?_) rfl (by kernel_rfl) (by kernel_rfl) (by kernel_rfl) (fun _ _ _ h => h) (Or.inl ⟨by rfl, ?_⟩) (by assumption) ?_
              rotate_left
              · (intro w hSw; (try dsimp only at hSw); go_simp; try (with_reducible rfl))
              try simp only [Act.put, List.setIfInBounds_toArray, List.set_cons_zero, List.set_cons_succ]
              refine wpAnyH_take (i := 10) (oi := { dst := some 97, op := Op.fieldAddr 25 (Operand.tmp 10) 0, type := 0, pos := "law.go:245", after := #[{ on := 8, ground := Ground.guard }], guard := some (8, false) }) (v := ?_) rfl (by kernel_rfl) (by kernel_rfl) (by kernel_rfl) (fun _ _ _ h => h) (Or.inl ⟨by rfl, ?_⟩) (by assumption) ?_
              rotate_left
              · (intro w hSw; (try dsimp only at hSw); go_simp; try (with_reducible rfl))
              try simp only [Act.put, List.setIfInBounds_toArray, List.set_cons_zero, List.set_cons_succ]
              refine wpAnyH_take (i := 11) (oi := { dst := some 98, op := Op.fieldAddr 23 (Operand.tmp 97) 0, type := 0, pos := "law.go:245", after := #[{ on := 10, ground := Ground.data }, { on := 8, ground := Ground.guard }], guard := some (8, false) }) (v := ?_) rfl (by kernel_rfl) (by kernel_rfl) (by kernel_rfl) (fun _ _ _ h => h) (Or.inl ⟨by rfl, ?_⟩) (by assumption) ?_
              rotate_left
              · (intro w hSw; (try dsimp only at hSw); go_simp; try (with_reducible rfl))
              try simp only [Act.put, List.setIfInBounds_toArray, List.set_cons_zero, List.set_cons_succ]
              refine wpAnyH_take (i := 12) (oi := { dst := some 99, op := Op.load 9 (Operand.tmp 98), type := 9, pos := "law.go:245", after := #[{ on := 11, ground := Ground.data }, { on := 8, ground := Ground.guard }], guard := some (8, false) }) (v := ?_) rfl (by kernel_rfl) (by kernel_rfl) (by kernel_rfl) (fun _ _ _ h => h) (Or.inl ⟨by rfl, ?_⟩) (by assumption) ?_
              rotate_left
              · (intro w hSw; (try dsimp only at hSw); go_simp; try (with_reducible rfl))
              try simp only [Act.put, List.setIfInBounds_toArray, List.set_cons_zero, List.set_cons_succ]
              refine wpAnyH_take (i := 13) (oi := { dst := some 100, op := Op.binOp BinOp.neq 9 (Operand.tmp 99) (Operand.const (Value.string { data := #[] })) 9, type := 4, pos := "law.go:245", after := #[{ on := 12, ground := Ground.data }, { on := 8, ground := Ground.guard }], guard := some (8, false) }) (v := ?_) rfl (by kernel_rfl) (by kernel_rfl) (by kernel_rfl) (fun _ _ _ h => h) (Or.inl ⟨by rfl, ?_⟩) (by assumption) ?_
              rotate_left
              · (intro w hSw; (try dsimp only at hSw); go_simp; try (with_reducible rfl))
              try simp only [Act.put, List.setIfInBounds_toArray, List.set_cons_zero, List.set_cons_succ]
              refine wpAnyH_take (i := 14) (oi := { dst := some 101, op := Op.binOp BinOp.neq 4 (Operand.tmp 96) (Operand.tmp 100) 4, type := 4, pos := "law.go:245", after := #[{ on := 9, ground := Ground.data }, { on := 13, ground := Ground.data }, { on := 8, ground := Ground.guard }], guard := some (8, false) }) (v := ?_) rfl (by kernel_rfl) (by kernel_rfl) (by kernel_rfl) (fun _ _ _ h => h) (Or.inl ⟨by rfl, ?_⟩) (by assumption) ?_
              rotate_left
              · (intro w hSw; (try dsimp only at hSw); go_simp; try (with_reducible rfl))
              try simp only [Act.put, List.setIfInBounds_toArray, List.set_cons_zero, List.set_cons_succ]
              refine wpAnyH_take (i := 15) (oi := { dst := some 102, op := Op.pick (Operand.tmp 95) (Operand.const (Value.bool true)) (Operand.tmp 101), type := 4, pos := "law.go:245", after := #[{ on := 8, ground := Ground.data }, { on := 14, ground := Ground.data }], guard := none }) (v := ?_) rfl (by kernel_rfl) (by kernel_rfl) (by kernel_rfl) (fun _ _ _ h => h) (Or.inl ⟨by rfl, ?_⟩) (by assumption) ?_
              rotate_left
              · (intro w hSw; (try dsimp only at hSw); go_simp; try (with_reducible rfl))
              try simp only [Act.put, List.setIfInBounds_toArray, List.set_cons_zero, List.set_cons_succ]
              refine wpAnyH_take (i := 16) (oi := { dst := some 103, op := Op.move (Operand.tmp 102), type := 4, pos := "law.go:245", after := #[{ on := 15, ground := Ground.data }, { on := 8, ground := Ground.chain }], guard := none }) (v := ?_) rfl (by kernel_rfl) (by kernel_rfl) (by kernel_rfl) (fun _ _ _ h => h) (Or.inl ⟨by rfl, ?_⟩) (by assumption) ?_
              rotate_left
              · (intro w hSw; (try dsimp only at hSw); go_simp; try (with_reducible rfl))
              try simp only [Act.put, List.setIfInBounds_toArray, List.set_cons_zero, List.set_cons_succ]
              refine wpAnyH_take (i := 17) (oi := { dst := some 104, op := Op.move (Operand.tmp 12), type := 4, pos := "law.go:245", after := #[{ on := 16, ground := Ground.guard }], guard := some (16, false) }) (v := ?_) rfl (by kernel_rfl) (by kernel_rfl) (by kernel_rfl) (fun _ _ _ h => h) (Or.inl ⟨by rfl, ?_⟩) (by assumption) ?_
              rotate_left
              · (intro w hSw; (try dsimp only at hSw); go_simp; try (with_reducible rfl))
              try simp only [Act.put, List.setIfInBounds_toArray, List.set_cons_zero, List.set_cons_succ]
              refine wpAnyH_take (i := 18) (oi := { dst := some 105, op := Op.move (Operand.tmp 104), type := 4, pos := "law.go:245", after := #[{ on := 17, ground := Ground.data }, { on := 16, ground := Ground.chain }, { on := 16, ground := Ground.guard }], guard := some (16, false) }) (v := ?_) rfl (by kernel_rfl) (by kernel_rfl) (by kernel_rfl) (fun _ _ _ h => h) (Or.inl ⟨by rfl, ?_⟩) (by assumption) ?_
              rotate_left
              · (intro w hSw; (try dsimp only at hSw); go_simp; try (with_reducible rfl))
              try simp only [Act.put, List.setIfInBounds_toArray, List.set_cons_zero, List.set_cons_succ]
              refine wpAnyH_take (i := 19) (oi := { dst := some 106, op := Op.fieldAddr 25 (Operand.tmp 11) 0, type := 0, pos := "law.go:245", after := #[{ on := 18, ground := Ground.guard }], guard := some (18, true) }) (v := ?_) rfl (by kernel_rfl) (by kernel_rfl) (by kernel_rfl) (fun _ _ _ h => h) (Or.inl ⟨by rfl, ?_⟩) (by assumption) ?_
              rotate_left
              · (intro w hSw; (try dsimp only at hSw); go_simp; try (with_reducible rfl))
              try simp only [Act.put, List.setIfInBounds_toArray, List.set_cons_zero, List.set_cons_succ]
              refine wpAnyH_take (i := 20) (oi := { dst := some 107, op := Op.fieldAddr 23 (Operand.tmp 106) 1, type := 0, pos := "law.go:245", after := #[{ on := 19, ground := Ground.data }, { on := 18, ground := Ground.guard }], guard := some (18, true) }) (v := ?_) rfl (by kernel_rfl) (by kernel_rfl) (by kernel_rfl) (fun _ _ _ h => h) (Or.inl ⟨by rfl, ?_⟩) (by assumption) ?_
              rotate_left
              · (intro w hSw; (try dsimp only at hSw); go_simp; try (with_reducible rfl))
              try simp only [Act.put, List.setIfInBounds_toArray, List.set_cons_zero, List.set_cons_succ]
              refine wpAnyH_take (i := 21) (oi := { dst := some 108, op := Op.load 9 (Operand.tmp 107), type := 9, pos := "law.go:245", after := #[{ on := 20, ground := Ground.data }, { on := 18, ground := Ground.guard }], guard := some (18, true) }) (v := ?_) rfl (by kernel_rfl) (by kernel_rfl) (by kernel_rfl) (fun _ _ _ h => h) (Or.inl ⟨by rfl, ?_⟩) (by assumption) ?_
              rotate_left
              · (intro w hSw; (try dsimp only at hSw); go_simp; try (with_reducible rfl))
              try simp only [Act.put, List.setIfInBounds_toArray, List.set_cons_zero, List.set_cons_succ]
              refine wpAnyH_take (i := 22) (oi := { dst := some 109, op := Op.fieldAddr 25 (Operand.tmp 10) 0, type := 0, pos := "law.go:245", after := #[{ on := 18, ground := Ground.guard }], guard := some (18, true) }) (v := ?_) rfl (by kernel_rfl) (by kernel_rfl) (by kernel_rfl) (fun _ _ _ h => h) (Or.inl ⟨by rfl, ?_⟩) (by assumption) ?_
              rotate_left
              · (intro w hSw; (try dsimp only at hSw); go_simp; try (with_reducible rfl))
              try simp only [Act.put, List.setIfInBounds_toArray, List.set_cons_zero, List.set_cons_succ]
              refine wpAnyH_take (i := 23) (oi := { dst := some 110, op := Op.fieldAddr 23 (Operand.tmp 109) 0, type := 0, pos := "law.go:245", after := #[{ on := 22, ground := Ground.data }, { on := 18, ground := Ground.guard }], guard := some (18, true) }) (v := ?_) rfl (by kernel_rfl) (by kernel_rfl) (by kernel_rfl) (fun _ _ _ h => h) (Or.inl ⟨by rfl, ?_⟩) (by assumption) ?_
              rotate_left
              · (intro w hSw; (try dsimp only at hSw); go_simp; try (with_reducible rfl))
              try simp only [Act.put, List.setIfInBounds_toArray, List.set_cons_zero, List.set_cons_succ]
              refine wpAnyH_take (i := 24) (oi := { dst := some 111, op := Op.load 9 (Operand.tmp 110), type := 9, pos := "law.go:245", after := #[{ on := 23, ground := Ground.data }, { on := 18, ground := Ground.guard }], guard := some (18, true) }) (v := ?_) rfl (by kernel_rfl) (by kernel_rfl) (by kernel_rfl) (fun _ _ _ h => h) (Or.inl ⟨by rfl, ?_⟩) (by assumption) ?_
              rotate_left
              · (intro w hSw; (try dsimp only at hSw); go_simp; try (with_reducible rfl))
              try simp only [Act.put, List.setIfInBounds_toArray, List.set_cons_zero, List.set_cons_succ]
              refine wpAnyH_take (i := 25) (oi := { dst := some 112, op := Op.binOp BinOp.neq 9 (Operand.tmp 108) (Operand.tmp 111) 9, type := 4, pos := "law.go:245", after := #[{ on := 21, ground := Ground.data }, { on := 24, ground := Ground.data }, { on := 18, ground := Ground.guard }], guard := some (18, true) }) (v := ?_) rfl (by kernel_rfl) (by kernel_rfl) (by kernel_rfl) (fun _ _ _ h => h) (Or.inl ⟨by rfl, ?_⟩) (by assumption) ?_
              rotate_left
              · (intro w hSw; (try dsimp only at hSw); go_simp; try (with_reducible rfl))
              try simp only [Act.put, List.setIfInBounds_toArray, List.set_cons_zero, List.set_cons_succ]
              refine wpAnyH_take (i := 26) (oi := { dst := some 113, op := Op.pick (Operand.tmp 105) (Operand.tmp 112) (Operand.const (Value.bool false)), type := 4, pos := "law.go:245", after := #[{ on := 18, ground := Ground.data }, { on := 25, ground := Ground.data }, { on := 16, ground := Ground.guard }], guard := some (16, false) }) (v := ?_) rfl (by kernel_rfl) (by kernel_rfl) (by kernel_rfl) (fun _ _ _ h => h) (Or.inl ⟨by rfl, ?_⟩) (by assumption) ?_
              rotate_left
              · (intro w hSw; (try dsimp only at hSw); go_simp; try (with_reducible rfl))
              try simp only [Act.put, List.setIfInBounds_toArray, List.set_cons_zero, List.set_cons_succ]
              refine wpAnyH_take (i := 27) (oi := { dst := some 114, op := Op.pick (Operand.tmp 103) (Operand.const (Value.bool true)) (Operand.tmp 113), type := 4, pos := "law.go:245", after := #[{ on := 16, ground := Ground.data }, { on := 26, ground := Ground.data }], guard := none }) (v := ?_) rfl (by kernel_rfl) (by kernel_rfl) (by kernel_rfl) (fun _ _ _ h => h) (Or.inl ⟨by rfl, ?_⟩) (by assumption) ?_
              rotate_left
              · (intro w hSw; (try dsimp only at hSw); go_simp; try (with_reducible rfl))
              try simp only [Act.put, List.setIfInBounds_toArray, List.set_cons_zero, List.set_cons_succ]
              refine wpAnyH_take (i := 28) (oi := { dst := some 115, op := Op.move (Operand.tmp 114), type := 4, pos := "law.go:245", after := #[{ on := 27, ground := Ground.data }, { on := 18, ground := Ground.chain }], guard := none }) (v := ?_) rfl (by kernel_rfl) (by kernel_rfl) (by kernel_rfl) (fun _ _ _ h => h) (Or.inl ⟨by rfl, ?_⟩) (by assumption) ?_
              rotate_left
              · (intro w hSw; (try dsimp only at hSw); go_simp; try (with_reducible rfl))
              try simp only [Act.put, List.setIfInBounds_toArray, List.set_cons_zero, List.set_cons_succ]
              refine wpAnyH_take (i := 29) (oi := { dst := some 116, op := Op.move (Operand.tmp 14), type := 3, pos := "law.go:245", after := #[{ on := 28, ground := Ground.guard }], guard := some (28, false) }) (v := ?_) rfl (by kernel_rfl) (by kernel_rfl) (by kernel_rfl) (fun _ _ _ h => h) (Or.inl ⟨by rfl, ?_⟩) (by assumption) ?_
              rotate_left
              · (intro w hSw; (try dsimp only at hSw); go_simp; try (with_reducible rfl))
              try simp only [Act.put, List.setIfInBounds_toArray, List.set_cons_zero, List.set_cons_succ]
              refine wpAnyH_take (i := 30) (oi := { dst := some 117, op := Op.binOp BinOp.lss 3 (Operand.tmp 116) (Operand.const (Value.int IntKind.i64 0)) 3, type := 4, pos := "law.go:245", after := #[{ on := 29, ground := Ground.data }, { on := 28, ground := Ground.guard }], guard := some (28, false) }) (v := ?_) rfl (by kernel_rfl) (by kernel_rfl) (by kernel_rfl) (fun _ _ _ h => h) (Or.inl ⟨by rfl, ?_⟩) (by assumption) ?_
              rotate_left
              · (intro w hSw; (try dsimp only at hSw); go_simp; try (with_reducible rfl))
              try simp only [Act.put, List.setIfInBounds_toArray, List.set_cons_zero, List.set_cons_succ]
              refine wpAnyH_take (i := 31) (oi := { dst := some 118, op := Op.pick (Operand.tmp 115) (Operand.const (Value.bool true)) (Operand.tmp 117), type := 4, pos := "law.go:245", after := #[{ on := 28, ground := Ground.data }, { on := 30, ground := Ground.data }], guard := none }) (v := ?_) rfl (by kernel_rfl) (by kernel_rfl) (by kernel_rfl) (fun _ _ _ h => h) (Or.inl ⟨by rfl, ?_⟩) (by assumption) ?_
              rotate_left
              · (intro w hSw; (try dsimp only at hSw); go_simp; try (with_reducible rfl))
              try simp only [Act.put, List.setIfInBounds_toArray, List.set_cons_zero, List.set_cons_succ]
              refine wpAnyH_take (i := 32) (oi := { dst := some 119, op := Op.move (Operand.tmp 118), type := 4, pos := "law.go:245", after := #[{ on := 31, ground := Ground.data }, { on := 28, ground := Ground.chain }], guard := none }) (v := ?_) rfl (by kernel_rfl) (by kernel_rfl) (by kernel_rfl) (fun _ _ _ h => h) (Or.inl ⟨by rfl, ?_⟩) (by assumption) ?_
              rotate_left
              · (intro w hSw; (try dsimp only at hSw); go_simp; try (with_reducible rfl))
              try simp only [Act.put, List.setIfInBounds_toArray, List.set_cons_zero, List.set_cons_succ]
              refine wpAnyH_take (i := 33) (oi := { dst := some 120, op := Op.move (Operand.tmp 14), type := 3, pos := "law.go:245", after := #[{ on := 32, ground := Ground.guard }], guard := some (32, false) }) (v := ?_) rfl (by kernel_rfl) (by kernel_rfl) (by kernel_rfl) (fun _ _ _ h => h) (Or.inl ⟨by rfl, ?_⟩) (by assumption) ?_
              rotate_left
              · (intro w hSw; (try dsimp only at hSw); go_simp; try (with_reducible rfl))
              try simp only [Act.put, List.setIfInBounds_toArray, List.set_cons_zero, List.set_cons_succ]
              refine wpAnyH_take (i := 34) (oi := { dst := some 121, op := Op.move (Operand.tmp 13), type := 27, pos := "law.go:245", after := #[{ on := 32, ground := Ground.guard }], guard := some (32, false) }) (v := ?_) rfl (by kernel_rfl) (by kernel_rfl) (by kernel_rfl) (fun _ _ _ h => h) (Or.inl ⟨by rfl, ?_⟩) (by assumption) ?_
              rotate_left
              · (intro w hSw; (try dsimp only at hSw); go_simp; try (with_reducible rfl))
              try simp only [Act.put, List.setIfInBounds_toArray, List.set_cons_zero, List.set_cons_succ]
              refine wpAnyH_take (i := 35) (oi := { dst := some 122, op := Op.call { callee := Callee.builtin Builtin.len, args := #[Operand.tmp 121], argTypes := #[27] }, type := 3, pos := "law.go:245", after := #[{ on := 34, ground := Ground.data }, { on := 32, ground := Ground.guard }], guard := some (32, false) }) (v := ?_) rfl (by kernel_rfl) (by kernel_rfl) (by kernel_rfl) (fun _ _ _ h => h) (Or.inl ⟨by rfl, ?_⟩) (by assumption) ?_
              rotate_left
              · (intro w hSw; (try dsimp only at hSw); go_simp; try (with_reducible rfl))
              try simp only [Act.put, List.setIfInBounds_toArray, List.set_cons_zero, List.set_cons_succ]
              refine wpAnyH_take (i := 36) (oi := { dst := some 123, op := Op.binOp BinOp.geq 3 (Operand.tmp 120) (Operand.tmp 122) 3, type := 4, pos := "law.go:245", after := #[{ on := 33, ground := Ground.data }, { on := 35, ground := Ground.data }, { on := 32, ground := Ground.guard }], guard := some (32, false) }) (v := ?_) rfl (by kernel_rfl) (by kernel_rfl) (by kernel_rfl) (fun _ _ _ h => h) (Or.inl ⟨by rfl, ?_⟩) (by assumption) ?_
              rotate_left
              · (intro w hSw; (try dsimp only at hSw); go_simp; try (with_reducible rfl))
              try simp only [Act.put, List.setIfInBounds_toArray, List.set_cons_zero, List.set_cons_succ]
              refine wpAnyH_take (i := 37) (oi := { dst := some 124, op := Op.pick (Operand.tmp 119) (Operand.const (Value.bool true)) (Operand.tmp 123), type := 4, pos := "law.go:245", after := #[{ on := 32, ground := Ground.data }, { on := 36, ground := Ground.data }], guard := none }) (v := ?_) rfl (by kernel_rfl) (by kernel_rfl) (by kernel_rfl) (fun _ _ _ h => h) (Or.inl ⟨by rfl, ?_⟩) (by assumption) ?_
              rotate_left
              · (intro w hSw; (try dsimp only at hSw); go_simp; try (with_reducible rfl))
              try simp only [Act.put, List.setIfInBounds_toArray, List.set_cons_zero, List.set_cons_succ]
              refine wpAnyH_done (by kernel_rfl) ?_ _
              refine NoPanic.normal ?_
              exact ⟨rfl, by kernel_rfl, by kernel_rfl, mW⟩
            | false =>
              have hpos : i0 = 0 := by have := of_decide_eq_false hok; omega
              have hlo : x.lo.toList.isEmpty = true := by have := HFI.out; unfold bz at this; rw [this]; exact decide_eq_true hpos
              clear hpos hok
              refine wp_region_noPanic ?_
              refine wp_region_held_drew (S := (fun w' => w'.cell? ⟨Q1, 0, none⟩ = some (.string x.lo) ∧ w'.cell? ⟨Q1, 1, none⟩ = some (.string x.hi) ∧ w'.cell? ⟨Q2, 0, none⟩ = some (.string b.lo) ∧ w'.cell? ⟨Q2, 1, none⟩ = some (.string b.hi) ∧ w'.cell? ⟨bz0, oz + k, none⟩ = some (.string s))) (by kernel_rfl) ?_ (fun hHeld => ?_)
              · first | (go_keep; done) | exact hS _ mW
              refine wpAnyH_take (i := 0) (oi := { dst := some 87, op := Op.fieldAddr 25 (Operand.tmp 10) 0, type := 0, pos := "law.go:245", after := #[], guard := none }) (v := ?_) rfl (by kernel_rfl) (by kernel_rfl) (by kernel_rfl) (fun _ _ _ h => h) (Or.inl ⟨by rfl, ?_⟩) (by assumption) ?_
              rotate_left
              · (intro w hSw; (try dsimp only at hSw); go_simp; try (with_reducible rfl))
              try simp only [Act.put, List.setIfInBounds_toArray, List.set_cons_zero, List.set_cons_succ]
              refine wpAnyH_take (i := 1) (oi := { dst := some 88, op := Op.load 23 (Operand.tmp 87), type := 23, pos := "law.go:245", after := #[{ on := 0, ground := Ground.data }], guard := none }) (v := ?_) rfl (by kernel_rfl) (by kernel_rfl) (by kernel_rfl) (fun _ _ _ h => h) (Or.inl ⟨by rfl, ?_⟩) (by assumption) ?_
              rotate_left
              · (intro w hSw; (try dsimp only at hSw); go_simp; try (with_reducible rfl))
              try simp only [Act.put, List.setIfInBounds_toArray, List.set_cons_zero, List.set_cons_succ]
              refine wpAnyH_take (i := 2) (oi := { dst := some 89, op := Op.move (Operand.tmp 1), type := 49, pos := "law.go:245", after := #[], guard := none }) (v := ?_) rfl (by kernel_rfl) (by kernel_rfl) (by kernel_rfl) (fun _ _ _ h => h) (Or.inl ⟨by rfl, ?_⟩) (by assumption) ?_
              rotate_left
              · (intro w hSw; (try dsimp only at hSw); go_simp; try (with_reducible rfl))
              try simp only [Act.put, List.setIfInBounds_toArray, List.set_cons_zero, List.set_cons_succ]
              refine wpAnyH_take (i := 3) (oi := { dst := some 90, op := Op.move (Operand.tmp 9), type := 3, pos := "law.go:245", after := #[], guard := none }) (v := ?_) rfl (by kernel_rfl) (by kernel_rfl) (by kernel_rfl) (fun _ _ _ h => h) (Or.inl ⟨by rfl, ?_⟩) (by assumption) ?_
              rotate_left
              · (intro w hSw; (try dsimp only at hSw); go_simp; try (with_reducible rfl))
              try simp only [Act.put, List.setIfInBounds_toArray, List.set_cons_zero, List.set_cons_succ]
              refine wpAnyH_take (i := 4) (oi := { dst := some 91, op := Op.indexAddr 49 (Operand.tmp 89) (Operand.tmp 90), type := 0, pos := "law.go:245", after := #[{ on := 2, ground := Ground.data }, { on := 3, ground := Ground.data }], guard := none }) (v := ?_) rfl (by kernel_rfl) (by kernel_rfl) (by kernel_rfl) (fun _ _ _ h => h) (Or.inl ⟨by rfl, ?_⟩) (by assumption) ?_
              rotate_left
              · (intro w hSw; (try dsimp only at hSw); go_simp; try (with_reducible rfl))
              try simp only [Act.put, List.setIfInBounds_toArray, List.set_cons_zero, List.set_cons_succ]
              refine wpAnyH_take (i := 5) (oi := { dst := some 92, op := Op.load 9 (Operand.tmp 91), type := 9, pos := "law.go:245", after := #[{ on := 4, ground := Ground.data }], guard := none }) (v := ?_) rfl (by kernel_rfl) (by kernel_rfl) (by kernel_rfl) (fun _ _ _ h => h) (Or.inl ⟨by rfl, ?_⟩) (by assumption) ?_
              rotate_left
              · (intro w hSw; (try dsimp only at hSw); go_simp; try (with_reducible rfl))
              try simp only [Act.put, List.setIfInBounds_toArray, List.set_cons_zero, List.set_cons_succ]
              refine wpAnyH_ready (rs := [6]) (by kernel_rfl) (by simp) ?_
              refine AllReadyH.cons (o := { dst := some 93, op := Op.call { callee := Callee.value (Operand.func 24), args := #[Operand.tmp 88, Operand.tmp 92], argTypes := #[23, 9] }, type := 4, pos := "law.go:245", after := #[{ on := 1, ground := Ground.data }, { on := 5, ground := Ground.data }], guard := none }) rfl (fun K hK => ?_) AllReadyH.nil
              go_simp
              refine (hhas _).mono ?_
              rintro _ w9 ⟨rfl, m9⟩
              replace mW := mW.then m9
              refine hK.out _ _ ?_ (fun hHeld => ?_)
              · exact hS _ mW
              clear hK K
              try simp only [Act.put, List.setIfInBounds_toArray, List.set_cons_zero, List.set_cons_succ]
              refine wpAnyH_take (i := 7) (oi := { dst := some 94, op := Op.unOp UnOp.not 4 (Operand.tmp 93), type := 4, pos := "law.go:245", after := #[{ on := 6, ground := Ground.data }], guard := none }) (v := ?_) rfl (by kernel_rfl) (by kernel_rfl) (by kernel_rfl) (fun _ _ _ h => h) (Or.inl ⟨by rfl, ?_⟩) (by assumption) ?_
              rotate_left
              · (intro w hSw; (try dsimp only at hSw); go_simp; try (with_reducible rfl))
              try simp only [Act.put, List.setIfInBounds_toArray, List.set_cons_zero, List.set_cons_succ]
              refine wpAnyH_take (i := 8) (oi := { dst := some 95, op := Op.move (Operand.tmp 94), type := 4, pos := "law.go:245", after := #[{ on := 7, ground := Ground.data }, { on := 6, ground := Ground.chain }], guard := none }) (v := ?_) rfl (by kernel_rfl) (by kernel_rfl) (by kernel_rfl) (fun _ _ _ h => h) (Or.inl ⟨by rfl, ?_⟩) (by assumption) ?_
              rotate_left
              · (intro w hSw; (try dsimp only at hSw); go_simp; try (with_reducible rfl))
              try simp only [Act.put, List.setIfInBounds_toArray, List.set_cons_zero, List.set_cons_succ]
              refine wpAnyH_take (i := 9) (oi := { dst := some 96, op := Op.move (Operand.tmp 12), type := 4, pos := "law.go:245", after := #[{ on := 8, ground := Ground.guard }], guard := some (8, false) }) (v := ?_) rfl (by kernel_rfl) (by kernel_rfl) (by kernel_rfl) (fun _ _ _ h => h) (Or.inl ⟨by rfl, ?_⟩) (by assumption) ?_
              rotate_left
              · (intro w hSw; (try dsimp only at hSw); go_simp; try (with_reducible rfl))
              try simp only [Act.put, List.setIfInBounds_toArray, List.set_cons_zero, List.set_cons_succ]
              refine wpAnyH_take (i := 10) (oi := { dst := some 97, op := Op.fieldAddr 25 (Operand.tmp 10) 0, type := 0, pos := "law.go:245", after := #[{ on := 8, ground := Ground.guard }], guard := some (8, false) }) (v := ?_) rfl (by kernel_rfl) (by kernel_rfl) (by kernel_rfl) (fun _ _ _ h => h) (Or.inl ⟨by rfl, ?_⟩) (by assumption) ?_
              rotate_left
              · (intro w hSw; (try dsimp only at hSw); go_simp; try (with_reducible rfl))
              try simp only [Act.put, List.setIfInBounds_toArray, List.set_cons_zero, List.set_cons_succ]
              refine wpAnyH_take (i := 11) (oi := { dst := some 98, op := Op.fieldAddr 23 (Operand.tmp 97) 0, type := 0, pos := "law.go:245", after := #[{ on := 10, ground := Ground.data }, { on := 8, ground := Ground.guard }], guard := some (8, false) }) (v := ?_) rfl (by kernel_rfl) (by kernel_rfl) (by kernel_rfl) (fun _ _ _ h => h) (Or.inl ⟨by rfl, ?_⟩) (by assumption) ?_
              rotate_left
              · (intro w hSw; (try dsimp only at hSw); go_simp; try (with_reducible rfl))
              try simp only [Act.put, List.setIfInBounds_toArray, List.set_cons_zero, List.set_cons_succ]
              refine wpAnyH_take (i := 12) (oi := { dst := some 99, op := Op.load 9 (Operand.tmp 98), type := 9, pos := "law.go:245", after := #[{ on := 11, ground := Ground.data }, { on := 8, ground := Ground.guard }], guard := some (8, false) }) (v := ?_) rfl (by kernel_rfl) (by kernel_rfl) (by kernel_rfl) (fun _ _ _ h => h) (Or.inl ⟨by rfl, ?_⟩) (by assumption) ?_
              rotate_left
              · (intro w hSw; (try dsimp only at hSw); go_simp; try (with_reducible rfl))
              try simp only [Act.put, List.setIfInBounds_toArray, List.set_cons_zero, List.set_cons_succ]
              refine wpAnyH_take (i := 13) (oi := { dst := some 100, op := Op.binOp BinOp.neq 9 (Operand.tmp 99) (Operand.const (Value.string { data := #[] })) 9, type := 4, pos := "law.go:245", after := #[{ on := 12, ground := Ground.data }, { on := 8, ground := Ground.guard }], guard := some (8, false) }) (v := ?_) rfl (by kernel_rfl) (by kernel_rfl) (by kernel_rfl) (fun _ _ _ h => h) (Or.inl ⟨by rfl, ?_⟩) (by assumption) ?_
              rotate_left
              · (intro w hSw; (try dsimp only at hSw); go_simp; try (with_reducible rfl))
              try simp only [Act.put, List.setIfInBounds_toArray, List.set_cons_zero, List.set_cons_succ]
              refine wpAnyH_take (i := 14) (oi := { dst := some 101, op := Op.binOp BinOp.neq 4 (Operand.tmp 96) (Operand.tmp 100) 4, type := 4, pos := "law.go:245", after := #[{ on := 9, ground := Ground.data }, { on := 13, ground := Ground.data }, { on := 8, ground := Ground.guard }], guard := some (8, false) }) (v := ?_) rfl (by kernel_rfl) (by kernel_rfl) (by kernel_rfl) (fun _ _ _ h => h) (Or.inl ⟨by rfl, ?_⟩) (by assumption) ?_
              rotate_left
              · (intro w hSw; (try dsimp only at hSw); go_simp; try (with_reducible rfl))
              try simp only [Act.put, List.setIfInBounds_toArray, List.set_cons_zero, List.set_cons_succ]
              refine wpAnyH_take (i := 15) (oi := { dst := some 102, op := Op.pick (Operand.tmp 95) (Operand.const (Value.bool true)) (Operand.tmp 101), type := 4, pos := "law.go:245", after := #[{ on := 8, ground := Ground.data }, { on := 14, ground := Ground.data }], guard := none }) (v := ?_) rfl (by kernel_rfl) (by kernel_rfl) (by kernel_rfl) (fun _ _ _ h => h) (Or.inl ⟨by rfl, ?_⟩) (by assumption) ?_
              rotate_left
              · (intro w hSw; (try dsimp only at hSw); go_simp; try (with_reducible rfl))
              try simp only [Act.put, List.setIfInBounds_toArray, List.set_cons_zero, List.set_cons_succ]
              refine wpAnyH_take (i := 16) (oi := { dst := some 103, op := Op.move (Operand.tmp 102), type := 4, pos := "law.go:245", after := #[{ on := 15, ground := Ground.data }, { on := 8, ground := Ground.chain }], guard := none }) (v := ?_) rfl (by kernel_rfl) (by kernel_rfl) (by kernel_rfl) (fun _ _ _ h => h) (Or.inl ⟨by rfl, ?_⟩) (by assumption) ?_
              rotate_left
              · (intro w hSw; (try dsimp only at hSw); go_simp; try (with_reducible rfl))
              try simp only [Act.put, List.setIfInBounds_toArray, List.set_cons_zero, List.set_cons_succ]
              refine wpAnyH_take (i := 17) (oi := { dst := some 104, op := Op.move (Operand.tmp 12), type := 4, pos := "law.go:245", after := #[{ on := 16, ground := Ground.guard }], guard := some (16, false) }) (v := ?_) rfl (by kernel_rfl) (by kernel_rfl) (by kernel_rfl) (fun _ _ _ h => h) (Or.inl ⟨by rfl, ?_⟩) (by assumption) ?_
              rotate_left
              · (intro w hSw; (try dsimp only at hSw); go_simp; try (with_reducible rfl))
              try simp only [Act.put, List.setIfInBounds_toArray, List.set_cons_zero, List.set_cons_succ]
              refine wpAnyH_take (i := 18) (oi := { dst := some 105, op := Op.move (Operand.tmp 104), type := 4, pos := "law.go:245", after := #[{ on := 17, ground := Ground.data }, { on := 16, ground := Ground.chain }, { on := 16, ground := Ground.guard }], guard := some (16, false) }) (v := ?_) rfl (by kernel_rfl) (by kernel_rfl) (by kernel_rfl) (fun _ _ _ h => h) (Or.inl ⟨by rfl, ?_⟩) (by assumption) ?_
              rotate_left
              · (intro w hSw; (try dsimp only at hSw); go_simp; try (with_reducible rfl))
              try simp only [Act.put, List.setIfInBounds_toArray, List.set_cons_zero, List.set_cons_succ]
              refine wpAnyH_take (i := 19) (oi := { dst := some 106, op := Op.fieldAddr 25 (Operand.tmp 11) 0, type := 0, pos := "law.go:245", after := #[{ on := 18, ground := Ground.guard }], guard := some (18, true) }) rfl (by kernel_rfl) (by kernel_rfl) (by kernel_rfl) (fun _ _ _ h => h) (Or.inr ⟨by rfl, rfl⟩) (by assumption) ?_
              try simp only [Act.put, List.setIfInBounds_toArray, List.set_cons_zero, List.set_cons_succ]
              refine wpAnyH_take (i := 20) (oi := { dst := some 107, op := Op.fieldAddr 23 (Operand.tmp 106) 1, type := 0, pos := "law.go:245", after := #[{ on := 19, ground := Ground.data }, { on := 18, ground := Ground.guard }], guard := some (18, true) }) rfl (by kernel_rfl) (by kernel_rfl) (by kernel_rfl) (fun _ _ _ h => h) (Or.inr ⟨by rfl, rfl⟩) (by assumption) ?_
              try simp only [Act.put, List.setIfInBounds_toArray, List.set_cons_zero, List.set_cons_succ]
              refine wpAnyH_take (i := 21) (oi := { dst := some 108, op := Op.load 9 (Operand.tmp 107), type := 9, pos := "law.go:245", after := #[{ on := 20, ground := Ground.data }, { on := 18, ground := Ground.guard }], guard := some (18, true) }) rfl (by kernel_rfl) (by kernel_rfl) (by kernel_rfl) (fun _ _ _ h => h) (Or.inr ⟨by rfl, rfl⟩) (by assumption) ?_
              try simp only [Act.put, List.setIfInBounds_toArray, List.set_cons_zero, List.set_cons_succ]
              refine wpAnyH_take (i := 22) (oi := { dst := some 109, op := Op.fieldAddr 25 (Operand.tmp 10) 0, type := 0, pos := "law.go:245", after := #[{ on := 18, ground := Ground.guard }], guard := some (18, true) }) rfl (by kernel_rfl) (by kernel_rfl) (by kernel_rfl) (fun _ _ _ h => h) (Or.inr ⟨by rfl, rfl⟩) (by assumption) ?_
              try simp only [Act.put, List.setIfInBounds_toArray, List.set_cons_zero, List.set_cons_succ]
              refine wpAnyH_take (i := 23) (oi := { dst := some 110, op := Op.fieldAddr 23 (Operand.tmp 109) 0, type := 0, pos := "law.go:245", after := #[{ on := 22, ground := Ground.data }, { on := 18, ground := Ground.guard }], guard := some (18, true) }) rfl (by kernel_rfl) (by kernel_rfl) (by kernel_rfl) (fun _ _ _ h => h) (Or.inr ⟨by rfl, rfl⟩) (by assumption) ?_
              try simp only [Act.put, List.setIfInBounds_toArray, List.set_cons_zero, List.set_cons_succ]
              refine wpAnyH_take (i := 24) (oi := { dst := some 111, op := Op.load 9 (Operand.tmp 110), type := 9, pos := "law.go:245", after := #[{ on := 23, ground := Ground.data }, { on := 18, ground := Ground.guard }], guard := some (18, true) }) rfl (by kernel_rfl) (by kernel_rfl) (by kernel_rfl) (fun _ _ _ h => h) (Or.inr ⟨by rfl, rfl⟩) (by assumption) ?_
              try simp only [Act.put, List.setIfInBounds_toArray, List.set_cons_zero, List.set_cons_succ]
              refine wpAnyH_take (i := 25) (oi := { dst := some 112, op := Op.binOp BinOp.neq 9 (Operand.tmp 108) (Operand.tmp 111) 9, type := 4, pos := "law.go:245", after := #[{ on := 21, ground := Ground.data }, { on := 24, ground := Ground.data }, { on := 18, ground := Ground.guard }], guard := some (18, true) }) rfl (by kernel_rfl) (by kernel_rfl) (by kernel_rfl) (fun _ _ _ h => h) (Or.inr ⟨by rfl, rfl⟩) (by assumption) ?_
              try simp only [Act.put, List.setIfInBounds_toArray, List.set_cons_zero, List.set_cons_succ]
              refine wpAnyH_take (i := 26) (oi := { dst := some 113, op := Op.pick (Operand.tmp 105) (Operand.tmp 112) (Operand.const (Value.bool false)), type := 4, pos := "law.go:245", after := #[{ on := 18, ground := Ground.data }, { on := 25, ground := Ground.data }, { on := 16, ground := Ground.guard }], guard := some (16, false) }) (v := ?_) rfl (by kernel_rfl) (by kernel_rfl) (by kernel_rfl) (fun _ _ _ h => h) (Or.inl ⟨by rfl, ?_⟩) (by assumption) ?_
              rotate_left
              · (intro w hSw; (try dsimp only at hSw); go_simp; try (with_reducible rfl))
              try simp only [Act.put, List.setIfInBounds_toArray, List.set_cons_zero, List.set_cons_succ]
              refine wpAnyH_take (i := 27) (oi := { dst := some 114, op := Op.pick (Operand.tmp 103) (Operand.const (Value.bool true)) (Operand.tmp 113), type := 4, pos := "law.go:245", after := #[{ on := 16, ground := Ground.data }, { on := 26, ground := Ground.data }], guard := none }) (v := ?_) rfl (by kernel_rfl) (by kernel_rfl) (by kernel_rfl) (fun _ _ _ h => h) (Or.inl ⟨by rfl, ?_⟩) (by assumption) ?_
              rotate_left
              · (intro w hSw; (try dsimp only at hSw); go_simp; try (with_reducible rfl))
              try simp only [Act.put, List.setIfInBounds_toArray, List.set_cons_zero, List.set_cons_succ]
              refine wpAnyH_take (i := 28) (oi := { dst := some 115, op := Op.move (Operand.tmp 114), type := 4, pos := "law.go:245", after := #[{ on := 27, ground := Ground.data }, { on := 18, ground := Ground.chain }], guard := none }) (v := ?_) rfl (by kernel_rfl) (by kernel_rfl) (by kernel_rfl) (fun _ _ _ h => h) (Or.inl ⟨by rfl, ?_⟩) (by assumption) ?_
              rotate_left
              · (intro w hSw; (try dsimp only at hSw); go_simp; try (with_reducible rfl))
              try simp only [Act.put, List.setIfInBounds_toArray, List.set_cons_zero, List.set_cons_succ]
              refine wpAnyH_take (i := 29) (oi := { dst := some 116, op := Op.move (Operand.tmp 14), type := 3, pos := "law.go:245", after := #[{ on := 28, ground := Ground.guard }], guard := some (28, false) }) (v := ?_) rfl (by kernel_rfl) (by kernel_rfl) (by kernel_rfl) (fun _ _ _ h => h) (Or.inl ⟨by rfl, ?_⟩) (by assumption) ?_
              rotate_left
              · (intro w hSw; (try dsimp only at hSw); go_simp; try (with_reducible rfl))
              try simp only [Act.put, List.setIfInBounds_toArray, List.set_cons_zero, List.set_cons_succ]
              refine wpAnyH_take (i := 30) (oi := { dst := some 117, op := Op.binOp BinOp.lss 3 (Operand.tmp 116) (Operand.const (Value.int IntKind.i64 0)) 3, type := 4, pos := "law.go:245", after := #[{ on := 29, ground := Ground.data }, { on := 28, ground := Ground.guard }], guard := some (28, false) }) (v := ?_) rfl (by kernel_rfl) (by kernel_rfl) (by kernel_rfl) (fun _ _ _ h => h) (Or.inl ⟨by rfl, ?_⟩) (by assumption) ?_
              rotate_left
              · (intro w hSw; (try dsimp only at hSw); go_simp; try (with_reducible rfl))
              try simp only [Act.put, List.setIfInBounds_toArray, List.set_cons_zero, List.set_cons_succ]
              refine wpAnyH_take (i := 31) (oi := { dst := some 118, op := Op.pick (Operand.tmp 115) (Operand.const (Value.bool true)) (Operand.tmp 117), type := 4, pos := "law.go:245", after := #[{ on := 28, ground := Ground.data }, { on := 30, ground := Ground.data }], guard := none }) (v := ?_) rfl (by kernel_rfl) (by kernel_rfl) (by kernel_rfl) (fun _ _ _ h => h) (Or.inl ⟨by rfl, ?_⟩) (by assumption) ?_
              rotate_left
              · (intro w hSw; (try dsimp only at hSw); go_simp; try (with_reducible rfl))
              try simp only [Act.put, List.setIfInBounds_toArray, List.set_cons_zero, List.set_cons_succ]
              refine wpAnyH_take (i := 32) (oi := { dst := some 119, op := Op.move (Operand.tmp 118), type := 4, pos := "law.go:245", after := #[{ on := 31, ground := Ground.data }, { on := 28, ground := Ground.chain }], guard := none }) (v := ?_) rfl (by kernel_rfl) (by kernel_rfl) (by kernel_rfl) (fun _ _ _ h => h) (Or.inl ⟨by rfl, ?_⟩) (by assumption) ?_
              rotate_left
              · (intro w hSw; (try dsimp only at hSw); go_simp; try (with_reducible rfl))
              try simp only [Act.put, List.setIfInBounds_toArray, List.set_cons_zero, List.set_cons_succ]
              refine wpAnyH_take (i := 33) (oi := { dst := some 120, op := Op.move (Operand.tmp 14), type := 3, pos := "law.go:245", after := #[{ on := 32, ground := Ground.guard }], guard := some (32, false) }) (v := ?_) rfl (by kernel_rfl) (by kernel_rfl) (by kernel_rfl) (fun _ _ _ h => h) (Or.inl ⟨by rfl, ?_⟩) (by assumption) ?_
              rotate_left
              · (intro w hSw; (try dsimp only at hSw); go_simp; try (with_reducible rfl))
              try simp only [Act.put, List.setIfInBounds_toArray, List.set_cons_zero, List.set_cons_succ]
              refine wpAnyH_take (i := 34) (oi := { dst := some 121, op := Op.move (Operand.tmp 13), type := 27, pos := "law.go:245", after := #[{ on := 32, ground := Ground.guard }], guard := some (32, false) }) (v := ?_) rfl (by kernel_rfl) (by kernel_rfl) (by kernel_rfl) (fun _ _ _ h => h) (Or.inl ⟨by rfl, ?_⟩) (by assumption) ?_
              rotate_left
              · (intro w hSw; (try dsimp only at hSw); go_simp; try (with_reducible rfl))
              try simp only [Act.put, List.setIfInBounds_toArray, List.set_cons_zero, List.set_cons_succ]
              refine wpAnyH_take (i := 35) (oi := { dst := some 122, op := Op.call { callee := Callee.builtin Builtin.len, args := #[Operand.tmp 121], argTypes := #[27] }, type := 3, pos := "law.go:245", after := #[{ on := 34, ground := Ground.data }, { on := 32, ground := Ground.guard }], guard := some (32, false) }) (v := ?_) rfl (by kernel_rfl) (by kernel_rfl) (by kernel_rfl) (fun _ _ _ h => h) (Or.inl ⟨by rfl, ?_⟩) (by assumption) ?_
              rotate_left
              · (intro w hSw; (try dsimp only at hSw); go_simp; try (with_reducible rfl))
              try simp only [Act.put, List.setIfInBounds_toArray, List.set_cons_zero, List.set_cons_succ]
              refine wpAnyH_take (i := 36) (oi := { dst := some 123, op := Op.binOp BinOp.geq 3 (Operand.tmp 120) (Operand.tmp 122) 3, type := 4, pos := "law.go:245", after := #[{ on := 33, ground := Ground.data }, { on := 35, ground := Ground.data }, { on := 32, ground := Ground.guard }], guard := some (32, false) }) (v := ?_) rfl (by kernel_rfl) (by kernel_rfl) (by kernel_rfl) (fun _ _ _ h => h) (Or.inl ⟨by rfl, ?_⟩) (by assumption) ?_
              rotate_left
              · (intro w hSw; (try dsimp only at hSw); go_simp; try (with_reducible rfl))
              try simp only [Act.put, List.setIfInBounds_toArray, List.set_cons_zero, List.set_cons_succ]
              refine wpAnyH_take (i := 37) (oi := { dst := some 124, op := Op.pick (Operand.tmp 119) (Operand.const (Value.bool true)) (Operand.tmp 123), type := 4, pos := "law.go:245", after := #[{ on := 32, ground := Ground.data }, { on := 36, ground := Ground.data }], guard := none }) (v := ?_) rfl (by kernel_rfl) (by kernel_rfl) (by kernel_rfl) (fun _ _ _ h => h) (Or.inl ⟨by rfl, ?_⟩) (by assumption) ?_
              rotate_left
              · (intro w hSw; (try dsimp only at hSw); go_simp; try (with_reducible rfl))
              try simp only [Act.put, List.setIfInBounds_toArray, List.set_cons_zero, List.set_cons_succ]
              refine wpAnyH_done (by kernel_rfl) ?_ _
              refine NoPanic.normal ?_
              exact ⟨rfl, by kernel_rfl, by kernel_rfl, mW⟩
          · rintro u w9 ⟨hu, m9⟩
            simp only [List.foldl_cons, List.foldl_nil, List.setIfInBounds_toArray, List.set_cons_zero, List.set_cons_succ, hu]
            clear hu
            generalize u 87 = u87
            generalize u 88 = u88
            generalize u 89 = u89
            generalize u 90 = u90
            generalize u 91 = u91
            generalize u 92 = u92
            generalize u 93 = u93
            generalize u 94 = u94
            generalize u 95 = u95
            generalize u 96 = u96
            generalize u 97 = u97
            generalize u 98 = u98
            generalize u 99 = u99
            generalize u 100 = u100
            generalize u 101 = u101
            generalize u 102 = u102
            generalize u 103 = u103
            generalize u 104 = u104
            generalize u 105 = u105
            generalize u 106 = u106
            generalize u 107 = u107
            generalize u 108 = u108
            generalize u 109 = u109
            generalize u 110 = u110
            generalize u 111 = u111
            generalize u 112 = u112
            generalize u 113 = u113
            generalize u 114 = u114
            generalize u 115 = u115
            generalize u 116 = u116
            generalize u 117 = u117
            generalize u 118 = u118
            generalize u 119 = u119
            generalize u 120 = u120
            generalize u 121 = u121
            generalize u 122 = u122
            generalize u 123 = u123
            clear mW hS hhas hj0 hjn
            rw [decide_eq_false (show ¬ n7 ≤ j4 by omega)]
            have HLT4 : Hid ((fours xs4)[j4]? ≠ none) := by
              unfold Hid
              rw [← hj4.out, fours_get, if_pos (by have := HLT0.out; omega)]
              simp
            obtain ⟨m, hm⟩ : ∃ m, (fours xs4)[j4]? = some m := Option.ne_none_iff_exists'.1 HLT4.out
            have M9 : Moves [] w w9 := M8.then m9
            obtain ⟨g7, o7, u7, gu, e7, _, cu, hTu, _⟩ := (HMs8.out.moves0 m9).at hm
            subst e7
            obtain ⟨adu, nu, capu, rfl, hnu, _, HTu⟩ := hTu.open
            obtain ⟨hin4, _⟩ := four_in HLAST.out (by rw [hj4.out]; exact hm)
            have hr4 : m[i0 % 4]? = some x := by
              obtain ⟨hin4, hget⟩ := four_in HLAST.out (by rw [hj4.out]; exact hm)
              have hlt4 := hin4.lt
              simp only [List.length_map] at hlt4
              have e := hget (i0 % 4) _ (List.getElem?_eq_getElem hlt4)
              have e2 : i0 / 4 * 4 + i0 % 4 = i0 := by omega
              rw [e2, HXI.out] at e
              rw [List.getElem?_eq_getElem hlt4]
              exact e.symm
            have hnu4 : nu ≤ 4 := by
              rw [hnu.out]
              have e := hm
              rw [fours_get] at e
              split at e
              · simp at e; rw [← e]; simp; omega
              · simp at e
            obtain ⟨ou, eou, _⟩ := HTu.out.at hr4
            subst eou
            have HR4 : Hid (m[i0 % 4]? = some x) := hr4
            replace e0 := m9.cell e0
            replace e1 := m9.cell e1
            replace e2 := m9.cell e2
            replace e3 := m9.cell e3
            have hM9 : Hid (MtIs w9 p xs4) := hM8.out.moves0 m9
            clear hm hTu hr4 hin4 d0 d1 c8 hQ1 hQ2
            go_wp2_with fail
            go_loopw [15, 16] (fun vf vj wr => ∃ (j : Nat) (f : Bool), j ≤ nu ∧ vf = .bool f ∧ vj = .int .i64 (j : Nat) ∧ Hid (i0 % 4 < j → f = true) ∧ Moves [] w9 wr) (fun _ vj _ => nu - (intOf vj).toNat)
            case atStart => exact ⟨0, false, Nat.zero_le _, rfl, rfl, fun h => absurd h (by omega), Moves.refl _ _⟩
            case round =>
              obtain ⟨j, f, hjn, rfl, rfl, hf, m3⟩ := hrel
              have cu3 := m3.cell cu
              by_cases hju : j < nu
              · have hjI : (j : Int) < nu := by omega
                obtain ⟨y, hy⟩ : ∃ y, m[j]? = some y := ⟨_, List.getElem?_eq_getElem (by have := hnu.out; omega)⟩
                obtain ⟨ou', eou', y0, y1, y2, y3⟩ := HTu.out.at hy
                simp only [Option.some.injEq, Addr.mk.injEq, and_true, true_and] at eou'
                subst eou'
                have hS : ∀ w', Moves [] wr w' → (w'.cell? ⟨g7, o7 + j4, none⟩ = some (.slice (some ⟨gu, ou, none⟩) nu capu) ∧ w'.cell? ⟨gu, ou + j * 4, none⟩ = some (.string y.lo) ∧ w'.cell? ⟨gu, ou + j * 4 + 1, none⟩ = some (.string y.hi) ∧ w'.cell? ⟨gu, ou + j * 4 + 2, none⟩ = some (.int .i64 y.g) ∧ w'.cell? ⟨gu, ou + j * 4 + 3, none⟩ = some (.int .i64 y.n) ∧ w'.cell? ⟨Q1, 0, none⟩ = some (.string x.lo) ∧ w'.cell? ⟨Q1, 1, none⟩ = some (.string x.hi) ∧ w'.cell? ⟨Q1, 2, none⟩ = some (.int .i64 x.g) ∧ w'.cell? ⟨Q1, 3, none⟩ = some (.int .i64 x.n)) := fun w' m' => ⟨m'.cell cu3, (m3.then m').cell y0, (m3.then m').cell y1, (m3.then m').cell y2, (m3.then m').cell y3, (m3.then m').cell e0, (m3.then m').cell e1, (m3.then m').cell e2, (m3.then m').cell e3⟩
                have mW : Moves [] wr wr.drew := (Moves.refl _ _).drew
                have HY : Hid (m[j]? = some y) := hy
                clear hy y0 y1 y2 y3
                go_wp2_with fail
                refine wp_some7 [134, 135, 136, 137, 138, 139, 140, 141, 142, 143, 144, 145, 15] (fun u w' => u 15 = .bool (f || tbEq y x) ∧ Moves [] wr w') ?_ ?_
                · cases f with
                  | false =>
                  refine wp_region_noPanic ?_
                  refine wp_region_held_drew (S := (fun w' => w'.cell? ⟨g7, o7 + j4, none⟩ = some (.slice (some ⟨gu, ou, none⟩) nu capu) ∧ w'.cell? ⟨gu, ou + j * 4, none⟩ = some (.string y.lo) ∧ w'.cell? ⟨gu, ou + j * 4 + 1, none⟩ = some (.string y.hi) ∧ w'.cell? ⟨gu, ou + j * 4 + 2, none⟩ = some (.int .i64 y.g) ∧ w'.cell? ⟨gu, ou + j * 4 + 3, none⟩ = some (.int .i64 y.n) ∧ w'.cell? ⟨Q1, 0, none⟩ = some (.string x.lo) ∧ w'.cell? ⟨Q1, 1, none⟩ = some (.string x.hi) ∧ w'.cell? ⟨Q1, 2, none⟩ = some (.int .i64 x.g) ∧ w'.cell? ⟨Q1, 3, none⟩ = some (.int .i64 x.n))) (by kernel_rfl) ?_ (fun hHeld => ?_)
                  · first | (go_keep; done) | exact hS _ mW
                  refine wpAnyH_take (i := 0) (oi := { dst := some 134, op := Op.move (Operand.tmp 15), type := 4, pos := "law.go:250", after := #[], guard := none }) (v := ?_) rfl (by kernel_rfl) (by kernel_rfl) (by kernel_rfl) (fun _ _ _ h => h) (Or.inl ⟨by rfl, ?_⟩) (by assumption) ?_
                  rotate_left
                  · (intro w hSw; (try dsimp only at hSw); go_simp; try (with_reducible rfl))
                  try simp only [Act.put, List.setIfInBounds_toArray, List.set_cons_zero, List.set_cons_succ]
                  refine wpAnyH_take (i := 1) (oi := { dst := some 135, op := Op.move (Operand.tmp 134), type := 4, pos := "law.go:250", after := #[{ on := 0, ground := Ground.data }], guard := none }) (v := ?_) rfl (by kernel_rfl) (by kernel_rfl) (by kernel_rfl) (fun _ _ _ h => h) (Or.inl ⟨by rfl, ?_⟩) (by assumption) ?_
                  rotate_left
                  · (intro w hSw; (try dsimp only at hSw); go_simp; try (with_reducible rfl))
                  try simp only [Act.put, List.setIfInBounds_toArray, List.set_cons_zero, List.set_cons_succ]
                  refine wpAnyH_take (i := 2) (oi := { dst := some 136, op := Op.move (Operand.tmp 13), type := 27, pos := "law.go:250", after := #[{ on := 1, ground := Ground.guard }], guard := some (1, false) }) (v := ?_) rfl (by kernel_rfl) (by kernel_rfl) (by kernel_rfl) (fun _ _ _ h => h) (Or.inl ⟨by rfl, ?_⟩) (by assumption) ?_
                  rotate_left
                  · (intro w hSw; (try dsimp only at hSw); go_simp; try (with_reducible rfl))
                  try simp only [Act.put, List.setIfInBounds_toArray, List.set_cons_zero, List.set_cons_succ]
                  refine wpAnyH_take (i := 3) (oi := { dst := some 137, op := Op.move (Operand.tmp 14), type := 3, pos := "law.go:250", after := #[{ on := 1, ground := Ground.guard }], guard := some (1, false) }) (v := ?_) rfl (by kernel_rfl) (by kernel_rfl) (by kernel_rfl) (fun _ _ _ h => h) (Or.inl ⟨by rfl, ?_⟩) (by assumption) ?_
                  rotate_left
                  · (intro w hSw; (try dsimp only at hSw); go_simp; try (with_reducible rfl))
                  try simp only [Act.put, List.setIfInBounds_toArray, List.set_cons_zero, List.set_cons_succ]
                  refine wpAnyH_take (i := 4) (oi := { dst := some 138, op := Op.indexAddr 27 (Operand.tmp 136) (Operand.tmp 137), type := 0, pos := "law.go:250", after := #[{ on := 2, ground := Ground.data }, { on := 3, ground := Ground.data }, { on := 1, ground := Ground.guard }], guard := some (1, false) }) (v := ?_) rfl (by kernel_rfl) (by kernel_rfl) (by kernel_rfl) (fun _ _ _ h => h) (Or.inl ⟨by rfl, ?_⟩) (by assumption) ?_
                  rotate_left
                  · (intro w hSw; (try dsimp only at hSw); go_simp; try (with_reducible rfl))
                  try simp only [Act.put, List.setIfInBounds_toArray, List.set_cons_zero, List.set_cons_succ]
                  refine wpAnyH_take (i := 5) (oi := { dst := some 139, op := Op.load 26 (Operand.tmp 138), type := 26, pos := "law.go:250", after := #[{ on := 4, ground := Ground.data }, { on := 1, ground := Ground.guard }], guard := some (1, false) }) (v := ?_) rfl (by kernel_rfl) (by kernel_rfl) (by kernel_rfl) (fun _ _ _ h => h) (Or.inl ⟨by rfl, ?_⟩) (by assumption) ?_
                  rotate_left
                  · (intro w hSw; (try dsimp only at hSw); go_simp; try (with_reducible rfl))
                  try simp only [Act.put, List.setIfInBounds_toArray, List.set_cons_zero, List.set_cons_succ]
                  refine wpAnyH_take (i := 6) (oi := { dst := some 140, op := Op.move (Operand.tmp 16), type := 3, pos := "law.go:250", after := #[{ on := 1, ground := Ground.guard }], guard := some (1, false) }) (v := ?_) rfl (by kernel_rfl) (by kernel_rfl) (by kernel_rfl) (fun _ _ _ h => h) (Or.inl ⟨by rfl, ?_⟩) (by assumption) ?_
                  rotate_left
                  · (intro w hSw; (try dsimp only at hSw); go_simp; try (with_reducible rfl))
                  try simp only [Act.put, List.setIfInBounds_toArray, List.set_cons_zero, List.set_cons_succ]
                  refine wpAnyH_take (i := 7) (oi := { dst := some 141, op := Op.indexAddr 26 (Operand.tmp 139) (Operand.tmp 140), type := 0, pos := "law.go:250", after := #[{ on := 5, ground := Ground.data }, { on := 6, ground := Ground.data }, { on := 1, ground := Ground.guard }], guard := some (1, false) }) (v := ?_) rfl (by kernel_rfl) (by kernel_rfl) (by kernel_rfl) (fun _ _ _ h => h) (Or.inl ⟨by rfl, ?_⟩) (by assumption) ?_
                  rotate_left
                  · (intro w hSw; (try dsimp only at hSw); go_simp; try (with_reducible rfl))
                  try simp only [Act.put, List.setIfInBounds_toArray, List.set_cons_zero, List.set_cons_succ]
                  refine wpAnyH_take (i := 8) (oi := { dst := some 142, op := Op.load 25 (Operand.tmp 141), type := 25, pos := "law.go:250", after := #[{ on := 7, ground := Ground.data }, { on := 1, ground := Ground.guard }], guard := some (1, false) }) (v := ?_) rfl (by kernel_rfl) (by kernel_rfl) (by kernel_rfl) (fun _ _ _ h => h) (Or.inl ⟨by rfl, ?_⟩) (by assumption) ?_
                  rotate_left
                  · (intro w hSw; (try dsimp only at hSw); go_simp; try (with_reducible rfl))
                  try simp only [Act.put, List.setIfInBounds_toArray, List.set_cons_zero, List.set_cons_succ]
                  refine wpAnyH_take (i := 9) (oi := { dst := some 143, op := Op.load 25 (Operand.tmp 10), type := 25, pos := "law.go:250", after := #[{ on := 1, ground := Ground.guard }], guard := some (1, false) }) (v := ?_) rfl (by kernel_rfl) (by kernel_rfl) (by kernel_rfl) (fun _ _ _ h => h) (Or.inl ⟨by rfl, ?_⟩) (by assumption) ?_
                  rotate_left
                  · (intro w hSw; (try dsimp only at hSw); go_simp; try (with_reducible rfl))
                  try simp only [Act.put, List.setIfInBounds_toArray, List.set_cons_zero, List.set_cons_succ]
                  refine wpAnyH_ready (rs := [10]) (by kernel_rfl) (by simp) ?_
                  refine AllReadyH.cons (o := { dst := some 144, op := Op.binOp BinOp.eql 25 (Operand.tmp 142) (Operand.tmp 143) 25, type := 4, pos := "law.go:250", after := #[{ on := 8, ground := Ground.data }, { on := 9, ground := Ground.data }, { on := 1, ground := Ground.guard }], guard := some (1, false) }) rfl (fun K hK => ?_) AllReadyH.nil
                  refine wp_eql25 142 143 rfl y x rfl rfl ?_
                  refine hK.out _ _ ?_ (fun hHeld => ?_)
                  · exact hS _ mW
                  clear hK K
                  try simp only [Act.put, List.setIfInBounds_toArray, List.set_cons_zero, List.set_cons_succ]
                  refine wpAnyH_take (i := 11) (oi := { dst := some 145, op := Op.pick (Operand.tmp 135) (Operand.const (Value.bool true)) (Operand.tmp 144), type := 4, pos := "law.go:250", after := #[{ on := 1, ground := Ground.data }, { on := 10, ground := Ground.data }], guard := none }) (v := ?_) rfl (by kernel_rfl) (by kernel_rfl) (by kernel_rfl) (fun _ _ _ h => h) (Or.inl ⟨by rfl, ?_⟩) (by assumption) ?_
                  rotate_left
                  · (intro w hSw; (try dsimp only at hSw); go_simp; try (with_reducible rfl))
                  try simp only [Act.put, List.setIfInBounds_toArray, List.set_cons_zero, List.set_cons_succ]
                  refine wpAnyH_take (i := 12) (oi := { dst := some 15, op := Op.assign (Operand.tmp 145), type := 4, pos := "law.go:250", after := #[{ on := 11, ground := Ground.data }, { on := 1, ground := Ground.chain }, { on := 0, ground := Ground.phase }, { on := 1, ground := Ground.phase }, { on := 2, ground := Ground.phase }, { on := 3, ground := Ground.phase }, { on := 4, ground := Ground.phase }, { on := 5, ground := Ground.phase }, { on := 6, ground := Ground.phase }, { on := 7, ground := Ground.phase }, { on := 8, ground := Ground.phase }, { on := 9, ground := Ground.phase }, { on := 10, ground := Ground.phase }, { on := 11, ground := Ground.phase }], guard := none }) (v := ?_) rfl (by kernel_rfl) (by kernel_rfl) (by kernel_rfl) (fun _ _ _ h => h) (Or.inl ⟨by rfl, ?_⟩) (by assumption) ?_
                  rotate_left
                  · (intro w hSw; (try dsimp only at hSw); go_simp; try (with_reducible rfl))
                  try simp only [Act.put, List.setIfInBounds_toArray, List.set_cons_zero, List.set_cons_succ]
                  refine wpAnyH_done (by kernel_rfl) ?_ _
                  refine NoPanic.normal ?_
                  exact ⟨rfl, by kernel_rfl, by kernel_rfl, mW⟩
                  | true =>
                  refine wp_region_noPanic ?_
                  refine wp_region_held_drew (S := (fun w' => w'.cell? ⟨g7, o7 + j4, none⟩ = some (.slice (some ⟨gu, ou, none⟩) nu capu) ∧ w'.cell? ⟨gu, ou + j * 4, none⟩ = some (.string y.lo) ∧ w'.cell? ⟨gu, ou + j * 4 + 1, none⟩ = some (.string y.hi) ∧ w'.cell? ⟨gu, ou + j * 4 + 2, none⟩ = some (.int .i64 y.g) ∧ w'.cell? ⟨gu, ou + j * 4 + 3, none⟩ = some (.int .i64 y.n) ∧ w'.cell? ⟨Q1, 0, none⟩ = some (.string x.lo) ∧ w'.cell? ⟨Q1, 1, none⟩ = some (.string x.hi) ∧ w'.cell? ⟨Q1, 2, none⟩ = some (.int .i64 x.g) ∧ w'.cell? ⟨Q1, 3, none⟩ = some (.int .i64 x.n))) (by kernel_rfl) ?_ (fun hHeld => ?_)
                  · first | (go_keep; done) | exact hS _ mW
                  refine wpAnyH_take (i := 0) (oi := { dst := some 134, op := Op.move (Operand.tmp 15), type := 4, pos := "law.go:250", after := #[], guard := none }) (v := ?_) rfl (by kernel_rfl) (by kernel_rfl) (by kernel_rfl) (fun _ _ _ h => h) (Or.inl ⟨by rfl, ?_⟩) (by assumption) ?_
                  rotate_left
                  · (intro w hSw; (try dsimp only at hSw); go_simp; try (with_reducible rfl))
                  try simp only [Act.put, List.setIfInBounds_toArray, List.set_cons_zero, List.set_cons_succ]
                  refine wpAnyH_take (i := 1) (oi := { dst := some 135, op := Op.move (Operand.tmp 134), type := 4, pos := "law.go:250", after := #[{ on := 0, ground := Ground.data }], guard := none }) (v := ?_) rfl (by kernel_rfl) (by kernel_rfl) (by kernel_rfl) (fun _ _ _ h => h) (Or.inl ⟨by rfl, ?_⟩) (by assumption) ?_
                  rotate_left
                  · (intro w hSw; (try dsimp only at hSw); go_simp; try (with_reducible rfl))
                  try simp only [Act.put, List.setIfInBounds_toArray, List.set_cons_zero, List.set_cons_succ]
                  refine wpAnyH_take (i := 2) (oi := { dst := some 136, op := Op.move (Operand.tmp 13), type := 27, pos := "law.go:250", after := #[{ on := 1, ground := Ground.guard }], guard := some (1, false) }) rfl (by kernel_rfl) (by kernel_rfl) (by kernel_rfl) (fun _ _ _ h => h) (Or.inr ⟨by rfl, rfl⟩) (by assumption) ?_
                  try simp only [Act.put, List.setIfInBounds_toArray, List.set_cons_zero, List.set_cons_succ]
                  refine wpAnyH_take (i := 3) (oi := { dst := some 137, op := Op.move (Operand.tmp 14), type := 3, pos := "law.go:250", after := #[{ on := 1, ground := Ground.guard }], guard := some (1, false) }) rfl (by kernel_rfl) (by kernel_rfl) (by kernel_rfl) (fun _ _ _ h => h) (Or.inr ⟨by rfl, rfl⟩) (by assumption) ?_
                  try simp only [Act.put, List.setIfInBounds_toArray, List.set_cons_zero, List.set_cons_succ]
                  refine wpAnyH_take (i := 4) (oi := { dst := some 138, op := Op.indexAddr 27 (Operand.tmp 136) (Operand.tmp 137), type := 0, pos := "law.go:250", after := #[{ on := 2, ground := Ground.data }, { on := 3, ground := Ground.data }, { on := 1, ground := Ground.guard }], guard := some (1, false) }) rfl (by kernel_rfl) (by kernel_rfl) (by kernel_rfl) (fun _ _ _ h => h) (Or.inr ⟨by rfl, rfl⟩) (by assumption) ?_
                  try simp only [Act.put, List.setIfInBounds_toArray, List.set_cons_zero, List.set_cons_succ]
                  refine wpAnyH_take (i := 5) (oi := { dst := some 139, op := Op.load 26 (Operand.tmp 138), type := 26, pos := "law.go:250", after := #[{ on := 4, ground := Ground.data }, { on := 1, ground := Ground.guard }], guard := some (1, false) }) rfl (by kernel_rfl) (by kernel_rfl) (by kernel_rfl) (fun _ _ _ h => h) (Or.inr ⟨by rfl, rfl⟩) (by assumption) ?_
                  try simp only [Act.put, List.setIfInBounds_toArray, List.set_cons_zero, List.set_cons_succ]
                  refine wpAnyH_take (i := 6) (oi := { dst := some 140, op := Op.move (Operand.tmp 16), type := 3, pos := "law.go:250", after := #[{ on := 1, ground := Ground.guard }], guard := some (1, false) }) rfl (by kernel_rfl) (by kernel_rfl) (by kernel_rfl) (fun _ _ _ h => h) (Or.inr ⟨by rfl, rfl⟩) (by assumption) ?_
                  try simp only [Act.put, List.setIfInBounds_toArray, List.set_cons_zero, List.set_cons_succ]
                  refine wpAnyH_take (i := 7) (oi := { dst := some 141, op := Op.indexAddr 26 (Operand.tmp 139) (Operand.tmp 140), type := 0, pos := "law.go:250", after := #[{ on := 5, ground := Ground.data }, { on := 6, ground := Ground.data }, { on := 1, ground := Ground.guard }], guard := some (1, false) }) rfl (by kernel_rfl) (by kernel_rfl) (by kernel_rfl) (fun _ _ _ h => h) (Or.inr ⟨by rfl, rfl⟩) (by assumption) ?_
                  try simp only [Act.put, List.setIfInBounds_toArray, List.set_cons_zero, List.set_cons_succ]
                  refine wpAnyH_take (i := 8) (oi := { dst := some 142, op := Op.load 25 (Operand.tmp 141), type := 25, pos := "law.go:250", after := #[{ on := 7, ground := Ground.data }, { on := 1, ground := Ground.guard }], guard := some (1, false) }) rfl (by kernel_rfl) (by kernel_rfl) (by kernel_rfl) (fun _ _ _ h => h) (Or.inr ⟨by rfl, rfl⟩) (by assumption) ?_
                  try simp only [Act.put, List.setIfInBounds_toArray, List.set_cons_zero, List.set_cons_succ]
                  refine wpAnyH_take (i := 9) (oi := { dst := some 143, op := Op.load 25 (Operand.tmp 10), type := 25, pos := "law.go:250", after := #[{ on := 1, ground := Ground.guard }], guard := some (1, false) }) rfl (by kernel_rfl) (by kernel_rfl) (by kernel_rfl) (fun _ _ _ h => h) (Or.inr ⟨by rfl, rfl⟩) (by assumption) ?_
                  try simp only [Act.put, List.setIfInBounds_toArray, List.set_cons_zero, List.set_cons_succ]
                  refine wpAnyH_take (i := 10) (oi := { dst := some 144, op := Op.binOp BinOp.eql 25 (Operand.tmp 142) (Operand.tmp 143) 25, type := 4, pos := "law.go:250", after := #[{ on := 8, ground := Ground.data }, { on := 9, ground := Ground.data }, { on := 1, ground := Ground.guard }], guard := some (1, false) }) rfl (by kernel_rfl) (by kernel_rfl) (by kernel_rfl) (fun _ _ _ h => h) (Or.inr ⟨by rfl, rfl⟩) (by assumption) ?_
                  try simp only [Act.put, List.setIfInBounds_toArray, List.set_cons_zero, List.set_cons_succ]
                  refine wpAnyH_take (i := 11) (oi := { dst := some 145, op := Op.pick (Operand.tmp 135) (Operand.const (Value.bool true)) (Operand.tmp 144), type := 4, pos := "law.go:250", after := #[{ on := 1, ground := Ground.data }, { on := 10, ground := Ground.data }], guard := none }) (v := ?_) rfl (by kernel_rfl) (by kernel_rfl) (by kernel_rfl) (fun _ _ _ h => h) (Or.inl ⟨by rfl, ?_⟩) (by assumption) ?_
                  rotate_left
                  · (intro w hSw; (try dsimp only at hSw); go_simp; try (with_reducible rfl))
                  try simp only [Act.put, List.setIfInBounds_toArray, List.set_cons_zero, List.set_cons_succ]
                  refine wpAnyH_take (i := 12) (oi := { dst := some 15, op := Op.assign (Operand.tmp 145), type := 4, pos := "law.go:250", after := #[{ on := 11, ground := Ground.data }, { on := 1, ground := Ground.chain }, { on := 0, ground := Ground.phase }, { on := 1, ground := Ground.phase }, { on := 2, ground := Ground.phase }, { on := 3, ground := Ground.phase }, { on := 4, ground := Ground.phase }, { on := 5, ground := Ground.phase }, { on := 6, ground := Ground.phase }, { on := 7, ground := Ground.phase }, { on := 8, ground := Ground.phase }, { on := 9, ground := Ground.phase }, { on := 10, ground := Ground.phase }, { on := 11, ground := Ground.phase }], guard := none }) (v := ?_) rfl (by kernel_rfl) (by kernel_rfl) (by kernel_rfl) (fun _ _ _ h => h) (Or.inl ⟨by rfl, ?_⟩) (by assumption) ?_
                  rotate_left
                  · (intro w hSw; (try dsimp only at hSw); go_simp; try (with_reducible rfl))
                  try simp only [Act.put, List.setIfInBounds_toArray, List.set_cons_zero, List.set_cons_succ]
                  refine wpAnyH_done (by kernel_rfl) ?_ _
                  refine NoPanic.normal ?_
                  exact ⟨rfl, by kernel_rfl, by kernel_rfl, mW⟩
                · rintro u w10 ⟨hu, m10⟩
                  simp only [List.foldl_cons, List.foldl_nil, List.setIfInBounds_toArray, List.set_cons_zero, List.set_cons_succ, hu]
                  clear hu
                  generalize u 134 = u134
                  generalize u 135 = u135
                  generalize u 136 = u136
                  generalize u 137 = u137
                  generalize u 138 = u138
                  generalize u 139 = u139
                  generalize u 140 = u140
                  generalize u 141 = u141
                  generalize u 142 = u142
                  generalize u 143 = u143
                  generalize u 144 = u144
                  generalize u 145 = u145
                  clear mW hS
                  go_wp2_with fail
                  go_roundw
                  case rel =>
                    refine ⟨j + 1, _, by omega, rfl, by go_num, fun hlt => ?_, m3.then m10⟩
                    by_cases hjr : i0 % 4 < j
                    · rw [hf.out hjr]; rfl
                    · have e : i0 % 4 = j := by omega
                      have h1 := HR4.out
                      rw [e, HY.out] at h1
                      simp at h1
                      subst h1
                      rw [tbEq_self]
                      simp
                  case measure => simp [intOf]; omega
              · obtain rfl : j = nu := by omega
                have hk3 : ¬ (j : Int) < j := by omega
                have hft : f = true := by
                  refine hf.out ?_
                  have := (List.getElem?_eq_some_iff.1 HR4.out).1
                  have := hnu.out
                  omega
                subst hft
                have Mz : Moves [] w wr := M9.then m3
                have hMz : Hid (MtIs wr p xs4) := hM9.out.moves0 m3
                go_wp2_with fail
                go_roundw
                case rel => exact ⟨k + 1, by omega, by go_num, hMz.out, Mz⟩
                case measure => simp [intOf]; omega
        · have hend : (decide ((k : Int) < nz) && decide ((k : Int) < 4)) = false := by
            cases h1 : decide ((k : Int) < nz) with
            | false => rfl
            | true => have := of_decide_eq_true h1; rw [decide_eq_false (by omega)]; rfl
          by_cases hkz : (k : Int) < nz
          · have hk4n : ¬ (k : Int) < 4 := by omega
            go_wp2_with fail
            go_roundw
            case rel => exact ⟨i + 1, xs4, by omega, by go_num, ⟨hMk.out, HI4.out.2⟩, mk⟩
            case measure => simp [intOf]; omega
          · go_wp2_with fail
            go_roundw
            case rel => exact ⟨i + 1, xs4, by omega, by go_num, ⟨hMk.out, HI4.out.2⟩, mk⟩
            case measure => simp [intOf]; omega
    · by_cases hil : (i : Int) < len
      · have hi2 : ¬ (i : Int) < 25 := by omega
        go_wp2_with fail
        refine (known11_w _).mono ?_
        rintro _ w9 ⟨rfl, m9⟩
        go_wp2_with fail
        go_ret
        exact ⟨rfl, mr.then m9⟩
      · go_wp2_with fail
        refine (known11_w _).mono ?_
        rintro _ w9 ⟨rfl, m9⟩
        go_wp2_with fail
        go_ret
        exact ⟨rfl, mr.then m9⟩
end Go.Proofs.Ytdilihcimnoplaa
