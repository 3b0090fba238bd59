/-
  law11's tells: of a table of just these tablets it is true.
-/
import Derived.Test.YtbjbljkcodkebaaCMte
namespace Go.Proofs.Ytbjbljkcodkebaa
open Go.RowKit

theorem tb_neq (y x : Ptb) (w1 : World) : (binOp .neq 25 (.agg #[.string y.lo, .string y.hi, .int .i64 y.g, .int .i64 y.n]) (.agg #[.string x.lo, .string x.hi, .int .i64 x.g, .int .i64 x.n])).run Try.prog w1 = .ok (.bool (!tbEq y x)) w1 := by
  obtain ⟨q, hq⟩ : ∃ q, tbEq y x = q := ⟨_, rfl⟩
  rw [hq]
  go_simp
  unfold tbEq at hq
  by_cases h1 : y.lo.toList = x.lo.toList <;> by_cases h2 : y.hi.toList = x.hi.toList <;> by_cases h3 : y.g = x.g <;> by_cases h4 : y.n = x.n <;> simp [h1, h2, h3, h4] at hq ⊢ <;> simp [← hq]
theorem neqGuard25 (i j : Nat) (y x : Ptb) (w : World) : (eqGuard .neq 25 (.tmp i) (.tmp j) (.agg #[.string y.lo, .string y.hi, .int .i64 y.g, .int .i64 y.n]) (.agg #[.string x.lo, .string x.hi, .int .i64 x.g, .int .i64 x.n])).run Try.prog w = .ok () w := by
  kernel_rfl
theorem wp_neq25 {o : Oper} {a : Act} {w : World} {K : Act → World → Prop} {Q : Exit → Act → World → Prop} (i j : Nat) (ho : o.op = .binOp .neq 25 (.tmp i) (.tmp j) 25) (y x : Ptb) (hs : a.eval (.tmp i) = .agg #[.string y.lo, .string y.hi, .int .i64 y.g, .int .i64 y.n]) (ht : a.eval (.tmp j) = .agg #[.string x.lo, .string x.hi, .int .i64 x.g, .int .i64 x.n]) (h : K (a.put o.dst (.bool (!tbEq y x))) w) : o.wp Try.prog a w K Q := by
  unfold Oper.wp execOp
  simp only [ho, hs, ht, Sem.run_bind, tb_neq, Sem.run_pure, neqGuard25, Result.andThen_ok]
  exact h

theorem wp_neqT {o : Oper} {a : Act} {w : World} {K : Act → World → Prop} {Q : Exit → Act → World → Prop} (i j : Nat) (ho : o.op = .binOp .neq 25 (.tmp i) (.tmp j) 25) (y x : Ptb) (hs : a.eval (.tmp i) = .agg #[.string y.lo, .string y.hi, .int .i64 y.g, .int .i64 y.n]) (ht : a.eval (.tmp j) = .agg #[.string x.lo, .string x.hi, .int .i64 x.g, .int .i64 x.n]) (he : tbEq y x = true) (h : K (a.put o.dst (.bool false)) w) : o.wp Try.prog a w K Q :=
  wp_neq25 i j ho y x hs ht (by rw [he]; exact h)

set_option maxRecDepth 100000 in
set_option maxHeartbeats 4000000 in
theorem bookSame_yes (w : World) (g1 : Nat) (v1 : Value) (g2 : Nat) (v2 : Value) (xs : List Ptb) (h1 : TbL w g1 v1 xs) (h2 : TbL w g2 v2 xs) (hl : xs.length ≤ 1000) :
    Calls Try.prog 27 #[v1, v2] w fun e w' => e = .returned (.bool true) ∧ Moves [] w w' := by
  obtain ⟨ad1, n, cap1, rfl, hn, hc1, H1⟩ := h1.open
  obtain ⟨ad2, n2, cap2, rfl, hn2, hc2, H2⟩ := h2.open
  obtain rfl : n = n2 := hn.out.trans hn2.out.symm
  have HB : n ≤ 1000 := by rw [hn.out]; exact hl
  clear h1 h2 hn2
  go_enter Try.func27, Try.ntmps27
  go_wp2_with fail
  go_loopw [5] (fun vi wr => ∃ i : Nat, i ≤ n ∧ vi = .int .i64 (i : Nat) ∧ Moves [] w wr) (fun vi _ => n - (intOf vi).toNat)
  case atStart => exact ⟨0, Nat.zero_le _, rfl, Moves.refl _ _⟩
  case round =>
    obtain ⟨i, hin, rfl, mr⟩ := hrel
    by_cases hlt : i < n
    · have hk3 : (i : Int) < n := by omega
      obtain ⟨x, hx⟩ : ∃ x, xs[i]? = some x := ⟨_, List.getElem?_eq_getElem (by have := hn.out; omega)⟩
      obtain ⟨off1, rfl, x0, x1, x2, x3⟩ := H1.out.at hx
      obtain ⟨off2, rfl, y0, y1, y2, y3⟩ := H2.out.at hx
      replace x0 := mr.cell x0
      replace x1 := mr.cell x1
      replace x2 := mr.cell x2
      replace x3 := mr.cell x3
      replace y0 := mr.cell y0
      replace y1 := mr.cell y1
      replace y2 := mr.cell y2
      replace y3 := mr.cell y3
      clear hx
      go_wp2_with fail
      go_region_held3 (fun w' => w'.cell? ⟨g1, off1 + i * 4, none⟩ = some (.string x.lo) ∧ w'.cell? ⟨g1, off1 + i * 4 + 1, none⟩ = some (.string x.hi) ∧ w'.cell? ⟨g1, off1 + i * 4 + 2, none⟩ = some (.int .i64 x.g) ∧ w'.cell? ⟨g1, off1 + i * 4 + 3, none⟩ = some (.int .i64 x.n) ∧ w'.cell? ⟨g2, off2 + i * 4, none⟩ = some (.string x.lo) ∧ w'.cell? ⟨g2, off2 + i * 4 + 1, none⟩ = some (.string x.hi) ∧ w'.cell? ⟨g2, off2 + i * 4 + 2, none⟩ = some (.int .i64 x.g) ∧ w'.cell? ⟨g2, off2 + i * 4 + 3, none⟩ = some (.int .i64 x.n)) (first | (with_reducible exact ⟨x0, x1, x2, x3, y0, y1, y2, y3⟩) | (go_keep; done)) (fail)
      go_wp2_with fail
      go_roundw
      case rel => exact ⟨i + 1, by omega, by go_num, mr.drew⟩
      case measure => simp [intOf]; omega
    · obtain rfl : i = n := by omega
      have hk3 : ¬ (i : Int) < i := by omega
      go_wp2_with fail
      go_ret
      exact ⟨rfl, mr⟩

/-- Just one tablet has a name. -/
theorem has_one {xs : List Ptb} (h : spCov (xs.map Ptb.sp) = true) {s : ByteArray} {i0 : Nat} (hi : LastZ (xs.map Ptb.lo) s i0) {i : Nat} {x : Ptb} (hx : xs[i]? = some x) : spH x.sp s = decide (i = i0) := by
  have hl : (xs.map Ptb.lo)[i]? = some x.lo := by rw [List.getElem?_map, hx]; rfl
  rcases Nat.lt_trichotomy i i0 with hlt | rfl | hlt
  · rw [decide_eq_false (by omega)]
    have hlt0 := hi.lt
    simp only [List.length_map] at hlt0
    obtain ⟨y, hy⟩ : ∃ y, xs[i + 1]? = some y := ⟨_, List.getElem?_eq_getElem (by omega)⟩
    obtain ⟨e1, e2⟩ := (cov_next h).1 i x y hx hy
    have a2 := hi.lo (i + 1) y.lo (by rw [List.getElem?_map, hy]; rfl) (by omega)
    unfold spH spB
    rw [show x.sp.hi = x.hi from rfl, e1, e2, a2]
    simp
  · rw [last_has h hi hx]; simp
  · rw [decide_eq_false (by omega)]
    have a2 := hi.hi i x.lo hl hlt
    unfold spH
    rw [show x.sp.lo = x.lo from rfl, a2]
    rfl

set_option maxRecDepth 100000 in
set_option maxHeartbeats 16000000 in
theorem tells11_w (w : World) (p : Nat) (xs : List Ptb) (hM : MtIs w p xs) (hmay : mayT xs = 0) (g : Nat) (v : Value) (hT : TbL w g v xs) (s : ByteArray) :
    Calls Try.prog 8 #[.pointer (some ⟨p, 0, none⟩), v, .string s] w fun e w' => e = .returned (.bool true) ∧ Moves [] w w' := by
  obtain ⟨hcov, hbad, h16⟩ := may_cov hmay
  have hne := may_ne hmay
  obtain ⟨ad, n, cap, rfl, hn, hc, HT⟩ := hT.open
  have HB : n ≤ 16 := by rw [hn.out]; exact h16
  obtain ⟨k, hk⟩ := cov_last hcov s
  have HK : Hid (LastZ (xs.map Ptb.lo) s k) := hk
  have HC : Hid (spCov (xs.map Ptb.sp) = true) := hcov
  have hltk := hk.lt
  simp only [List.length_map] at hltk
  have HLK : Hid (k < xs.length) := hltk
  have HM : Hid (MtIs w p xs) := hM
  clear hT hcov hbad hk hltk hM
  go_enter Try.func8, Try.ntmps8
  go_wp2_with fail
  go_loopw [7, 8] (fun vk vi wr => ∃ (i : Nat) (q : Nat), i ≤ n ∧ vk = .int .i64 (q : Int) ∧ vi = .int .i64 (i : Nat) ∧ Hid (q = if k < i then k else 0) ∧ Moves [] w wr) (fun _ vi _ => n - (intOf vi).toNat)
  case atStart => exact ⟨0, 0, Nat.zero_le _, rfl, rfl, by unfold Hid; rw [if_neg (by omega)], Moves.refl _ _⟩
  case round =>
    obtain ⟨i, q, hin, rfl, rfl, hq, mr⟩ := hrel
    by_cases hlt : i < n
    · have hk3 : (i : Int) < n := by omega
      obtain ⟨y, hy⟩ : ∃ y, xs[i]? = some y := ⟨_, List.getElem?_eq_getElem (by have := hn.out; omega)⟩
      obtain ⟨off, rfl, x0, x1, _, _⟩ := HT.out.at hy
      replace x0 := mr.cell x0
      replace x1 := mr.cell x1
      have hhas : ∀ w1 : World, Calls Try.prog 24 #[.agg #[.string y.lo, .string y.hi], .string s] w1 fun e w' => e = .returned (.bool (decide (i = k))) ∧ Moves [] w1 w' := by
        intro w1
        have := rfHas7_w y.lo y.hi s w1
        rw [show (⟨y.lo, y.hi⟩ : Psp) = y.sp from rfl, has_one HC.out HK.out hy] at this
        exact this
      clear hy
      by_cases hik : i = k
      · rw [show decide (i = k) = true from decide_eq_true hik] at hhas
        have HIK : Hid (i = k) := hik
        clear hik
        go_wp2_with fail
        refine (hhas _).mono ?_
        rintro _ w2 ⟨rfl, m2⟩
        go_wp2_with fail
        go_roundw
        case rel => exact ⟨i + 1, i, by omega, rfl, by go_num, by unfold Hid; rw [if_pos (by have := HIK.out; omega)]; exact HIK.out, mr.then m2⟩
        case measure => simp [intOf]; omega
      · rw [show decide (i = k) = false from decide_eq_false hik] at hhas
        have HIK : Hid (i ≠ k) := hik
        clear hik
        go_wp2_with fail
        refine (hhas _).mono ?_
        rintro _ w2 ⟨rfl, m2⟩
        go_wp2_with fail
        go_roundw
        case rel =>
          refine ⟨i + 1, q, by omega, rfl, by go_num, ?_, mr.then m2⟩
          unfold Hid
          rw [hq.out]
          have := HIK.out
          by_cases hki : k < i
          · rw [if_pos hki, if_pos (by omega)]
          · rw [if_neg hki, if_neg (by omega)]
        case measure => simp [intOf]; omega
    · obtain rfl : i = n := by omega
      have hk3 : ¬ (i : Int) < i := by omega
      have hkq : k = q := by rw [hq.out, if_pos (by have := HLK.out; have := hn.out; omega)]
      subst hkq
      obtain ⟨x, hx⟩ : ∃ x, xs[k]? = some x := ⟨_, List.getElem?_eq_getElem HLK.out⟩
      have HX : Hid (xs[k]? = some x) := hx
      obtain ⟨b, hb⟩ : ∃ b, b = if k = 0 then Ptb.zero else (xs[k - 1]?).getD Ptb.zero := ⟨_, rfl⟩
      have HBB : Hid (b = if k = 0 then Ptb.zero else (xs[k - 1]?).getD Ptb.zero) := hb
      obtain ⟨off, ead, _⟩ := HT.out.at hx
      subst ead
      obtain ⟨ok, hok⟩ : ∃ ok, decide (0 < k) = ok := ⟨_, rfl⟩
      have hkn : (k : Int) < i := by have := HLK.out; have := hn.out; omega
      have hk16 : k < 16 := by omega
      clear hq hx hb
      go_wp2_with fail
      refine (mtBefore_w wr p xs (HM.out.moves0 mr) HC.out (by omega) s k HK.out b HBB.out).mono ?_
      rintro _ w5 ⟨rfl, m5⟩
      rw [hok]
      have mB5 : Moves [] w5 (w5.alloc (.cells #[.string b.lo, .string b.hi, .int .i64 b.g, .int .i64 b.n] 25)) := (Moves.refl _ _).alloc _
      have hQ := heap_alloc_new w5 (.cells #[.string b.lo, .string b.hi, .int .i64 b.g, .int .i64 b.n] 25)
      have M5 : Moves [] w _ := (mr.then m5).then mB5
      obtain ⟨Q, hQe⟩ : ∃ Q, w5.heap.size = Q := ⟨_, rfl⟩
      rw [hQe] at hQ
      go_wp2_with fail
      obtain ⟨w6, hw6⟩ : ∃ w6, w5.alloc (.cells #[.string b.lo, .string b.hi, .int .i64 b.g, .int .i64 b.n] 25) = w6 := ⟨_, rfl⟩
      rw [hw6] at hQ M5 ⊢
      clear hw6 mB5 m5
      have HTu : Hid (TbL w6 g (.slice (some ⟨g, off, none⟩) i cap) xs) := HT.out.moves M5 (by simp)
      have HM6 : Hid (MtIs w6 p xs) := HM.out.moves0 M5
      obtain ⟨d0, d1, d2, d3, _⟩ := four_cells hQ
      obtain ⟨_, e', x0, x1, x2, x3⟩ := HTu.out.at HX.out
      simp only [Option.some.injEq, Addr.mk.injEq, and_true, true_and] at e'
      subst e'
      have hall := fun w1 (m : Moves [] w6 w1) => mtAll_w w1 p xs (HM6.out.moves0 m) hne (by omega)
      have hlen : ∀ w1 (_ : Moves [] w6 w1), Calls Try.prog 11 #[.pointer (some ⟨p, 0, none⟩)] w1 fun e w' => e = .returned (.int .i64 (i : Int)) ∧ Moves [] w1 w' := by
        intro w1 m
        have := mtLen_w w1 p xs (HM6.out.moves0 m) hne (by omega)
        rw [← hn.out] at this
        exact this
      have hfin := fun w1 (m : Moves [] w6 w1) => mtFind_w w1 p xs (HM6.out.moves0 m) HC.out (by omega) s k HK.out x HX.out
      have mW : Moves [] w6 w6.drew := (Moves.refl _ _).drew
      refine wp_some7 [38, 39, 40, 41, 42, 43, 44, 45, 46, 47, 48, 49, 50, 51, 52, 53, 54, 55, 56, 57, 58, 59, 60, 61, 62, 63, 64, 65, 66, 67, 68, 69, 70, 71, 72, 73, 74, 75, 76, 77, 78, 79, 80, 81, 82, 83, 84, 85, 86] (fun u w' => u 86 = .bool false ∧ Moves [] w6 w') ?_ ?_
      · cases ok with
        | true =>
          have hk00 : 0 < k := of_decide_eq_true hok
          have hk0 : (0 : Int) < k := by omega
          have hkd : decide ((0 : Int) < (k : Int)) = true := decide_eq_true hk0
          obtain ⟨k1, hk1⟩ : ∃ k1, Hid (k1 + 1 = k) := ⟨k - 1, by unfold Hid; omega⟩
          have hwk : IntKind.i64.wrap ((k : Int) - 1) = (k1 : Int) := by rw [IntKind.wrap_i64]; have := hk1.out; omega
          have hk1n : (k1 : Int) < i := by have := hk1.out; omega
          have hb1 : xs[k1]? = some b := by
            have e : k1 = k - 1 := by have := hk1.out; omega
            rw [HBB.out, if_neg (by omega), e, List.getElem?_eq_getElem (by have := HLK.out; omega)]
            rfl
          obtain ⟨_, e', b0, b1, b2, b3⟩ := HTu.out.at hb1
          simp only [Option.some.injEq, Addr.mk.injEq, and_true, true_and] at e'
          subst e'
          have hS : ∀ w', Moves [] w6 w' → (fun w' => w'.cell? ⟨g, off + k * 4, none⟩ = some (.string x.lo) ∧ w'.cell? ⟨g, off + k * 4 + 1, none⟩ = some (.string x.hi) ∧ w'.cell? ⟨g, off + k * 4 + 2, none⟩ = some (.int .i64 x.g) ∧ w'.cell? ⟨g, off + k * 4 + 3, none⟩ = some (.int .i64 x.n) ∧ w'.cell? ⟨g, off + k1 * 4, none⟩ = some (.string b.lo) ∧ w'.cell? ⟨g, off + k1 * 4 + 1, none⟩ = some (.string b.hi) ∧ w'.cell? ⟨g, off + k1 * 4 + 2, none⟩ = some (.int .i64 b.g) ∧ w'.cell? ⟨g, off + k1 * 4 + 3, none⟩ = some (.int .i64 b.n) ∧ w'.cell? ⟨Q, 0, none⟩ = some (.string b.lo) ∧ w'.cell? ⟨Q, 1, none⟩ = some (.string b.hi) ∧ w'.cell? ⟨Q, 2, none⟩ = some (.int .i64 b.g) ∧ w'.cell? ⟨Q, 3, none⟩ = some (.int .i64 b.n)) w' := fun w' m' => ⟨m'.cell x0, m'.cell x1, m'.cell x2, m'.cell x3, m'.cell b0, m'.cell b1, m'.cell b2, m'.cell b3, m'.cell d0, m'.cell d1, m'.cell d2, m'.cell d3⟩
          clear hok hb1 x0 x1 x2 x3 b0 b1 b2 b3 d0 d1 d2 d3
          refine wp_region_noPanic ?_
          refine wp_region_held_drew (S := (fun w' => w'.cell? ⟨g, off + k * 4, none⟩ = some (.string x.lo) ∧ w'.cell? ⟨g, off + k * 4 + 1, none⟩ = some (.string x.hi) ∧ w'.cell? ⟨g, off + k * 4 + 2, none⟩ = some (.int .i64 x.g) ∧ w'.cell? ⟨g, off + k * 4 + 3, none⟩ = some (.int .i64 x.n) ∧ w'.cell? ⟨g, off + k1 * 4, none⟩ = some (.string b.lo) ∧ w'.cell? ⟨g, off + k1 * 4 + 1, none⟩ = some (.string b.hi) ∧ w'.cell? ⟨g, off + k1 * 4 + 2, none⟩ = some (.int .i64 b.g) ∧ w'.cell? ⟨g, off + k1 * 4 + 3, none⟩ = some (.int .i64 b.n) ∧ w'.cell? ⟨Q, 0, none⟩ = some (.string b.lo) ∧ w'.cell? ⟨Q, 1, none⟩ = some (.string b.hi) ∧ w'.cell? ⟨Q, 2, none⟩ = some (.int .i64 b.g) ∧ w'.cell? ⟨Q, 3, none⟩ = some (.int .i64 b.n))) (by kernel_rfl) ?_ (fun hHeld => ?_)
          · first | (go_keep; done) | exact hS _ mW
          refine wpAnyH_take (i := 0) (oi := { dst := some 38, op := Op.move (Operand.tmp 0), type := 28, pos := "law.go:83", after := #[], guard := none }) (v := ?_) rfl (by kernel_rfl) (by kernel_rfl) (by kernel_rfl) (fun _ _ _ h => h) (Or.inl ⟨by rfl, ?_⟩) (by assumption) ?_
          rotate_left
          · (intro w hSw; (try dsimp only at hSw); go_simp; try (with_reducible rfl))
          try simp only [Act.put, List.setIfInBounds_toArray, List.set_cons_zero, List.set_cons_succ]
          refine wpAnyH_take (i := 2) (oi := { dst := some 40, op := Op.move (Operand.tmp 1), type := 26, pos := "law.go:83", after := #[], guard := none }) (v := ?_) rfl (by kernel_rfl) (by kernel_rfl) (by kernel_rfl) (fun _ _ _ h => h) (Or.inl ⟨by rfl, ?_⟩) (by assumption) ?_
          rotate_left
          · (intro w hSw; (try dsimp only at hSw); go_simp; try (with_reducible rfl))
          try simp only [Act.put, List.setIfInBounds_toArray, List.set_cons_zero, List.set_cons_succ]
          refine wpAnyH_ready (rs := [1]) (by kernel_rfl) (by simp) ?_
          refine AllReadyH.cons (o := { dst := some 39, op := Op.call { callee := Callee.value (Operand.func 18), args := #[Operand.tmp 38], argTypes := #[28] }, type := 26, pos := "law.go:83", after := #[{ on := 0, ground := Ground.data }], guard := none }) rfl (fun K hK => ?_) AllReadyH.nil
          go_simp
          refine (hall _ mW).mono ?_
          rintro _ w1 ⟨v1, rfl, hO1, hF1, m1⟩
          obtain ⟨g1, hT1, _⟩ := hO1.ex hF1
          obtain ⟨ad1, n1, cap1, rfl, _, _, HT1⟩ := hT1.open
          clear hO1 hF1 hT1
          replace mW := mW.then m1
          refine hK.out _ _ ?_ (fun hHeld => ?_)
          · exact hS _ mW
          clear hK K
          try simp only [Act.put, List.setIfInBounds_toArray, List.set_cons_zero, List.set_cons_succ]
          refine wpAnyH_ready (rs := [3]) (by kernel_rfl) (by simp) ?_
          refine AllReadyH.cons (o := { dst := some 41, op := Op.call { callee := Callee.value (Operand.func 27), args := #[Operand.tmp 39, Operand.tmp 40], argTypes := #[26, 26] }, type := 4, pos := "law.go:83", after := #[{ on := 1, ground := Ground.data }, { on := 2, ground := Ground.data }, { on := 1, ground := Ground.chain }], guard := none }) rfl (fun K hK => ?_) AllReadyH.nil
          go_simp
          refine (bookSame_yes _ g1 _ g _ xs HT1.out (HTu.out.moves mW (by simp)) (by omega)).mono ?_
          rintro _ w2 ⟨rfl, m2⟩
          replace mW := mW.then m2
          refine hK.out _ _ ?_ (fun hHeld => ?_)
          · exact hS _ mW
          clear hK K
          try simp only [Act.put, List.setIfInBounds_toArray, List.set_cons_zero, List.set_cons_succ]
          refine wpAnyH_take (i := 4) (oi := { dst := some 42, op := Op.unOp UnOp.not 4 (Operand.tmp 41), type := 4, pos := "law.go:83", after := #[{ on := 3, ground := Ground.data }], guard := none }) (v := ?_) rfl (by kernel_rfl) (by kernel_rfl) (by kernel_rfl) (fun _ _ _ h => h) (Or.inl ⟨by rfl, ?_⟩) (by assumption) ?_
          rotate_left
          · (intro w hSw; (try dsimp only at hSw); go_simp; try (with_reducible rfl))
          try simp only [Act.put, List.setIfInBounds_toArray, List.set_cons_zero, List.set_cons_succ]
          refine wpAnyH_take (i := 5) (oi := { dst := some 43, op := Op.move (Operand.tmp 42), type := 4, pos := "law.go:83", after := #[{ on := 4, ground := Ground.data }, { on := 3, ground := Ground.chain }], guard := none }) (v := ?_) rfl (by kernel_rfl) (by kernel_rfl) (by kernel_rfl) (fun _ _ _ h => h) (Or.inl ⟨by rfl, ?_⟩) (by assumption) ?_
          rotate_left
          · (intro w hSw; (try dsimp only at hSw); go_simp; try (with_reducible rfl))
          try simp only [Act.put, List.setIfInBounds_toArray, List.set_cons_zero, List.set_cons_succ]
          refine wpAnyH_take (i := 6) (oi := { dst := some 44, op := Op.move (Operand.tmp 0), type := 28, pos := "law.go:83", after := #[{ on := 5, ground := Ground.guard }], guard := some (5, false) }) (v := ?_) rfl (by kernel_rfl) (by kernel_rfl) (by kernel_rfl) (fun _ _ _ h => h) (Or.inl ⟨by rfl, ?_⟩) (by assumption) ?_
          rotate_left
          · (intro w hSw; (try dsimp only at hSw); go_simp; try (with_reducible rfl))
          try simp only [Act.put, List.setIfInBounds_toArray, List.set_cons_zero, List.set_cons_succ]
          refine wpAnyH_take (i := 8) (oi := { dst := some 46, op := Op.move (Operand.tmp 1), type := 26, pos := "law.go:83", after := #[{ on := 5, ground := Ground.guard }], guard := some (5, false) }) (v := ?_) rfl (by kernel_rfl) (by kernel_rfl) (by kernel_rfl) (fun _ _ _ h => h) (Or.inl ⟨by rfl, ?_⟩) (by assumption) ?_
          rotate_left
          · (intro w hSw; (try dsimp only at hSw); go_simp; try (with_reducible rfl))
          try simp only [Act.put, List.setIfInBounds_toArray, List.set_cons_zero, List.set_cons_succ]
          refine wpAnyH_take (i := 9) (oi := { dst := some 47, op := Op.call { callee := Callee.builtin Builtin.len, args := #[Operand.tmp 46], argTypes := #[26] }, type := 3, pos := "law.go:83", after := #[{ on := 8, ground := Ground.data }, { on := 5, ground := Ground.guard }], guard := some (5, false) }) (v := ?_) rfl (by kernel_rfl) (by kernel_rfl) (by kernel_rfl) (fun _ _ _ h => h) (Or.inl ⟨by rfl, ?_⟩) (by assumption) ?_
          rotate_left
          · (intro w hSw; (try dsimp only at hSw); go_simp; try (with_reducible rfl))
          try simp only [Act.put, List.setIfInBounds_toArray, List.set_cons_zero, List.set_cons_succ]
          refine wpAnyH_ready (rs := [7]) (by kernel_rfl) (by simp) ?_
          refine AllReadyH.cons (o := { dst := some 45, op := Op.call { callee := Callee.value (Operand.func 11), args := #[Operand.tmp 44], argTypes := #[28] }, type := 3, pos := "law.go:83", after := #[{ on := 6, ground := Ground.data }, { on := 5, ground := Ground.chain }, { on := 5, ground := Ground.guard }], guard := some (5, false) }) rfl (fun K hK => ?_) AllReadyH.nil
          go_simp
          refine (hlen _ mW).mono ?_
          rintro _ w3 ⟨rfl, m3⟩
          replace mW := mW.then m3
          refine hK.out _ _ ?_ (fun hHeld => ?_)
          · exact hS _ mW
          clear hK K
          try simp only [Act.put, List.setIfInBounds_toArray, List.set_cons_zero, List.set_cons_succ]
          refine wpAnyH_take (i := 10) (oi := { dst := some 48, op := Op.binOp BinOp.neq 3 (Operand.tmp 45) (Operand.tmp 47) 3, type := 4, pos := "law.go:83", after := #[{ on := 7, ground := Ground.data }, { on := 9, ground := Ground.data }, { on := 5, ground := Ground.guard }], guard := some (5, false) }) (v := ?_) rfl (by kernel_rfl) (by kernel_rfl) (by kernel_rfl) (fun _ _ _ h => h) (Or.inl ⟨by rfl, ?_⟩) (by assumption) ?_
          rotate_left
          · (intro w hSw; (try dsimp only at hSw); go_simp; try (with_reducible rfl))
          try simp only [Act.put, List.setIfInBounds_toArray, List.set_cons_zero, List.set_cons_succ]
          refine wpAnyH_take (i := 11) (oi := { dst := some 49, op := Op.pick (Operand.tmp 43) (Operand.const (Value.bool true)) (Operand.tmp 48), type := 4, pos := "law.go:83", after := #[{ on := 5, ground := Ground.data }, { on := 10, ground := Ground.data }], guard := none }) (v := ?_) rfl (by kernel_rfl) (by kernel_rfl) (by kernel_rfl) (fun _ _ _ h => h) (Or.inl ⟨by rfl, ?_⟩) (by assumption) ?_
          rotate_left
          · (intro w hSw; (try dsimp only at hSw); go_simp; try (with_reducible rfl))
          try simp only [Act.put, List.setIfInBounds_toArray, List.set_cons_zero, List.set_cons_succ]
          refine wpAnyH_take (i := 12) (oi := { dst := some 50, op := Op.move (Operand.tmp 49), type := 4, pos := "law.go:83", after := #[{ on := 11, ground := Ground.data }, { on := 7, ground := Ground.chain }], guard := none }) (v := ?_) rfl (by kernel_rfl) (by kernel_rfl) (by kernel_rfl) (fun _ _ _ h => h) (Or.inl ⟨by rfl, ?_⟩) (by assumption) ?_
          rotate_left
          · (intro w hSw; (try dsimp only at hSw); go_simp; try (with_reducible rfl))
          try simp only [Act.put, List.setIfInBounds_toArray, List.set_cons_zero, List.set_cons_succ]
          refine wpAnyH_take (i := 13) (oi := { dst := some 51, op := Op.move (Operand.tmp 0), type := 28, pos := "law.go:83", after := #[{ on := 12, ground := Ground.guard }], guard := some (12, false) }) (v := ?_) rfl (by kernel_rfl) (by kernel_rfl) (by kernel_rfl) (fun _ _ _ h => h) (Or.inl ⟨by rfl, ?_⟩) (by assumption) ?_
          rotate_left
          · (intro w hSw; (try dsimp only at hSw); go_simp; try (with_reducible rfl))
          try simp only [Act.put, List.setIfInBounds_toArray, List.set_cons_zero, List.set_cons_succ]
          refine wpAnyH_take (i := 14) (oi := { dst := some 52, op := Op.move (Operand.tmp 2), type := 9, pos := "law.go:83", after := #[{ on := 12, ground := Ground.guard }], guard := some (12, false) }) (v := ?_) rfl (by kernel_rfl) (by kernel_rfl) (by kernel_rfl) (fun _ _ _ h => h) (Or.inl ⟨by rfl, ?_⟩) (by assumption) ?_
          rotate_left
          · (intro w hSw; (try dsimp only at hSw); go_simp; try (with_reducible rfl))
          try simp only [Act.put, List.setIfInBounds_toArray, List.set_cons_zero, List.set_cons_succ]
          refine wpAnyH_take (i := 16) (oi := { dst := some 54, op := Op.move (Operand.tmp 1), type := 26, pos := "law.go:83", after := #[{ on := 12, ground := Ground.guard }], guard := some (12, false) }) (v := ?_) rfl (by kernel_rfl) (by kernel_rfl) (by kernel_rfl) (fun _ _ _ h => h) (Or.inl ⟨by rfl, ?_⟩) (by assumption) ?_
          rotate_left
          · (intro w hSw; (try dsimp only at hSw); go_simp; try (with_reducible rfl))
          try simp only [Act.put, List.setIfInBounds_toArray, List.set_cons_zero, List.set_cons_succ]
          refine wpAnyH_take (i := 17) (oi := { dst := some 55, op := Op.move (Operand.tmp 7), type := 3, pos := "law.go:83", after := #[{ on := 12, ground := Ground.guard }], guard := some (12, false) }) (v := ?_) rfl (by kernel_rfl) (by kernel_rfl) (by kernel_rfl) (fun _ _ _ h => h) (Or.inl ⟨by rfl, ?_⟩) (by assumption) ?_
          rotate_left
          · (intro w hSw; (try dsimp only at hSw); go_simp; try (with_reducible rfl))
          try simp only [Act.put, List.setIfInBounds_toArray, List.set_cons_zero, List.set_cons_succ]
          refine wpAnyH_take (i := 18) (oi := { dst := some 56, op := Op.indexAddr 26 (Operand.tmp 54) (Operand.tmp 55), type := 0, pos := "law.go:83", after := #[{ on := 16, ground := Ground.data }, { on := 17, ground := Ground.data }, { on := 12, ground := Ground.guard }], guard := some (12, false) }) (v := ?_) rfl (by kernel_rfl) (by kernel_rfl) (by kernel_rfl) (fun _ _ _ h => h) (Or.inl ⟨by rfl, ?_⟩) (by assumption) ?_
          rotate_left
          · (intro w hSw; (try dsimp only at hSw); go_simp; try (with_reducible rfl))
          try simp only [Act.put, List.setIfInBounds_toArray, List.set_cons_zero, List.set_cons_succ]
          refine wpAnyH_take (i := 19) (oi := { dst := some 57, op := Op.load 25 (Operand.tmp 56), type := 25, pos := "law.go:83", after := #[{ on := 18, ground := Ground.data }, { on := 12, ground := Ground.guard }], guard := some (12, false) }) (v := ?_) rfl (by kernel_rfl) (by kernel_rfl) (by kernel_rfl) (fun _ _ _ h => h) (Or.inl ⟨by rfl, ?_⟩) (by assumption) ?_
          rotate_left
          · (intro w hSw; (try dsimp only at hSw); go_simp; try (with_reducible rfl))
          try simp only [Act.put, List.setIfInBounds_toArray, List.set_cons_zero, List.set_cons_succ]
          refine wpAnyH_ready (rs := [15]) (by kernel_rfl) (by simp) ?_
          refine AllReadyH.cons (o := { dst := some 53, op := Op.call { callee := Callee.value (Operand.func 20), args := #[Operand.tmp 51, Operand.tmp 52], argTypes := #[28, 9] }, type := 25, pos := "law.go:83", after := #[{ on := 13, ground := Ground.data }, { on := 14, ground := Ground.data }, { on := 12, ground := Ground.chain }, { on := 12, ground := Ground.guard }], guard := some (12, false) }) rfl (fun K hK => ?_) AllReadyH.nil
          go_simp
          refine (hfin _ mW).mono ?_
          rintro _ w4 ⟨rfl, m4⟩
          replace mW := mW.then m4
          refine hK.out _ _ ?_ (fun hHeld => ?_)
          · exact hS _ mW
          clear hK K
          try simp only [Act.put, List.setIfInBounds_toArray, List.set_cons_zero, List.set_cons_succ]
          refine wpAnyH_ready (rs := [20]) (by kernel_rfl) (by simp) ?_
          refine AllReadyH.cons (o := { dst := some 58, op := Op.binOp BinOp.neq 25 (Operand.tmp 53) (Operand.tmp 57) 25, type := 4, pos := "law.go:83", after := #[{ on := 15, ground := Ground.data }, { on := 19, ground := Ground.data }, { on := 12, ground := Ground.guard }], guard := some (12, false) }) rfl (fun K hK => ?_) AllReadyH.nil
          refine wp_neqT 53 57 rfl x x rfl rfl (tbEq_self x) ?_
          refine hK.out _ _ ?_ (fun hHeld => ?_)
          · exact hS _ mW
          clear hK K
          try simp only [Act.put, List.setIfInBounds_toArray, List.set_cons_zero, List.set_cons_succ]
          refine wpAnyH_take (i := 21) (oi := { dst := some 59, op := Op.pick (Operand.tmp 50) (Operand.const (Value.bool true)) (Operand.tmp 58), type := 4, pos := "law.go:83", after := #[{ on := 12, ground := Ground.data }, { on := 20, ground := Ground.data }], guard := none }) (v := ?_) rfl (by kernel_rfl) (by kernel_rfl) (by kernel_rfl) (fun _ _ _ h => h) (Or.inl ⟨by rfl, ?_⟩) (by assumption) ?_
          rotate_left
          · (intro w hSw; (try dsimp only at hSw); go_simp; try (with_reducible rfl))
          try simp only [Act.put, List.setIfInBounds_toArray, List.set_cons_zero, List.set_cons_succ]
          refine wpAnyH_take (i := 22) (oi := { dst := some 60, op := Op.move (Operand.tmp 59), type := 4, pos := "law.go:83", after := #[{ on := 21, ground := Ground.data }, { on := 15, ground := Ground.chain }], guard := none }) (v := ?_) rfl (by kernel_rfl) (by kernel_rfl) (by kernel_rfl) (fun _ _ _ h => h) (Or.inl ⟨by rfl, ?_⟩) (by assumption) ?_
          rotate_left
          · (intro w hSw; (try dsimp only at hSw); go_simp; try (with_reducible rfl))
          try simp only [Act.put, List.setIfInBounds_toArray, List.set_cons_zero, List.set_cons_succ]
          refine wpAnyH_take (i := 23) (oi := { dst := some 61, op := Op.move (Operand.tmp 10), type := 4, pos := "law.go:83", after := #[{ on := 22, ground := Ground.guard }], guard := some (22, false) }) (v := ?_) rfl (by kernel_rfl) (by kernel_rfl) (by kernel_rfl) (fun _ _ _ h => h) (Or.inl ⟨by rfl, ?_⟩) (by assumption) ?_
          rotate_left
          · (intro w hSw; (try dsimp only at hSw); go_simp; try (with_reducible rfl))
          try simp only [Act.put, List.setIfInBounds_toArray, List.set_cons_zero, List.set_cons_succ]
          refine wpAnyH_take (i := 24) (oi := { dst := some 62, op := Op.move (Operand.tmp 7), type := 3, pos := "law.go:83", after := #[{ on := 22, ground := Ground.guard }], guard := some (22, false) }) (v := ?_) rfl (by kernel_rfl) (by kernel_rfl) (by kernel_rfl) (fun _ _ _ h => h) (Or.inl ⟨by rfl, ?_⟩) (by assumption) ?_
          rotate_left
          · (intro w hSw; (try dsimp only at hSw); go_simp; try (with_reducible rfl))
          try simp only [Act.put, List.setIfInBounds_toArray, List.set_cons_zero, List.set_cons_succ]
          refine wpAnyH_take (i := 25) (oi := { dst := some 63, op := Op.binOp BinOp.gtr 3 (Operand.tmp 62) (Operand.const (Value.int IntKind.i64 0)) 3, type := 4, pos := "law.go:83", after := #[{ on := 24, ground := Ground.data }, { on := 22, ground := Ground.guard }], guard := some (22, false) }) (v := ?_) rfl (by kernel_rfl) (by kernel_rfl) (by kernel_rfl) (fun _ _ _ h => h) (Or.inl ⟨by rfl, ?_⟩) (by assumption) ?_
          rotate_left
          · (intro w hSw; (try dsimp only at hSw); go_simp; try (with_reducible rfl))
          try simp only [Act.put, List.setIfInBounds_toArray, List.set_cons_zero, List.set_cons_succ]
          refine wpAnyH_take (i := 26) (oi := { dst := some 64, op := Op.binOp BinOp.neq 4 (Operand.tmp 61) (Operand.tmp 63) 4, type := 4, pos := "law.go:83", after := #[{ on := 23, ground := Ground.data }, { on := 25, ground := Ground.data }, { on := 22, ground := Ground.guard }], guard := some (22, false) }) (v := ?_) rfl (by kernel_rfl) (by kernel_rfl) (by kernel_rfl) (fun _ _ _ h => h) (Or.inl ⟨by rfl, ?_⟩) (by assumption) ?_
          rotate_left
          · (intro w hSw; (try dsimp only at hSw); go_simp; try (with_reducible rfl))
          try simp only [Act.put, List.setIfInBounds_toArray, List.set_cons_zero, List.set_cons_succ]
          refine wpAnyH_take (i := 27) (oi := { dst := some 65, op := Op.pick (Operand.tmp 60) (Operand.const (Value.bool true)) (Operand.tmp 64), type := 4, pos := "law.go:83", after := #[{ on := 22, ground := Ground.data }, { on := 26, ground := Ground.data }], guard := none }) (v := ?_) rfl (by kernel_rfl) (by kernel_rfl) (by kernel_rfl) (fun _ _ _ h => h) (Or.inl ⟨by rfl, ?_⟩) (by assumption) ?_
          rotate_left
          · (intro w hSw; (try dsimp only at hSw); go_simp; try (with_reducible rfl))
          try simp only [Act.put, List.setIfInBounds_toArray, List.set_cons_zero, List.set_cons_succ]
          refine wpAnyH_take (i := 28) (oi := { dst := some 66, op := Op.move (Operand.tmp 65), type := 4, pos := "law.go:83", after := #[{ on := 27, ground := Ground.data }, { on := 22, ground := Ground.chain }], guard := none }) (v := ?_) rfl (by kernel_rfl) (by kernel_rfl) (by kernel_rfl) (fun _ _ _ h => h) (Or.inl ⟨by rfl, ?_⟩) (by assumption) ?_
          rotate_left
          · (intro w hSw; (try dsimp only at hSw); go_simp; try (with_reducible rfl))
          try simp only [Act.put, List.setIfInBounds_toArray, List.set_cons_zero, List.set_cons_succ]
          refine wpAnyH_take (i := 29) (oi := { dst := some 67, op := Op.move (Operand.tmp 10), type := 4, pos := "law.go:83", after := #[{ on := 28, ground := Ground.guard }], guard := some (28, false) }) (v := ?_) rfl (by kernel_rfl) (by kernel_rfl) (by kernel_rfl) (fun _ _ _ h => h) (Or.inl ⟨by rfl, ?_⟩) (by assumption) ?_
          rotate_left
          · (intro w hSw; (try dsimp only at hSw); go_simp; try (with_reducible rfl))
          try simp only [Act.put, List.setIfInBounds_toArray, List.set_cons_zero, List.set_cons_succ]
          refine wpAnyH_take (i := 30) (oi := { dst := some 68, op := Op.move (Operand.tmp 67), type := 4, pos := "law.go:83", after := #[{ on := 29, ground := Ground.data }, { on := 28, ground := Ground.chain }, { on := 28, ground := Ground.guard }], guard := some (28, false) }) (v := ?_) rfl (by kernel_rfl) (by kernel_rfl) (by kernel_rfl) (fun _ _ _ h => h) (Or.inl ⟨by rfl, ?_⟩) (by assumption) ?_
          rotate_left
          · (intro w hSw; (try dsimp only at hSw); go_simp; try (with_reducible rfl))
          try simp only [Act.put, List.setIfInBounds_toArray, List.set_cons_zero, List.set_cons_succ]
          refine wpAnyH_take (i := 31) (oi := { dst := some 69, op := Op.load 25 (Operand.tmp 9), type := 25, pos := "law.go:83", after := #[{ on := 30, ground := Ground.guard }], guard := some (30, true) }) (v := ?_) rfl (by kernel_rfl) (by kernel_rfl) (by kernel_rfl) (fun _ _ _ h => h) (Or.inl ⟨by rfl, ?_⟩) (by assumption) ?_
          rotate_left
          · (intro w hSw; (try dsimp only at hSw); go_simp; try (with_reducible rfl))
          try simp only [Act.put, List.setIfInBounds_toArray, List.set_cons_zero, List.set_cons_succ]
          refine wpAnyH_take (i := 32) (oi := { dst := some 70, op := Op.move (Operand.tmp 1), type := 26, pos := "law.go:83", after := #[{ on := 30, ground := Ground.guard }], guard := some (30, true) }) (v := ?_) rfl (by kernel_rfl) (by kernel_rfl) (by kernel_rfl) (fun _ _ _ h => h) (Or.inl ⟨by rfl, ?_⟩) (by assumption) ?_
          rotate_left
          · (intro w hSw; (try dsimp only at hSw); go_simp; try (with_reducible rfl))
          try simp only [Act.put, List.setIfInBounds_toArray, List.set_cons_zero, List.set_cons_succ]
          refine wpAnyH_take (i := 33) (oi := { dst := some 71, op := Op.move (Operand.tmp 7), type := 3, pos := "law.go:83", after := #[{ on := 30, ground := Ground.guard }], guard := some (30, true) }) (v := ?_) rfl (by kernel_rfl) (by kernel_rfl) (by kernel_rfl) (fun _ _ _ h => h) (Or.inl ⟨by rfl, ?_⟩) (by assumption) ?_
          rotate_left
          · (intro w hSw; (try dsimp only at hSw); go_simp; try (with_reducible rfl))
          try simp only [Act.put, List.setIfInBounds_toArray, List.set_cons_zero, List.set_cons_succ]
          refine wpAnyH_take (i := 34) (oi := { dst := some 72, op := Op.binOp BinOp.sub 3 (Operand.tmp 71) (Operand.const (Value.int IntKind.i64 1)) 3, type := 3, pos := "law.go:83", after := #[{ on := 33, ground := Ground.data }, { on := 30, ground := Ground.guard }], guard := some (30, true) }) (v := ?_) rfl (by kernel_rfl) (by kernel_rfl) (by kernel_rfl) (fun _ _ _ h => h) (Or.inl ⟨by rfl, ?_⟩) (by assumption) ?_
          rotate_left
          · (intro w hSw; (try dsimp only at hSw); go_simp; try (with_reducible rfl))
          try simp only [Act.put, List.setIfInBounds_toArray, List.set_cons_zero, List.set_cons_succ]
          refine wpAnyH_take (i := 35) (oi := { dst := some 73, op := Op.indexAddr 26 (Operand.tmp 70) (Operand.tmp 72), type := 0, pos := "law.go:83", after := #[{ on := 32, ground := Ground.data }, { on := 34, ground := Ground.data }, { on := 30, ground := Ground.guard }], guard := some (30, true) }) (v := ?_) rfl (by kernel_rfl) (by kernel_rfl) (by kernel_rfl) (fun _ _ _ h => h) (Or.inl ⟨by rfl, ?_⟩) (by assumption) ?_
          rotate_left
          · (intro w hSw; (try dsimp only at hSw); go_simp; try (with_reducible rfl))
          try simp only [Act.put, List.setIfInBounds_toArray, List.set_cons_zero, List.set_cons_succ]
          refine wpAnyH_take (i := 36) (oi := { dst := some 74, op := Op.load 25 (Operand.tmp 73), type := 25, pos := "law.go:83", after := #[{ on := 35, ground := Ground.data }, { on := 30, ground := Ground.guard }], guard := some (30, true) }) (v := ?_) rfl (by kernel_rfl) (by kernel_rfl) (by kernel_rfl) (fun _ _ _ h => h) (Or.inl ⟨by rfl, ?_⟩) (by assumption) ?_
          rotate_left
          · (intro w hSw; (try dsimp only at hSw); go_simp; try (with_reducible rfl))
          try simp only [Act.put, List.setIfInBounds_toArray, List.set_cons_zero, List.set_cons_succ]
          refine wpAnyH_ready (rs := [37]) (by kernel_rfl) (by simp) ?_
          refine AllReadyH.cons (o := { dst := some 75, op := Op.binOp BinOp.neq 25 (Operand.tmp 69) (Operand.tmp 74) 25, type := 4, pos := "law.go:83", after := #[{ on := 31, ground := Ground.data }, { on := 36, ground := Ground.data }, { on := 30, ground := Ground.guard }], guard := some (30, true) }) rfl (fun K hK => ?_) AllReadyH.nil
          refine wp_neqT 69 74 rfl b b rfl rfl (tbEq_self b) ?_
          refine hK.out _ _ ?_ (fun hHeld => ?_)
          · exact hS _ mW
          clear hK K
          try simp only [Act.put, List.setIfInBounds_toArray, List.set_cons_zero, List.set_cons_succ]
          refine wpAnyH_take (i := 38) (oi := { dst := some 76, op := Op.pick (Operand.tmp 68) (Operand.tmp 75) (Operand.const (Value.bool false)), type := 4, pos := "law.go:83", after := #[{ on := 30, ground := Ground.data }, { on := 37, ground := Ground.data }, { on := 28, ground := Ground.guard }], guard := some (28, false) }) (v := ?_) rfl (by kernel_rfl) (by kernel_rfl) (by kernel_rfl) (fun _ _ _ h => h) (Or.inl ⟨by rfl, ?_⟩) (by assumption) ?_
          rotate_left
          · (intro w hSw; (try dsimp only at hSw); go_simp; try (with_reducible rfl))
          try simp only [Act.put, List.setIfInBounds_toArray, List.set_cons_zero, List.set_cons_succ]
          refine wpAnyH_take (i := 39) (oi := { dst := some 77, op := Op.pick (Operand.tmp 66) (Operand.const (Value.bool true)) (Operand.tmp 76), type := 4, pos := "law.go:83", after := #[{ on := 28, ground := Ground.data }, { on := 38, ground := Ground.data }], guard := none }) (v := ?_) rfl (by kernel_rfl) (by kernel_rfl) (by kernel_rfl) (fun _ _ _ h => h) (Or.inl ⟨by rfl, ?_⟩) (by assumption) ?_
          rotate_left
          · (intro w hSw; (try dsimp only at hSw); go_simp; try (with_reducible rfl))
          try simp only [Act.put, List.setIfInBounds_toArray, List.set_cons_zero, List.set_cons_succ]
          refine wpAnyH_take (i := 40) (oi := { dst := some 78, op := Op.move (Operand.tmp 77), type := 4, pos := "law.go:83", after := #[{ on := 39, ground := Ground.data }, { on := 30, ground := Ground.chain }], guard := none }) (v := ?_) rfl (by kernel_rfl) (by kernel_rfl) (by kernel_rfl) (fun _ _ _ h => h) (Or.inl ⟨by rfl, ?_⟩) (by assumption) ?_
          rotate_left
          · (intro w hSw; (try dsimp only at hSw); go_simp; try (with_reducible rfl))
          try simp only [Act.put, List.setIfInBounds_toArray, List.set_cons_zero, List.set_cons_succ]
          refine wpAnyH_take (i := 41) (oi := { dst := some 79, op := Op.move (Operand.tmp 10), type := 4, pos := "law.go:83", after := #[{ on := 40, ground := Ground.guard }], guard := some (40, false) }) (v := ?_) rfl (by kernel_rfl) (by kernel_rfl) (by kernel_rfl) (fun _ _ _ h => h) (Or.inl ⟨by rfl, ?_⟩) (by assumption) ?_
          rotate_left
          · (intro w hSw; (try dsimp only at hSw); go_simp; try (with_reducible rfl))
          try simp only [Act.put, List.setIfInBounds_toArray, List.set_cons_zero, List.set_cons_succ]
          refine wpAnyH_take (i := 42) (oi := { dst := some 80, op := Op.unOp UnOp.not 4 (Operand.tmp 79), type := 4, pos := "law.go:83", after := #[{ on := 41, ground := Ground.data }, { on := 40, ground := Ground.guard }], guard := some (40, false) }) (v := ?_) rfl (by kernel_rfl) (by kernel_rfl) (by kernel_rfl) (fun _ _ _ h => h) (Or.inl ⟨by rfl, ?_⟩) (by assumption) ?_
          rotate_left
          · (intro w hSw; (try dsimp only at hSw); go_simp; try (with_reducible rfl))
          try simp only [Act.put, List.setIfInBounds_toArray, List.set_cons_zero, List.set_cons_succ]
          refine wpAnyH_take (i := 43) (oi := { dst := some 81, op := Op.move (Operand.tmp 80), type := 4, pos := "law.go:83", after := #[{ on := 42, ground := Ground.data }, { on := 40, ground := Ground.chain }, { on := 40, ground := Ground.guard }], guard := some (40, false) }) (v := ?_) rfl (by kernel_rfl) (by kernel_rfl) (by kernel_rfl) (fun _ _ _ h => h) (Or.inl ⟨by rfl, ?_⟩) (by assumption) ?_
          rotate_left
          · (intro w hSw; (try dsimp only at hSw); go_simp; try (with_reducible rfl))
          try simp only [Act.put, List.setIfInBounds_toArray, List.set_cons_zero, List.set_cons_succ]
          refine wpAnyH_take (i := 44) (oi := { dst := some 82, op := Op.load 25 (Operand.tmp 9), type := 25, pos := "law.go:83", after := #[{ on := 43, ground := Ground.guard }], guard := some (43, true) }) rfl (by kernel_rfl) (by kernel_rfl) (by kernel_rfl) (fun _ _ _ h => h) (Or.inr ⟨by rfl, rfl⟩) (by assumption) ?_
          try simp only [Act.put, List.setIfInBounds_toArray, List.set_cons_zero, List.set_cons_succ]
          refine wpAnyH_take (i := 45) (oi := { dst := some 83, op := Op.build 25 #[], type := 25, pos := "law.go:83", after := #[{ on := 43, ground := Ground.guard }], guard := some (43, true) }) rfl (by kernel_rfl) (by kernel_rfl) (by kernel_rfl) (fun _ _ _ h => h) (Or.inr ⟨by rfl, rfl⟩) (by assumption) ?_
          try simp only [Act.put, List.setIfInBounds_toArray, List.set_cons_zero, List.set_cons_succ]
          refine wpAnyH_take (i := 46) (oi := { dst := some 84, op := Op.binOp BinOp.neq 25 (Operand.tmp 82) (Operand.tmp 83) 25, type := 4, pos := "law.go:83", after := #[{ on := 44, ground := Ground.data }, { on := 45, ground := Ground.data }, { on := 43, ground := Ground.guard }], guard := some (43, true) }) rfl (by kernel_rfl) (by kernel_rfl) (by kernel_rfl) (fun _ _ _ h => h) (Or.inr ⟨by rfl, rfl⟩) (by assumption) ?_
          try simp only [Act.put, List.setIfInBounds_toArray, List.set_cons_zero, List.set_cons_succ]
          refine wpAnyH_take (i := 47) (oi := { dst := some 85, op := Op.pick (Operand.tmp 81) (Operand.tmp 84) (Operand.const (Value.bool false)), type := 4, pos := "law.go:83", after := #[{ on := 43, ground := Ground.data }, { on := 46, ground := Ground.data }, { on := 40, ground := Ground.guard }], guard := some (40, false) }) (v := ?_) rfl (by kernel_rfl) (by kernel_rfl) (by kernel_rfl) (fun _ _ _ h => h) (Or.inl ⟨by rfl, ?_⟩) (by assumption) ?_
          rotate_left
          · (intro w hSw; (try dsimp only at hSw); go_simp; try (with_reducible rfl))
          try simp only [Act.put, List.setIfInBounds_toArray, List.set_cons_zero, List.set_cons_succ]
          refine wpAnyH_take (i := 48) (oi := { dst := some 86, op := Op.pick (Operand.tmp 78) (Operand.const (Value.bool true)) (Operand.tmp 85), type := 4, pos := "law.go:83", after := #[{ on := 40, ground := Ground.data }, { on := 47, ground := Ground.data }], guard := none }) (v := ?_) rfl (by kernel_rfl) (by kernel_rfl) (by kernel_rfl) (fun _ _ _ h => h) (Or.inl ⟨by rfl, ?_⟩) (by assumption) ?_
          rotate_left
          · (intro w hSw; (try dsimp only at hSw); go_simp; try (with_reducible rfl))
          try simp only [Act.put, List.setIfInBounds_toArray, List.set_cons_zero, List.set_cons_succ]
          refine wpAnyH_done (by kernel_rfl) ?_ _
          refine NoPanic.normal ?_
          exact ⟨rfl, by kernel_rfl, by kernel_rfl, mW⟩
        | false =>
          have hk00 : ¬ 0 < k := of_decide_eq_false hok
          have hk0 : ¬ (0 : Int) < k := by omega
          have hkd : decide ((0 : Int) < (k : Int)) = false := decide_eq_false hk0
          have hbz : tbEq b Ptb.zero = true := by rw [HBB.out, if_pos (by omega)]; exact tbEq_self _
          have hS : ∀ w', Moves [] w6 w' → (fun w' => w'.cell? ⟨g, off + k * 4, none⟩ = some (.string x.lo) ∧ w'.cell? ⟨g, off + k * 4 + 1, none⟩ = some (.string x.hi) ∧ w'.cell? ⟨g, off + k * 4 + 2, none⟩ = some (.int .i64 x.g) ∧ w'.cell? ⟨g, off + k * 4 + 3, none⟩ = some (.int .i64 x.n) ∧ w'.cell? ⟨Q, 0, none⟩ = some (.string b.lo) ∧ w'.cell? ⟨Q, 1, none⟩ = some (.string b.hi) ∧ w'.cell? ⟨Q, 2, none⟩ = some (.int .i64 b.g) ∧ w'.cell? ⟨Q, 3, none⟩ = some (.int .i64 b.n)) w' := fun w' m' => ⟨m'.cell x0, m'.cell x1, m'.cell x2, m'.cell x3, m'.cell d0, m'.cell d1, m'.cell d2, m'.cell d3⟩
          clear x0 x1 x2 x3 d0 d1 d2 d3
          refine wp_region_noPanic ?_
          refine wp_region_held_drew (S := (fun w' => w'.cell? ⟨g, off + k * 4, none⟩ = some (.string x.lo) ∧ w'.cell? ⟨g, off + k * 4 + 1, none⟩ = some (.string x.hi) ∧ w'.cell? ⟨g, off + k * 4 + 2, none⟩ = some (.int .i64 x.g) ∧ w'.cell? ⟨g, off + k * 4 + 3, none⟩ = some (.int .i64 x.n) ∧ w'.cell? ⟨Q, 0, none⟩ = some (.string b.lo) ∧ w'.cell? ⟨Q, 1, none⟩ = some (.string b.hi) ∧ w'.cell? ⟨Q, 2, none⟩ = some (.int .i64 b.g) ∧ w'.cell? ⟨Q, 3, none⟩ = some (.int .i64 b.n))) (by kernel_rfl) ?_ (fun hHeld => ?_)
          · first | (go_keep; done) | exact hS _ mW
          refine wpAnyH_take (i := 0) (oi := { dst := some 38, op := Op.move (Operand.tmp 0), type := 28, pos := "law.go:83", after := #[], guard := none }) (v := ?_) rfl (by kernel_rfl) (by kernel_rfl) (by kernel_rfl) (fun _ _ _ h => h) (Or.inl ⟨by rfl, ?_⟩) (by assumption) ?_
          rotate_left
          · (intro w hSw; (try dsimp only at hSw); go_simp; try (with_reducible rfl))
          try simp only [Act.put, List.setIfInBounds_toArray, List.set_cons_zero, List.set_cons_succ]
          refine wpAnyH_take (i := 2) (oi := { dst := some 40, op := Op.move (Operand.tmp 1), type := 26, pos := "law.go:83", after := #[], guard := none }) (v := ?_) rfl (by kernel_rfl) (by kernel_rfl) (by kernel_rfl) (fun _ _ _ h => h) (Or.inl ⟨by rfl, ?_⟩) (by assumption) ?_
          rotate_left
          · (intro w hSw; (try dsimp only at hSw); go_simp; try (with_reducible rfl))
          try simp only [Act.put, List.setIfInBounds_toArray, List.set_cons_zero, List.set_cons_succ]
          refine wpAnyH_ready (rs := [1]) (by kernel_rfl) (by simp) ?_
          refine AllReadyH.cons (o := { dst := some 39, op := Op.call { callee := Callee.value (Operand.func 18), args := #[Operand.tmp 38], argTypes := #[28] }, type := 26, pos := "law.go:83", after := #[{ on := 0, ground := Ground.data }], guard := none }) rfl (fun K hK => ?_) AllReadyH.nil
          go_simp
          refine (hall _ mW).mono ?_
          rintro _ w1 ⟨v1, rfl, hO1, hF1, m1⟩
          obtain ⟨g1, hT1, _⟩ := hO1.ex hF1
          obtain ⟨ad1, n1, cap1, rfl, _, _, HT1⟩ := hT1.open
          clear hO1 hF1 hT1
          replace mW := mW.then m1
          refine hK.out _ _ ?_ (fun hHeld => ?_)
          · exact hS _ mW
          clear hK K
          try simp only [Act.put, List.setIfInBounds_toArray, List.set_cons_zero, List.set_cons_succ]
          refine wpAnyH_ready (rs := [3]) (by kernel_rfl) (by simp) ?_
          refine AllReadyH.cons (o := { dst := some 41, op := Op.call { callee := Callee.value (Operand.func 27), args := #[Operand.tmp 39, Operand.tmp 40], argTypes := #[26, 26] }, type := 4, pos := "law.go:83", after := #[{ on := 1, ground := Ground.data }, { on := 2, ground := Ground.data }, { on := 1, ground := Ground.chain }], guard := none }) rfl (fun K hK => ?_) AllReadyH.nil
          go_simp
          refine (bookSame_yes _ g1 _ g _ xs HT1.out (HTu.out.moves mW (by simp)) (by omega)).mono ?_
          rintro _ w2 ⟨rfl, m2⟩
          replace mW := mW.then m2
          refine hK.out _ _ ?_ (fun hHeld => ?_)
          · exact hS _ mW
          clear hK K
          try simp only [Act.put, List.setIfInBounds_toArray, List.set_cons_zero, List.set_cons_succ]
          refine wpAnyH_take (i := 4) (oi := { dst := some 42, op := Op.unOp UnOp.not 4 (Operand.tmp 41), type := 4, pos := "law.go:83", after := #[{ on := 3, ground := Ground.data }], guard := none }) (v := ?_) rfl (by kernel_rfl) (by kernel_rfl) (by kernel_rfl) (fun _ _ _ h => h) (Or.inl ⟨by rfl, ?_⟩) (by assumption) ?_
          rotate_left
          · (intro w hSw; (try dsimp only at hSw); go_simp; try (with_reducible rfl))
          try simp only [Act.put, List.setIfInBounds_toArray, List.set_cons_zero, List.set_cons_succ]
          refine wpAnyH_take (i := 5) (oi := { dst := some 43, op := Op.move (Operand.tmp 42), type := 4, pos := "law.go:83", after := #[{ on := 4, ground := Ground.data }, { on := 3, ground := Ground.chain }], guard := none }) (v := ?_) rfl (by kernel_rfl) (by kernel_rfl) (by kernel_rfl) (fun _ _ _ h => h) (Or.inl ⟨by rfl, ?_⟩) (by assumption) ?_
          rotate_left
          · (intro w hSw; (try dsimp only at hSw); go_simp; try (with_reducible rfl))
          try simp only [Act.put, List.setIfInBounds_toArray, List.set_cons_zero, List.set_cons_succ]
          refine wpAnyH_take (i := 6) (oi := { dst := some 44, op := Op.move (Operand.tmp 0), type := 28, pos := "law.go:83", after := #[{ on := 5, ground := Ground.guard }], guard := some (5, false) }) (v := ?_) rfl (by kernel_rfl) (by kernel_rfl) (by kernel_rfl) (fun _ _ _ h => h) (Or.inl ⟨by rfl, ?_⟩) (by assumption) ?_
          rotate_left
          · (intro w hSw; (try dsimp only at hSw); go_simp; try (with_reducible rfl))
          try simp only [Act.put, List.setIfInBounds_toArray, List.set_cons_zero, List.set_cons_succ]
          refine wpAnyH_take (i := 8) (oi := { dst := some 46, op := Op.move (Operand.tmp 1), type := 26, pos := "law.go:83", after := #[{ on := 5, ground := Ground.guard }], guard := some (5, false) }) (v := ?_) rfl (by kernel_rfl) (by kernel_rfl) (by kernel_rfl) (fun _ _ _ h => h) (Or.inl ⟨by rfl, ?_⟩) (by assumption) ?_
          rotate_left
          · (intro w hSw; (try dsimp only at hSw); go_simp; try (with_reducible rfl))
          try simp only [Act.put, List.setIfInBounds_toArray, List.set_cons_zero, List.set_cons_succ]
          refine wpAnyH_take (i := 9) (oi := { dst := some 47, op := Op.call { callee := Callee.builtin Builtin.len, args := #[Operand.tmp 46], argTypes := #[26] }, type := 3, pos := "law.go:83", after := #[{ on := 8, ground := Ground.data }, { on := 5, ground := Ground.guard }], guard := some (5, false) }) (v := ?_) rfl (by kernel_rfl) (by kernel_rfl) (by kernel_rfl) (fun _ _ _ h => h) (Or.inl ⟨by rfl, ?_⟩) (by assumption) ?_
          rotate_left
          · (intro w hSw; (try dsimp only at hSw); go_simp; try (with_reducible rfl))
          try simp only [Act.put, List.setIfInBounds_toArray, List.set_cons_zero, List.set_cons_succ]
          refine wpAnyH_ready (rs := [7]) (by kernel_rfl) (by simp) ?_
          refine AllReadyH.cons (o := { dst := some 45, op := Op.call { callee := Callee.value (Operand.func 11), args := #[Operand.tmp 44], argTypes := #[28] }, type := 3, pos := "law.go:83", after := #[{ on := 6, ground := Ground.data }, { on := 5, ground := Ground.chain }, { on := 5, ground := Ground.guard }], guard := some (5, false) }) rfl (fun K hK => ?_) AllReadyH.nil
          go_simp
          refine (hlen _ mW).mono ?_
          rintro _ w3 ⟨rfl, m3⟩
          replace mW := mW.then m3
          refine hK.out _ _ ?_ (fun hHeld => ?_)
          · exact hS _ mW
          clear hK K
          try simp only [Act.put, List.setIfInBounds_toArray, List.set_cons_zero, List.set_cons_succ]
          refine wpAnyH_take (i := 10) (oi := { dst := some 48, op := Op.binOp BinOp.neq 3 (Operand.tmp 45) (Operand.tmp 47) 3, type := 4, pos := "law.go:83", after := #[{ on := 7, ground := Ground.data }, { on := 9, ground := Ground.data }, { on := 5, ground := Ground.guard }], guard := some (5, false) }) (v := ?_) rfl (by kernel_rfl) (by kernel_rfl) (by kernel_rfl) (fun _ _ _ h => h) (Or.inl ⟨by rfl, ?_⟩) (by assumption) ?_
          rotate_left
          · (intro w hSw; (try dsimp only at hSw); go_simp; try (with_reducible rfl))
          try simp only [Act.put, List.setIfInBounds_toArray, List.set_cons_zero, List.set_cons_succ]
          refine wpAnyH_take (i := 11) (oi := { dst := some 49, op := Op.pick (Operand.tmp 43) (Operand.const (Value.bool true)) (Operand.tmp 48), type := 4, pos := "law.go:83", after := #[{ on := 5, ground := Ground.data }, { on := 10, ground := Ground.data }], guard := none }) (v := ?_) rfl (by kernel_rfl) (by kernel_rfl) (by kernel_rfl) (fun _ _ _ h => h) (Or.inl ⟨by rfl, ?_⟩) (by assumption) ?_
          rotate_left
          · (intro w hSw; (try dsimp only at hSw); go_simp; try (with_reducible rfl))
          try simp only [Act.put, List.setIfInBounds_toArray, List.set_cons_zero, List.set_cons_succ]
          refine wpAnyH_take (i := 12) (oi := { dst := some 50, op := Op.move (Operand.tmp 49), type := 4, pos := "law.go:83", after := #[{ on := 11, ground := Ground.data }, { on := 7, ground := Ground.chain }], guard := none }) (v := ?_) rfl (by kernel_rfl) (by kernel_rfl) (by kernel_rfl) (fun _ _ _ h => h) (Or.inl ⟨by rfl, ?_⟩) (by assumption) ?_
          rotate_left
          · (intro w hSw; (try dsimp only at hSw); go_simp; try (with_reducible rfl))
          try simp only [Act.put, List.setIfInBounds_toArray, List.set_cons_zero, List.set_cons_succ]
          refine wpAnyH_take (i := 13) (oi := { dst := some 51, op := Op.move (Operand.tmp 0), type := 28, pos := "law.go:83", after := #[{ on := 12, ground := Ground.guard }], guard := some (12, false) }) (v := ?_) rfl (by kernel_rfl) (by kernel_rfl) (by kernel_rfl) (fun _ _ _ h => h) (Or.inl ⟨by rfl, ?_⟩) (by assumption) ?_
          rotate_left
          · (intro w hSw; (try dsimp only at hSw); go_simp; try (with_reducible rfl))
          try simp only [Act.put, List.setIfInBounds_toArray, List.set_cons_zero, List.set_cons_succ]
          refine wpAnyH_take (i := 14) (oi := { dst := some 52, op := Op.move (Operand.tmp 2), type := 9, pos := "law.go:83", after := #[{ on := 12, ground := Ground.guard }], guard := some (12, false) }) (v := ?_) rfl (by kernel_rfl) (by kernel_rfl) (by kernel_rfl) (fun _ _ _ h => h) (Or.inl ⟨by rfl, ?_⟩) (by assumption) ?_
          rotate_left
          · (intro w hSw; (try dsimp only at hSw); go_simp; try (with_reducible rfl))
          try simp only [Act.put, List.setIfInBounds_toArray, List.set_cons_zero, List.set_cons_succ]
          refine wpAnyH_take (i := 16) (oi := { dst := some 54, op := Op.move (Operand.tmp 1), type := 26, pos := "law.go:83", after := #[{ on := 12, ground := Ground.guard }], guard := some (12, false) }) (v := ?_) rfl (by kernel_rfl) (by kernel_rfl) (by kernel_rfl) (fun _ _ _ h => h) (Or.inl ⟨by rfl, ?_⟩) (by assumption) ?_
          rotate_left
          · (intro w hSw; (try dsimp only at hSw); go_simp; try (with_reducible rfl))
          try simp only [Act.put, List.setIfInBounds_toArray, List.set_cons_zero, List.set_cons_succ]
          refine wpAnyH_take (i := 17) (oi := { dst := some 55, op := Op.move (Operand.tmp 7), type := 3, pos := "law.go:83", after := #[{ on := 12, ground := Ground.guard }], guard := some (12, false) }) (v := ?_) rfl (by kernel_rfl) (by kernel_rfl) (by kernel_rfl) (fun _ _ _ h => h) (Or.inl ⟨by rfl, ?_⟩) (by assumption) ?_
          rotate_left
          · (intro w hSw; (try dsimp only at hSw); go_simp; try (with_reducible rfl))
          try simp only [Act.put, List.setIfInBounds_toArray, List.set_cons_zero, List.set_cons_succ]
          refine wpAnyH_take (i := 18) (oi := { dst := some 56, op := Op.indexAddr 26 (Operand.tmp 54) (Operand.tmp 55), type := 0, pos := "law.go:83", after := #[{ on := 16, ground := Ground.data }, { on := 17, ground := Ground.data }, { on := 12, ground := Ground.guard }], guard := some (12, false) }) (v := ?_) rfl (by kernel_rfl) (by kernel_rfl) (by kernel_rfl) (fun _ _ _ h => h) (Or.inl ⟨by rfl, ?_⟩) (by assumption) ?_
          rotate_left
          · (intro w hSw; (try dsimp only at hSw); go_simp; try (with_reducible rfl))
          try simp only [Act.put, List.setIfInBounds_toArray, List.set_cons_zero, List.set_cons_succ]
          refine wpAnyH_take (i := 19) (oi := { dst := some 57, op := Op.load 25 (Operand.tmp 56), type := 25, pos := "law.go:83", after := #[{ on := 18, ground := Ground.data }, { on := 12, ground := Ground.guard }], guard := some (12, false) }) (v := ?_) rfl (by kernel_rfl) (by kernel_rfl) (by kernel_rfl) (fun _ _ _ h => h) (Or.inl ⟨by rfl, ?_⟩) (by assumption) ?_
          rotate_left
          · (intro w hSw; (try dsimp only at hSw); go_simp; try (with_reducible rfl))
          try simp only [Act.put, List.setIfInBounds_toArray, List.set_cons_zero, List.set_cons_succ]
          refine wpAnyH_ready (rs := [15]) (by kernel_rfl) (by simp) ?_
          refine AllReadyH.cons (o := { dst := some 53, op := Op.call { callee := Callee.value (Operand.func 20), args := #[Operand.tmp 51, Operand.tmp 52], argTypes := #[28, 9] }, type := 25, pos := "law.go:83", after := #[{ on := 13, ground := Ground.data }, { on := 14, ground := Ground.data }, { on := 12, ground := Ground.chain }, { on := 12, ground := Ground.guard }], guard := some (12, false) }) rfl (fun K hK => ?_) AllReadyH.nil
          go_simp
          refine (hfin _ mW).mono ?_
          rintro _ w4 ⟨rfl, m4⟩
          replace mW := mW.then m4
          refine hK.out _ _ ?_ (fun hHeld => ?_)
          · exact hS _ mW
          clear hK K
          try simp only [Act.put, List.setIfInBounds_toArray, List.set_cons_zero, List.set_cons_succ]
          refine wpAnyH_ready (rs := [20]) (by kernel_rfl) (by simp) ?_
          refine AllReadyH.cons (o := { dst := some 58, op := Op.binOp BinOp.neq 25 (Operand.tmp 53) (Operand.tmp 57) 25, type := 4, pos := "law.go:83", after := #[{ on := 15, ground := Ground.data }, { on := 19, ground := Ground.data }, { on := 12, ground := Ground.guard }], guard := some (12, false) }) rfl (fun K hK => ?_) AllReadyH.nil
          refine wp_neqT 53 57 rfl x x rfl rfl (tbEq_self x) ?_
          refine hK.out _ _ ?_ (fun hHeld => ?_)
          · exact hS _ mW
          clear hK K
          try simp only [Act.put, List.setIfInBounds_toArray, List.set_cons_zero, List.set_cons_succ]
          refine wpAnyH_take (i := 21) (oi := { dst := some 59, op := Op.pick (Operand.tmp 50) (Operand.const (Value.bool true)) (Operand.tmp 58), type := 4, pos := "law.go:83", after := #[{ on := 12, ground := Ground.data }, { on := 20, ground := Ground.data }], guard := none }) (v := ?_) rfl (by kernel_rfl) (by kernel_rfl) (by kernel_rfl) (fun _ _ _ h => h) (Or.inl ⟨by rfl, ?_⟩) (by assumption) ?_
          rotate_left
          · (intro w hSw; (try dsimp only at hSw); go_simp; try (with_reducible rfl))
          try simp only [Act.put, List.setIfInBounds_toArray, List.set_cons_zero, List.set_cons_succ]
          refine wpAnyH_take (i := 22) (oi := { dst := some 60, op := Op.move (Operand.tmp 59), type := 4, pos := "law.go:83", after := #[{ on := 21, ground := Ground.data }, { on := 15, ground := Ground.chain }], guard := none }) (v := ?_) rfl (by kernel_rfl) (by kernel_rfl) (by kernel_rfl) (fun _ _ _ h => h) (Or.inl ⟨by rfl, ?_⟩) (by assumption) ?_
          rotate_left
          · (intro w hSw; (try dsimp only at hSw); go_simp; try (with_reducible rfl))
          try simp only [Act.put, List.setIfInBounds_toArray, List.set_cons_zero, List.set_cons_succ]
          refine wpAnyH_take (i := 23) (oi := { dst := some 61, op := Op.move (Operand.tmp 10), type := 4, pos := "law.go:83", after := #[{ on := 22, ground := Ground.guard }], guard := some (22, false) }) (v := ?_) rfl (by kernel_rfl) (by kernel_rfl) (by kernel_rfl) (fun _ _ _ h => h) (Or.inl ⟨by rfl, ?_⟩) (by assumption) ?_
          rotate_left
          · (intro w hSw; (try dsimp only at hSw); go_simp; try (with_reducible rfl))
          try simp only [Act.put, List.setIfInBounds_toArray, List.set_cons_zero, List.set_cons_succ]
          refine wpAnyH_take (i := 24) (oi := { dst := some 62, op := Op.move (Operand.tmp 7), type := 3, pos := "law.go:83", after := #[{ on := 22, ground := Ground.guard }], guard := some (22, false) }) (v := ?_) rfl (by kernel_rfl) (by kernel_rfl) (by kernel_rfl) (fun _ _ _ h => h) (Or.inl ⟨by rfl, ?_⟩) (by assumption) ?_
          rotate_left
          · (intro w hSw; (try dsimp only at hSw); go_simp; try (with_reducible rfl))
          try simp only [Act.put, List.setIfInBounds_toArray, List.set_cons_zero, List.set_cons_succ]
          refine wpAnyH_take (i := 25) (oi := { dst := some 63, op := Op.binOp BinOp.gtr 3 (Operand.tmp 62) (Operand.const (Value.int IntKind.i64 0)) 3, type := 4, pos := "law.go:83", after := #[{ on := 24, ground := Ground.data }, { on := 22, ground := Ground.guard }], guard := some (22, false) }) (v := ?_) rfl (by kernel_rfl) (by kernel_rfl) (by kernel_rfl) (fun _ _ _ h => h) (Or.inl ⟨by rfl, ?_⟩) (by assumption) ?_
          rotate_left
          · (intro w hSw; (try dsimp only at hSw); go_simp; try (with_reducible rfl))
          try simp only [Act.put, List.setIfInBounds_toArray, List.set_cons_zero, List.set_cons_succ]
          refine wpAnyH_take (i := 26) (oi := { dst := some 64, op := Op.binOp BinOp.neq 4 (Operand.tmp 61) (Operand.tmp 63) 4, type := 4, pos := "law.go:83", after := #[{ on := 23, ground := Ground.data }, { on := 25, ground := Ground.data }, { on := 22, ground := Ground.guard }], guard := some (22, false) }) (v := ?_) rfl (by kernel_rfl) (by kernel_rfl) (by kernel_rfl) (fun _ _ _ h => h) (Or.inl ⟨by rfl, ?_⟩) (by assumption) ?_
          rotate_left
          · (intro w hSw; (try dsimp only at hSw); go_simp; try (with_reducible rfl))
          try simp only [Act.put, List.setIfInBounds_toArray, List.set_cons_zero, List.set_cons_succ]
          refine wpAnyH_take (i := 27) (oi := { dst := some 65, op := Op.pick (Operand.tmp 60) (Operand.const (Value.bool true)) (Operand.tmp 64), type := 4, pos := "law.go:83", after := #[{ on := 22, ground := Ground.data }, { on := 26, ground := Ground.data }], guard := none }) (v := ?_) rfl (by kernel_rfl) (by kernel_rfl) (by kernel_rfl) (fun _ _ _ h => h) (Or.inl ⟨by rfl, ?_⟩) (by assumption) ?_
          rotate_left
          · (intro w hSw; (try dsimp only at hSw); go_simp; try (with_reducible rfl))
          try simp only [Act.put, List.setIfInBounds_toArray, List.set_cons_zero, List.set_cons_succ]
          refine wpAnyH_take (i := 28) (oi := { dst := some 66, op := Op.move (Operand.tmp 65), type := 4, pos := "law.go:83", after := #[{ on := 27, ground := Ground.data }, { on := 22, ground := Ground.chain }], guard := none }) (v := ?_) rfl (by kernel_rfl) (by kernel_rfl) (by kernel_rfl) (fun _ _ _ h => h) (Or.inl ⟨by rfl, ?_⟩) (by assumption) ?_
          rotate_left
          · (intro w hSw; (try dsimp only at hSw); go_simp; try (with_reducible rfl))
          try simp only [Act.put, List.setIfInBounds_toArray, List.set_cons_zero, List.set_cons_succ]
          refine wpAnyH_take (i := 29) (oi := { dst := some 67, op := Op.move (Operand.tmp 10), type := 4, pos := "law.go:83", after := #[{ on := 28, ground := Ground.guard }], guard := some (28, false) }) (v := ?_) rfl (by kernel_rfl) (by kernel_rfl) (by kernel_rfl) (fun _ _ _ h => h) (Or.inl ⟨by rfl, ?_⟩) (by assumption) ?_
          rotate_left
          · (intro w hSw; (try dsimp only at hSw); go_simp; try (with_reducible rfl))
          try simp only [Act.put, List.setIfInBounds_toArray, List.set_cons_zero, List.set_cons_succ]
          refine wpAnyH_take (i := 30) (oi := { dst := some 68, op := Op.move (Operand.tmp 67), type := 4, pos := "law.go:83", after := #[{ on := 29, ground := Ground.data }, { on := 28, ground := Ground.chain }, { on := 28, ground := Ground.guard }], guard := some (28, false) }) (v := ?_) rfl (by kernel_rfl) (by kernel_rfl) (by kernel_rfl) (fun _ _ _ h => h) (Or.inl ⟨by rfl, ?_⟩) (by assumption) ?_
          rotate_left
          · (intro w hSw; (try dsimp only at hSw); go_simp; try (with_reducible rfl))
          try simp only [Act.put, List.setIfInBounds_toArray, List.set_cons_zero, List.set_cons_succ]
          refine wpAnyH_take (i := 31) (oi := { dst := some 69, op := Op.load 25 (Operand.tmp 9), type := 25, pos := "law.go:83", after := #[{ on := 30, ground := Ground.guard }], guard := some (30, true) }) rfl (by kernel_rfl) (by kernel_rfl) (by kernel_rfl) (fun _ _ _ h => h) (Or.inr ⟨by rfl, rfl⟩) (by assumption) ?_
          try simp only [Act.put, List.setIfInBounds_toArray, List.set_cons_zero, List.set_cons_succ]
          refine wpAnyH_take (i := 32) (oi := { dst := some 70, op := Op.move (Operand.tmp 1), type := 26, pos := "law.go:83", after := #[{ on := 30, ground := Ground.guard }], guard := some (30, true) }) rfl (by kernel_rfl) (by kernel_rfl) (by kernel_rfl) (fun _ _ _ h => h) (Or.inr ⟨by rfl, rfl⟩) (by assumption) ?_
          try simp only [Act.put, List.setIfInBounds_toArray, List.set_cons_zero, List.set_cons_succ]
          refine wpAnyH_take (i := 33) (oi := { dst := some 71, op := Op.move (Operand.tmp 7), type := 3, pos := "law.go:83", after := #[{ on := 30, ground := Ground.guard }], guard := some (30, true) }) rfl (by kernel_rfl) (by kernel_rfl) (by kernel_rfl) (fun _ _ _ h => h) (Or.inr ⟨by rfl, rfl⟩) (by assumption) ?_
          try simp only [Act.put, List.setIfInBounds_toArray, List.set_cons_zero, List.set_cons_succ]
          refine wpAnyH_take (i := 34) (oi := { dst := some 72, op := Op.binOp BinOp.sub 3 (Operand.tmp 71) (Operand.const (Value.int IntKind.i64 1)) 3, type := 3, pos := "law.go:83", after := #[{ on := 33, ground := Ground.data }, { on := 30, ground := Ground.guard }], guard := some (30, true) }) rfl (by kernel_rfl) (by kernel_rfl) (by kernel_rfl) (fun _ _ _ h => h) (Or.inr ⟨by rfl, rfl⟩) (by assumption) ?_
          try simp only [Act.put, List.setIfInBounds_toArray, List.set_cons_zero, List.set_cons_succ]
          refine wpAnyH_take (i := 35) (oi := { dst := some 73, op := Op.indexAddr 26 (Operand.tmp 70) (Operand.tmp 72), type := 0, pos := "law.go:83", after := #[{ on := 32, ground := Ground.data }, { on := 34, ground := Ground.data }, { on := 30, ground := Ground.guard }], guard := some (30, true) }) rfl (by kernel_rfl) (by kernel_rfl) (by kernel_rfl) (fun _ _ _ h => h) (Or.inr ⟨by rfl, rfl⟩) (by assumption) ?_
          try simp only [Act.put, List.setIfInBounds_toArray, List.set_cons_zero, List.set_cons_succ]
          refine wpAnyH_take (i := 36) (oi := { dst := some 74, op := Op.load 25 (Operand.tmp 73), type := 25, pos := "law.go:83", after := #[{ on := 35, ground := Ground.data }, { on := 30, ground := Ground.guard }], guard := some (30, true) }) rfl (by kernel_rfl) (by kernel_rfl) (by kernel_rfl) (fun _ _ _ h => h) (Or.inr ⟨by rfl, rfl⟩) (by assumption) ?_
          try simp only [Act.put, List.setIfInBounds_toArray, List.set_cons_zero, List.set_cons_succ]
          refine wpAnyH_take (i := 37) (oi := { dst := some 75, op := Op.binOp BinOp.neq 25 (Operand.tmp 69) (Operand.tmp 74) 25, type := 4, pos := "law.go:83", after := #[{ on := 31, ground := Ground.data }, { on := 36, ground := Ground.data }, { on := 30, ground := Ground.guard }], guard := some (30, true) }) rfl (by kernel_rfl) (by kernel_rfl) (by kernel_rfl) (fun _ _ _ h => h) (Or.inr ⟨by rfl, rfl⟩) (by assumption) ?_
          try simp only [Act.put, List.setIfInBounds_toArray, List.set_cons_zero, List.set_cons_succ]
          refine wpAnyH_take (i := 38) (oi := { dst := some 76, op := Op.pick (Operand.tmp 68) (Operand.tmp 75) (Operand.const (Value.bool false)), type := 4, pos := "law.go:83", after := #[{ on := 30, ground := Ground.data }, { on := 37, ground := Ground.data }, { on := 28, ground := Ground.guard }], guard := some (28, false) }) (v := ?_) rfl (by kernel_rfl) (by kernel_rfl) (by kernel_rfl) (fun _ _ _ h => h) (Or.inl ⟨by rfl, ?_⟩) (by assumption) ?_
          rotate_left
          · (intro w hSw; (try dsimp only at hSw); go_simp; try (with_reducible rfl))
          try simp only [Act.put, List.setIfInBounds_toArray, List.set_cons_zero, List.set_cons_succ]
          refine wpAnyH_take (i := 39) (oi := { dst := some 77, op := Op.pick (Operand.tmp 66) (Operand.const (Value.bool true)) (Operand.tmp 76), type := 4, pos := "law.go:83", after := #[{ on := 28, ground := Ground.data }, { on := 38, ground := Ground.data }], guard := none }) (v := ?_) rfl (by kernel_rfl) (by kernel_rfl) (by kernel_rfl) (fun _ _ _ h => h) (Or.inl ⟨by rfl, ?_⟩) (by assumption) ?_
          rotate_left
          · (intro w hSw; (try dsimp only at hSw); go_simp; try (with_reducible rfl))
          try simp only [Act.put, List.setIfInBounds_toArray, List.set_cons_zero, List.set_cons_succ]
          refine wpAnyH_take (i := 40) (oi := { dst := some 78, op := Op.move (Operand.tmp 77), type := 4, pos := "law.go:83", after := #[{ on := 39, ground := Ground.data }, { on := 30, ground := Ground.chain }], guard := none }) (v := ?_) rfl (by kernel_rfl) (by kernel_rfl) (by kernel_rfl) (fun _ _ _ h => h) (Or.inl ⟨by rfl, ?_⟩) (by assumption) ?_
          rotate_left
          · (intro w hSw; (try dsimp only at hSw); go_simp; try (with_reducible rfl))
          try simp only [Act.put, List.setIfInBounds_toArray, List.set_cons_zero, List.set_cons_succ]
          refine wpAnyH_take (i := 41) (oi := { dst := some 79, op := Op.move (Operand.tmp 10), type := 4, pos := "law.go:83", after := #[{ on := 40, ground := Ground.guard }], guard := some (40, false) }) (v := ?_) rfl (by kernel_rfl) (by kernel_rfl) (by kernel_rfl) (fun _ _ _ h => h) (Or.inl ⟨by rfl, ?_⟩) (by assumption) ?_
          rotate_left
          · (intro w hSw; (try dsimp only at hSw); go_simp; try (with_reducible rfl))
          try simp only [Act.put, List.setIfInBounds_toArray, List.set_cons_zero, List.set_cons_succ]
          refine wpAnyH_take (i := 42) (oi := { dst := some 80, op := Op.unOp UnOp.not 4 (Operand.tmp 79), type := 4, pos := "law.go:83", after := #[{ on := 41, ground := Ground.data }, { on := 40, ground := Ground.guard }], guard := some (40, false) }) (v := ?_) rfl (by kernel_rfl) (by kernel_rfl) (by kernel_rfl) (fun _ _ _ h => h) (Or.inl ⟨by rfl, ?_⟩) (by assumption) ?_
          rotate_left
          · (intro w hSw; (try dsimp only at hSw); go_simp; try (with_reducible rfl))
          try simp only [Act.put, List.setIfInBounds_toArray, List.set_cons_zero, List.set_cons_succ]
          refine wpAnyH_take (i := 43) (oi := { dst := some 81, op := Op.move (Operand.tmp 80), type := 4, pos := "law.go:83", after := #[{ on := 42, ground := Ground.data }, { on := 40, ground := Ground.chain }, { on := 40, ground := Ground.guard }], guard := some (40, false) }) (v := ?_) rfl (by kernel_rfl) (by kernel_rfl) (by kernel_rfl) (fun _ _ _ h => h) (Or.inl ⟨by rfl, ?_⟩) (by assumption) ?_
          rotate_left
          · (intro w hSw; (try dsimp only at hSw); go_simp; try (with_reducible rfl))
          try simp only [Act.put, List.setIfInBounds_toArray, List.set_cons_zero, List.set_cons_succ]
          refine wpAnyH_take (i := 44) (oi := { dst := some 82, op := Op.load 25 (Operand.tmp 9), type := 25, pos := "law.go:83", after := #[{ on := 43, ground := Ground.guard }], guard := some (43, true) }) (v := ?_) rfl (by kernel_rfl) (by kernel_rfl) (by kernel_rfl) (fun _ _ _ h => h) (Or.inl ⟨by rfl, ?_⟩) (by assumption) ?_
          rotate_left
          · (intro w hSw; (try dsimp only at hSw); go_simp; try (with_reducible rfl))
          try simp only [Act.put, List.setIfInBounds_toArray, List.set_cons_zero, List.set_cons_succ]
          refine wpAnyH_take (i := 45) (oi := { dst := some 83, op := Op.build 25 #[], type := 25, pos := "law.go:83", after := #[{ on := 43, ground := Ground.guard }], guard := some (43, true) }) (v := ?_) rfl (by kernel_rfl) (by kernel_rfl) (by kernel_rfl) (fun _ _ _ h => h) (Or.inl ⟨by rfl, ?_⟩) (by assumption) ?_
          rotate_left
          · (intro w hSw; (try dsimp only at hSw); go_simp; try (with_reducible rfl))
          try simp only [Act.put, List.setIfInBounds_toArray, List.set_cons_zero, List.set_cons_succ]
          refine wpAnyH_ready (rs := [46]) (by kernel_rfl) (by simp) ?_
          refine AllReadyH.cons (o := { dst := some 84, op := Op.binOp BinOp.neq 25 (Operand.tmp 82) (Operand.tmp 83) 25, type := 4, pos := "law.go:83", after := #[{ on := 44, ground := Ground.data }, { on := 45, ground := Ground.data }, { on := 43, ground := Ground.guard }], guard := some (43, true) }) rfl (fun K hK => ?_) AllReadyH.nil
          refine wp_neqT 82 83 rfl b Ptb.zero rfl rfl hbz ?_
          refine hK.out _ _ ?_ (fun hHeld => ?_)
          · exact hS _ mW
          clear hK K
          try simp only [Act.put, List.setIfInBounds_toArray, List.set_cons_zero, List.set_cons_succ]
          refine wpAnyH_take (i := 47) (oi := { dst := some 85, op := Op.pick (Operand.tmp 81) (Operand.tmp 84) (Operand.const (Value.bool false)), type := 4, pos := "law.go:83", after := #[{ on := 43, ground := Ground.data }, { on := 46, ground := Ground.data }, { on := 40, ground := Ground.guard }], guard := some (40, false) }) (v := ?_) rfl (by kernel_rfl) (by kernel_rfl) (by kernel_rfl) (fun _ _ _ h => h) (Or.inl ⟨by rfl, ?_⟩) (by assumption) ?_
          rotate_left
          · (intro w hSw; (try dsimp only at hSw); go_simp; try (with_reducible rfl))
          try simp only [Act.put, List.setIfInBounds_toArray, List.set_cons_zero, List.set_cons_succ]
          refine wpAnyH_take (i := 48) (oi := { dst := some 86, op := Op.pick (Operand.tmp 78) (Operand.const (Value.bool true)) (Operand.tmp 85), type := 4, pos := "law.go:83", after := #[{ on := 40, ground := Ground.data }, { on := 47, ground := Ground.data }], guard := none }) (v := ?_) rfl (by kernel_rfl) (by kernel_rfl) (by kernel_rfl) (fun _ _ _ h => h) (Or.inl ⟨by rfl, ?_⟩) (by assumption) ?_
          rotate_left
          · (intro w hSw; (try dsimp only at hSw); go_simp; try (with_reducible rfl))
          try simp only [Act.put, List.setIfInBounds_toArray, List.set_cons_zero, List.set_cons_succ]
          refine wpAnyH_done (by kernel_rfl) ?_ _
          refine NoPanic.normal ?_
          exact ⟨rfl, by kernel_rfl, by kernel_rfl, mW⟩
      · rintro u w7 ⟨hu, m7⟩
        simp only [List.foldl_cons, List.foldl_nil, List.setIfInBounds_toArray, List.set_cons_zero, List.set_cons_succ, hu]
        clear hu
        generalize u 38 = u38
        generalize u 39 = u39
        generalize u 40 = u40
        generalize u 41 = u41
        generalize u 42 = u42
        generalize u 43 = u43
        generalize u 44 = u44
        generalize u 45 = u45
        generalize u 46 = u46
        generalize u 47 = u47
        generalize u 48 = u48
        generalize u 49 = u49
        generalize u 50 = u50
        generalize u 51 = u51
        generalize u 52 = u52
        generalize u 53 = u53
        generalize u 54 = u54
        generalize u 55 = u55
        generalize u 56 = u56
        generalize u 57 = u57
        generalize u 58 = u58
        generalize u 59 = u59
        generalize u 60 = u60
        generalize u 61 = u61
        generalize u 62 = u62
        generalize u 63 = u63
        generalize u 64 = u64
        generalize u 65 = u65
        generalize u 66 = u66
        generalize u 67 = u67
        generalize u 68 = u68
        generalize u 69 = u69
        generalize u 70 = u70
        generalize u 71 = u71
        generalize u 72 = u72
        generalize u 73 = u73
        generalize u 74 = u74
        generalize u 75 = u75
        generalize u 76 = u76
        generalize u 77 = u77
        generalize u 78 = u78
        generalize u 79 = u79
        generalize u 80 = u80
        generalize u 81 = u81
        generalize u 82 = u82
        generalize u 83 = u83
        generalize u 84 = u84
        generalize u 85 = u85
        have M7 : Moves [] w w7 := M5.then m7
        have HM7 : Hid (MtIs w7 p xs) := HM.out.moves0 M7
        clear hall hlen hfin mW x0 x1 x2 x3 d0 d1 d2 d3 hQ HTu HM6 m7 M5
        go_wp2_with fail
        refine (mtMetas_w w7 p xs HM7.out hne (by omega)).mono ?_
        rintro _ w8 ⟨v8, rfl, hMs, m8⟩
        obtain ⟨ad8, n8, cap8, rfl, hn8, hc8, HMs⟩ := hMs.open
        clear hMs
        go_wp2_with fail
        refine (mtRoot_w w8 p xs (HM7.out.moves0 m8) hne (by omega)).mono ?_
        rintro _ w9 ⟨v9, rfl, hZ, m9⟩
        obtain ⟨adz, capz, ez, hcz, hSt⟩ := hZ.at
        rw [List.length_map, ← hn8.out] at ez hcz
        subst ez
        have HSt : Hid (StrsAt w9 adz ((fours xs).map mLo)) := hSt
        have HMs9 : Hid (MsAt w7.heap.size w9 (.slice ad8 n8 cap8) (fours xs)) := HMs.out.moves0 m9
        have M9 : Moves [] w w9 := (M7.then m8).then m9
        have hn84 : n8 ≤ 4 := by rw [hn8.out, fours_len]; omega
        clear hZ hSt HMs m8 m9
        go_wp2_with fail
        go_loopw [13, 14] (fun vo vi wr => ∃ (i : Nat) (u : Value), i ≤ n8 ∧ u = vo ∧ vi = .int .i64 (i : Nat) ∧ Hid (OwnT wr u (((fours xs).take i).flatten)) ∧ Fresh w9 u ∧ Moves [] w9 wr) (fun _ vi _ => n8 - (intOf vi).toNat)
        case atStart => exact ⟨0, _, Nat.zero_le _, rfl, rfl, OwnT.nil _, Fresh.nil _, Moves.refl _ _⟩
        case round =>
          obtain ⟨i, vo, hi8, rfl, rfl, hO, hF, m3⟩ := hrel
          by_cases hlt : i < n8
          · have hk3 : (i : Int) < n8 := by omega
            obtain ⟨m, hm⟩ : ∃ m, (fours xs)[i]? = some m := ⟨_, List.getElem?_eq_getElem (by have := hn8.out; omega)⟩
            obtain ⟨g7, o7, u7, gu, e7, _, cu, hTu, _⟩ := HMs9.out.at hm
            subst e7
            obtain ⟨y, _, hlo, em, hm0⟩ := four_first hm
            obtain ⟨gz, oz, ez, cz⟩ := HSt.out i (mLo m) (by rw [List.getElem?_map, hm]; rfl)
            subst ez
            obtain ⟨lo0, hlo0⟩ : ∃ lo0, mLo m = lo0 := ⟨_, rfl⟩
            rw [hlo0] at cz hlo
            obtain ⟨adu, nu, capu, rfl, hnu, _, HTu⟩ := hTu.open
            obtain ⟨ou, eou, c0, _⟩ := HTu.out.at hm0
            subst eou
            rw [Nat.zero_mul, Nat.add_zero, ← hlo] at c0
            have hnu4 : nu ≤ 4 := by rw [hnu.out, em]; simp; omega
            have hnu1 : 1 ≤ nu := by rw [hnu.out]; have := (List.getElem?_eq_some_iff.1 hm0).1; omega
            have hnuI : ¬ (nu : Int) < 1 := by omega
            have hnuJ : ¬ (4 : Int) < nu := by omega
            have hnd1 : decide ((nu : Int) < 1) = false := decide_eq_false hnuI
            have hnd4 : decide ((4 : Int) < nu) = false := decide_eq_false hnuJ
            have hnp : (0 : Int) < nu := by omega
            have hnp0 : 0 < nu := by omega
            have hnp1 : ¬ nu = 0 := by omega
            have hS : ∀ w', Moves [] wr w' → (fun w' => w'.cell? ⟨g7, o7 + i, none⟩ = some (.slice (some ⟨gu, ou, none⟩) nu capu) ∧ w'.cell? ⟨gu, ou, none⟩ = some (.string lo0) ∧ w'.cell? ⟨gz, oz + i, none⟩ = some (.string lo0)) w' := fun w' m' => ⟨(m3.then m').cell cu, (m3.then m').cell c0, (m3.then m').cell cz⟩
            have mW : Moves [] wr wr.drew := (Moves.refl _ _).drew
            have HM0 : Hid ((fours xs)[i]? = some m) := hm
            have hflat : Hid ((((fours xs).take i).flatten).length + m.length ≤ 1048576) := by
              have e : ((fours xs).take (i + 1)).flatten = ((fours xs).take i).flatten ++ m := by rw [List.take_add_one, hm, List.flatten_append]; simp
              have e2 : ((fours xs).take (i + 1)).flatten.length ≤ xs.length := by
                have e3 : (fours xs).flatten = ((fours xs).take (i + 1)).flatten ++ ((fours xs).drop (i + 1)).flatten := by rw [← List.flatten_append, List.take_append_drop]
                rw [fours_flatten] at e3
                have := congrArg List.length e3
                rw [List.length_append] at this
                omega
              rw [e, List.length_append] at e2
              unfold Hid
              omega
            clear hm hTu hm0 em hlo hlo0 c0 cz
            go_wp2_with fail
            refine wp_some7 [102, 103, 104, 105, 106, 107, 108, 109, 110, 111, 112, 113, 114, 115, 116, 117, 118, 119, 120, 121, 122, 123, 124, 125, 126, 127, 128, 129, 130] (fun u w' => u 130 = .bool false ∧ Moves [] wr w') ?_ ?_
            · skip
              refine wp_region_noPanic ?_
              refine wp_region_held_drew (S := (fun w' => w'.cell? ⟨g7, o7 + i, none⟩ = some (.slice (some ⟨gu, ou, none⟩) nu capu) ∧ w'.cell? ⟨gu, ou, none⟩ = some (.string lo0) ∧ w'.cell? ⟨gz, oz + i, none⟩ = some (.string lo0))) (by kernel_rfl) ?_ (fun hHeld => ?_)
              · first | (go_keep; done) | exact hS _ mW
              refine wpAnyH_take (i := 0) (oi := { dst := some 102, op := Op.move (Operand.tmp 11), type := 27, pos := "law.go:92", after := #[], guard := none }) (v := ?_) rfl (by kernel_rfl) (by kernel_rfl) (by kernel_rfl) (fun _ _ _ h => h) (Or.inl ⟨by rfl, ?_⟩) (by assumption) ?_
              rotate_left
              · (intro w hSw; (try dsimp only at hSw); go_simp; try (with_reducible rfl))
              try simp only [Act.put, List.setIfInBounds_toArray, List.set_cons_zero, List.set_cons_succ]
              refine wpAnyH_take (i := 1) (oi := { dst := some 103, op := Op.move (Operand.tmp 14), type := 3, pos := "law.go:92", after := #[], guard := none }) (v := ?_) rfl (by kernel_rfl) (by kernel_rfl) (by kernel_rfl) (fun _ _ _ h => h) (Or.inl ⟨by rfl, ?_⟩) (by assumption) ?_
              rotate_left
              · (intro w hSw; (try dsimp only at hSw); go_simp; try (with_reducible rfl))
              try simp only [Act.put, List.setIfInBounds_toArray, List.set_cons_zero, List.set_cons_succ]
              refine wpAnyH_take (i := 2) (oi := { dst := some 104, op := Op.indexAddr 27 (Operand.tmp 102) (Operand.tmp 103), type := 0, pos := "law.go:92", after := #[{ on := 0, ground := Ground.data }, { on := 1, ground := Ground.data }], guard := none }) (v := ?_) rfl (by kernel_rfl) (by kernel_rfl) (by kernel_rfl) (fun _ _ _ h => h) (Or.inl ⟨by rfl, ?_⟩) (by assumption) ?_
              rotate_left
              · (intro w hSw; (try dsimp only at hSw); go_simp; try (with_reducible rfl))
              try simp only [Act.put, List.setIfInBounds_toArray, List.set_cons_zero, List.set_cons_succ]
              refine wpAnyH_take (i := 3) (oi := { dst := some 105, op := Op.load 26 (Operand.tmp 104), type := 26, pos := "law.go:92", after := #[{ on := 2, ground := Ground.data }], guard := none }) (v := ?_) rfl (by kernel_rfl) (by kernel_rfl) (by kernel_rfl) (fun _ _ _ h => h) (Or.inl ⟨by rfl, ?_⟩) (by assumption) ?_
              rotate_left
              · (intro w hSw; (try dsimp only at hSw); go_simp; try (with_reducible rfl))
              try simp only [Act.put, List.setIfInBounds_toArray, List.set_cons_zero, List.set_cons_succ]
              refine wpAnyH_take (i := 4) (oi := { dst := some 106, op := Op.call { callee := Callee.builtin Builtin.len, args := #[Operand.tmp 105], argTypes := #[26] }, type := 3, pos := "law.go:92", after := #[{ on := 3, ground := Ground.data }], guard := none }) (v := ?_) rfl (by kernel_rfl) (by kernel_rfl) (by kernel_rfl) (fun _ _ _ h => h) (Or.inl ⟨by rfl, ?_⟩) (by assumption) ?_
              rotate_left
              · (intro w hSw; (try dsimp only at hSw); go_simp; try (with_reducible rfl))
              try simp only [Act.put, List.setIfInBounds_toArray, List.set_cons_zero, List.set_cons_succ]
              refine wpAnyH_take (i := 5) (oi := { dst := some 107, op := Op.binOp BinOp.lss 3 (Operand.tmp 106) (Operand.const (Value.int IntKind.i64 1)) 3, type := 4, pos := "law.go:92", after := #[{ on := 4, ground := Ground.data }], guard := none }) (v := ?_) rfl (by kernel_rfl) (by kernel_rfl) (by kernel_rfl) (fun _ _ _ h => h) (Or.inl ⟨by rfl, ?_⟩) (by assumption) ?_
              rotate_left
              · (intro w hSw; (try dsimp only at hSw); go_simp; try (with_reducible rfl))
              try simp only [Act.put, List.setIfInBounds_toArray, List.set_cons_zero, List.set_cons_succ]
              refine wpAnyH_take (i := 6) (oi := { dst := some 108, op := Op.move (Operand.tmp 107), type := 4, pos := "law.go:92", after := #[{ on := 5, ground := Ground.data }], guard := none }) (v := ?_) rfl (by kernel_rfl) (by kernel_rfl) (by kernel_rfl) (fun _ _ _ h => h) (Or.inl ⟨by rfl, ?_⟩) (by assumption) ?_
              rotate_left
              · (intro w hSw; (try dsimp only at hSw); go_simp; try (with_reducible rfl))
              try simp only [Act.put, List.setIfInBounds_toArray, List.set_cons_zero, List.set_cons_succ]
              refine wpAnyH_take (i := 7) (oi := { dst := some 109, op := Op.move (Operand.tmp 11), type := 27, pos := "law.go:92", after := #[{ on := 6, ground := Ground.guard }], guard := some (6, false) }) (v := ?_) rfl (by kernel_rfl) (by kernel_rfl) (by kernel_rfl) (fun _ _ _ h => h) (Or.inl ⟨by rfl, ?_⟩) (by assumption) ?_
              rotate_left
              · (intro w hSw; (try dsimp only at hSw); go_simp; try (with_reducible rfl))
              try simp only [Act.put, List.setIfInBounds_toArray, List.set_cons_zero, List.set_cons_succ]
              refine wpAnyH_take (i := 8) (oi := { dst := some 110, op := Op.move (Operand.tmp 14), type := 3, pos := "law.go:92", after := #[{ on := 6, ground := Ground.guard }], guard := some (6, false) }) (v := ?_) rfl (by kernel_rfl) (by kernel_rfl) (by kernel_rfl) (fun _ _ _ h => h) (Or.inl ⟨by rfl, ?_⟩) (by assumption) ?_
              rotate_left
              · (intro w hSw; (try dsimp only at hSw); go_simp; try (with_reducible rfl))
              try simp only [Act.put, List.setIfInBounds_toArray, List.set_cons_zero, List.set_cons_succ]
              refine wpAnyH_take (i := 9) (oi := { dst := some 111, op := Op.indexAddr 27 (Operand.tmp 109) (Operand.tmp 110), type := 0, pos := "law.go:92", after := #[{ on := 7, ground := Ground.data }, { on := 8, ground := Ground.data }, { on := 6, ground := Ground.guard }], guard := some (6, false) }) (v := ?_) rfl (by kernel_rfl) (by kernel_rfl) (by kernel_rfl) (fun _ _ _ h => h) (Or.inl ⟨by rfl, ?_⟩) (by assumption) ?_
              rotate_left
              · (intro w hSw; (try dsimp only at hSw); go_simp; try (with_reducible rfl))
              try simp only [Act.put, List.setIfInBounds_toArray, List.set_cons_zero, List.set_cons_succ]
              refine wpAnyH_take (i := 10) (oi := { dst := some 112, op := Op.load 26 (Operand.tmp 111), type := 26, pos := "law.go:92", after := #[{ on := 9, ground := Ground.data }, { on := 6, ground := Ground.guard }], guard := some (6, false) }) (v := ?_) rfl (by kernel_rfl) (by kernel_rfl) (by kernel_rfl) (fun _ _ _ h => h) (Or.inl ⟨by rfl, ?_⟩) (by assumption) ?_
              rotate_left
              · (intro w hSw; (try dsimp only at hSw); go_simp; try (with_reducible rfl))
              try simp only [Act.put, List.setIfInBounds_toArray, List.set_cons_zero, List.set_cons_succ]
              refine wpAnyH_take (i := 11) (oi := { dst := some 113, op := Op.call { callee := Callee.builtin Builtin.len, args := #[Operand.tmp 112], argTypes := #[26] }, type := 3, pos := "law.go:92", after := #[{ on := 10, ground := Ground.data }, { on := 6, ground := Ground.guard }], guard := some (6, false) }) (v := ?_) rfl (by kernel_rfl) (by kernel_rfl) (by kernel_rfl) (fun _ _ _ h => h) (Or.inl ⟨by rfl, ?_⟩) (by assumption) ?_
              rotate_left
              · (intro w hSw; (try dsimp only at hSw); go_simp; try (with_reducible rfl))
              try simp only [Act.put, List.setIfInBounds_toArray, List.set_cons_zero, List.set_cons_succ]
              refine wpAnyH_take (i := 12) (oi := { dst := some 114, op := Op.binOp BinOp.gtr 3 (Operand.tmp 113) (Operand.const (Value.int IntKind.i64 4)) 3, type := 4, pos := "law.go:92", after := #[{ on := 11, ground := Ground.data }, { on := 6, ground := Ground.guard }], guard := some (6, false) }) (v := ?_) rfl (by kernel_rfl) (by kernel_rfl) (by kernel_rfl) (fun _ _ _ h => h) (Or.inl ⟨by rfl, ?_⟩) (by assumption) ?_
              rotate_left
              · (intro w hSw; (try dsimp only at hSw); go_simp; try (with_reducible rfl))
              try simp only [Act.put, List.setIfInBounds_toArray, List.set_cons_zero, List.set_cons_succ]
              refine wpAnyH_take (i := 13) (oi := { dst := some 115, op := Op.pick (Operand.tmp 108) (Operand.const (Value.bool true)) (Operand.tmp 114), type := 4, pos := "law.go:92", after := #[{ on := 6, ground := Ground.data }, { on := 12, ground := Ground.data }], guard := none }) (v := ?_) rfl (by kernel_rfl) (by kernel_rfl) (by kernel_rfl) (fun _ _ _ h => h) (Or.inl ⟨by rfl, ?_⟩) (by assumption) ?_
              rotate_left
              · (intro w hSw; (try dsimp only at hSw); go_simp; try (with_reducible rfl))
              try simp only [Act.put, List.setIfInBounds_toArray, List.set_cons_zero, List.set_cons_succ]
              refine wpAnyH_take (i := 14) (oi := { dst := some 116, op := Op.move (Operand.tmp 115), type := 4, pos := "law.go:92", after := #[{ on := 13, ground := Ground.data }, { on := 6, ground := Ground.chain }], guard := none }) (v := ?_) rfl (by kernel_rfl) (by kernel_rfl) (by kernel_rfl) (fun _ _ _ h => h) (Or.inl ⟨by rfl, ?_⟩) (by assumption) ?_
              rotate_left
              · (intro w hSw; (try dsimp only at hSw); go_simp; try (with_reducible rfl))
              try simp only [Act.put, List.setIfInBounds_toArray, List.set_cons_zero, List.set_cons_succ]
              refine wpAnyH_take (i := 15) (oi := { dst := some 117, op := Op.move (Operand.tmp 11), type := 27, pos := "law.go:92", after := #[{ on := 14, ground := Ground.guard }], guard := some (14, false) }) (v := ?_) rfl (by kernel_rfl) (by kernel_rfl) (by kernel_rfl) (fun _ _ _ h => h) (Or.inl ⟨by rfl, ?_⟩) (by assumption) ?_
              rotate_left
              · (intro w hSw; (try dsimp only at hSw); go_simp; try (with_reducible rfl))
              try simp only [Act.put, List.setIfInBounds_toArray, List.set_cons_zero, List.set_cons_succ]
              refine wpAnyH_take (i := 16) (oi := { dst := some 118, op := Op.move (Operand.tmp 14), type := 3, pos := "law.go:92", after := #[{ on := 14, ground := Ground.guard }], guard := some (14, false) }) (v := ?_) rfl (by kernel_rfl) (by kernel_rfl) (by kernel_rfl) (fun _ _ _ h => h) (Or.inl ⟨by rfl, ?_⟩) (by assumption) ?_
              rotate_left
              · (intro w hSw; (try dsimp only at hSw); go_simp; try (with_reducible rfl))
              try simp only [Act.put, List.setIfInBounds_toArray, List.set_cons_zero, List.set_cons_succ]
              refine wpAnyH_take (i := 17) (oi := { dst := some 119, op := Op.indexAddr 27 (Operand.tmp 117) (Operand.tmp 118), type := 0, pos := "law.go:92", after := #[{ on := 15, ground := Ground.data }, { on := 16, ground := Ground.data }, { on := 14, ground := Ground.guard }], guard := some (14, false) }) (v := ?_) rfl (by kernel_rfl) (by kernel_rfl) (by kernel_rfl) (fun _ _ _ h => h) (Or.inl ⟨by rfl, ?_⟩) (by assumption) ?_
              rotate_left
              · (intro w hSw; (try dsimp only at hSw); go_simp; try (with_reducible rfl))
              try simp only [Act.put, List.setIfInBounds_toArray, List.set_cons_zero, List.set_cons_succ]
              refine wpAnyH_take (i := 18) (oi := { dst := some 120, op := Op.load 26 (Operand.tmp 119), type := 26, pos := "law.go:92", after := #[{ on := 17, ground := Ground.data }, { on := 14, ground := Ground.guard }], guard := some (14, false) }) (v := ?_) rfl (by kernel_rfl) (by kernel_rfl) (by kernel_rfl) (fun _ _ _ h => h) (Or.inl ⟨by rfl, ?_⟩) (by assumption) ?_
              rotate_left
              · (intro w hSw; (try dsimp only at hSw); go_simp; try (with_reducible rfl))
              try simp only [Act.put, List.setIfInBounds_toArray, List.set_cons_zero, List.set_cons_succ]
              refine wpAnyH_take (i := 19) (oi := { dst := some 121, op := Op.indexAddr 26 (Operand.tmp 120) (Operand.const (Value.int IntKind.i64 0)), type := 0, pos := "law.go:92", after := #[{ on := 18, ground := Ground.data }, { on := 14, ground := Ground.guard }], guard := some (14, false) }) (v := ?_) rfl (by kernel_rfl) (by kernel_rfl) (by kernel_rfl) (fun _ _ _ h => h) (Or.inl ⟨by rfl, ?_⟩) (by assumption) ?_
              rotate_left
              · (intro w hSw; (try dsimp only at hSw); go_simp; try (with_reducible rfl))
              try simp only [Act.put, List.setIfInBounds_toArray, List.set_cons_zero, List.set_cons_succ]
              refine wpAnyH_take (i := 20) (oi := { dst := some 122, op := Op.fieldAddr 25 (Operand.tmp 121) 0, type := 0, pos := "law.go:92", after := #[{ on := 19, ground := Ground.data }, { on := 14, ground := Ground.guard }], guard := some (14, false) }) (v := ?_) rfl (by kernel_rfl) (by kernel_rfl) (by kernel_rfl) (fun _ _ _ h => h) (Or.inl ⟨by rfl, ?_⟩) (by assumption) ?_
              rotate_left
              · (intro w hSw; (try dsimp only at hSw); go_simp; try (with_reducible rfl))
              try simp only [Act.put, List.setIfInBounds_toArray, List.set_cons_zero, List.set_cons_succ]
              refine wpAnyH_take (i := 21) (oi := { dst := some 123, op := Op.fieldAddr 23 (Operand.tmp 122) 0, type := 0, pos := "law.go:92", after := #[{ on := 20, ground := Ground.data }, { on := 14, ground := Ground.guard }], guard := some (14, false) }) (v := ?_) rfl (by kernel_rfl) (by kernel_rfl) (by kernel_rfl) (fun _ _ _ h => h) (Or.inl ⟨by rfl, ?_⟩) (by assumption) ?_
              rotate_left
              · (intro w hSw; (try dsimp only at hSw); go_simp; try (with_reducible rfl))
              try simp only [Act.put, List.setIfInBounds_toArray, List.set_cons_zero, List.set_cons_succ]
              refine wpAnyH_take (i := 22) (oi := { dst := some 124, op := Op.load 9 (Operand.tmp 123), type := 9, pos := "law.go:92", after := #[{ on := 21, ground := Ground.data }, { on := 14, ground := Ground.guard }], guard := some (14, false) }) (v := ?_) rfl (by kernel_rfl) (by kernel_rfl) (by kernel_rfl) (fun _ _ _ h => h) (Or.inl ⟨by rfl, ?_⟩) (by assumption) ?_
              rotate_left
              · (intro w hSw; (try dsimp only at hSw); go_simp; try (with_reducible rfl))
              try simp only [Act.put, List.setIfInBounds_toArray, List.set_cons_zero, List.set_cons_succ]
              refine wpAnyH_take (i := 23) (oi := { dst := some 125, op := Op.move (Operand.tmp 12), type := 49, pos := "law.go:92", after := #[{ on := 14, ground := Ground.guard }], guard := some (14, false) }) (v := ?_) rfl (by kernel_rfl) (by kernel_rfl) (by kernel_rfl) (fun _ _ _ h => h) (Or.inl ⟨by rfl, ?_⟩) (by assumption) ?_
              rotate_left
              · (intro w hSw; (try dsimp only at hSw); go_simp; try (with_reducible rfl))
              try simp only [Act.put, List.setIfInBounds_toArray, List.set_cons_zero, List.set_cons_succ]
              refine wpAnyH_take (i := 24) (oi := { dst := some 126, op := Op.move (Operand.tmp 14), type := 3, pos := "law.go:92", after := #[{ on := 14, ground := Ground.guard }], guard := some (14, false) }) (v := ?_) rfl (by kernel_rfl) (by kernel_rfl) (by kernel_rfl) (fun _ _ _ h => h) (Or.inl ⟨by rfl, ?_⟩) (by assumption) ?_
              rotate_left
              · (intro w hSw; (try dsimp only at hSw); go_simp; try (with_reducible rfl))
              try simp only [Act.put, List.setIfInBounds_toArray, List.set_cons_zero, List.set_cons_succ]
              refine wpAnyH_take (i := 25) (oi := { dst := some 127, op := Op.indexAddr 49 (Operand.tmp 125) (Operand.tmp 126), type := 0, pos := "law.go:92", after := #[{ on := 23, ground := Ground.data }, { on := 24, ground := Ground.data }, { on := 14, ground := Ground.guard }], guard := some (14, false) }) (v := ?_) rfl (by kernel_rfl) (by kernel_rfl) (by kernel_rfl) (fun _ _ _ h => h) (Or.inl ⟨by rfl, ?_⟩) (by assumption) ?_
              rotate_left
              · (intro w hSw; (try dsimp only at hSw); go_simp; try (with_reducible rfl))
              try simp only [Act.put, List.setIfInBounds_toArray, List.set_cons_zero, List.set_cons_succ]
              refine wpAnyH_take (i := 26) (oi := { dst := some 128, op := Op.load 9 (Operand.tmp 127), type := 9, pos := "law.go:92", after := #[{ on := 25, ground := Ground.data }, { on := 14, ground := Ground.guard }], guard := some (14, false) }) (v := ?_) rfl (by kernel_rfl) (by kernel_rfl) (by kernel_rfl) (fun _ _ _ h => h) (Or.inl ⟨by rfl, ?_⟩) (by assumption) ?_
              rotate_left
              · (intro w hSw; (try dsimp only at hSw); go_simp; try (with_reducible rfl))
              try simp only [Act.put, List.setIfInBounds_toArray, List.set_cons_zero, List.set_cons_succ]
              refine wpAnyH_take (i := 27) (oi := { dst := some 129, op := Op.binOp BinOp.neq 9 (Operand.tmp 124) (Operand.tmp 128) 9, type := 4, pos := "law.go:92", after := #[{ on := 22, ground := Ground.data }, { on := 26, ground := Ground.data }, { on := 14, ground := Ground.guard }], guard := some (14, false) }) (v := ?_) rfl (by kernel_rfl) (by kernel_rfl) (by kernel_rfl) (fun _ _ _ h => h) (Or.inl ⟨by rfl, ?_⟩) (by assumption) ?_
              rotate_left
              · (intro w hSw; (try dsimp only at hSw); go_simp; try (with_reducible rfl))
              try simp only [Act.put, List.setIfInBounds_toArray, List.set_cons_zero, List.set_cons_succ]
              refine wpAnyH_take (i := 28) (oi := { dst := some 130, op := Op.pick (Operand.tmp 116) (Operand.const (Value.bool true)) (Operand.tmp 129), type := 4, pos := "law.go:92", after := #[{ on := 14, ground := Ground.data }, { on := 27, ground := Ground.data }], guard := none }) (v := ?_) rfl (by kernel_rfl) (by kernel_rfl) (by kernel_rfl) (fun _ _ _ h => h) (Or.inl ⟨by rfl, ?_⟩) (by assumption) ?_
              rotate_left
              · (intro w hSw; (try dsimp only at hSw); go_simp; try (with_reducible rfl))
              try simp only [Act.put, List.setIfInBounds_toArray, List.set_cons_zero, List.set_cons_succ]
              refine wpAnyH_done (by kernel_rfl) ?_ _
              refine NoPanic.normal ?_
              exact ⟨rfl, by kernel_rfl, by kernel_rfl, mW⟩
            · rintro u w10 ⟨hu, m10⟩
              simp only [List.foldl_cons, List.foldl_nil, List.setIfInBounds_toArray, List.set_cons_zero, List.set_cons_succ, hu]
              clear hu
              generalize u 102 = u102
              generalize u 103 = u103
              generalize u 104 = u104
              generalize u 105 = u105
              generalize u 106 = u106
              generalize u 107 = u107
              generalize u 108 = u108
              generalize u 109 = u109
              generalize u 110 = u110
              generalize u 111 = u111
              generalize u 112 = u112
              generalize u 113 = u113
              generalize u 114 = u114
              generalize u 115 = u115
              generalize u 116 = u116
              generalize u 117 = u117
              generalize u 118 = u118
              generalize u 119 = u119
              generalize u 120 = u120
              generalize u 121 = u121
              generalize u 122 = u122
              generalize u 123 = u123
              generalize u 124 = u124
              generalize u 125 = u125
              generalize u 126 = u126
              generalize u 127 = u127
              generalize u 128 = u128
              generalize u 129 = u129
              clear mW hS
              have cu10 := (m3.then m10).cell cu
              have HO10 : Hid (OwnT w10 vo (((fours xs).take i).flatten)) := hO.out.moves m10 (by simp)
              have HTu10 : Hid (TbL w10 gu (.slice (some ⟨gu, ou, none⟩) nu capu) m) := HTu.out.moves (m3.then m10) (by simp)
              have M310 : Moves [] w9 w10 := m3.then m10
              go_wp2_with (at_builtin; refine tabs_append _ _ rfl _ _ gu _ m rfl rfl rfl HO10.out HTu10.out hflat.out ?_; intro v' w4 hO4 m4 hla; obtain ⟨ad', n', cap', rfl, hn'⟩ := hO4.open)
              go_roundw
              case rel =>
                refine ⟨i + 1, _, by omega, rfl, by go_num, ?_, lain_fresh hF M310.size hla, fresh_trans M310 hF m4⟩
                unfold Hid
                rw [List.take_add_one, HM0.out, List.flatten_append]
                simpa using hO4
              case measure => simp [intOf]; omega
          · obtain rfl : i = n8 := by omega
            have hk3 : ¬ (i : Int) < i := by omega
            have e : (fours xs).take i = fours xs := List.take_of_length_le (by have := hn8.out; omega)
            rw [e, fours_flatten] at hO
            obtain ⟨gO, hTO, _⟩ := hO.out.ex hF
            obtain ⟨adO, nO, capO, rfl, hnO, _, HTO⟩ := hTO.open
            have Mr : Moves [] w wr := M9.then m3
            have hme := mtMeta_w wr p xs (HM.out.moves0 Mr) HC.out (by omega) s k HK.out
            obtain ⟨j4, hj4⟩ : ∃ j4, Hid (k / 4 = j4) := ⟨_, rfl⟩
            rw [hj4.out] at hme
            have hj4n : (j4 : Int) < i := by have := hn8.out; rw [fours_len] at this; have := HLK.out; have := hj4.out; omega
            clear hTO hO e
            go_wp2_with fail
            refine hme.mono ?_
            rintro _ w11 ⟨rfl, m11⟩
            have M11 : Moves [] w w11 := Mr.then m11
            have hsa := bookSame_yes w11 gO _ g _ xs (HTO.out.moves m11 (by simp)) (HT.out.moves M11 (by simp)) (by omega)
            clear hme
            go_wp2_with fail
            refine hsa.mono ?_
            rintro _ w12 ⟨rfl, m12⟩
            have M12 : Moves [] w w12 := M11.then m12
            have HMs12 : Hid (MsAt w7.heap.size w12 (.slice ad8 i cap8) (fours xs)) := HMs9.out.moves0 ((m3.then m11).then m12)
            have hj0 : ¬ (j4 : Int) < 0 := by omega
            have hjn : ¬ (i : Int) ≤ (j4 : Int) := by omega
            have hjd : decide (i ≤ j4) = false := decide_eq_false (by omega)
            have hjd2 : decide ((i : Int) ≤ (j4 : Int)) = false := decide_eq_false hjn
            have hj0d : decide ((j4 : Int) < 0) = false := decide_eq_false hj0
            clear hsa
            obtain ⟨m, hm⟩ : ∃ m, (fours xs)[j4]? = some m := ⟨_, List.getElem?_eq_getElem (by have := hn8.out; omega)⟩
            obtain ⟨g7, o7, u7, gu, e7, _, cu, hTu, _⟩ := HMs12.out.at hm
            subst e7
            obtain ⟨adu, nu, capu, rfl, hnu, _, HTu⟩ := hTu.open
            have hr4 : m[k % 4]? = some x := by
              obtain ⟨hin4, hget⟩ := four_in HK.out (by rw [hj4.out]; exact hm)
              have hlt4 := hin4.lt
              simp only [List.length_map] at hlt4
              have e := hget (k % 4) _ (List.getElem?_eq_getElem hlt4)
              have e2 : k / 4 * 4 + k % 4 = k := by omega
              rw [e2, HX.out] at e
              rw [List.getElem?_eq_getElem hlt4]
              exact e.symm
            have hnu4 : nu ≤ 4 := by
              rw [hnu.out]
              have e := hm
              rw [fours_get] at e
              split at e
              · simp at e; rw [← e]; simp; omega
              · simp at e
            obtain ⟨ou, eou, _⟩ := HTu.out.at hr4
            subst eou
            obtain ⟨_, e', x0, x1, x2, x3⟩ := (HT.out.moves M12 (by simp)).at HX.out
            simp only [Option.some.injEq, Addr.mk.injEq, and_true, true_and] at e'
            subst e'
            have HR4 : Hid (m[k % 4]? = some x) := hr4
            clear hm hTu hr4
            go_wp2_with fail
            go_loopw [16, 17] (fun vf vj wr => ∃ (j : Nat) (f : Bool), j ≤ nu ∧ vf = .bool f ∧ vj = .int .i64 (j : Nat) ∧ Hid (k % 4 < j → f = true) ∧ Moves [] w12 wr) (fun _ vj _ => nu - (intOf vj).toNat)
            case atStart => exact ⟨0, false, Nat.zero_le _, rfl, rfl, fun h => absurd h (by omega), Moves.refl _ _⟩
            case round =>
              obtain ⟨j, f, hjn', rfl, rfl, hf, m13⟩ := hrel
              have cu3 := m13.cell cu
              by_cases hju : j < nu
              · have hjI : (j : Int) < nu := by omega
                obtain ⟨y, hy⟩ : ∃ y, m[j]? = some y := ⟨_, List.getElem?_eq_getElem (by have := hnu.out; omega)⟩
                obtain ⟨ou', eou', y0, y1, y2, y3⟩ := HTu.out.at hy
                simp only [Option.some.injEq, Addr.mk.injEq, and_true, true_and] at eou'
                subst eou'
                have hS : ∀ w', Moves [] wr w' → (fun w' => w'.cell? ⟨g7, o7 + j4, none⟩ = some (.slice (some ⟨gu, ou, none⟩) nu capu) ∧ w'.cell? ⟨gu, ou + j * 4, none⟩ = some (.string y.lo) ∧ w'.cell? ⟨gu, ou + j * 4 + 1, none⟩ = some (.string y.hi) ∧ w'.cell? ⟨gu, ou + j * 4 + 2, none⟩ = some (.int .i64 y.g) ∧ w'.cell? ⟨gu, ou + j * 4 + 3, none⟩ = some (.int .i64 y.n) ∧ w'.cell? ⟨g, off + k * 4, none⟩ = some (.string x.lo) ∧ w'.cell? ⟨g, off + k * 4 + 1, none⟩ = some (.string x.hi) ∧ w'.cell? ⟨g, off + k * 4 + 2, none⟩ = some (.int .i64 x.g) ∧ w'.cell? ⟨g, off + k * 4 + 3, none⟩ = some (.int .i64 x.n)) w' := fun w' m' => ⟨m'.cell cu3, (m13.then m').cell y0, (m13.then m').cell y1, (m13.then m').cell y2, (m13.then m').cell y3, (m13.then m').cell x0, (m13.then m').cell x1, (m13.then m').cell x2, (m13.then m').cell x3⟩
                have mW : Moves [] wr wr.drew := (Moves.refl _ _).drew
                have HY : Hid (m[j]? = some y) := hy
                clear hy y0 y1 y2 y3
                go_wp2_with fail
                refine wp_some7 [163, 164, 165, 166, 167, 168, 169, 170, 171, 172, 173, 174, 175, 176, 177, 16] (fun u w' => u 16 = .bool (f || tbEq y x) ∧ Moves [] wr w') ?_ ?_
                · cases f with
                  | false =>
                    refine wp_region_noPanic ?_
                    refine wp_region_held_drew (S := (fun w' => w'.cell? ⟨g7, o7 + j4, none⟩ = some (.slice (some ⟨gu, ou, none⟩) nu capu) ∧ w'.cell? ⟨gu, ou + j * 4, none⟩ = some (.string y.lo) ∧ w'.cell? ⟨gu, ou + j * 4 + 1, none⟩ = some (.string y.hi) ∧ w'.cell? ⟨gu, ou + j * 4 + 2, none⟩ = some (.int .i64 y.g) ∧ w'.cell? ⟨gu, ou + j * 4 + 3, none⟩ = some (.int .i64 y.n) ∧ w'.cell? ⟨g, off + k * 4, none⟩ = some (.string x.lo) ∧ w'.cell? ⟨g, off + k * 4 + 1, none⟩ = some (.string x.hi) ∧ w'.cell? ⟨g, off + k * 4 + 2, none⟩ = some (.int .i64 x.g) ∧ w'.cell? ⟨g, off + k * 4 + 3, none⟩ = some (.int .i64 x.n))) (by kernel_rfl) ?_ (fun hHeld => ?_)
                    · first | (go_keep; done) | exact hS _ mW
                    refine wpAnyH_take (i := 0) (oi := { dst := some 163, op := Op.move (Operand.tmp 16), type := 4, pos := "law.go:103", after := #[], guard := none }) (v := ?_) rfl (by kernel_rfl) (by kernel_rfl) (by kernel_rfl) (fun _ _ _ h => h) (Or.inl ⟨by rfl, ?_⟩) (by assumption) ?_
                    rotate_left
                    · (intro w hSw; (try dsimp only at hSw); go_simp; try (with_reducible rfl))
                    try simp only [Act.put, List.setIfInBounds_toArray, List.set_cons_zero, List.set_cons_succ]
                    refine wpAnyH_take (i := 1) (oi := { dst := some 164, op := Op.move (Operand.tmp 163), type := 4, pos := "law.go:103", after := #[{ on := 0, ground := Ground.data }], guard := none }) (v := ?_) rfl (by kernel_rfl) (by kernel_rfl) (by kernel_rfl) (fun _ _ _ h => h) (Or.inl ⟨by rfl, ?_⟩) (by assumption) ?_
                    rotate_left
                    · (intro w hSw; (try dsimp only at hSw); go_simp; try (with_reducible rfl))
                    try simp only [Act.put, List.setIfInBounds_toArray, List.set_cons_zero, List.set_cons_succ]
                    refine wpAnyH_take (i := 2) (oi := { dst := some 165, op := Op.move (Operand.tmp 11), type := 27, pos := "law.go:103", after := #[{ on := 1, ground := Ground.guard }], guard := some (1, false) }) (v := ?_) rfl (by kernel_rfl) (by kernel_rfl) (by kernel_rfl) (fun _ _ _ h => h) (Or.inl ⟨by rfl, ?_⟩) (by assumption) ?_
                    rotate_left
                    · (intro w hSw; (try dsimp only at hSw); go_simp; try (with_reducible rfl))
                    try simp only [Act.put, List.setIfInBounds_toArray, List.set_cons_zero, List.set_cons_succ]
                    refine wpAnyH_take (i := 3) (oi := { dst := some 166, op := Op.move (Operand.tmp 15), type := 3, pos := "law.go:103", after := #[{ on := 1, ground := Ground.guard }], guard := some (1, false) }) (v := ?_) rfl (by kernel_rfl) (by kernel_rfl) (by kernel_rfl) (fun _ _ _ h => h) (Or.inl ⟨by rfl, ?_⟩) (by assumption) ?_
                    rotate_left
                    · (intro w hSw; (try dsimp only at hSw); go_simp; try (with_reducible rfl))
                    try simp only [Act.put, List.setIfInBounds_toArray, List.set_cons_zero, List.set_cons_succ]
                    refine wpAnyH_take (i := 4) (oi := { dst := some 167, op := Op.indexAddr 27 (Operand.tmp 165) (Operand.tmp 166), type := 0, pos := "law.go:103", after := #[{ on := 2, ground := Ground.data }, { on := 3, ground := Ground.data }, { on := 1, ground := Ground.guard }], guard := some (1, false) }) (v := ?_) rfl (by kernel_rfl) (by kernel_rfl) (by kernel_rfl) (fun _ _ _ h => h) (Or.inl ⟨by rfl, ?_⟩) (by assumption) ?_
                    rotate_left
                    · (intro w hSw; (try dsimp only at hSw); go_simp; try (with_reducible rfl))
                    try simp only [Act.put, List.setIfInBounds_toArray, List.set_cons_zero, List.set_cons_succ]
                    refine wpAnyH_take (i := 5) (oi := { dst := some 168, op := Op.load 26 (Operand.tmp 167), type := 26, pos := "law.go:103", after := #[{ on := 4, ground := Ground.data }, { on := 1, ground := Ground.guard }], guard := some (1, false) }) (v := ?_) rfl (by kernel_rfl) (by kernel_rfl) (by kernel_rfl) (fun _ _ _ h => h) (Or.inl ⟨by rfl, ?_⟩) (by assumption) ?_
                    rotate_left
                    · (intro w hSw; (try dsimp only at hSw); go_simp; try (with_reducible rfl))
                    try simp only [Act.put, List.setIfInBounds_toArray, List.set_cons_zero, List.set_cons_succ]
                    refine wpAnyH_take (i := 6) (oi := { dst := some 169, op := Op.move (Operand.tmp 17), type := 3, pos := "law.go:103", after := #[{ on := 1, ground := Ground.guard }], guard := some (1, false) }) (v := ?_) rfl (by kernel_rfl) (by kernel_rfl) (by kernel_rfl) (fun _ _ _ h => h) (Or.inl ⟨by rfl, ?_⟩) (by assumption) ?_
                    rotate_left
                    · (intro w hSw; (try dsimp only at hSw); go_simp; try (with_reducible rfl))
                    try simp only [Act.put, List.setIfInBounds_toArray, List.set_cons_zero, List.set_cons_succ]
                    refine wpAnyH_take (i := 7) (oi := { dst := some 170, op := Op.indexAddr 26 (Operand.tmp 168) (Operand.tmp 169), type := 0, pos := "law.go:103", after := #[{ on := 5, ground := Ground.data }, { on := 6, ground := Ground.data }, { on := 1, ground := Ground.guard }], guard := some (1, false) }) (v := ?_) rfl (by kernel_rfl) (by kernel_rfl) (by kernel_rfl) (fun _ _ _ h => h) (Or.inl ⟨by rfl, ?_⟩) (by assumption) ?_
                    rotate_left
                    · (intro w hSw; (try dsimp only at hSw); go_simp; try (with_reducible rfl))
                    try simp only [Act.put, List.setIfInBounds_toArray, List.set_cons_zero, List.set_cons_succ]
                    refine wpAnyH_take (i := 8) (oi := { dst := some 171, op := Op.load 25 (Operand.tmp 170), type := 25, pos := "law.go:103", after := #[{ on := 7, ground := Ground.data }, { on := 1, ground := Ground.guard }], guard := some (1, false) }) (v := ?_) rfl (by kernel_rfl) (by kernel_rfl) (by kernel_rfl) (fun _ _ _ h => h) (Or.inl ⟨by rfl, ?_⟩) (by assumption) ?_
                    rotate_left
                    · (intro w hSw; (try dsimp only at hSw); go_simp; try (with_reducible rfl))
                    try simp only [Act.put, List.setIfInBounds_toArray, List.set_cons_zero, List.set_cons_succ]
                    refine wpAnyH_take (i := 9) (oi := { dst := some 172, op := Op.move (Operand.tmp 1), type := 26, pos := "law.go:103", after := #[{ on := 1, ground := Ground.guard }], guard := some (1, false) }) (v := ?_) rfl (by kernel_rfl) (by kernel_rfl) (by kernel_rfl) (fun _ _ _ h => h) (Or.inl ⟨by rfl, ?_⟩) (by assumption) ?_
                    rotate_left
                    · (intro w hSw; (try dsimp only at hSw); go_simp; try (with_reducible rfl))
                    try simp only [Act.put, List.setIfInBounds_toArray, List.set_cons_zero, List.set_cons_succ]
                    refine wpAnyH_take (i := 10) (oi := { dst := some 173, op := Op.move (Operand.tmp 7), type := 3, pos := "law.go:103", after := #[{ on := 1, ground := Ground.guard }], guard := some (1, false) }) (v := ?_) rfl (by kernel_rfl) (by kernel_rfl) (by kernel_rfl) (fun _ _ _ h => h) (Or.inl ⟨by rfl, ?_⟩) (by assumption) ?_
                    rotate_left
                    · (intro w hSw; (try dsimp only at hSw); go_simp; try (with_reducible rfl))
                    try simp only [Act.put, List.setIfInBounds_toArray, List.set_cons_zero, List.set_cons_succ]
                    refine wpAnyH_take (i := 11) (oi := { dst := some 174, op := Op.indexAddr 26 (Operand.tmp 172) (Operand.tmp 173), type := 0, pos := "law.go:103", after := #[{ on := 9, ground := Ground.data }, { on := 10, ground := Ground.data }, { on := 1, ground := Ground.guard }], guard := some (1, false) }) (v := ?_) rfl (by kernel_rfl) (by kernel_rfl) (by kernel_rfl) (fun _ _ _ h => h) (Or.inl ⟨by rfl, ?_⟩) (by assumption) ?_
                    rotate_left
                    · (intro w hSw; (try dsimp only at hSw); go_simp; try (with_reducible rfl))
                    try simp only [Act.put, List.setIfInBounds_toArray, List.set_cons_zero, List.set_cons_succ]
                    refine wpAnyH_take (i := 12) (oi := { dst := some 175, op := Op.load 25 (Operand.tmp 174), type := 25, pos := "law.go:103", after := #[{ on := 11, ground := Ground.data }, { on := 1, ground := Ground.guard }], guard := some (1, false) }) (v := ?_) rfl (by kernel_rfl) (by kernel_rfl) (by kernel_rfl) (fun _ _ _ h => h) (Or.inl ⟨by rfl, ?_⟩) (by assumption) ?_
                    rotate_left
                    · (intro w hSw; (try dsimp only at hSw); go_simp; try (with_reducible rfl))
                    try simp only [Act.put, List.setIfInBounds_toArray, List.set_cons_zero, List.set_cons_succ]
                    refine wpAnyH_ready (rs := [13]) (by kernel_rfl) (by simp) ?_
                    refine AllReadyH.cons (o := { dst := some 176, op := Op.binOp BinOp.eql 25 (Operand.tmp 171) (Operand.tmp 175) 25, type := 4, pos := "law.go:103", after := #[{ on := 8, ground := Ground.data }, { on := 12, ground := Ground.data }, { on := 1, ground := Ground.guard }], guard := some (1, false) }) rfl (fun K hK => ?_) AllReadyH.nil
                    refine wp_eql25 171 175 rfl y x rfl rfl ?_
                    refine hK.out _ _ ?_ (fun hHeld => ?_)
                    · exact hS _ mW
                    clear hK K
                    try simp only [Act.put, List.setIfInBounds_toArray, List.set_cons_zero, List.set_cons_succ]
                    refine wpAnyH_take (i := 14) (oi := { dst := some 177, op := Op.pick (Operand.tmp 164) (Operand.const (Value.bool true)) (Operand.tmp 176), type := 4, pos := "law.go:103", after := #[{ on := 1, ground := Ground.data }, { on := 13, ground := Ground.data }], guard := none }) (v := ?_) rfl (by kernel_rfl) (by kernel_rfl) (by kernel_rfl) (fun _ _ _ h => h) (Or.inl ⟨by rfl, ?_⟩) (by assumption) ?_
                    rotate_left
                    · (intro w hSw; (try dsimp only at hSw); go_simp; try (with_reducible rfl))
                    try simp only [Act.put, List.setIfInBounds_toArray, List.set_cons_zero, List.set_cons_succ]
                    refine wpAnyH_take (i := 15) (oi := { dst := some 16, op := Op.assign (Operand.tmp 177), type := 4, pos := "law.go:103", after := #[{ on := 14, ground := Ground.data }, { on := 1, ground := Ground.chain }, { on := 0, ground := Ground.phase }, { on := 1, ground := Ground.phase }, { on := 2, ground := Ground.phase }, { on := 3, ground := Ground.phase }, { on := 4, ground := Ground.phase }, { on := 5, ground := Ground.phase }, { on := 6, ground := Ground.phase }, { on := 7, ground := Ground.phase }, { on := 8, ground := Ground.phase }, { on := 9, ground := Ground.phase }, { on := 10, ground := Ground.phase }, { on := 11, ground := Ground.phase }, { on := 12, ground := Ground.phase }, { on := 13, ground := Ground.phase }, { on := 14, ground := Ground.phase }], guard := none }) (v := ?_) rfl (by kernel_rfl) (by kernel_rfl) (by kernel_rfl) (fun _ _ _ h => h) (Or.inl ⟨by rfl, ?_⟩) (by assumption) ?_
                    rotate_left
                    · (intro w hSw; (try dsimp only at hSw); go_simp; try (with_reducible rfl))
                    try simp only [Act.put, List.setIfInBounds_toArray, List.set_cons_zero, List.set_cons_succ]
                    refine wpAnyH_done (by kernel_rfl) ?_ _
                    refine NoPanic.normal ?_
                    exact ⟨rfl, by kernel_rfl, by kernel_rfl, mW⟩
                  | true =>
                    refine wp_region_noPanic ?_
                    refine wp_region_held_drew (S := (fun w' => w'.cell? ⟨g7, o7 + j4, none⟩ = some (.slice (some ⟨gu, ou, none⟩) nu capu) ∧ w'.cell? ⟨gu, ou + j * 4, none⟩ = some (.string y.lo) ∧ w'.cell? ⟨gu, ou + j * 4 + 1, none⟩ = some (.string y.hi) ∧ w'.cell? ⟨gu, ou + j * 4 + 2, none⟩ = some (.int .i64 y.g) ∧ w'.cell? ⟨gu, ou + j * 4 + 3, none⟩ = some (.int .i64 y.n) ∧ w'.cell? ⟨g, off + k * 4, none⟩ = some (.string x.lo) ∧ w'.cell? ⟨g, off + k * 4 + 1, none⟩ = some (.string x.hi) ∧ w'.cell? ⟨g, off + k * 4 + 2, none⟩ = some (.int .i64 x.g) ∧ w'.cell? ⟨g, off + k * 4 + 3, none⟩ = some (.int .i64 x.n))) (by kernel_rfl) ?_ (fun hHeld => ?_)
                    · first | (go_keep; done) | exact hS _ mW
                    refine wpAnyH_take (i := 0) (oi := { dst := some 163, op := Op.move (Operand.tmp 16), type := 4, pos := "law.go:103", after := #[], guard := none }) (v := ?_) rfl (by kernel_rfl) (by kernel_rfl) (by kernel_rfl) (fun _ _ _ h => h) (Or.inl ⟨by rfl, ?_⟩) (by assumption) ?_
                    rotate_left
                    · (intro w hSw; (try dsimp only at hSw); go_simp; try (with_reducible rfl))
                    try simp only [Act.put, List.setIfInBounds_toArray, List.set_cons_zero, List.set_cons_succ]
                    refine wpAnyH_take (i := 1) (oi := { dst := some 164, op := Op.move (Operand.tmp 163), type := 4, pos := "law.go:103", after := #[{ on := 0, ground := Ground.data }], guard := none }) (v := ?_) rfl (by kernel_rfl) (by kernel_rfl) (by kernel_rfl) (fun _ _ _ h => h) (Or.inl ⟨by rfl, ?_⟩) (by assumption) ?_
                    rotate_left
                    · (intro w hSw; (try dsimp only at hSw); go_simp; try (with_reducible rfl))
                    try simp only [Act.put, List.setIfInBounds_toArray, List.set_cons_zero, List.set_cons_succ]
                    refine wpAnyH_take (i := 2) (oi := { dst := some 165, op := Op.move (Operand.tmp 11), type := 27, pos := "law.go:103", after := #[{ on := 1, ground := Ground.guard }], guard := some (1, false) }) rfl (by kernel_rfl) (by kernel_rfl) (by kernel_rfl) (fun _ _ _ h => h) (Or.inr ⟨by rfl, rfl⟩) (by assumption) ?_
                    try simp only [Act.put, List.setIfInBounds_toArray, List.set_cons_zero, List.set_cons_succ]
                    refine wpAnyH_take (i := 3) (oi := { dst := some 166, op := Op.move (Operand.tmp 15), type := 3, pos := "law.go:103", after := #[{ on := 1, ground := Ground.guard }], guard := some (1, false) }) rfl (by kernel_rfl) (by kernel_rfl) (by kernel_rfl) (fun _ _ _ h => h) (Or.inr ⟨by rfl, rfl⟩) (by assumption) ?_
                    try simp only [Act.put, List.setIfInBounds_toArray, List.set_cons_zero, List.set_cons_succ]
                    refine wpAnyH_take (i := 4) (oi := { dst := some 167, op := Op.indexAddr 27 (Operand.tmp 165) (Operand.tmp 166), type := 0, pos := "law.go:103", after := #[{ on := 2, ground := Ground.data }, { on := 3, ground := Ground.data }, { on := 1, ground := Ground.guard }], guard := some (1, false) }) rfl (by kernel_rfl) (by kernel_rfl) (by kernel_rfl) (fun _ _ _ h => h) (Or.inr ⟨by rfl, rfl⟩) (by assumption) ?_
                    try simp only [Act.put, List.setIfInBounds_toArray, List.set_cons_zero, List.set_cons_succ]
                    refine wpAnyH_take (i := 5) (oi := { dst := some 168, op := Op.load 26 (Operand.tmp 167), type := 26, pos := "law.go:103", after := #[{ on := 4, ground := Ground.data }, { on := 1, ground := Ground.guard }], guard := some (1, false) }) rfl (by kernel_rfl) (by kernel_rfl) (by kernel_rfl) (fun _ _ _ h => h) (Or.inr ⟨by rfl, rfl⟩) (by assumption) ?_
                    try simp only [Act.put, List.setIfInBounds_toArray, List.set_cons_zero, List.set_cons_succ]
                    refine wpAnyH_take (i := 6) (oi := { dst := some 169, op := Op.move (Operand.tmp 17), type := 3, pos := "law.go:103", after := #[{ on := 1, ground := Ground.guard }], guard := some (1, false) }) rfl (by kernel_rfl) (by kernel_rfl) (by kernel_rfl) (fun _ _ _ h => h) (Or.inr ⟨by rfl, rfl⟩) (by assumption) ?_
                    try simp only [Act.put, List.setIfInBounds_toArray, List.set_cons_zero, List.set_cons_succ]
                    refine wpAnyH_take (i := 7) (oi := { dst := some 170, op := Op.indexAddr 26 (Operand.tmp 168) (Operand.tmp 169), type := 0, pos := "law.go:103", after := #[{ on := 5, ground := Ground.data }, { on := 6, ground := Ground.data }, { on := 1, ground := Ground.guard }], guard := some (1, false) }) rfl (by kernel_rfl) (by kernel_rfl) (by kernel_rfl) (fun _ _ _ h => h) (Or.inr ⟨by rfl, rfl⟩) (by assumption) ?_
                    try simp only [Act.put, List.setIfInBounds_toArray, List.set_cons_zero, List.set_cons_succ]
                    refine wpAnyH_take (i := 8) (oi := { dst := some 171, op := Op.load 25 (Operand.tmp 170), type := 25, pos := "law.go:103", after := #[{ on := 7, ground := Ground.data }, { on := 1, ground := Ground.guard }], guard := some (1, false) }) rfl (by kernel_rfl) (by kernel_rfl) (by kernel_rfl) (fun _ _ _ h => h) (Or.inr ⟨by rfl, rfl⟩) (by assumption) ?_
                    try simp only [Act.put, List.setIfInBounds_toArray, List.set_cons_zero, List.set_cons_succ]
                    refine wpAnyH_take (i := 9) (oi := { dst := some 172, op := Op.move (Operand.tmp 1), type := 26, pos := "law.go:103", after := #[{ on := 1, ground := Ground.guard }], guard := some (1, false) }) rfl (by kernel_rfl) (by kernel_rfl) (by kernel_rfl) (fun _ _ _ h => h) (Or.inr ⟨by rfl, rfl⟩) (by assumption) ?_
                    try simp only [Act.put, List.setIfInBounds_toArray, List.set_cons_zero, List.set_cons_succ]
                    refine wpAnyH_take (i := 10) (oi := { dst := some 173, op := Op.move (Operand.tmp 7), type := 3, pos := "law.go:103", after := #[{ on := 1, ground := Ground.guard }], guard := some (1, false) }) rfl (by kernel_rfl) (by kernel_rfl) (by kernel_rfl) (fun _ _ _ h => h) (Or.inr ⟨by rfl, rfl⟩) (by assumption) ?_
                    try simp only [Act.put, List.setIfInBounds_toArray, List.set_cons_zero, List.set_cons_succ]
                    refine wpAnyH_take (i := 11) (oi := { dst := some 174, op := Op.indexAddr 26 (Operand.tmp 172) (Operand.tmp 173), type := 0, pos := "law.go:103", after := #[{ on := 9, ground := Ground.data }, { on := 10, ground := Ground.data }, { on := 1, ground := Ground.guard }], guard := some (1, false) }) rfl (by kernel_rfl) (by kernel_rfl) (by kernel_rfl) (fun _ _ _ h => h) (Or.inr ⟨by rfl, rfl⟩) (by assumption) ?_
                    try simp only [Act.put, List.setIfInBounds_toArray, List.set_cons_zero, List.set_cons_succ]
                    refine wpAnyH_take (i := 12) (oi := { dst := some 175, op := Op.load 25 (Operand.tmp 174), type := 25, pos := "law.go:103", after := #[{ on := 11, ground := Ground.data }, { on := 1, ground := Ground.guard }], guard := some (1, false) }) rfl (by kernel_rfl) (by kernel_rfl) (by kernel_rfl) (fun _ _ _ h => h) (Or.inr ⟨by rfl, rfl⟩) (by assumption) ?_
                    try simp only [Act.put, List.setIfInBounds_toArray, List.set_cons_zero, List.set_cons_succ]
                    refine wpAnyH_take (i := 13) (oi := { dst := some 176, op := Op.binOp BinOp.eql 25 (Operand.tmp 171) (Operand.tmp 175) 25, type := 4, pos := "law.go:103", after := #[{ on := 8, ground := Ground.data }, { on := 12, ground := Ground.data }, { on := 1, ground := Ground.guard }], guard := some (1, false) }) rfl (by kernel_rfl) (by kernel_rfl) (by kernel_rfl) (fun _ _ _ h => h) (Or.inr ⟨by rfl, rfl⟩) (by assumption) ?_
                    try simp only [Act.put, List.setIfInBounds_toArray, List.set_cons_zero, List.set_cons_succ]
                    refine wpAnyH_take (i := 14) (oi := { dst := some 177, op := Op.pick (Operand.tmp 164) (Operand.const (Value.bool true)) (Operand.tmp 176), type := 4, pos := "law.go:103", after := #[{ on := 1, ground := Ground.data }, { on := 13, ground := Ground.data }], guard := none }) (v := ?_) rfl (by kernel_rfl) (by kernel_rfl) (by kernel_rfl) (fun _ _ _ h => h) (Or.inl ⟨by rfl, ?_⟩) (by assumption) ?_
                    rotate_left
                    · (intro w hSw; (try dsimp only at hSw); go_simp; try (with_reducible rfl))
                    try simp only [Act.put, List.setIfInBounds_toArray, List.set_cons_zero, List.set_cons_succ]
                    refine wpAnyH_take (i := 15) (oi := { dst := some 16, op := Op.assign (Operand.tmp 177), type := 4, pos := "law.go:103", after := #[{ on := 14, ground := Ground.data }, { on := 1, ground := Ground.chain }, { on := 0, ground := Ground.phase }, { on := 1, ground := Ground.phase }, { on := 2, ground := Ground.phase }, { on := 3, ground := Ground.phase }, { on := 4, ground := Ground.phase }, { on := 5, ground := Ground.phase }, { on := 6, ground := Ground.phase }, { on := 7, ground := Ground.phase }, { on := 8, ground := Ground.phase }, { on := 9, ground := Ground.phase }, { on := 10, ground := Ground.phase }, { on := 11, ground := Ground.phase }, { on := 12, ground := Ground.phase }, { on := 13, ground := Ground.phase }, { on := 14, ground := Ground.phase }], guard := none }) (v := ?_) rfl (by kernel_rfl) (by kernel_rfl) (by kernel_rfl) (fun _ _ _ h => h) (Or.inl ⟨by rfl, ?_⟩) (by assumption) ?_
                    rotate_left
                    · (intro w hSw; (try dsimp only at hSw); go_simp; try (with_reducible rfl))
                    try simp only [Act.put, List.setIfInBounds_toArray, List.set_cons_zero, List.set_cons_succ]
                    refine wpAnyH_done (by kernel_rfl) ?_ _
                    refine NoPanic.normal ?_
                    exact ⟨rfl, by kernel_rfl, by kernel_rfl, mW⟩
                · rintro u w14 ⟨hu, m14⟩
                  simp only [List.foldl_cons, List.foldl_nil, List.setIfInBounds_toArray, List.set_cons_zero, List.set_cons_succ, hu]
                  clear hu
                  generalize u 163 = u163
                  generalize u 164 = u164
                  generalize u 165 = u165
                  generalize u 166 = u166
                  generalize u 167 = u167
                  generalize u 168 = u168
                  generalize u 169 = u169
                  generalize u 170 = u170
                  generalize u 171 = u171
                  generalize u 172 = u172
                  generalize u 173 = u173
                  generalize u 174 = u174
                  generalize u 175 = u175
                  generalize u 176 = u176
                  generalize u 177 = u177
                  clear mW hS
                  go_wp2_with fail
                  go_roundw
                  case rel =>
                    refine ⟨j + 1, _, by omega, rfl, by go_num, fun hlt => ?_, m13.then m14⟩
                    by_cases hjr : k % 4 < j
                    · rw [hf.out hjr]; rfl
                    · have e : k % 4 = j := by omega
                      have h1 := HR4.out
                      rw [e, HY.out] at h1
                      simp at h1
                      subst h1
                      rw [tbEq_self]
                      simp
                  case measure => simp [intOf]; omega
              · obtain rfl : j = nu := by omega
                have hk3 : ¬ (j : Int) < j := by omega
                have hft : f = true := by
                  refine hf.out ?_
                  have := (List.getElem?_eq_some_iff.1 HR4.out).1
                  have := hnu.out
                  omega
                subst hft
                go_wp2_with fail
                go_ret
                exact ⟨rfl, M12.then m13⟩
end Go.Proofs.Ytbjbljkcodkebaa
