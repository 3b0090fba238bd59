/-
  Proved: NumTotals returns true for every slice of words and every drawn number, and its arguments read as before. No condition.
-/
import Derived.Test.YtncmdbhbmbfdfaaTotals1
import Derived.BigQuiet
import Derived.ProofKit
import Derived.OpenShut
import Derived.ChangeOld
namespace Go.Proofs.Ytncmdbhbmbfdfaa
open Go.RowKit

theorem zero_eq : (FloatKind.f64.format.order 0 0 == some .eq) = true := by decide

theorem totals_none_w (a : Option Addr) (cap : Nat) (n : Int) (w : World) :
    Calls Try.prog 7 #[.slice a 0 cap, .int .i64 n] w fun e w' => e = .returned (.bool true) ∧ Below w.heap.size w w' := by
  have z := zero_eq
  go_enter Try.func7, Try.ntmps7
  go_wp2
  go_loop [5, 6] (fun x i => x = .slice none 0 0 ∧ i = .int .i64 0) (fun _ _ => 0)
  case atStart => exact ⟨rfl, rfl⟩
  case round =>
    obtain ⟨rfl, rfl⟩ := hrel
    go_wp2_with (first
      | (go_at_call 27; refine (total_none_w _ _ _).mono ?_; rintro _ _ ⟨rfl, rfl⟩)
      | (go_at_call 12; refine (known_w _).mono ?_; rintro _ _ ⟨rfl, hs⟩))
    go_ret
    exact ⟨rfl, hs.below _⟩

/-- The cells of a row of words. -/
def Words (w : World) (b off n : Nat) (us : List Nat) : Prop := ∀ i, i < n → w.cell? ⟨b, off + i, none⟩ = some (.int .u64 (nth us i : Nat))

/-- What holds of the row that is gathered. -/
def Gathered (w wr : World) (xv : Value) (k : Nat) (zs : List Nat) : Prop :=
  AllFit zs ∧ zs.length = k ∧ wr.ownsRow w.heap.size 25 1 xv k (vals zs k) ∧ (k = 0 → xv = .slice none 0 0) ∧ Below w.heap.size w wr

theorem append_one {ops : Array Oper} {rest : List Oper} {o : Oper} {a : Act} {Q : Exit → Act → World → Prop} (s x : Operand) (hgd : o.guard = none)
    (ho : o.op = .call { callee := .builtin .append, args := #[s, x], argTypes := #[22, 22] }) (w wr : World) (xv : Value) (k p : Nat) (zs : List Nat)
    (hs : a.eval s = xv) (hx : a.eval x = .slice (some ⟨wr.heap.size, 0, none⟩) 1 1) (hG : Gathered w wr xv k zs) (hp : Pl.Fits p) (hk : k ≤ 10)
    (h : ∀ v' w', Gathered w w' v' (k + 1) (zs ++ [p]) → wpList Try.prog ops Q rest (a.put o.dst v') w') :
    wpList Try.prog ops Q (o :: rest) a (wr.alloc (.cells #[.float .f64 p] 25)) := by
  obtain ⟨i0, hi, hz0, hz1, hz2⟩ := info_parts Try.info25
  obtain ⟨hfz, hzl, hown, hnil, hbel⟩ := hG
  have hbel2 : Below w.heap.size w (wr.alloc (.cells #[.float .f64 p] 25)) := hbel.alloc hbel.size _
  refine wpList_append_own _ hgd s x 22 ho w.heap.size 25 i0 (.float .f64 0) 1 8 Try.underlying22 hi hz0 hz1 hz2 rfl (by decide) _ _ _ hs (hown.alloc _) ⟨wr.heap.size, 0, none⟩ 1 1 [.float .f64 p] hx rfl ?_ ?_ (by unfold maxLen; omega) (by omega) hbel2.size ?_
  · intro j u hj
    match j with
    | 0 =>
      simp at hj
      subst hj
      have e : (⟨wr.heap.size, 0, none⟩ : Addr).add 0 = ⟨wr.heap.size, 0, none⟩ := rfl
      rw [e]
      show (match (wr.heap.push (.cells #[.float .f64 p] 25))[wr.heap.size]? with | some (.cells c _ _) => if false then none else c[0]? | _ => none) = _
      simp
    | j + 1 => simp at hj
  · intro u hu
    simp at hu
    subst hu
    rfl
  · intro v' w' ho' hg' hn'
    rw [vals_snoc zs p k hzl] at ho'
    have hr : ∀ r, xv.ownBlock = some r → w.heap.size ≤ r := by
      intro r hr
      obtain ⟨_, ⟨rfl, _⟩ | ⟨g, c, cur, rfl, hb, _⟩⟩ := hown
      · simp [Value.ownBlock] at hr
      · simp [Value.ownBlock] at hr; omega
    exact h v' w' ⟨fits_snoc hfz hp, by simp [hzl], ho', fun e => by omega, hbel2.grown hg' hbel2.size hr⟩

theorem quiet_same {f : FuncId} {args : Array Value} {w : World} {n : Nat} {v : Value}
    (h : Calls Try.prog f args (w.drewN n) fun e w' => e = .returned v ∧ w.drewN n = w') : Calls Try.prog f args (w.drewN n) fun e w'' => e = .returned v ∧ ∃ m, w'' = w.drewN m :=
  Calls.quiet_of_same (h.mono fun _ _ k => ⟨k.1, k.2.symm⟩)

set_option maxHeartbeats 2000000 in
theorem totals_row_w (b off len cap : Nat) (us : List Nat) (n : Int) (w : World) (h1 : 1 ≤ len) (hm : len ≤ 9223372036854775807) (hcell : Words w b off len us) (hf : AllFit us) :
    Calls Try.prog 7 #[.slice (some ⟨b, off, none⟩) len cap, .int .i64 n] w fun e w' => e = .returned (.bool true) ∧ Below w.heap.size w w' := by
  have z := zero_eq
  have i1 : (0 : Int) < (len : Int) := by omega
  go_enter Try.func7, Try.ntmps7
  go_wp2
  go_loopw [5, 6] (fun x i wr => ∃ (k : Nat) (zs : List Nat), k ≤ len ∧ k ≤ 10 ∧ i = .int .i64 k ∧ Gathered w wr x k zs) (fun _ i _ => len - (intOf i).toNat)
  case atStart => exact ⟨0, [], Nat.zero_le _, Nat.zero_le _, rfl, fun i => by unfold nth Pl.Fits; simp, rfl, World.ownsRow_nil _ _ _ _, fun _ => rfl, Below.refl _ _⟩
  case round =>
    obtain ⟨k, zs, hk, hk10, rfl, hG⟩ := hrel
    have hck : k < len → wr.cell? ⟨b, off + k, none⟩ = some (.int .u64 (nth us k : Nat)) := fun h => by
      have hc := hcell k h
      rw [hG.2.2.2.2.cell (lt_of_cell hc)]; exact hc
    have f1 := hf k
    rcases Nat.eq_zero_or_pos k with rfl | hkp
    · have hx := hG.2.2.2.1 rfl
      subst hx
      have hck0 : wr.cell? ⟨b, off, none⟩ = some (.int .u64 (nth us 0 : Nat)) := hck (by omega)
      clear hck
      go_wp2_with (first
        | (go_at_call 13; refine (float_w _ _ (by assumption) _).mono ?_; rintro _ _ ⟨p, hp, rfl, rfl⟩)
        | (at_builtin; refine append_one _ _ rfl rfl _ _ _ _ _ _ rfl rfl hG hp hk10 ?_; intro v' w' hG'; clear hG hck0))
      exact ⟨⟨1, _, by omega, by omega, rfl, hG'⟩, by simp [intOf]; omega⟩
    · obtain ⟨g, xc, hx, hxc, hfl⟩ := owned_floats hG.2.2.1 hkp
      subst hx
      go_wp2_with (first
        | (go_at_call 13; refine (float_w _ _ (by assumption) _).mono ?_; rintro _ _ ⟨p, hp, rfl, rfl⟩)
        | (at_builtin; refine append_one _ _ rfl rfl _ _ _ _ _ _ rfl rfl hG hp hk10 ?_; intro v' w' hG'; clear hG hck))
      · exact ⟨⟨k + 1, _, by omega, by omega, by go_num, hG'⟩, by simp [intOf]; omega⟩
      all_goals clear hcell hck f1 hf
      all_goals have hfz := hG.1
      all_goals have hbel : Below w.heap.size w wr := hG.2.2.2.2
      all_goals clear hG
      all_goals have hfl1 : Floats wr g 0 1 zs := fun i hi => hfl i (by omega)
      all_goals have e1 : (1 : Nat) ≤ 1 := Nat.le_refl _
      all_goals have e2 : 1 ≤ xc := by omega
      all_goals have e3 : (1 : Nat) ≤ 9223372036854775807 := by omega
      all_goals have e4 : k ≤ 9223372036854775807 := by omega
      all_goals have e5 : 1 ≤ k := hkp
      all_goals go_wp2_with (first
        | (go_at_call 28; refine (least_w _ _ _ _ zs _ (by assumption) (by assumption) (by assumption) (by assumption) (by assumption)).mono ?_; rintro _ _ ⟨rfl, rfl⟩)
        | (go_at_call 29; refine (most_w _ _ _ _ zs _ (by assumption) (by assumption) (by assumption) (by assumption) (by assumption)).mono ?_; rintro _ _ ⟨rfl, rfl⟩)
        | (go_at_call 27; refine (total_w _ _ _ _ zs _ (by assumption) (by assumption) (by assumption) (by assumption)).mono ?_; rintro _ w1 ⟨rfl, hs1⟩))
      · go_loopw [11, 12] (fun t i w2 => ∃ j : Nat, j ≤ k - 1 ∧ t = .float .f64 (tot zs j) ∧ i = .int .i64 ((j + 1 : Nat) : Int) ∧ Still wr w2) (fun _ i _ => k - (intOf i).toNat)
        case atStart => exact ⟨0, Nat.zero_le _, rfl, rfl, hs1⟩
        case round =>
          obtain ⟨j, hj, rfl, rfl, hst⟩ := hrel
          have hfl2 := hfl.still hst
          have hfl3 := hfl1.still hst
          have hcj : (j : Int) + 1 < (k : Int) → wr.cell? ⟨g, j + 1, none⟩ = some (.float .f64 (nth zs (j + 1))) := fun h => by
            have := hfl2 (j + 1) (by omega)
            rw [Nat.zero_add] at this; exact this
          have hb2 := hbel.trans (hst.below _)
          have c0 := hfl2.head hkp
          have hstH : Hid (Still _ wr) := hst
          clear hfl hfl1 hs1 hbel hst
          go_wp2_with (first | (go_at_call 23; refine (sum_w _ _ _).mono ?_; rintro _ w3 ⟨rfl, hs3⟩))
          · exact ⟨⟨j + 1, by omega, rfl, by go_num, hstH.out.trans hs3⟩, by simp [intOf]; omega⟩
          · have hj' : j = k - 1 := by omega
            subst hj'
            have fa : Pl.Fits (Pl.canon (far (-1) zs (k - 1))) := Pl.fits_canon (far_fits hfz _)
            have fb : Pl.Fits (Pl.canon (far 1 zs (k - 1))) := Pl.fits_canon (far_fits hfz _)
            have hd := low_top zs (k - 1)
            have he : Pl.canon (tot zs 0) = Pl.canon (nth zs 0) := Pl.canon_canon _
            have k1 : (1 : Int) ≤ (xc : Int) := by omega
            have kp : (0 : Int) < (k : Int) := by omega
            clear hcj
            go_quiet (first
              | (go_at_call 18; refine quiet_same (order_w _ _ (by assumption) (by assumption) _))
              | (go_at_call 27; refine Calls.quiet_of (total_w _ _ _ _ zs _ (by assumption) (by assumption) (by assumption) (Floats.still (by assumption) ⟨_, rfl⟩)))
              | (go_at_call 19; refine quiet_same (numBits_w _ _))
              | (go_at_call 15; refine quiet_same (bits_w _ _))
              | (go_at_call 12; refine Calls.quiet_of (known_w _)))
            go_wp2
            go_ret
            exact ⟨rfl, hb2.trans (Still.below ⟨_, rfl⟩ _)⟩
      · go_loopw [11, 12] (fun t i w2 => ∃ j : Nat, j ≤ k - 1 ∧ t = .float .f64 (tot zs j) ∧ i = .int .i64 ((j + 1 : Nat) : Int) ∧ Still wr w2) (fun _ i _ => k - (intOf i).toNat)
        case atStart => exact ⟨0, Nat.zero_le _, rfl, rfl, hs1⟩
        case round =>
          obtain ⟨j, hj, rfl, rfl, hst⟩ := hrel
          have hfl2 := hfl.still hst
          have hfl3 := hfl1.still hst
          have hcj : (j : Int) + 1 < (k : Int) → wr.cell? ⟨g, j + 1, none⟩ = some (.float .f64 (nth zs (j + 1))) := fun h => by
            have := hfl2 (j + 1) (by omega)
            rw [Nat.zero_add] at this; exact this
          have hb2 := hbel.trans (hst.below _)
          have c0 := hfl2.head hkp
          have hstH : Hid (Still _ wr) := hst
          clear hfl hfl1 hs1 hbel hst
          go_wp2_with (first | (go_at_call 23; refine (sum_w _ _ _).mono ?_; rintro _ w3 ⟨rfl, hs3⟩))
          · exact ⟨⟨j + 1, by omega, rfl, by go_num, hstH.out.trans hs3⟩, by simp [intOf]; omega⟩
          · have hj' : j = k - 1 := by omega
            subst hj'
            have fa : Pl.Fits (Pl.canon (far (-1) zs (k - 1))) := Pl.fits_canon (far_fits hfz _)
            have fb : Pl.Fits (Pl.canon (far 1 zs (k - 1))) := Pl.fits_canon (far_fits hfz _)
            have hd := low_top zs (k - 1)
            have he : Pl.canon (tot zs 0) = Pl.canon (nth zs 0) := Pl.canon_canon _
            have k1 : (1 : Int) ≤ (xc : Int) := by omega
            have kp : (0 : Int) < (k : Int) := by omega
            clear hcj
            go_quiet (first
              | (go_at_call 18; refine quiet_same (order_w _ _ (by assumption) (by assumption) _))
              | (go_at_call 27; refine Calls.quiet_of (total_w _ _ _ _ zs _ (by assumption) (by assumption) (by assumption) (Floats.still (by assumption) ⟨_, rfl⟩)))
              | (go_at_call 19; refine quiet_same (numBits_w _ _))
              | (go_at_call 15; refine quiet_same (bits_w _ _))
              | (go_at_call 12; refine Calls.quiet_of (known_w _)))
            go_wp2
            go_ret
            exact ⟨rfl, hb2.trans (Still.below ⟨_, rfl⟩ _)⟩

/-- A slice of words: empty, or a row in memory. -/
def IsWs (w : World) (a : Option Addr) (len _cap : Nat) (us : List Nat) : Prop :=
  len = 0 ∨ ∃ b off, a = some ⟨b, off, none⟩ ∧ 1 ≤ len ∧ len ≤ 9223372036854775807 ∧ Words w b off len us ∧ AllFit us

theorem totals_any (a : Option Addr) (len cap : Nat) (us : List Nat) (n : Int) (w : World) (h : IsWs w a len cap us) :
    Calls Try.prog 7 #[.slice a len cap, .int .i64 n] w fun e w' => e = .returned (.bool true) ∧ Below w.heap.size w w' := by
  rcases h with rfl | ⟨b, off, rfl, h1, h2, h3, h4⟩
  · exact totals_none_w a cap n w
  · exact totals_row_w b off len cap us n w h1 h2 h3 h4

theorem isWs_of {W : World} {x : Addr} {len cap : Nat} {zs : List Int} (hl : len ≤ cap) (hm : cap ≤ maxLen) (hz : zs.length = cap) (hcell : ∀ i, i < zs.length → W.cell? (x.add i) = some (.int .u64 (zs.getD i 0))) (hw : ∀ n ∈ zs, (Lit.int .u64 n).wf = true) :
    ∃ us, IsWs W (some x) len cap us := by
  by_cases h0 : len = 0
  · exact ⟨[], .inl h0⟩
  · have bd : ∀ i, i < zs.length → 0 ≤ zs.getD i 0 ∧ zs.getD i 0 ≤ 18446744073709551615 := fun i hi => by
      have hmem : zs.getD i 0 ∈ zs := by
        rw [List.getD_eq_getElem?_getD, List.getElem?_eq_getElem hi]
        exact List.getElem_mem hi
      simpa [Lit.wf, IntKind.min, IntKind.max, IntKind.signed, IntKind.bits] using hw _ hmem
    have hn : ∀ i, i < zs.length → nth (zs.map Int.toNat) i = (zs.getD i 0).toNat := fun i hi => by
      simp [nth, List.getElem?_eq_getElem hi]
    have hn0 : ∀ i, ¬ i < zs.length → nth (zs.map Int.toNat) i = 0 := fun i hi => by
      unfold nth
      rw [List.getD_eq_getElem?_getD, List.getElem?_eq_none (by simp; omega)]
      rfl
    have c0 := hcell 0 (by omega)
    obtain ⟨b, off, spot⟩ := x
    have hspot : spot = none := by simpa [Addr.add] using World.cell?_spot c0
    subst hspot
    refine ⟨zs.map Int.toNat, .inr ⟨b, off, rfl, by omega, by unfold maxLen at hm; omega, fun i hi => ?_, fun i => ?_⟩⟩
    · have ci := hcell i (by omega)
      have e : (⟨b, off, none⟩ : Addr).add i = ⟨b, off + i, none⟩ := by unfold Addr.add; split <;> simp_all
      rw [e] at ci
      have := bd i (by omega)
      rw [ci, hn i (by omega)]
      congr 2
      omega
    · by_cases hi : i < zs.length
      · have := bd i hi
        rw [hn i hi]; unfold Pl.Fits; omega
      · rw [hn0 i hi]; exact fits_zero

open Go.ChangeShapes Go.WideShapes Go.ChangeAt
set_option linter.unusedVariables false
theorem totals_own : ownKnob Try.prog.godebug = none := by kernel_rfl
theorem totals_laidOut : laidOutB Try.prog = true := by kernel_rfl

set_option maxRecDepth 100000 in
theorem totals_lifted (os : Os) (started : os.Started) (H : Type) (enc : TypeId × Value → H) :
    ReturnsInHanded {} Try.checked os 7 .any (Rows.numTotalsSpec.pre6 enc Try.prog Try.f7 Rows.numTotalsRow.domain false) (Rows.numTotalsSpec.post enc Try.prog Try.f7 false true false false) := by
  refine returnsInHanded_of_change (C := Try.checked) totals_own started (by kernel_rfl) Try.func7
    (ChangeSpec.witness6 (enc := enc) (C := Try.checked) false ⟨#[], #[.slice none 0 0, .int .i64 0], []⟩ 8 (by kernel_rfl) (by kernel_rfl) (by kernel_rfl) (by kernel_rfl)) ?_
  intro W base args ds gs before hval0 hW hcnd _
  have hval : ∀ (j : Nat) t v, Try.f7.params[j]? = some t → args[j]? = some v → Value.okWide Try.prog W .any base t v := hval0
  have hW' := hW
  obtain ⟨p, q, hA0, hV, rfl, hfz, hnd⟩ := hW
  have hA : DataW.TrodAll enc Try.prog W 0 (fun _ => true) true Try.f7.params.toList args.toList ds p := hA0
  rw [Try.params7] at hA hval
  obtain ⟨v0, vs0, d0, ds0, p0, q0, hargs, rfl, rfl, h0, r0⟩ := trodAll_cons hA
  obtain ⟨v1, vs1, d1, ds1, p1, q1, rfl, rfl, rfl, h1, r1⟩ := trodAll_cons r0
  obtain ⟨rfl, rfl, rfl⟩ := trodAll_nil r1
  obtain rfl : args = #[v0, v1] := by cases args; simp_all
  obtain ⟨rfl, rfl⟩ := trodVars_none hV
  obtain ⟨a0, len0, cap0, rfl⟩ := okWide_slice Try.underlying41 (hval 0 41 v0 rfl rfl)
  have k0 := h0
  have lt0 : ∀ x ∈ p0, x.block < W.heap.size := by obtain ⟨m, hm⟩ := k0; exact DataW.trod_lt m _ _ _ hm
  obtain ⟨z0, w0⟩ : ∃ zs, IsWs W a0 len0 cap0 zs := by
    obtain ⟨fuel, hf⟩ := h0
    rcases open_ints Try.underlying41 Try.underlying28 (by kernel_rfl) hf with ⟨hcs, _⟩ | ⟨x, l, c, zs, hcs, _, hl, hm, hz, _, hcell, hwz⟩
    · simp [Value.cells] at hcs
      obtain ⟨rfl, rfl, rfl⟩ := hcs
      exact ⟨[], .inl rfl⟩
    · simp [Value.cells] at hcs
      obtain ⟨rfl, rfl, rfl⟩ := hcs
      exact isWs_of hl hm (by simpa using hz) hcell hwz
  obtain ⟨a1, rfl, rfl, rfl, w1⟩ := open_int Try.underlying3 (hval 1 3 v1 rfl rfl) h1
  clear hA0 hval0
  refine (totals_any a0 len0 cap0 z0 a1 W w0).mono fun e W' ⟨he, bel⟩ => ?_
  subst he
  exact ⟨_, rfl, _, _, _, [], _, [], hW', trodAll_mk1 (shut_bool Try.underlying4 _), (trodAll_cons_mk (Below.trod totals_laidOut (by kernel_rfl) (of_decide_eq_true (by kernel_rfl)) k0 bel lt0) (trodAll_cons_mk (shut_int Try.underlying3 w1) trodAll_mk0)), rfl, bel.frame _, fun h => by cases h⟩

theorem NumTotals_holds : Rows.NumTotalsSaid :=
  OpenClaim.holds_of_wide 7 Try.f7 rfl rfl rfl rfl rfl rfl rfl ⟨rfl, rfl, rfl, rfl, rfl⟩ rfl rfl rfl rfl rfl (by kernel_rfl) Try.func7 (by kernel_rfl)
    (of_decide_eq_true (by kernel_rfl)) (by unfold Func.isWrapper; first | (rw [if_pos (by decide +kernel)]; kernel_rfl) | (rw [if_neg (by decide +kernel)]; exact ⟨rfl, rfl⟩))
    (fun os started H enc _ => totals_lifted os started H enc)

#print axioms NumTotals_holds
end Go.Proofs.Ytncmdbhbmbfdfaa
