/-
  RowsPlays is true for every argument: tables are what the document says, for any calls and ranges: what is set, taken away, refused, found and told in ranges; the arguments read behind the call as they read before. No condition.
-/
import Derived.Test.YtdngndkdkbggkaaCPlay6
import Derived.Test.YtdngndkdkbggkaaCOpen5
namespace Go.Proofs.Ytdngndkdkbggkaa
open Go.RowKit
open Go.ChangeShapes Go.WideShapes

set_option maxRecDepth 100000 in
theorem aargs_of_raw {H : Type} {enc : TypeId × Value → H} {W : World} {base fuel : Nat} {spare : Nat → Bool} {held : Bool} {v : Value} {x : DataW H × List MemPlace}
    (h : DataW.trod enc Try.prog W base spare held fuel 34 [v] = some x) : AArgs W v := by
  have c5 : Try.prog.cellsOf 37 = 5 := by kernel_rfl
  rcases Go.Deep.open_slice Try.underlying34 h with ⟨hcs, _⟩ | ⟨ad, len, cap, m, n, D, Pls, hcs, _, hl, hm, hmm, _, hx⟩
  · simp at hcs
    subst hcs
    exact ⟨none, 0, 0, rfl, Nat.le_refl _, fun k hk => absurd hk (by omega)⟩
  · simp at hcs
    subst hcs
    have hlm : len ≤ m := by rw [hmm]; split <;> omega
    refine ⟨_, _, _, rfl, hl, fun k hk => ?_⟩
    obtain ⟨cs', h1, h2⟩ := hx k (by omega)
    obtain ⟨cs0, h01, _⟩ := hx 0 (by omega)
    rw [c5] at h1 h01
    obtain ⟨b, off, rfl, hlen, hcell⟩ := struct_cells (by omega) h01 h1
    obtain ⟨xs, q, hk, hxy, _, hxl, hf⟩ := DataW.trod_struct Try.underlying37 h2
    have c3 : Try.prog.cellsOf 3 = 1 := by kernel_rfl
    have c4 : Try.prog.cellsOf 4 = 1 := by kernel_rfl
    have c9 : Try.prog.cellsOf 9 = 1 := by kernel_rfl
    have cC : Try.prog.cellsOf 35 = 1 := by kernel_rfl
    match xs, hxl, cs', hlen with
    | [y0, y1, y2, y3, y4], _, [v0, v1, v2, v3, v4], _ =>
      have g0 := hf 0 _ rfl
      have g1 := hf 1 _ rfl
      have g2 := hf 2 _ rfl
      have g3 := hf 3 _ rfl
      have g4 := hf 4 _ rfl
      simp [c3, c4, c9, cC] at g0 g1 g2 g3 g4
      obtain ⟨z0, hz0, _, _⟩ := DataW.trod_int Try.underlying3 g0
      obtain ⟨z1, hz1, _, _⟩ := DataW.trod_int Try.underlying3 g1
      obtain ⟨b2, rfl⟩ := bool_of_trod g2
      obtain ⟨s3, rfl⟩ := str_of_trod g3
      have hC := chargs_of_raw g4
      obtain ⟨a4, l4, cc4, rfl, _⟩ := id hC
      simp at hz0 hz1
      subst hz0 hz1
      exact ⟨b, off, z0, z1, b2, s3, a4, l4, cc4, rfl, hcell 0 _ rfl, hcell 1 _ rfl, hcell 2 _ rfl, hcell 3 _ rfl, hcell 4 _ rfl, hC⟩
set_option maxRecDepth 100000 in
theorem aargs_of_trod {H : Type} {enc : TypeId × Value → H} {W : World} {base b0 : Nat} {r : Reach} {spare : Nat → Bool} {held : Bool} {v : Value} {d : DataW H} {p : List MemPlace}
    (hv : Value.okWide Try.prog W r b0 34 v) (h : DataW.Trod enc Try.prog W base spare held 34 v d p) : AArgs W v := by
  obtain ⟨a, len, cap, rfl⟩ := okWide_slice Try.underlying34 hv
  obtain ⟨fuel, hf⟩ := h
  exact aargs_of_raw (by simpa [Value.cells] using hf)

set_option maxRecDepth 100000 in
set_option maxHeartbeats 4000000 in
theorem rowsPlays_w (u0 u1 u2 u3 : Value) (w : World) (h0 : AArgs w u0) (h1 : ∃ s, u1 = .string s) (h2 : ∃ s, u2 = .string s) (h3 : IArg u3) : Calls Try.prog 5 #[u0, u1, u2, u3] w fun e w' => e = .returned (.bool true) ∧ Moves [] w w' := by
  obtain ⟨lo, rfl⟩ := h1
  obtain ⟨hi, rfl⟩ := h2
  obtain ⟨most, rfl⟩ := h3
  have hp := play6_w w w u0 h0 (Moves.refl _ _)
  clear h0
  go_enter Try.func5, Try.ntmps5
  go_wp2_with (first | (go_at_call 12; refine hp.mono ?_; rintro _ w2 ⟨p, a, xs, ad, n, cap, rfl, hT, hN, hI, m2⟩; have HT : Hid (TabIs w w2 p a xs) := hT; have HN : Hid (NamsAt w2 (.slice ad n cap) xs) := hN; have HI : Hid (InvN xs) := hI; have HM : Hid (Moves [] w2 w2) := (Moves.refl _ _); clear hT hN hI) | (go_at_call 18; refine (head_d _ _ 3).mono ?_; rintro _ _ ⟨rfl, rfl⟩) | (go_at_call 13; refine (tells6_w w _ p a xs _ _ _ _ (HT.out.moves0 HM.out) (HN.out.moves HM.out) HI.out).mono ?_; rintro _ w5 ⟨rfl, m5⟩; have HM : Hid (Moves [] w2 w5) := HM.out.then m5; clear m5) | (go_at_call 17; refine (known6_w _).mono ?_; rintro _ w7 ⟨rfl, m7⟩))
  go_ret
  exact ⟨rfl, (m2.then HM.out).then m7⟩

open Go.ChangeShapes Go.WideShapes Go.ChangeAt
set_option linter.unusedVariables false
theorem rplays_own : ownKnob Try.prog.godebug = none := by kernel_rfl
theorem rplays_laidOut : laidOutB Try.prog = true := by kernel_rfl

set_option maxRecDepth 100000 in
theorem rplays_lifted (os : Os) (started : os.Started) (H : Type) (enc : TypeId × Value → H) :
    ReturnsInHanded {} Try.checked os 5 .any (Rows.rowsPlaysSpec.pre6 enc Try.prog Try.f5 Rows.rowsPlaysRow.domain false) (Rows.rowsPlaysSpec.post enc Try.prog Try.f5 false true false false) := by
  refine returnsInHanded_of_change (C := Try.checked) rplays_own started (by kernel_rfl) Try.func5
    (ChangeSpec.witness6 (enc := enc) (C := Try.checked) false ⟨#[], #[.slice none 0 0, .string ByteArray.empty, .string ByteArray.empty, .int .i64 0], []⟩ 8 (by kernel_rfl) (by kernel_rfl) (by kernel_rfl) (by kernel_rfl)) ?_
  intro W base args ds gs before hval0 hW hcnd _
  have hval : ∀ (j : Nat) t v, Try.f5.params[j]? = some t → args[j]? = some v → Value.okWide Try.prog W .any base t v := hval0
  have hW' := hW
  obtain ⟨p, q, hA0, hV, rfl, hfz, hnd⟩ := hW
  have hA : DataW.TrodAll enc Try.prog W 0 (fun _ => true) true Try.f5.params.toList args.toList ds p := hA0
  rw [Try.params5] at hA hval
  obtain ⟨v0, vs0, d0, ds0, p0, q0, hargs, rfl, rfl, h0, r0⟩ := trodAll_cons hA
  obtain ⟨v1, vs1, d1, ds1, p1, q1, rfl, rfl, rfl, h1, r1⟩ := trodAll_cons r0
  obtain ⟨v2, vs2, d2, ds2, p2, q2, rfl, rfl, rfl, h2, r2⟩ := trodAll_cons r1
  obtain ⟨v3, vs3, d3, ds3, p3, q3, rfl, rfl, rfl, h3, r3⟩ := trodAll_cons r2
  obtain ⟨rfl, rfl, rfl⟩ := trodAll_nil r3
  obtain rfl : args = #[v0, v1, v2, v3] := by cases args; simp_all
  obtain ⟨rfl, rfl⟩ := trodVars_none hV
  have k0 := h0
  have lt0 : ∀ x ∈ p0, x.block < W.heap.size := by obtain ⟨m, hm⟩ := k0; exact DataW.trod_lt m _ _ _ hm
  have w0 := aargs_of_trod (hval 0 34 v0 rfl rfl) h0
  have k1 := h1
  have lt1 : ∀ x ∈ p1, x.block < W.heap.size := by obtain ⟨m, hm⟩ := k1; exact DataW.trod_lt m _ _ _ hm
  have w1 := okWide_string Try.underlying9 (hval 1 9 v1 rfl rfl)
  have k2 := h2
  have lt2 : ∀ x ∈ p2, x.block < W.heap.size := by obtain ⟨m, hm⟩ := k2; exact DataW.trod_lt m _ _ _ hm
  have w2 := okWide_string Try.underlying9 (hval 2 9 v2 rfl rfl)
  have k3 := h3
  have lt3 : ∀ x ∈ p3, x.block < W.heap.size := by obtain ⟨m, hm⟩ := k3; exact DataW.trod_lt m _ _ _ hm
  have w3 := iarg_of_trod Try.underlying3 (hval 3 3 v3 rfl rfl) h3
  clear hA0 hval0
  refine (rowsPlays_w v0 v1 v2 v3 W w0 w1 w2 w3).mono fun e W' ⟨he, mv⟩ => ?_
  subst he
  have bel : Below W.heap.size W W' := mv.below (by simp) (Nat.le_refl _)
  exact ⟨_, rfl, _, _, _, [], _, [], hW', trodAll_mk1 (shut_bool Try.underlying4 _), (trodAll_cons_mk (Below.trod rplays_laidOut (by kernel_rfl) (of_decide_eq_true (by kernel_rfl)) k0 bel lt0) (trodAll_cons_mk (Below.trod rplays_laidOut (by kernel_rfl) (of_decide_eq_true (by kernel_rfl)) k1 bel lt1) (trodAll_cons_mk (Below.trod rplays_laidOut (by kernel_rfl) (of_decide_eq_true (by kernel_rfl)) k2 bel lt2) (trodAll_cons_mk (Below.trod rplays_laidOut (by kernel_rfl) (of_decide_eq_true (by kernel_rfl)) k3 bel lt3) trodAll_mk0)))), rfl, bel.frame _, fun h => by cases h⟩

theorem RowsPlays_holds : Rows.RowsPlaysSaid :=
  OpenClaim.holds_of_wide 5 Try.f5 rfl rfl rfl rfl rfl rfl rfl ⟨rfl, rfl, rfl, rfl, rfl⟩ rfl rfl rfl rfl rfl (by kernel_rfl) Try.func5 (by kernel_rfl)
    (of_decide_eq_true (by kernel_rfl)) (by unfold Func.isWrapper; first | (rw [if_pos (by decide +kernel)]; kernel_rfl) | (rw [if_neg (by decide +kernel)]; exact ⟨rfl, rfl⟩))
    (fun os started H enc _ => rplays_lifted os started H enc)

#print axioms RowsPlays_holds
end Go.Proofs.Ytdngndkdkbggkaa
