/-
  OctetTells is true for every argument: rows of things are written and read as the document says, their own bytes with one turned, any bytes, other things; the arguments read behind the call as they read before. No condition.
-/
import Derived.Test.YtmcgjfnilmadoaaTells1
import Derived.ProofKit
import Derived.OpenShut
import Derived.ChangeOld
namespace Go.Proofs.Ytmcgjfnilmadoaa
open Go.RowKit

theorem small_encs (L : List AskM) : (encs L 15).length ≤ 1000 := by
  have := encs_length L 15
  omega

theorem mem_own {v : Value} {x : Nat} (h : x ∈ v.ownBlock.toList) : v.ownBlock = some x := by cases hq : v.ownBlock <;> simp_all

theorem set_oct {bs : List Nat} {j u : Nat} (h : ∀ y ∈ bs, y < 256) (hu : u < 256) : ∀ y ∈ bs.set j u, y < 256 := by
  intro y hy
  rcases List.mem_or_eq_of_mem_set hy with h1 | h1
  · exact h y h1
  · rw [h1]; exact hu

/-- Behind the byte that is turned. -/
theorem tells_mid {w w1 w2 : World} {v2 : Value} {E : List Nat} {gy n cap : Nat} (h2 : Own w1 v2 E) (m1 : Moves [] w w1) (m2 : Moves [] w1 w2) (hf : Fresh w1 (.slice (some ⟨gy, 0, none⟩) n cap)) (r u : Nat) :
    Moves [] w (w2.setCell ⟨gy, r, none⟩ (.int .u8 (u : Int))) ∧ Own (w2.setCell ⟨gy, r, none⟩ (.int .u8 (u : Int))) v2 E := by
  have hg : w1.heap.size ≤ gy := hf gy rfl
  have ms := moves_set w2 gy r (.int .u8 (u : Int))
  refine ⟨(m1.then m2).trans ms (fun x hx => .inr ?_), (h2.moves m2 (by simp)).moves ms (fun k hk => ?_)⟩
  · simp at hx
    have := m1.size
    omega
  · have := h2.lt hk
    simp
    omega

set_option maxHeartbeats 8000000 in
/-- What OctetTells does behind y and b. -/
theorem tells_w (lv mv bv : Value) (z : Int) (t : Nat) (L M : List AskM) (gb : Nat) (bs : List Nat) (w : World) (hA : Asks w lv L) (hM : Asks w mv M) (hB : IsB w gb bv bs) (hob : ∀ y ∈ bs, y < 256) (hz1 : -9223372036854775808 ≤ z) (hz2 : z ≤ 9223372036854775807) (ht : t < 256) :
    Calls Try.prog 4 #[lv, mv, bv, .int .i64 z, .int .u8 (t : Int)] w fun e w' => e = .returned (.bool true) ∧ Moves [] w w' := by
  have hoct := encs_oct hA.octs 15
  have hsm := small_encs L
  have hcut : (bs.take 60).length ≤ 60 := by rw [List.length_take]; omega
  have hco : ∀ y ∈ bs.take 60, y < 256 := fun y hy => hob y (List.mem_of_mem_take hy)
  obtain ⟨E, hE⟩ : ∃ E, Hid (E = encs L 15) := ⟨_, rfl⟩
  obtain ⟨C, hC⟩ : ∃ C, Hid (C = bs.take 60) := ⟨_, rfl⟩
  have hEo : ∀ y ∈ E, y < 256 := by rw [hE.out]; exact hoct
  have hEl : E.length ≤ 1000 := by rw [hE.out]; exact hsm
  have hCo : ∀ y ∈ C, y < 256 := by rw [hC.out]; exact hco
  have hCl : C.length ≤ 60 := by rw [hC.out]; exact hcut
  have hECo : ∀ y ∈ E ++ C, y < 256 := fun y hy => by rcases List.mem_append.1 hy with h | h; exact hEo y h; exact hCo y h
  have hECl : E.length + C.length ≤ 1099511627776 := by omega
  have hECl' : (E ++ C).length ≤ 1099511627776 := by rw [List.length_append]; omega
  have hEl2 : E.length ≤ 1099511627776 := by omega
  have hCl2 : C.length ≤ 1099511627776 := by omega
  clear hoct hsm hcut hco
  by_cases hpos : 0 < E.length
  · have hp1 : (0 : Int) < (E.length : Int) := by omega
    go_enter Try.func4, Try.ntmps4
    go_wp2_with (first | (go_at_call 6; refine (written_w _ L _ hA).mono ?_; rintro _ w1 ⟨v1, v2, rfl, h1, h2, m1, f1, f2⟩; rw [← hE.out] at h1 h2; have hs1 := run_str h1.isB hEo; have hs2 := run_str h2.isB hEo; have ma1 : Moves [] w1 (w1.alloc (.cells #[] 5)) := (Moves.refl _ _).alloc _; have hx1 := h2.isB.moves ma1 (by simp); have f2' := f2) | (at_builtin; refine append_law (.tmp 30) (.tmp 31) rfl _ _ [] E _ rfl rfl rfl (own_empty w1) hx1 (by simp; omega) ?_; intro y w2 hy m2 hat2; rw [List.nil_append] at hy; have hA2 := appended ma1 (fresh_empty w1) m2 hat2; obtain ⟨gy, capy, rfl, hrow⟩ := own_row hy hpos) | (go_at_call 14; refine (within_w z _ hz1 hz2 (by omega) (by omega) _).mono ?_; rintro _ _ ⟨r, rfl, hr, rfl⟩; obtain ⟨b0, hb0, kc, kf, kown⟩ := hrow r (by omega); have hr1 : (r : Int) < (E.length : Int) := (by omega); have hb1 : b0 < 256 := hEo b0 (List.mem_of_getElem? hb0); have hxor := u8_xor_nat b0 t hb1 ht; have hy3 := kown (b0 ^^^ t); have hxt : b0 ^^^ t < 256 := Nat.xor_lt_two_pow (n := 8) hb1 ht; obtain ⟨M3, hx3⟩ := tells_mid h2 m1 hA2.1 hA2.2 r (b0 ^^^ t); have hE3o : ∀ y ∈ E.set r (b0 ^^^ t), y < 256 := set_oct hEo hxt; have hE3l : (E.set r (b0 ^^^ t)).length ≤ 1099511627776 := (by rw [List.length_set]; omega); obtain ⟨E3, hE3⟩ : ∃ E3, Hid (E3 = E.set r (b0 ^^^ t)) := ⟨_, rfl⟩; rw [← hE3.out] at hy3 hE3o hE3l) | (go_at_call 15; refine (cut_w _ gb bs 60 _ rfl _ (hB.moves M3 (by simp))).mono ?_; rintro _ _ ⟨vc, rfl, hvc, rfl⟩; rw [← hC.out] at hvc) | (go_at_call_of 7 vx; refine (reads_w _ _ _ (E ++ C) L _ hx7.isB hECo hECl' (hA.moves M7)).mono ?_; rintro _ w8 ⟨rfl, m8⟩) | (go_at_call_of 7 vc; refine (reads_w _ _ gb C M _ (hvc.moves (m4.then m5) (by simp)) hCo hCl2 (hM.moves ((M3.then m4).then m5))).mono ?_; rintro _ w6 ⟨rfl, m6⟩; have hx6 := hx3.moves ((m4.then m5).then m6) (by simp); have hc6 := hvc.moves ((m4.then m5).then m6) (by simp); have M6 := ((M3.then m4).then m5).then m6) | (go_at_call_of 7 v2; refine (reads_w _ _ _ E M _ (hx3.moves m4 (by simp)).isB hEo hEl2 (hM.moves (M3.then m4))).mono ?_; rintro _ w5 ⟨rfl, m5⟩) | (go_at_call 7; refine (reads_w _ _ _ E3 L _ hy3.isB hE3o hE3l (hA.moves M3)).mono ?_; rintro _ w4 ⟨rfl, m4⟩) | (at_builtin; refine append_law (.tmp 63) (.tmp 64) rfl _ _ E C gb rfl rfl (by rfl) hx6 hc6 hECl ?_; intro vx w7 hx7 m7 hat7; have M7 := M6.trans m7 (fun x hx => .inr (f2' x (mem_own hx)))) | (go_at_call 13; refine (known_w _).mono ?_; rintro _ w9 ⟨rfl, m9⟩))
    go_ret
    exact ⟨rfl, (M7.then m8).then m9⟩
  · have hE0 : E.length = 0 := by omega
    have hE3o : ∀ y ∈ E, y < 256 := hEo
    have hE3l : E.length ≤ 1099511627776 := by omega
    have hp1 : ¬ (0 : Int) < (E.length : Int) := by omega
    go_enter Try.func4, Try.ntmps4
    go_wp2_with (first | (go_at_call 6; refine (written_w _ L _ hA).mono ?_; rintro _ w1 ⟨v1, v2, rfl, h1, h2, m1, f1, f2⟩; rw [← hE.out] at h1 h2; have hs1 := run_str h1.isB hEo; have hs2 := run_str h2.isB hEo; have ma1 : Moves [] w1 (w1.alloc (.cells #[] 5)) := (Moves.refl _ _).alloc _; have hx1 := h2.isB.moves ma1 (by simp); have f2' := f2) | (at_builtin; refine append_law (.tmp 30) (.tmp 31) rfl _ _ [] E _ rfl rfl rfl (own_empty w1) hx1 (by simp; omega) ?_; intro y w2 hy3 m2 hat2; rw [List.nil_append] at hy3; have hA2 := appended ma1 (fresh_empty w1) m2 hat2; have M3 := m1.then hA2.1; have hx3 := h2.moves hA2.1 (by simp); have hyB := hy3.isB; obtain ⟨ady, ny, capy, rfl, hny, _⟩ := hyB; obtain rfl := hE0.symm.trans hny) | (go_at_call 15; refine (cut_w _ gb bs 60 _ rfl _ (hB.moves M3 (by simp))).mono ?_; rintro _ _ ⟨vc, rfl, hvc, rfl⟩; rw [← hC.out] at hvc) | (go_at_call_of 7 vx; refine (reads_w _ _ _ (E ++ C) L _ hx7.isB hECo hECl' (hA.moves M7)).mono ?_; rintro _ w8 ⟨rfl, m8⟩) | (go_at_call_of 7 vc; refine (reads_w _ _ gb C M _ (hvc.moves (m4.then m5) (by simp)) hCo hCl2 (hM.moves ((M3.then m4).then m5))).mono ?_; rintro _ w6 ⟨rfl, m6⟩; have hx6 := hx3.moves ((m4.then m5).then m6) (by simp); have hc6 := hvc.moves ((m4.then m5).then m6) (by simp); have M6 := ((M3.then m4).then m5).then m6) | (go_at_call_of 7 v2; refine (reads_w _ _ _ E M _ (hx3.moves m4 (by simp)).isB hEo hEl2 (hM.moves (M3.then m4))).mono ?_; rintro _ w5 ⟨rfl, m5⟩) | (go_at_call 7; refine (reads_w _ _ _ E L _ hy3.isB hE3o hE3l (hA.moves M3)).mono ?_; rintro _ w4 ⟨rfl, m4⟩) | (at_builtin; refine append_law (.tmp 63) (.tmp 64) rfl _ _ E C gb rfl rfl (by rfl) hx6 hc6 hECl ?_; intro vx w7 hx7 m7 hat7; have M7 := M6.trans m7 (fun x hx => .inr (f2' x (mem_own hx)))) | (go_at_call 13; refine (known_w _).mono ?_; rintro _ w9 ⟨rfl, m9⟩))
    go_ret
    exact ⟨rfl, (M7.then m8).then m9⟩

open Go.ChangeShapes Go.WideShapes Go.ChangeAt
set_option linter.unusedVariables false
theorem tells_own : ownKnob Try.prog.godebug = none := by kernel_rfl
theorem tells_laidOut : laidOutB Try.prog = true := by kernel_rfl

set_option maxRecDepth 100000 in
theorem tells_lifted (os : Os) (started : os.Started) (H : Type) (enc : TypeId × Value → H) :
    ReturnsInHanded {} Try.checked os 4 .any (Rows.octetTellsSpec.pre6 enc Try.prog Try.f4 Rows.octetTellsRow.domain false) (Rows.octetTellsSpec.post enc Try.prog Try.f4 false true false false) := by
  refine returnsInHanded_of_change (C := Try.checked) tells_own started (by kernel_rfl) Try.func4
    (ChangeSpec.witness6 (enc := enc) (C := Try.checked) false ⟨#[], #[.slice none 0 0, .slice none 0 0, .slice none 0 0, .int .i64 0, .int .u8 0], []⟩ 8 (by kernel_rfl) (by kernel_rfl) (by kernel_rfl) (by kernel_rfl)) ?_
  intro W base args ds gs before hval0 hW hcnd _
  have hval : ∀ (j : Nat) t v, Try.f4.params[j]? = some t → args[j]? = some v → Value.okWide Try.prog W .any base t v := hval0
  have hW' := hW
  obtain ⟨p, q, hA0, hV, rfl, hfz, hnd⟩ := hW
  have hA : DataW.TrodAll enc Try.prog W 0 (fun _ => true) true Try.f4.params.toList args.toList ds p := hA0
  rw [Try.params4] at hA hval
  obtain ⟨v0, vs0, d0, ds0, p0, q0, hargs, rfl, rfl, h0, r0⟩ := trodAll_cons hA
  obtain ⟨v1, vs1, d1, ds1, p1, q1, rfl, rfl, rfl, h1, r1⟩ := trodAll_cons r0
  obtain ⟨v2, vs2, d2, ds2, p2, q2, rfl, rfl, rfl, h2, r2⟩ := trodAll_cons r1
  obtain ⟨v3, vs3, d3, ds3, p3, q3, rfl, rfl, rfl, h3, r3⟩ := trodAll_cons r2
  obtain ⟨v4, vs4, d4, ds4, p4, q4, rfl, rfl, rfl, h4, r4⟩ := trodAll_cons r3
  obtain ⟨rfl, rfl, rfl⟩ := trodAll_nil r4
  obtain rfl : args = #[v0, v1, v2, v3, v4] := by cases args; simp_all
  obtain ⟨rfl, rfl⟩ := trodVars_none hV
  obtain ⟨a0, len0, cap0, rfl⟩ := okWide_slice Try.underlying27 (hval 0 27 v0 rfl rfl)
  obtain ⟨a1, len1, cap1, rfl⟩ := okWide_slice Try.underlying27 (hval 1 27 v1 rfl rfl)
  obtain ⟨a2, len2, cap2, rfl⟩ := okWide_slice Try.underlying24 (hval 2 24 v2 rfl rfl)
  have k0 := h0
  have k1 := h1
  have k2 := h2
  have lt0 : ∀ x ∈ p0, x.block < W.heap.size := by obtain ⟨m, hm⟩ := k0; exact DataW.trod_lt m _ _ _ hm
  have lt1 : ∀ x ∈ p1, x.block < W.heap.size := by obtain ⟨m, hm⟩ := k1; exact DataW.trod_lt m _ _ _ hm
  have lt2 : ∀ x ∈ p2, x.block < W.heap.size := by obtain ⟨m, hm⟩ := k2; exact DataW.trod_lt m _ _ _ hm
  obtain ⟨L0, w0⟩ : ∃ L, Asks W (.slice a0 len0 cap0) L := by
    obtain ⟨fuel, hf⟩ := h0
    exact asks_of_trod (by simpa [Value.cells] using hf)
  obtain ⟨L1, w1⟩ : ∃ L, Asks W (.slice a1 len1 cap1) L := by
    obtain ⟨fuel, hf⟩ := h1
    exact asks_of_trod (by simpa [Value.cells] using hf)
  obtain ⟨g2, b2, w2, o2⟩ : ∃ g bs, IsB W g (.slice a2 len2 cap2) bs ∧ ∀ z ∈ bs, z < 256 := by
    obtain ⟨fuel, hf⟩ := h2
    exact isB_of_trod (by simpa [Value.cells] using hf)
  obtain ⟨z3, rfl, rfl, rfl, w3⟩ := open_int Try.underlying3 (hval 3 3 v3 rfl rfl) h3
  obtain ⟨z4, rfl, rfl, rfl, w4⟩ := open_int Try.underlying5 (hval 4 5 v4 rfl rfl) h4
  have e3 : -9223372036854775808 ≤ z3 ∧ z3 ≤ 9223372036854775807 := by simpa [Lit.wf, IntKind.min, IntKind.max, IntKind.signed, IntKind.bits] using w3
  have e4 : 0 ≤ z4 ∧ z4 ≤ 255 := by simpa [Lit.wf, IntKind.min, IntKind.max, IntKind.signed, IntKind.bits] using w4
  obtain ⟨t, rfl⟩ : ∃ t : Nat, z4 = (t : Int) := ⟨z4.toNat, by omega⟩
  clear hA0 hval0
  refine (tells_w _ _ _ z3 t L0 L1 g2 b2 W w0 w1 w2 o2 e3.1 e3.2 (by omega)).mono fun e W' ⟨he, mv⟩ => ?_
  subst he
  have bel : Below W.heap.size W W' := mv.below (by simp) (Nat.le_refl _)
  exact ⟨_, rfl, _, _, _, [], _, [], hW', trodAll_mk1 (shut_bool Try.underlying4 _), (trodAll_cons_mk (Below.trod tells_laidOut (by kernel_rfl) (of_decide_eq_true (by kernel_rfl)) k0 bel lt0) (trodAll_cons_mk (Below.trod tells_laidOut (by kernel_rfl) (of_decide_eq_true (by kernel_rfl)) k1 bel lt1) (trodAll_cons_mk (Below.trod tells_laidOut (by kernel_rfl) (of_decide_eq_true (by kernel_rfl)) k2 bel lt2) (trodAll_cons_mk (shut_int Try.underlying3 w3) (trodAll_cons_mk (shut_int Try.underlying5 w4) trodAll_mk0))))), rfl, bel.frame _, fun h => by cases h⟩

theorem OctetTells_holds : Rows.OctetTellsSaid :=
  OpenClaim.holds_of_wide 4 Try.f4 rfl rfl rfl rfl rfl rfl rfl ⟨rfl, rfl, rfl, rfl, rfl⟩ rfl rfl rfl rfl rfl (by kernel_rfl) Try.func4 (by kernel_rfl)
    (of_decide_eq_true (by kernel_rfl)) (by unfold Func.isWrapper; first | (rw [if_pos (by decide +kernel)]; kernel_rfl) | (rw [if_neg (by decide +kernel)]; exact ⟨rfl, rfl⟩))
    (fun os started H enc _ => tells_lifted os started H enc)

#print axioms OctetTells_holds
end Go.Proofs.Ytmcgjfnilmadoaa
