/-
  OctetBack is true for every argument: what was written is read, all of it, and nothing is left; the argument reads behind the call as it read before. No condition.
-/
import Derived.Test.YtmcgjfnilmadoaaOpen
import Derived.ProofKit
import Derived.OpenShut
import Derived.ChangeOld

namespace Go.Proofs.Ytmcgjfnilmadoaa
open Go.RowKit

theorem back_read (w0 : World) (g ql qs : Nat) (v lv : Value) (L : List AskM) (w : World) (hA : Asks w0 lv L) (hm : Moves [] w0 w) (hql : w.heap[ql]? = some (.cells #[lv] 27 (0, 0))) (hqv : w.heap[qs]? = some (.cells #[.bool true] 4 (0, 0)))
    (hqs : w0.heap.size ≤ qs) (hv : IsB w g v (left L 0)) (hg : g ∉ [qs, w.heap.size]) :
    Calls Try.prog 12 #[v, .func (.func 16) #[] #[.pointer (some ⟨ql, 0, none⟩), .pointer (some ⟨qs, 0, none⟩)]] w fun e w' => e = .returned (.bool true) ∧ w'.heap[qs]? = some (.cells #[.bool true] 4 (0, 0)) ∧ Moves [] w0 w' := by
  have h1 : g ≠ w.heap.size := fun e => hg (by simp [e])
  have h2 : g ≠ qs := fun e => hg (by simp [e])
  have h3 := lt_of_block hql
  have h4 := lt_of_block hqv
  have h5 : ql ≠ qs := by intro e; rw [e, hqv] at hql; simp at hql
  refine (read_ret 16 _ v g (left L 0) [] w hv h1 (fun w2 => BackInv w0 w2 w.heap.size g ql qs lv []) (fun _ _ => rfl) ?_).mono ?_
  · intro w1 hb m1
    have hI : BackInv w0 w1 w.heap.size g ql qs lv (left L 0) := ⟨hb.1, hb.2, m1.at hql (by simp), m1.at hqv (by simp), hm.then m1⟩
    refine (back1_w w0 w.heap.size g ql qs lv L w1 hA (hm.size) hqs h2 hI (by simp; omega) (by simp; omega) h5).mono ?_
    rintro _ w2 ⟨rfl, h⟩
    exact ⟨rfl, ⟨h.1, h.2.1⟩, h⟩
  · rintro _ w' ⟨rfl, w2, h, m⟩
    refine ⟨rfl, m.at h.2.2.2.1 (by simp; omega), h.2.2.2.2.trans m (fun x hx => .inr ?_)⟩
    simp at hx
    have := hm.size
    omega

/-- What was written, behind the variable that is made for the answer. -/
theorem back_pre {w1 : World} {v1 : Value} {bs : List Nat} (h1 : Own w1 v1 bs) (o : Obj) : ∃ g, IsB (w1.alloc o) g v1 bs ∧ g ∉ [w1.heap.size, (w1.alloc o).heap.size] := by
  have hB := h1.isB.moves ((Moves.refl [] w1).alloc o) (by simp)
  obtain ⟨g, hg, hb⟩ := hB.pick [w1.heap.size, (w1.alloc o).heap.size] (fun hne => by
    have := h1.isB.lt hne
    simp
    omega)
  exact ⟨g, hb, hg⟩

set_option maxHeartbeats 1000000 in
theorem back_w (lv : Value) (L : List AskM) (w : World) (hA : Asks w lv L) :
    Calls Try.prog 5 #[lv] w fun e w' => e = .returned (.bool true) ∧ Moves [] w w' := by
  have hA0 := hA
  have mA : Moves [] w (w.alloc (.cells #[lv] 27)) := (Moves.refl _ _).alloc _
  have hA1 : Asks (w.alloc (.cells #[lv] 27)) lv L := hA.moves mA
  have hq0 := heap_alloc_new w (.cells #[lv] 27)
  obtain ⟨ad, len, cap, rfl, _⟩ := hA
  go_enter Try.func5, Try.ntmps5
  go_wp2_with (first | (go_at_call 6; refine (written_w _ L _ hA1).mono ?_; rintro _ w1 ⟨v1, v2, rfl, h1, h2, m1, f1, f2⟩; rw [encs_left] at h1; obtain ⟨g, hB, hg⟩ := back_pre h1 (.cells #[.bool true] 4)) | (go_at_call 12; refine (back_read w g w.heap.size w1.heap.size v1 _ L _ hA0 ((mA.then m1).alloc _) (((Moves.refl [] _).alloc _).at (m1.at hq0 (by simp)) (by simp)) (heap_alloc_new _ _) (mA.then m1).size hB hg).mono ?_; rintro _ w2 ⟨rfl, hq2, m2⟩; have cq := cell_of_one hq2) | (go_at_call 13; refine (known_w _).mono ?_; rintro _ w3 ⟨rfl, m3⟩))
  go_ret
  exact ⟨rfl, m2.then m3⟩

open Go.ChangeShapes Go.WideShapes Go.ChangeAt
set_option linter.unusedVariables false
theorem back_own : ownKnob Try.prog.godebug = none := by kernel_rfl
theorem back_laidOut : laidOutB Try.prog = true := by kernel_rfl

set_option maxRecDepth 100000 in
theorem back_lifted (os : Os) (started : os.Started) (H : Type) (enc : TypeId × Value → H) :
    ReturnsInHanded {} Try.checked os 5 .any (Rows.octetBackSpec.pre6 enc Try.prog Try.f5 Rows.octetBackRow.domain false) (Rows.octetBackSpec.post enc Try.prog Try.f5 false true false false) := by
  refine returnsInHanded_of_change (C := Try.checked) back_own started (by kernel_rfl) Try.func5
    (ChangeSpec.witness6 (enc := enc) (C := Try.checked) false ⟨#[], #[.slice none 0 0], []⟩ 8 (by kernel_rfl) (by kernel_rfl) (by kernel_rfl) (by kernel_rfl)) ?_
  intro W base args ds gs before hval0 hW hcnd _
  have hval : ∀ (j : Nat) t v, Try.f5.params[j]? = some t → args[j]? = some v → Value.okWide Try.prog W .any base t v := hval0
  have hW' := hW
  obtain ⟨p, q, hA0, hV, rfl, hfz, hnd⟩ := hW
  have hA : DataW.TrodAll enc Try.prog W 0 (fun _ => true) true Try.f5.params.toList args.toList ds p := hA0
  rw [Try.params5] at hA hval
  obtain ⟨v0, vs0, d0, ds0, p0, q0, hargs, rfl, rfl, h0, r0⟩ := trodAll_cons hA
  obtain ⟨rfl, rfl, rfl⟩ := trodAll_nil r0
  obtain rfl : args = #[v0] := by cases args; simp_all
  obtain ⟨rfl, rfl⟩ := trodVars_none hV
  obtain ⟨a0, len0, cap0, rfl⟩ := okWide_slice Try.underlying27 (hval 0 27 v0 rfl rfl)
  have k0 := h0
  have lt0 : ∀ x ∈ p0, x.block < W.heap.size := by obtain ⟨m, hm⟩ := k0; exact DataW.trod_lt m _ _ _ hm
  obtain ⟨L0, w0⟩ : ∃ L, Asks W (.slice a0 len0 cap0) L := by
    obtain ⟨fuel, hf⟩ := h0
    exact asks_of_trod (by simpa [Value.cells] using hf)
  clear hA0 hval0
  refine (back_w _ L0 W w0).mono fun e W' ⟨he, mv⟩ => ?_
  subst he
  have bel : Below W.heap.size W W' := mv.below (by simp) (Nat.le_refl _)
  exact ⟨_, rfl, _, _, _, [], _, [], hW', trodAll_mk1 (shut_bool Try.underlying4 _), (trodAll_cons_mk (Below.trod back_laidOut (by kernel_rfl) (of_decide_eq_true (by kernel_rfl)) k0 bel lt0) trodAll_mk0), rfl, bel.frame _, fun h => by cases h⟩

theorem OctetBack_holds : Rows.OctetBackSaid :=
  OpenClaim.holds_of_wide 5 Try.f5 rfl rfl rfl rfl rfl rfl rfl ⟨rfl, rfl, rfl, rfl, rfl⟩ rfl rfl rfl rfl rfl (by kernel_rfl) Try.func5 (by kernel_rfl)
    (of_decide_eq_true (by kernel_rfl)) (by unfold Func.isWrapper; first | (rw [if_pos (by decide +kernel)]; kernel_rfl) | (rw [if_neg (by decide +kernel)]; exact ⟨rfl, rfl⟩))
    (fun os started H enc _ => back_lifted os started H enc)

#print axioms OctetBack_holds
end Go.Proofs.Ytmcgjfnilmadoaa
