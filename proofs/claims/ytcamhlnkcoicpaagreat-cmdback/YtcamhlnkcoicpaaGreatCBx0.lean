/-
  A Reader, and boxes of the call's own beside it.
-/
import Derived.Test.YtcamhlnkcoicpaaGreatCB22
namespace Go.Proofs.YtcamhlnkcoicpaaGreat
open Go.RowKit

abbrev Boxes := List (Nat × Array Value × TypeId)
/-- A Reader, and boxes of the call's own. -/
structure TkB (N : Nat) (w0 w : World) (r g : Nat) (bs : List Nat) (L : Boxes) : Prop where
  rd : RdIs w r g bs false
  bx : ∀ x ∈ L, w.heap[x.1]? = some (.cells x.2.1 x.2.2 (0, 0)) ∧ w0.heap.size ≤ x.1
  nd : (L.map (·.1)).Nodup
  mv : Moves [r] w0 w
  hr : r < w0.heap.size
  hg : g < w0.heap.size
  oct : OctN N bs
theorem TkB.at {N : Nat} {w0 w : World} {r g : Nat} {bs : List Nat} {L : Boxes} (h : TkB N w0 w r g bs L) (i : Nat) {b : Nat} {c : Array Value} {t : TypeId} (hi : L[i]? = some (b, c, t)) : w.heap[b]? = some (.cells c t (0, 0)) := (h.bx _ (List.mem_of_getElem? hi)).1
theorem TkB.ge {N : Nat} {w0 w : World} {r g : Nat} {bs : List Nat} {L : Boxes} (h : TkB N w0 w r g bs L) (i : Nat) {b : Nat} {c : Array Value} {t : TypeId} (hi : L[i]? = some (b, c, t)) : w0.heap.size ≤ b := (h.bx _ (List.mem_of_getElem? hi)).2
theorem TkB.start {N : Nat} {w : World} {r g : Nat} {bs : List Nat} (h : RdIs w r g bs false) (ho : OctN N bs) (hg : g < w.heap.size) : TkB N w w r g bs [] := ⟨h, by simp, by simp, Moves.refl _ _, h.ltp, hg, ho⟩
theorem TkB.read {N : Nat} {w0 w w' : World} {r g : Nat} {bs bs' : List Nat} {L : Boxes} (h : TkB N w0 w r g bs L) (hr : RdIs w' r g bs' false) (m : Moves [r] w w') (ho : OctN N bs') : TkB N w0 w' r g bs' L :=
  ⟨hr, fun x hx => ⟨m.at (h.bx x hx).1 (by have := (h.bx x hx).2; have := h.hr; simp; omega), (h.bx x hx).2⟩, h.nd, h.mv.then m, h.hr, h.hg, ho⟩
theorem TkB.moves {N : Nat} {w0 w w' : World} {r g : Nat} {bs : List Nat} {L : Boxes} (h : TkB N w0 w r g bs L) (m : Moves [] w w') : TkB N w0 w' r g bs L :=
  ⟨h.rd.moves m (by simp) (by simp), fun x hx => ⟨m.at (h.bx x hx).1 (by simp), (h.bx x hx).2⟩, h.nd, h.mv.then (m.mono (by simp)), h.hr, h.hg, h.oct⟩
theorem TkB.new {N : Nat} {w0 w : World} {r g : Nat} {bs : List Nat} {L : Boxes} (h : TkB N w0 w r g bs L) (c : Array Value) (t : TypeId) : TkB N w0 (w.alloc (.cells c t)) r g bs (L ++ [(w.heap.size, c, t)]) := by
  have m : Moves [] w (w.alloc (.cells c t)) := (Moves.refl _ _).alloc _
  have q := h.moves m
  have sz := h.mv.size
  refine ⟨q.rd, fun x hx => ?_, ?_, q.mv, h.hr, h.hg, h.oct⟩
  · rcases List.mem_append.1 hx with hx | hx
    · exact q.bx x hx
    · simp at hx
      subst hx
      exact ⟨heap_alloc_new _ _, sz⟩
  · rw [List.map_append, List.nodup_append]
    refine ⟨h.nd, by simp, fun a ha b hb => ?_⟩
    obtain ⟨x, hx, rfl⟩ := List.mem_map.1 ha
    simp at hb
    subst hb
    have := lt_of_block (h.bx x hx).1
    omega
theorem TkB.set {N : Nat} {w0 w w' : World} {r g : Nat} {bs : List Nat} {L : Boxes} (h : TkB N w0 w r g bs L) (i : Nat) {b : Nat} {c c' : Array Value} {t : TypeId} (hi : L[i]? = some (b, c, t)) (m : Moves [b] w w') (hb : w'.heap[b]? = some (.cells c' t (0, 0))) : TkB N w0 w' r g bs (L.set i (b, c', t)) := by
  have hge := h.ge i hi
  have k1 := h.hr
  have k2 := h.hg
  have hlt : i < L.length := (List.getElem?_eq_some_iff.1 hi).1
  have hmap : (L.set i (b, c', t)).map (·.1) = L.map (·.1) := by
    rw [List.map_set]
    refine List.ext_getElem? fun j => ?_
    rw [List.getElem?_set]
    split
    · rename_i e
      subst e
      have hi2 := (List.getElem?_eq_some_iff.1 hi).2
      simp [hlt, hi2]
    · rfl
  refine ⟨h.rd.moves m (by simp; omega) (by simp; omega), fun x hx => ?_, by rw [hmap]; exact h.nd, h.mv.trans m (fun x hx => .inr (by simp at hx; omega)), h.hr, h.hg, h.oct⟩
  obtain ⟨j, hj⟩ := List.mem_iff_getElem?.1 hx
  rw [List.getElem?_set] at hj
  split at hj
  · rename_i e
    subst e
    simp at hj
    subst hj
    exact ⟨hb, hge⟩
  · rename_i e
    have q := h.bx x (List.mem_of_getElem? hj)
    refine ⟨m.at q.1 ?_, q.2⟩
    simp
    intro e2
    have n1 := h.nd
    unfold List.Nodup at n1
    rw [List.pairwise_iff_getElem] at n1
    have hjl : j < L.length := (List.getElem?_eq_some_iff.1 hj).1
    have hi2 := (List.getElem?_eq_some_iff.1 hi).2
    have hj2 := (List.getElem?_eq_some_iff.1 hj).2
    rcases Nat.lt_or_gt_of_ne e with hl | hl
    · exact n1 i j (by simpa using hlt) (by simpa using hjl) hl (by simp [hi2, hj2, e2])
    · exact n1 j i (by simpa using hjl) (by simpa using hlt) hl (by simp [hi2, hj2, e2])
/-- Bytes of a value stay where a box is written. -/
theorem VC.box {w w' : World} {c : List Value} {p : Pv} {b : Nat} {cb : Array Value} {t : TypeId} {fz : Nat × Nat} (h : VC w c p) (m : Moves [b] w w') (hb : w.heap[b]? = some (.cells cb t fz)) (ht : t ≠ 5) : VC w' c p := by
  refine h.stay (T := (· = 5)) (Stay.ofMovesS m (fun k hk c' t' fz' hc he => ?_)) rfl
  simp at hk
  subst hk
  rw [hb] at hc
  simp at hc
  exact ht (hc.2.1.trans he)
theorem VC.moves0 {w w' : World} {c : List Value} {p : Pv} (h : VC w c p) (m : Moves [] w w') : VC w' c p := h.stay (T := (· = 5)) (Stay.ofMoves m) rfl
theorem rlongD_w (N r g : Nat) (bs : List Nat) (w : World) (h : RdIs w r g bs false) (ho : OctN N bs) : Calls Tryz.prog 166 #[.pointer (some ⟨r, 0, none⟩)] w fun e w' => match dNum 8 bs with
    | some (v, rest) => e = .returned (.int .u64 (v : Int)) ∧ RdIs w' r g rest false ∧ Moves [r] w w'
    | none => e = .panicked (stop r) ∧ RdIs w' r g bs true ∧ Moves [r] w w' := by
  cases hd : dNum 8 bs with
  | some pr =>
    obtain ⟨v, rest⟩ := pr
    obtain ⟨h1, h2, h3⟩ := dNum_some hd
    have q := rlongr_w r g bs w h h1 ho.2
    rw [h2, h3] at q
    exact q
  | none => exact rlongr_fail_w r g bs w h (dNum_none hd)
/-- value.Get of any bytes. -/
theorem vgetD_w (N r g : Nat) (bs : List Nat) (w : World) (h : RdIs w r g bs false) (ho : OctN N bs) : Calls Tryz.prog 165 #[.pointer (some ⟨r, 0, none⟩)] w fun e w' => match dVal bs with
    | some (v, rest) => ∃ ad n cap, e = .returned (.agg #[.int .i64 v.kind, .slice ad n cap, .float .f64 v.n]) ∧ VC w' [.int .i64 v.kind, .slice ad n cap, .float .f64 v.n] v ∧ RdIs w' r g rest false ∧ Moves [r] w w'
    | none => e = .panicked (stop r) ∧ (∃ bs', RdIs w' r g bs' true) ∧ Moves [r] w w' := by
  cases hd : dVal bs with
  | some pr =>
    obtain ⟨v, rest⟩ := pr
    have hdv := dVal_yes hd
    have hl : v.bs.length ≤ 16 := by
      rcases hdv.2 with ⟨_, hok, _, htx, _⟩ | ⟨_, _, _, htx, _⟩
      · rw [htx, List.length_take]
        have := hok.2.2.1 (by omega)
        omega
      · rw [htx]; simp
    refine (vGet_ok r g bs _ _ _ _ w h ho.2 hdv).mono ?_
    rintro _ w6 ⟨c5, rfl, hc5⟩
    obtain ⟨k5', v5, g5, b5, n5⟩ := c5
    obtain ⟨hk5, hb5, hn5, ho5, hf5, hi5, hr5', m5⟩ := hc5
    simp only at hk5 hb5 hn5
    subst hk5 hb5 hn5
    simp only [Vm.val]
    have hB5 := ho5.isB
    obtain ⟨ad5, len5, cap5, rfl, _⟩ := hB5
    exact ⟨ad5, len5, cap5, rfl, VC.ofOwn rfl ho5 hi5.fits hi5.oct (by omega) rfl, hr5', m5⟩
  | none =>
    refine (vGet_fail r g bs w h ho.2 (dVal_no hd)).mono ?_
    rintro _ w6 ⟨rfl, bs', hr6, m6⟩
    exact ⟨rfl, ⟨bs', hr6⟩, m6⟩
end Go.Proofs.YtcamhlnkcoicpaaGreat
