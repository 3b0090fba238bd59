/-
  OnceBytes: what was written is read; with more behind it, or cut off, it is not. No condition.
-/
import Derived.Test.YtoijkdknjbgebaaCOb3
import Derived.Test.YtoijkdknjbgebaaRows
import Derived.ProofKit
import Derived.OpenShut
import Derived.ChangeOld
namespace Go.Proofs.Ytoijkdknjbgebaa
open Go.RowKit

/-- Bytes lie in a block that is there. -/
theorem isB_norm {w : World} {g : Nat} {v : Value} {bs : List Nat} (h : IsB w g v bs) (hw : 0 < w.heap.size) : ∃ g', g' < w.heap.size ∧ IsB w g' v bs := by
  obtain ⟨ad, n, cap, h1, h2, h3, h4, h5⟩ := h
  rcases h5 with rfl | ⟨off, h5, h6⟩
  · exact ⟨0, hw, ad, n, cap, h1, h2, h3, h4, .inl rfl⟩
  · cases bs with
    | nil => exact ⟨0, hw, ad, n, cap, h1, h2, h3, h4, .inl rfl⟩
    | cons b bs =>
      have := lt_of_cell (h6 0 b rfl)
      exact ⟨g, this, ad, n, cap, h1, h2, h3, h4, .inr ⟨off, h5, h6⟩⟩
/-- What a function that takes a cache alone leaves. -/
def TakesIt (w0 : World) (r g : Nat) (o : Option (List Pt × List Nat)) (e : Ending) (w' : World) : Prop := match o with
  | some (_, rest) => e = .returned (.tuple #[]) ∧ RdIs w' r g rest false ∧ Moves [r] w0 w'
  | none => e = .panicked (stop r) ∧ (∃ bs', RdIs w' r g bs' true) ∧ Moves [r] w0 w'
def endsT (bs : List Nat) : Bool := match dTake bs with
  | some (_, rest) => (rest.length : Int) == 0
  | none => false
theorem read_stop' (F : Nat) (v : Value) (g : Nat) (bs : List Nat) (w : World) (hv : IsB w g v bs) (hg : g ≠ w.heap.size) (Q : World → Prop)
    (hcf : ∀ (args : Array Value) (w : World), (callFunc F args).run Try.prog w = .ok (.enter F args) w)
    (hf : ∀ w1, Begun w1 w.heap.size g bs false → Moves [] w w1 → Calls Try.prog F #[.pointer (some ⟨w.heap.size, 0, none⟩)] w1 fun e w2 => e = .panicked (stop w.heap.size) ∧ (∃ bs', Begun w2 w.heap.size g bs' true) ∧ Q w2) :
    Calls Try.prog 13 #[v, .func (.func F) #[] #[]] w fun e w' => e = .returned (.bool false) ∧ ∃ w2, Q w2 ∧ Moves [w.heap.size] w2 w' := by
  have hmf : ∀ (fn : Fn) (first cap : Array Value) (w : World), (Instr.makeFunc fn first cap).run Try.prog w = .ok (.func fn first cap) w := fun _ _ _ _ => rfl
  have hne : ∀ w : World, (binOp .eql 36 (.func (.func F) #[] #[]) .nilFunc).run Try.prog w = .ok (.bool false) w := by intro w; kernel_rfl
  obtain ⟨hb1, hm1⟩ := begun hv hg
  obtain ⟨ad, n, c, rfl, hn, _⟩ := hv
  go_enter_defers Try.func13, Try.ntmps13
  go_wp2_with fail
  refine (hf _ hb1 hm1).mono ?_
  rintro _ w2 ⟨rfl, ⟨bs', hr2, hq2⟩, hQ2⟩
  clear hf hb1 hm1
  go_wp2_with fail
  refine leaves_cons (f := 37) (args := #[.pointer (some ⟨w.heap.size + 1, 0, none⟩)]) (by simp) (by simp [go_sem]) ?_
  refine (caught_stop w.heap.size (w.heap.size + 1) _ hr2.rdAt hq2 (by omega)).mono ?_
  rintro e u' w3 ⟨rfl, rfl, m3⟩
  simp [Leaves, settle, results, Try.results13, go_sem]
  exact ⟨w2, hQ2, m3⟩
theorem oreads_w (F : Nat) (hcf : ∀ (args : Array Value) (w : World), (callFunc F args).run Try.prog w = .ok (.enter F args) w)
    (hF : ∀ (w : World) (r g : Nat) (bs : List Nat), RdIs w r g bs false → (∀ b ∈ bs, b < 256) → r < w.heap.size → g < w.heap.size → Calls Try.prog F #[.pointer (some ⟨r, 0, none⟩)] w fun e w' => TakesIt w r g (dTake bs) e w')
    (v : Value) (g : Nat) (bs : List Nat) (w : World) (hv : IsB w g v bs) (hg : g < w.heap.size) (ho : ∀ b ∈ bs, b < 256) :
    Calls Try.prog 13 #[v, .func (.func F) #[] #[]] w fun e w' => e = .returned (.bool (endsT bs)) ∧ Moves [] w w' := by
  unfold endsT
  cases hd : dTake bs with
  | some p =>
    obtain ⟨xs, rest⟩ := p
    refine (read_ret F #[] v g bs rest w hv (by omega) (fun w2 => Moves [] w w2) hcf ?_).mono ?_
    · intro w1 hb hm
      have hlt := lt_of_block hb.2
      have q := hF w1 w.heap.size g bs hb.1 ho (by omega) (Nat.lt_of_lt_of_le hg hm.size)
      rw [hd] at q
      refine q.mono ?_
      rintro _ w2 ⟨rfl, hr, m⟩
      exact ⟨rfl, hb.moves hr m, hm.trans m (fun x hx => .inr (by simp at hx; omega))⟩
    · rintro _ w' ⟨rfl, w2, h2, m2⟩
      exact ⟨rfl, h2.trans m2 (fun x hx => .inr (by simp at hx; omega))⟩
  | none =>
    refine (read_stop' F v g bs w hv (by omega) (fun w2 => Moves [] w w2) hcf ?_).mono ?_
    · intro w1 hb hm
      have hlt := lt_of_block hb.2
      have q := hF w1 w.heap.size g bs hb.1 ho (by omega) (Nat.lt_of_lt_of_le hg hm.size)
      rw [hd] at q
      refine q.mono ?_
      rintro _ w2 ⟨rfl, ⟨bs', hr⟩, m⟩
      exact ⟨rfl, ⟨bs', hb.moves hr m⟩, hm.trans m (fun x hx => .inr (by simp at hx; omega))⟩
    · rintro _ w' ⟨rfl, w2, h2, m2⟩
      exact ⟨rfl, h2.trans m2 (fun x hx => .inr (by simp at hx; omega))⟩
theorem clos2_w (w : World) (r g : Nat) (bs : List Nat) (h : RdIs w r g bs false) (ho : ∀ b ∈ bs, b < 256) (hr : r < w.heap.size) (hg : g < w.heap.size) : Calls Try.prog 28 #[.pointer (some ⟨r, 0, none⟩)] w fun e w' => TakesIt w r g (dTake bs) e w' := by
  have hT := otake_w w r g bs h ho hr hg
  cases hd : dTake bs with
  | some pr =>
    obtain ⟨xs, rest⟩ := pr
    rw [hd] at hT
    go_enter Try.func28, Try.ntmps28
    go_wp2_with fail
    refine hT.mono ?_
    rintro _ w2 ⟨q, a, rfl, hk⟩
    go_wp2_with fail
    go_end0
    exact ⟨rfl, hk.rd, hk.mv⟩
  | none =>
    rw [hd] at hT
    go_enter Try.func28, Try.ntmps28
    go_wp2_with fail
    refine hT.mono ?_
    rintro _ w2 ⟨rfl, hr2, m2⟩
    exact ⟨rfl, rfl, hr2, m2⟩
theorem clos3_w (w : World) (r g : Nat) (bs : List Nat) (h : RdIs w r g bs false) (ho : ∀ b ∈ bs, b < 256) (hr : r < w.heap.size) (hg : g < w.heap.size) : Calls Try.prog 29 #[.pointer (some ⟨r, 0, none⟩)] w fun e w' => TakesIt w r g (dTake bs) e w' := by
  have hT := otake_w w r g bs h ho hr hg
  cases hd : dTake bs with
  | some pr =>
    obtain ⟨xs, rest⟩ := pr
    rw [hd] at hT
    go_enter Try.func29, Try.ntmps29
    go_wp2_with fail
    refine hT.mono ?_
    rintro _ w2 ⟨q, a, rfl, hk⟩
    go_wp2_with fail
    go_end0
    exact ⟨rfl, hk.rd, hk.mv⟩
  | none =>
    rw [hd] at hT
    go_enter Try.func29, Try.ntmps29
    go_wp2_with fail
    refine hT.mono ?_
    rintro _ w2 ⟨rfl, hr2, m2⟩
    exact ⟨rfl, rfl, hr2, m2⟩
theorem clos4_w (w : World) (r g : Nat) (bs : List Nat) (h : RdIs w r g bs false) (ho : ∀ b ∈ bs, b < 256) (hr : r < w.heap.size) (hg : g < w.heap.size) : Calls Try.prog 31 #[.pointer (some ⟨r, 0, none⟩)] w fun e w' => TakesIt w r g (dTake bs) e w' := by
  have hT := otake_w w r g bs h ho hr hg
  cases hd : dTake bs with
  | some pr =>
    obtain ⟨xs, rest⟩ := pr
    rw [hd] at hT
    go_enter Try.func31, Try.ntmps31
    go_wp2_with fail
    refine hT.mono ?_
    rintro _ w2 ⟨q, a, rfl, hk⟩
    go_wp2_with fail
    go_end0
    exact ⟨rfl, hk.rd, hk.mv⟩
  | none =>
    rw [hd] at hT
    go_enter Try.func31, Try.ntmps31
    go_wp2_with fail
    refine hT.mono ?_
    rintro _ w2 ⟨rfl, hr2, m2⟩
    exact ⟨rfl, rfl, hr2, m2⟩
/-- The function that keeps what it took. -/
theorem otakes1_w (w : World) (r g D : Nat) (bs : List Nat) (xs : List Pt) (dv : Value) (h : RdIs w r g bs false) (ho : ∀ b ∈ bs, b < 256) (hr : r < w.heap.size) (hg : g < w.heap.size) (hd : dTake bs = some (xs, [])) (hD : w.heap[D]? = some (.cells #[dv] 22 (0, 0))) (hDr : D ≠ r) (hDg : D ≠ g) :
    Calls Try.prog 26 #[.pointer (some ⟨r, 0, none⟩), .pointer (some ⟨D, 0, none⟩)] w fun e w' => e = .returned (.tuple #[]) ∧ ∃ q a, w'.heap[D]? = some (.cells #[.pointer (some ⟨q, 0, none⟩)] 22 (0, 0)) ∧ RdIs w' r g [] false ∧ CaIs w w' q a xs ∧ Moves [r, D] w w' ∧ w.heap.size ≤ q := by
  have hT := otake_w w r g bs h ho hr hg
  rw [hd] at hT
  have lD := lt_of_block hD
  go_enter Try.func26, Try.ntmps26
  go_wp2_with fail
  refine hT.mono ?_
  rintro _ w2 ⟨q, a, rfl, hk⟩
  have hD2 := hk.mv.at hD (by simpa using hDr)
  obtain ⟨x1, x2⟩ := one_cell hD2
  have hq := hk.hp
  go_wp2_with fail
  go_end0
  have ms := moves_set w2 D 0 (.pointer (some ⟨q, 0, none⟩))
  refine ⟨rfl, q, a, set_one hD2 _, hk.rd.moves ms (by simp; omega) (by simp; omega), hk.ca.moves ms (by simp; omega) (fun k hka => by have := (hk.ca.lta hka).2; simp; omega), (hk.mv.mono (by simp)).then (ms.mono (by simp)), hq⟩

theorem oread1_w (v : Value) (g D : Nat) (bs : List Nat) (xs : List Pt) (dv : Value) (w : World) (hv : IsB w g v bs) (hg : g < w.heap.size) (ho : ∀ b ∈ bs, b < 256) (hd : dTake bs = some (xs, [])) (hD : w.heap[D]? = some (.cells #[dv] 22 (0, 0))) (hDg : D ≠ g) :
    Calls Try.prog 13 #[v, .func (.func 26) #[] #[.pointer (some ⟨D, 0, none⟩)]] w fun e w' => e = .returned (.bool true) ∧ ∃ q a, w'.heap[D]? = some (.cells #[.pointer (some ⟨q, 0, none⟩)] 22 (0, 0)) ∧ CaIs w w' q a xs ∧ Moves [D] w w' ∧ w.heap.size < q := by
  have lD := lt_of_block hD
  refine (read_ret 26 #[.pointer (some ⟨D, 0, none⟩)] v g bs [] w hv (by omega) (fun w2 => ∃ q a, w2.heap[D]? = some (.cells #[.pointer (some ⟨q, 0, none⟩)] 22 (0, 0)) ∧ CaIs w w2 q a xs ∧ Moves [D] w w2 ∧ w.heap.size < q ∧ ∀ k, a = some k → w.heap.size < k) (fun _ _ => rfl) ?_).mono ?_
  · intro w1 hb hm
    have hlt := lt_of_block hb.2
    have sz := hm.size
    refine (otakes1_w w1 w.heap.size g D bs xs dv hb.1 ho (by omega) (by omega) hd (hm.at hD (by simp)) (by omega) hDg).mono ?_
    rintro _ w2 ⟨rfl, q, a, k1, k2, k3, k4, k5⟩
    refine ⟨rfl, ⟨k2, k4.at hb.2 (by simp; omega)⟩, q, a, k1, ?_, ?_, by omega, fun k hk => by have := (k3.lta hk).2; omega⟩
    · exact k3.elder sz
    · exact (hm.mono (by simp)).trans k4 (fun x hx => by simp at hx; rcases hx with rfl | rfl; exact .inr (by omega); exact .inl (by simp))
  · rintro _ w' ⟨rfl, w2, ⟨q, a, k1, k2, k3, k4, k5⟩, m2⟩
    refine ⟨rfl, q, a, m2.at k1 (by simp; omega), k2.moves m2 (by simp; omega) (fun k hk => by have := k5 k hk; simp; omega), k3.trans m2 (fun x hx => .inr (by simp at hx; omega)), k4⟩

/-- Other blocks are written. -/
theorem PlayIs.other {W w wr w' : World} {P : Nat} {a : Option Nat} {xs m : List Pt} {mv : Value} {k B : Nat} {c : Array Value} {t : TypeId} {fz : Nat × Nat} (h : PlayIs W w wr P a xs mv m k) (mm : Moves [B] wr w') (hB : wr.heap[B]? = some (.cells c t fz)) (hw : w.heap.size ≤ B) (ht1 : t ≠ 5) (ht2 : t ≠ 50) (ht3 : t ≠ 60) (ht4 : t ≠ 63) : PlayIs W w w' P a xs mv m k := by
  have hst : Stay (· ≠ t) wr w' := Stay.ofMovesS mm (fun b hb c' t' fz' hc' hn => by
    simp at hb
    subst hb
    rw [hB] at hc'
    simp at hc'
    exact hn hc'.2.1.symm)
  refine ⟨h.ca.moves mm ?_ ?_, h.ag, h.ents.stay hst ht1.symm ht2.symm, h.few, h.mv.trans mm (fun x hx => .inr (by simp at hx; omega)), h.may⟩
  · obtain ⟨v, h1, _, _⟩ := h.ca
    intro hm
    simp at hm
    subst hm
    rw [hB] at h1
    simp at h1
    exact ht3 h1.2.1
  · intro j hj hm
    simp at hm
    subst hm
    obtain ⟨v, _, hv, h3⟩ := h.ca
    obtain ⟨cur, hc⟩ := h3.blk (hv.trans hj)
    rw [hB] at hc
    simp at hc
    exact ht4 hc.2.1

set_option maxRecDepth 100000 in
set_option maxHeartbeats 16000000 in
theorem onceBytes_w (lv cv bv : Value) (w : World) (hl : OArgs w lv) (hc : IArg cv) (gb : Nat) (bb : List Nat) (hbv : IsB w gb bv bb) (hob : ∀ z ∈ bb, z < 256) : Calls Try.prog 6 #[lv, cv, bv] w fun e w' => e = .returned (.bool true) ∧ Moves [] w w' := by
  have hp := play9_w lv w w hl (Moves.refl _ _)
  obtain ⟨ad, len, cap, rfl, -, -⟩ := hl
  obtain ⟨cut, rfl⟩ := hc
  have HBV : Hid (IsB w gb bv bb) := hbv
  obtain ⟨ab, nb, cb, rfl, -⟩ := hbv
  have hmf : ∀ (fn : Fn) (first cap : Array Value) (w : World), (Instr.makeFunc fn first cap).run Try.prog w = .ok (.func fn first cap) w := fun _ _ _ _ => rfl
  go_enter Try.func6, Try.ntmps6
  go_wp2_with fail
  refine hp.mono ?_
  rintro _ w1 ⟨mv, rfl, a, xs, m, h1⟩
  obtain ⟨am, nm, cm, rfl, hnm, -⟩ := h1.ents.open
  obtain ⟨P, hP⟩ : ∃ P, w.heap.size = P := ⟨_, rfl⟩
  rw [hP] at h1 ⊢
  have s1 := h1.mv.size
  clear hp
  go_wp2_with fail
  refine (new_w w1).mono ?_
  rintro _ w2 ⟨rfl, hW2, m2⟩
  obtain ⟨q, hq⟩ : ∃ q, w1.heap.size = q := ⟨_, rfl⟩
  rw [hq] at hW2 ⊢
  have h2 := h1.moves m2
  have hbig : ∀ x ∈ xs, BigT x := fun x hx => (h1.may x hx).big
  have hwr := owrite_w w w2 P q a none xs h2.ca hW2 hbig (by have := h1.few; omega)
  go_wp2_with fail
  refine hwr.mono ?_
  rintro _ w3 ⟨rfl, b3, hW3⟩
  have h3 : PlayIs w w w3 P a xs (.slice am nm cm) m 50 := by
    obtain ⟨vq, hq2, _⟩ := hW2
    exact h2.other (by simpa using hW3.2.1) hq2 (by omega) (by decide) (by decide) (by decide) (by decide)
  obtain ⟨E, hE⟩ : ∃ E, encC xs = E := ⟨_, rfl⟩
  rw [hE] at hW3
  have hEl : E.length ≤ 1048585004 := by
    have q1 := encsT_length xs hbig
    have q2 : xs.length ≤ 1000 := by have := h1.few; omega
    have q3 := Nat.mul_le_mul_right 1048585 q2
    rw [← hE]
    unfold encC
    rw [List.length_append, be_length]
    omega
  have hE0 : 4 ≤ E.length := by
    rw [← hE]
    unfold encC
    rw [List.length_append, be_length]
    omega
  have hdn := done_w q b3 E w3 hW3.1 (by omega)
  clear hwr hW2 h1 h2
  go_wp2_with fail
  refine hdn.mono ?_
  rintro _ w4 ⟨v4, rfl, hO4, m4, f4⟩
  clear hdn
  have h4 := h3.moves m4
  obtain ⟨g4, cap4, rfl⟩ : ∃ g4 cap4, v4 = .slice (some ⟨g4, 0, none⟩) E.length cap4 := by
    rcases hO4.2 with ⟨_, e0⟩ | ⟨g, cap, cur, rfl, _⟩
    · omega
    · exact ⟨g, cap, rfl⟩
  obtain ⟨L, hL⟩ : ∃ L, E.length = L := ⟨_, rfl⟩
  rw [hL] at hO4 hEl hE0 ⊢
  have hg4 : g4 < w4.heap.size := hO4.lt (k := g4) rfl
  have hg4b : IsB w4 g4 (.slice (some ⟨g4, 0, none⟩) L cap4) E := hO4.isB
  have hD := heap_alloc_new w4 (.cells #[.pointer none] 22)
  have m5 : Moves [] w4 (w4.alloc (.cells #[.pointer none] 22)) := (Moves.refl _ _).alloc _
  obtain ⟨D, hDD⟩ : ∃ D, w4.heap.size = D := ⟨_, rfl⟩
  rw [hDD] at hD
  have hL0 : ¬ (L : Int) = 0 := by omega
  have hL0b : ((L : Int) == 0) = false := by simpa using hL0
  have h256 : xs.length ≤ 256 := by have := h3.few; omega
  have hdE : dTake E = some (xs, []) := by
    have q1 := dTake_enc h3.ag.rise hbig h256 []
    rw [List.append_nil, hE] at q1
    exact q1
  have hoE : ∀ b ∈ E, b < 256 := by rw [← hE]; exact encC_oct hbig
  have hrd := oread1_w _ g4 D E xs _ _ (hg4b.moves m5 (by simp)) (by have := m5.size; omega) hoE hdE hD (by omega)
  have h5 := h4.moves m5
  have HL : Hid (E.length = L) := hL
  have sw4 := h4.mv.size
  clear h3 hL h4 hW3 f4
  go_wp2_with fail
  refine hrd.mono ?_
  rintro _ w6 ⟨rfl, q6, a6, hD6, hc6, m6, hq6⟩
  clear hrd
  have h6 : PlayIs w w w6 P a xs (.slice am nm cm) m 50 := h5.other m6 hD (by omega) (by decide) (by decide) (by decide) (by decide)
  obtain ⟨x6, -⟩ := one_cell hD6
  have hsm := osame_yes w _ w6 P q6 a a6 xs h6.ca hc6 (by omega)
  have HG6 : Hid (IsB w6 g4 (.slice (some ⟨g4, 0, none⟩) L cap4) E) := (hg4b.moves m5 (by simp)).moves m6 (by simp; omega)
  clear h5 hg4b hD
  go_wp2_with fail
  refine hsm.mono ?_
  rintro _ w7 ⟨rfl, m7⟩
  clear hsm
  have H7 : Hid (PlayIs w w w7 P a xs (.slice am nm cm) m 50) := h6.moves m7
  have HC7 : Hid (∃ W, CaIs W w7 q6 a6 xs) := ⟨_, hc6.moves0 m7⟩
  obtain ⟨W7, hc7⟩ := HC7.out
  have HC : Hid (CaIs W7 w7 q6 a6 xs) := hc7
  have HD7 : Hid (w7.heap[D]? = some (.cells #[.pointer (some ⟨q6, 0, none⟩)] 22 (0, 0))) := m7.at hD6 (by simp)
  have HG7 : Hid (IsB w7 g4 (.slice (some ⟨g4, 0, none⟩) L cap4) E) := HG6.out.moves m7 (by simp)
  have hg47 : g4 < w7.heap.size := by have := m5.size; have := m6.size; have := m7.size; omega
  have hln : nm ≤ 1000 := by have := h6.ag.len; have := hnm.out; omega
  clear HC7 hc7 HG6 hc6 h6 hD6
  go_wp2_with fail
  go_loopw [13] (fun iv wr => ∃ k : Nat, k ≤ nm ∧ iv = .int .i64 (k : Int) ∧ Moves [] w7 wr) (fun iv _ => (nm - intOf iv).toNat)
  case atStart => exact ⟨0, Nat.zero_le _, rfl, Moves.refl _ _⟩
  case round =>
    obtain ⟨k, hk, rfl, mr⟩ := hrel
    have H7r := H7.out.moves mr
    by_cases hkn : k < nm
    · have hkn' : (k : Int) < (nm : Int) := by omega
      obtain ⟨x, hx⟩ : ∃ x, m[k]? = some x := ⟨_, List.getElem?_eq_getElem (by have := hnm.out; omega)⟩
      obtain ⟨g, off, a2, n2, c2, rfl, y0, y1, -, -⟩ := H7r.ents.at hx
      have hlooks := fun w' (m' : Moves [] wr w') => looks_w W7 w' q6 a6 xs m _ x.c x.s (HC.out.moves0 (mr.then m')) H7r.ag (H7r.ents.moves m') (by have := H7r.few; omega) H7r.small
      obtain ⟨yD, -⟩ := one_cell (mr.at HD7.out (by simp))
      clear hx H7r
      go_wp2_with fail
      refine wp_region_noPanic ?_
      refine wp_region_held_drew (S := (fun w' => w'.cell? ⟨D, 0, none⟩ = some (.pointer (some ⟨q6, 0, none⟩)) ∧ w'.cell? ⟨g, off + k * 3, none⟩ = some (.int .i64 x.c) ∧ w'.cell? ⟨g, off + k * 3 + 1, none⟩ = some (.int .i64 x.s))) (by kernel_rfl) ?_ (fun hHeld => ?_)
      · first | (go_keep; done) | first | exact ⟨yD, y0, y1⟩ | exact ⟨fD, f0, f1⟩
      refine wpAnyH_take (i := 0) (oi := { dst := some 59, op := Op.load 22 (Operand.tmp 12), type := 22, pos := "law.go:133", after := #[], guard := none }) (v := ?_) rfl (by kernel_rfl) (by kernel_rfl) (by kernel_rfl) (fun _ _ _ h => h) (Or.inl ⟨by rfl, ?_⟩) (by assumption) ?_
      rotate_left
      · (intro w hSw; (try dsimp only at hSw); go_simp; try (with_reducible rfl))
      try simp only [Act.put, List.setIfInBounds_toArray, List.set_cons_zero, List.set_cons_succ]
      refine wpAnyH_take (i := 1) (oi := { dst := some 60, op := Op.move (Operand.tmp 8), type := 25, pos := "law.go:133", after := #[], guard := none }) (v := ?_) rfl (by kernel_rfl) (by kernel_rfl) (by kernel_rfl) (fun _ _ _ h => h) (Or.inl ⟨by rfl, ?_⟩) (by assumption) ?_
      rotate_left
      · (intro w hSw; (try dsimp only at hSw); go_simp; try (with_reducible rfl))
      try simp only [Act.put, List.setIfInBounds_toArray, List.set_cons_zero, List.set_cons_succ]
      refine wpAnyH_take (i := 2) (oi := { dst := some 61, op := Op.move (Operand.tmp 8), type := 25, pos := "law.go:133", after := #[], guard := none }) (v := ?_) rfl (by kernel_rfl) (by kernel_rfl) (by kernel_rfl) (fun _ _ _ h => h) (Or.inl ⟨by rfl, ?_⟩) (by assumption) ?_
      rotate_left
      · (intro w hSw; (try dsimp only at hSw); go_simp; try (with_reducible rfl))
      try simp only [Act.put, List.setIfInBounds_toArray, List.set_cons_zero, List.set_cons_succ]
      refine wpAnyH_take (i := 3) (oi := { dst := some 62, op := Op.move (Operand.tmp 13), type := 3, pos := "law.go:133", after := #[], guard := none }) (v := ?_) rfl (by kernel_rfl) (by kernel_rfl) (by kernel_rfl) (fun _ _ _ h => h) (Or.inl ⟨by rfl, ?_⟩) (by assumption) ?_
      rotate_left
      · (intro w hSw; (try dsimp only at hSw); go_simp; try (with_reducible rfl))
      try simp only [Act.put, List.setIfInBounds_toArray, List.set_cons_zero, List.set_cons_succ]
      refine wpAnyH_take (i := 4) (oi := { dst := some 63, op := Op.indexAddr 25 (Operand.tmp 61) (Operand.tmp 62), type := 0, pos := "law.go:133", after := #[{ on := 2, ground := Ground.data }, { on := 3, ground := Ground.data }], guard := none }) (v := ?_) rfl (by kernel_rfl) (by kernel_rfl) (by kernel_rfl) (fun _ _ _ h => h) (Or.inl ⟨by rfl, ?_⟩) (by assumption) ?_
      rotate_left
      · (intro w hSw; (try dsimp only at hSw); go_simp; try (with_reducible rfl))
      try simp only [Act.put, List.setIfInBounds_toArray, List.set_cons_zero, List.set_cons_succ]
      refine wpAnyH_take (i := 5) (oi := { dst := some 64, op := Op.fieldAddr 50 (Operand.tmp 63) 0, type := 0, pos := "law.go:133", after := #[{ on := 4, ground := Ground.data }], guard := none }) (v := ?_) rfl (by kernel_rfl) (by kernel_rfl) (by kernel_rfl) (fun _ _ _ h => h) (Or.inl ⟨by rfl, ?_⟩) (by assumption) ?_
      rotate_left
      · (intro w hSw; (try dsimp only at hSw); go_simp; try (with_reducible rfl))
      try simp only [Act.put, List.setIfInBounds_toArray, List.set_cons_zero, List.set_cons_succ]
      refine wpAnyH_take (i := 6) (oi := { dst := some 65, op := Op.load 3 (Operand.tmp 64), type := 3, pos := "law.go:133", after := #[{ on := 5, ground := Ground.data }], guard := none }) (v := ?_) rfl (by kernel_rfl) (by kernel_rfl) (by kernel_rfl) (fun _ _ _ h => h) (Or.inl ⟨by rfl, ?_⟩) (by assumption) ?_
      rotate_left
      · (intro w hSw; (try dsimp only at hSw); go_simp; try (with_reducible rfl))
      try simp only [Act.put, List.setIfInBounds_toArray, List.set_cons_zero, List.set_cons_succ]
      refine wpAnyH_take (i := 7) (oi := { dst := some 66, op := Op.move (Operand.tmp 8), type := 25, pos := "law.go:133", after := #[], guard := none }) (v := ?_) rfl (by kernel_rfl) (by kernel_rfl) (by kernel_rfl) (fun _ _ _ h => h) (Or.inl ⟨by rfl, ?_⟩) (by assumption) ?_
      rotate_left
      · (intro w hSw; (try dsimp only at hSw); go_simp; try (with_reducible rfl))
      try simp only [Act.put, List.setIfInBounds_toArray, List.set_cons_zero, List.set_cons_succ]
      refine wpAnyH_take (i := 8) (oi := { dst := some 67, op := Op.move (Operand.tmp 13), type := 3, pos := "law.go:133", after := #[], guard := none }) (v := ?_) rfl (by kernel_rfl) (by kernel_rfl) (by kernel_rfl) (fun _ _ _ h => h) (Or.inl ⟨by rfl, ?_⟩) (by assumption) ?_
      rotate_left
      · (intro w hSw; (try dsimp only at hSw); go_simp; try (with_reducible rfl))
      try simp only [Act.put, List.setIfInBounds_toArray, List.set_cons_zero, List.set_cons_succ]
      refine wpAnyH_take (i := 9) (oi := { dst := some 68, op := Op.indexAddr 25 (Operand.tmp 66) (Operand.tmp 67), type := 0, pos := "law.go:133", after := #[{ on := 7, ground := Ground.data }, { on := 8, ground := Ground.data }], guard := none }) (v := ?_) rfl (by kernel_rfl) (by kernel_rfl) (by kernel_rfl) (fun _ _ _ h => h) (Or.inl ⟨by rfl, ?_⟩) (by assumption) ?_
      rotate_left
      · (intro w hSw; (try dsimp only at hSw); go_simp; try (with_reducible rfl))
      try simp only [Act.put, List.setIfInBounds_toArray, List.set_cons_zero, List.set_cons_succ]
      refine wpAnyH_take (i := 10) (oi := { dst := some 69, op := Op.fieldAddr 50 (Operand.tmp 68) 1, type := 0, pos := "law.go:133", after := #[{ on := 9, ground := Ground.data }], guard := none }) (v := ?_) rfl (by kernel_rfl) (by kernel_rfl) (by kernel_rfl) (fun _ _ _ h => h) (Or.inl ⟨by rfl, ?_⟩) (by assumption) ?_
      rotate_left
      · (intro w hSw; (try dsimp only at hSw); go_simp; try (with_reducible rfl))
      try simp only [Act.put, List.setIfInBounds_toArray, List.set_cons_zero, List.set_cons_succ]
      refine wpAnyH_take (i := 11) (oi := { dst := some 70, op := Op.load 3 (Operand.tmp 69), type := 3, pos := "law.go:133", after := #[{ on := 10, ground := Ground.data }], guard := none }) (v := ?_) rfl (by kernel_rfl) (by kernel_rfl) (by kernel_rfl) (fun _ _ _ h => h) (Or.inl ⟨by rfl, ?_⟩) (by assumption) ?_
      rotate_left
      · (intro w hSw; (try dsimp only at hSw); go_simp; try (with_reducible rfl))
      try simp only [Act.put, List.setIfInBounds_toArray, List.set_cons_zero, List.set_cons_succ]
      refine wpAnyH_ready (rs := [12]) (by kernel_rfl) (by simp) ?_
      refine AllReadyH.cons (o := { dst := some 71, op := Op.call { callee := Callee.value (Operand.func 19), args := #[Operand.tmp 59, Operand.tmp 60, Operand.tmp 65, Operand.tmp 70], argTypes := #[22, 25, 3, 3] }, type := 4, pos := "law.go:133", after := #[{ on := 0, ground := Ground.data }, { on := 1, ground := Ground.data }, { on := 6, ground := Ground.data }, { on := 11, ground := Ground.data }], guard := none }) rfl (fun K hK => ?_) AllReadyH.nil
      go_simp
      (go_at_call 19; refine (hlooks _ (Moves.refl [] wr).drew).mono ?_; rintro _ w8 ⟨rfl, m8⟩)
      have M8 : Moves [] wr w8 := (Moves.refl [] wr).drew.then m8
      have fD := M8.cell yD
      have f0 := M8.cell y0
      have f1 := M8.cell y1
      refine hK.out _ _ ?_ (fun hHeld => ?_)
      · first | exact ⟨yD, y0, y1⟩ | exact ⟨fD, f0, f1⟩
      clear hK K
      try simp only [Act.put, List.setIfInBounds_toArray, List.set_cons_zero, List.set_cons_succ]
      refine wpAnyH_take (i := 13) (oi := { dst := some 72, op := Op.unOp UnOp.not 4 (Operand.tmp 71), type := 4, pos := "law.go:133", after := #[{ on := 12, ground := Ground.data }], guard := none }) (v := ?_) rfl (by kernel_rfl) (by kernel_rfl) (by kernel_rfl) (fun _ _ _ h => h) (Or.inl ⟨by rfl, ?_⟩) (by assumption) ?_
      rotate_left
      · (intro w hSw; (try dsimp only at hSw); go_simp; try (with_reducible rfl))
      try simp only [Act.put, List.setIfInBounds_toArray, List.set_cons_zero, List.set_cons_succ]
      refine wpAnyH_done (by kernel_rfl) ?_ _
      refine NoPanic.normal ?_
      go_wp2_with fail
      go_roundw
      case rel => exact ⟨k + 1, by omega, by go_num, mr.then M8⟩
      case measure => simp [intOf]; omega
    · have hkn' : ¬ (k : Int) < (nm : Int) := by omega
      have HGr : Hid (IsB wr g4 (.slice (some ⟨g4, 0, none⟩) L cap4) E) := HG7.out.moves mr (by simp)
      have hg4r : g4 < wr.heap.size := by have := mr.size; omega
      clear H7r
      go_wp2_with fail
      refine (withinA_w cut 0 ((L : Int) - 1) (by omega) (by omega) (by omega) _).mono ?_
      rintro _ _ ⟨z, hz, rfl, rfl⟩
      obtain ⟨z, rfl⟩ : ∃ t : Nat, z = (t : Int) := ⟨z.toNat, by omega⟩
      have hzL : z < L := by omega
      have hzL' : (z : Int) ≤ (L : Int) := by omega
      have hLc : L ≤ cap4 := by
        obtain ⟨_, _, _, e, _, h3, _⟩ := HGr.out
        simp at e
        omega
      have hBz : IsB wr g4 (.slice (some ⟨g4, 0, none⟩) z cap4) (E.take z) := isB_take HGr.out z (by omega)
      have hr1 := oreads_w 28 (fun _ _ => rfl) clos2_w _ g4 (E.take z) wr hBz hg4r (fun b hb => hoE b (List.mem_of_mem_take hb))
      have hends : endsT (E.take z) = false := by
        unfold endsT
        cases hd : dTake (E.take z) with
        | none => rfl
        | some pr =>
          obtain ⟨ys, rr⟩ := pr
          have hne : rr ≠ [] := by
            rw [← hE] at hd
            exact dTake_cut H7.out.ag.rise hbig h256 (by rw [hE, HL.out]; exact hzL) hd
          dsimp only
          cases rr with
          | nil => exact absurd rfl hne
          | cons _ _ => rfl
      rw [hends] at hr1
      clear hends hBz
      go_wp2_with fail
      refine hr1.mono ?_
      rintro _ w8 ⟨rfl, m8⟩
      clear hr1
      have ma8 : Moves [] w8 (w8.alloc (.cells #[] 5)) := (Moves.refl [] w8).alloc _
      have hB8 := (HGr.out.moves m8 (by simp)).moves ma8 (by simp)
      have hl8 : ([] : List Nat).length + E.length ≤ 1099511627776 := by rw [HL.out, List.length_nil]; omega
      have HM8 : Hid (Moves [] w7 w8) := mr.then m8
      go_wp2_with (first | (at_builtin; refine append_law (.tmp 81) (.tmp 82) rfl _ _ [] E g4 rfl rfl rfl (own_empty w8) hB8 hl8 ?_; intro v9 w9 ho9 m9 hat9; rw [List.nil_append] at ho9; have hA9 := appended ma8 (fresh_empty w8) m9 hat9; have ma9 : Moves [] w9 (w9.alloc (.cells #[.int .u8 0] 5)) := (Moves.refl [] w9).alloc _; have ho9' := ho9.moves ma9 (by simp); have hB9 := has_new w9 0; have hl9 : E.length + [0].length ≤ 1099511627776 := (by have := HL.out; show E.length + 1 ≤ _; omega)) | (at_builtin; refine append_law (.tmp 83) (.tmp 84) rfl _ _ E [0] _ rfl rfl rfl ho9' hB9 hl9 ?_; intro v10 w10 ho10 m10 hat10; have hA10 := appended (hA9.1.then ma9) (fun k hk => hA9.2 k hk) m10 hat10))
      have hg10 : ∃ g10, g10 < w10.heap.size ∧ IsB w10 g10 v10 (E ++ [0]) := isB_norm ho10.isB (by have := hA10.1.size; have := m8.size; have := mr.size; omega)
      obtain ⟨g10, hg10, hB10⟩ := hg10
      have hr2 := oreads_w 29 (fun _ _ => rfl) clos3_w v10 g10 (E ++ [0]) w10 hB10 hg10 (fun b hb => by rcases List.mem_append.1 hb with h | h; exact hoE b h; simp at h; omega)
      have hends : endsT (E ++ [0]) = false := by
        unfold endsT
        have q1 := dTake_enc H7.out.ag.rise hbig h256 [0]
        rw [hE] at q1
        rw [q1]
        rfl
      rw [hends] at hr2
      obtain ⟨a10, n10, c10, rfl, -⟩ := hB10
      clear hends ho10 m10 hat10 ho9 m9 hat9 hB9 ho9' hB8
      go_wp2_with fail
      refine hr2.mono ?_
      rintro _ w11 ⟨rfl, m11⟩
      clear hr2
      have M11 : Moves [] w w11 := ((H7.out.mv.then HM8.out).then hA10.1).then m11
      go_wp2_with fail
      refine (cut_w _ gb bb 40 _ rfl _ (HBV.out.moves M11 (by simp))).mono ?_
      rintro _ _ ⟨v12, rfl, hB12, rfl⟩
      obtain ⟨g12, hg12, hB12'⟩ := isB_norm hB12 (by have := M11.size; have := hA10.1.size; have := m11.size; have := m8.size; have := mr.size; omega)
      have hr3 := oreads_w 31 (fun _ _ => rfl) clos4_w v12 g12 (bb.take 40) _ hB12' hg12 (fun b hb => hob b (List.mem_of_mem_take hb))
      obtain ⟨a12, n12, c12, rfl, -⟩ := hB12'
      clear hB12
      go_wp2_with fail
      refine hr3.mono ?_
      rintro _ w13 ⟨rfl, m13⟩
      clear hr3
      go_wp2_with fail
      refine (known9_w _).mono ?_
      rintro _ w14 ⟨rfl, m14⟩
      go_wp2_with fail
      go_ret
      exact ⟨rfl, (M11.then m13).then m14⟩

open Go.ChangeShapes Go.WideShapes Go.ChangeAt
set_option linter.unusedVariables false
theorem ob_own : ownKnob Try.prog.godebug = none := by kernel_rfl
theorem ob_laidOut : laidOutB Try.prog = true := by kernel_rfl

set_option maxRecDepth 100000 in
theorem ob_lifted (os : Os) (started : os.Started) (H : Type) (enc : TypeId × Value → H) :
    ReturnsInHanded {} Try.checked os 6 .any (Rows.onceBytesSpec.pre6 enc Try.prog Try.f6 Rows.onceBytesRow.domain false) (Rows.onceBytesSpec.post enc Try.prog Try.f6 false true false false) := by
  refine returnsInHanded_of_change (C := Try.checked) ob_own started (by kernel_rfl) Try.func6
    (ChangeSpec.witness6 (enc := enc) (C := Try.checked) false ⟨#[], #[.slice none 0 0, .int .i64 0, .slice none 0 0], []⟩ 8 (by kernel_rfl) (by kernel_rfl) (by kernel_rfl) (by kernel_rfl)) ?_
  intro W base args ds gs before hval0 hW hcnd _
  have hval : ∀ (j : Nat) t v, Try.f6.params[j]? = some t → args[j]? = some v → Value.okWide Try.prog W .any base t v := hval0
  have hW' := hW
  obtain ⟨p, q, hA0, hV, rfl, hfz, hnd⟩ := hW
  have hA : DataW.TrodAll enc Try.prog W 0 (fun _ => true) true Try.f6.params.toList args.toList ds p := hA0
  rw [Try.params6] at hA hval
  obtain ⟨v0, vs0, d0, ds0, p0, q0, hargs, rfl, rfl, h0, r0⟩ := trodAll_cons hA
  obtain ⟨v1, vs1, d1, ds1, p1, q1, rfl, rfl, rfl, h1, r1⟩ := trodAll_cons r0
  obtain ⟨v2, vs2, d2, ds2, p2, q2, rfl, rfl, rfl, h2, r2⟩ := trodAll_cons r1
  obtain ⟨rfl, rfl, rfl⟩ := trodAll_nil r2
  obtain rfl : args = #[v0, v1, v2] := by cases args; simp_all
  obtain ⟨rfl, rfl⟩ := trodVars_none hV
  have k0 := h0
  have lt0 : ∀ x ∈ p0, x.block < W.heap.size := by obtain ⟨m, hm⟩ := k0; exact DataW.trod_lt m _ _ _ hm
  have w0 := oargs_of_trod (hval 0 42 v0 rfl rfl) h0
  have k1 := h1
  have lt1 : ∀ x ∈ p1, x.block < W.heap.size := by obtain ⟨m, hm⟩ := k1; exact DataW.trod_lt m _ _ _ hm
  have w1 := iarg_of_trod Try.underlying3 (hval 1 3 v1 rfl rfl) h1
  have k2 := h2
  have lt2 : ∀ x ∈ p2, x.block < W.heap.size := by obtain ⟨m, hm⟩ := k2; exact DataW.trod_lt m _ _ _ hm
  obtain ⟨a2, len2, cap2, rfl⟩ := okWide_slice Try.underlying26 (hval 2 26 v2 rfl rfl)
  obtain ⟨g2, b2, w2, o2⟩ : ∃ g bs, IsB W g (.slice a2 len2 cap2) bs ∧ ∀ z ∈ bs, z < 256 := by
    obtain ⟨fuel, hf⟩ := h2
    exact isB_of_trod (by simpa [Value.cells] using hf)
  clear hA0 hval0
  refine (onceBytes_w v0 v1 _ W w0 w1 g2 b2 w2 o2).mono fun e W' ⟨he, mv⟩ => ?_
  subst he
  have bel : Below W.heap.size W W' := mv.below (by simp) (Nat.le_refl _)
  exact ⟨_, rfl, _, _, _, [], _, [], hW', trodAll_mk1 (shut_bool Try.underlying4 _), (trodAll_cons_mk (Below.trod ob_laidOut (by kernel_rfl) (of_decide_eq_true (by kernel_rfl)) k0 bel lt0) (trodAll_cons_mk (Below.trod ob_laidOut (by kernel_rfl) (of_decide_eq_true (by kernel_rfl)) k1 bel lt1) (trodAll_cons_mk (Below.trod ob_laidOut (by kernel_rfl) (of_decide_eq_true (by kernel_rfl)) k2 bel lt2) trodAll_mk0))), rfl, bel.frame _, fun h => by cases h⟩

theorem OnceBytes_holds : Rows.OnceBytesSaid :=
  OpenClaim.holds_of_wide 6 Try.f6 rfl rfl rfl rfl rfl rfl rfl ⟨rfl, rfl, rfl, rfl, rfl⟩ rfl rfl rfl rfl rfl (by kernel_rfl) Try.func6 (by kernel_rfl)
    (of_decide_eq_true (by kernel_rfl)) (by unfold Func.isWrapper; first | (rw [if_pos (by decide +kernel)]; kernel_rfl) | (rw [if_neg (by decide +kernel)]; exact ⟨rfl, rfl⟩))
    (fun os started H enc _ => ob_lifted os started H enc)

#print axioms OnceBytes_holds
end Go.Proofs.Ytoijkdknjbgebaa
