/-
  OnceNumbers is true: chapter 9's runs, clients and numbers at each bound, all clients. No condition.
-/
import Derived.Test.YtoijkdknjbgebaaCOb3
import Derived.Test.YtoijkdknjbgebaaRows
import Derived.ProofKit
import Derived.OpenShut
import Derived.ChangeOld
namespace Go.Proofs.Ytoijkdknjbgebaa
open Go.RowKit

/-- The function that keeps what it took. -/
theorem otakesN_w (w : World) (r g D : Nat) (bs : List Nat) (xs : List Pt) (dv : Value) (h : RdIs w r g bs false) (ho : ∀ b ∈ bs, b < 256) (hr : r < w.heap.size) (hg : g < w.heap.size) (hd : dTake bs = some (xs, [])) (hD : w.heap[D]? = some (.cells #[dv] 22 (0, 0))) (hDr : D ≠ r) (hDg : D ≠ g) :
    Calls Try.prog 15 #[.pointer (some ⟨r, 0, none⟩), .pointer (some ⟨D, 0, none⟩)] w fun e w' => e = .returned (.tuple #[]) ∧ ∃ q a, w'.heap[D]? = some (.cells #[.pointer (some ⟨q, 0, none⟩)] 22 (0, 0)) ∧ RdIs w' r g [] false ∧ CaIs w w' q a xs ∧ Moves [r, D] w w' ∧ w.heap.size ≤ q := by
  have hT := otake_w w r g bs h ho hr hg
  rw [hd] at hT
  have lD := lt_of_block hD
  go_enter Try.func15, Try.ntmps15
  go_wp2_with fail
  refine hT.mono ?_
  rintro _ w2 ⟨q, a, rfl, hk⟩
  have hD2 := hk.mv.at hD (by simpa using hDr)
  obtain ⟨x1, x2⟩ := one_cell hD2
  have hq := hk.hp
  go_wp2_with fail
  go_end0
  have ms := moves_set w2 D 0 (.pointer (some ⟨q, 0, none⟩))
  refine ⟨rfl, q, a, set_one hD2 _, hk.rd.moves ms (by simp; omega) (by simp; omega), hk.ca.moves ms (by simp; omega) (fun k hka => by have := (hk.ca.lta hka).2; simp; omega), (hk.mv.mono (by simp)).then (ms.mono (by simp)), hq⟩

theorem oreadN_w (v : Value) (g D : Nat) (bs : List Nat) (xs : List Pt) (dv : Value) (w : World) (hv : IsB w g v bs) (hg : g < w.heap.size) (ho : ∀ b ∈ bs, b < 256) (hd : dTake bs = some (xs, [])) (hD : w.heap[D]? = some (.cells #[dv] 22 (0, 0))) (hDg : D ≠ g) :
    Calls Try.prog 13 #[v, .func (.func 15) #[] #[.pointer (some ⟨D, 0, none⟩)]] w fun e w' => e = .returned (.bool true) ∧ ∃ q a, w'.heap[D]? = some (.cells #[.pointer (some ⟨q, 0, none⟩)] 22 (0, 0)) ∧ CaIs w w' q a xs ∧ Moves [D] w w' ∧ w.heap.size < q := by
  have lD := lt_of_block hD
  refine (read_ret 15 #[.pointer (some ⟨D, 0, none⟩)] v g bs [] w hv (by omega) (fun w2 => ∃ q a, w2.heap[D]? = some (.cells #[.pointer (some ⟨q, 0, none⟩)] 22 (0, 0)) ∧ CaIs w w2 q a xs ∧ Moves [D] w w2 ∧ w.heap.size < q ∧ ∀ k, a = some k → w.heap.size < k) (fun _ _ => rfl) ?_).mono ?_
  · intro w1 hb hm
    have hlt := lt_of_block hb.2
    have sz := hm.size
    refine (otakesN_w w1 w.heap.size g D bs xs dv hb.1 ho (by omega) (by omega) hd (hm.at hD (by simp)) (by omega) hDg).mono ?_
    rintro _ w2 ⟨rfl, q, a, k1, k2, k3, k4, k5⟩
    refine ⟨rfl, ⟨k2, k4.at hb.2 (by simp; omega)⟩, q, a, k1, ?_, ?_, by omega, fun k hk => by have := (k3.lta hk).2; omega⟩
    · exact k3.elder sz
    · exact (hm.mono (by simp)).trans k4 (fun x hx => by simp at hx; rcases hx with rfl | rfl; exact .inr (by omega); exact .inl (by simp))
  · rintro _ w' ⟨rfl, w2, ⟨q, a, k1, k2, k3, k4, k5⟩, m2⟩
    refine ⟨rfl, q, a, m2.at k1 (by simp; omega), k2.moves m2 (by simp; omega) (fun k hk => by have := k5 k hk; simp; omega), k3.trans m2 (fun x hx => .inr (by simp at hx; omega)), k4⟩


def numX (i : Nat) : Pt := ⟨(i : Int), (i : Int) + 1, strOf [i]⟩
def numT (k : Nat) : List Pt := (List.range k).map numX
theorem numT_succ (k : Nat) : numT (k + 1) = numT k ++ [numX k] := by
  unfold numT
  rw [List.range_succ]
  simp
theorem numT_length (k : Nat) : (numT k).length = k := by simp [numT]
theorem numT_mem {k : Nat} {x : Pt} (h : x ∈ numT k) : ∃ i, i < k ∧ x = numX i := by
  unfold numT at h
  rw [List.mem_map] at h
  obtain ⟨i, hi, rfl⟩ := h
  exact ⟨i, by simpa using hi, rfl⟩
theorem numT_lt {k : Nat} : ∀ y ∈ numT k, y.c < (numX k).c := fun y hy => by
  obtain ⟨i, hi, rfl⟩ := numT_mem hy
  show (i : Int) < (k : Int)
  omega
theorem numT_rise : ∀ k, RiseT (numT k)
  | 0 => List.Pairwise.nil
  | k + 1 => by
    rw [numT_succ]
    exact rise_snoc (numT_rise k) numT_lt
theorem numT_keep (k : Nat) : keepT (numT k) (numX k) = numT (k + 1) ∧ (ofT (numT k) (k : Int)).s < (k : Int) + 1 := by
  obtain ⟨h1, h2⟩ := keepT_last (zs := numT k) (x := numX k) (by show (1 : Int) ≤ (k : Int) + 1; omega) numT_lt
  exact ⟨by rw [h1, numT_succ], h2⟩
theorem numT_keepE (k : Nat) : keepE (numT k) (numX k) = numT (k + 1) := by
  have h2 : (ofT (numT k) (numX k).c).s < (numX k).s := (numT_keep k).2
  unfold keepE
  rw [if_pos h2, numT_succ]
  congr 1
  rw [List.filter_eq_self]
  intro y hy
  have := numT_lt y hy
  simp
  omega
theorem numT_may {k : Nat} (hk : k ≤ 256) : ∀ x ∈ numT k, MayT x := fun x hx => by
  obtain ⟨i, hi, rfl⟩ := numT_mem hx
  refine ⟨?_, ?_, ?_, ?_, ?_⟩
  · show (0 : Int) ≤ (i : Int); omega
  · show (i : Int) ≤ 255; omega
  · show (1 : Int) ≤ (i : Int) + 1; omega
  · show (i : Int) + 1 ≤ 1073741824; omega
  · show (strOf [i]).size ≤ 20
    rw [strOf_size]
    simp
theorem numT_agree (k : Nat) : Agree (numT k) (numT k) := ⟨numT_rise k, List.Perm.refl _⟩

/-- Two caches and the document's entries. -/
structure NumIs (w W2 wr : World) (P1 P2 : Nat) (a1 a2 : Option Nat) (cs : List Pt) (mv : Value) (k : Nat) : Prop where
  c1 : CaIs w wr P1 a1 cs
  c2 : CaIs W2 wr P2 a2 (numT k)
  ents : EntsAt wr mv (numT k)
  mv : Moves [] w wr
  l1 : P1 < W2.heap.size
  l2 : W2.heap.size ≤ P2
  l3 : ∀ j, a1 = some j → j < W2.heap.size
  l4 : w.heap.size ≤ W2.heap.size
theorem NumIs.moves {w W2 wr w' : World} {P1 P2 : Nat} {a1 a2 : Option Nat} {cs : List Pt} {mv : Value} {k : Nat} (h : NumIs w W2 wr P1 P2 a1 a2 cs mv k) (m : Moves [] wr w') : NumIs w W2 w' P1 P2 a1 a2 cs mv k :=
  ⟨h.c1.moves0 m, h.c2.moves0 m, h.ents.moves m, h.mv.then m, h.l1, h.l2, h.l3, h.l4⟩
theorem NumIs.step {w W2 wr w2 w3 w4 : World} {P1 P2 : Nat} {a1 a2 a3 : Option Nat} {cs : List Pt} {mv nv : Value} {k : Nat} (h : NumIs w W2 wr P1 P2 a1 a2 cs mv k) (m2 : Moves [] wr w2) (hT : CaTo W2 w2 P2 a2 w3 a3 (numT (k + 1))) (m4 : Moves [] w3 w4) (hE : EntsAt w4 nv (numT (k + 1))) : NumIs w W2 w4 P1 P2 a1 a3 cs nv (k + 1) := by
  have k1 := h.l1
  have k2 := h.l2
  have k4 := h.l4
  have ha : ∀ j ∈ a2.toList, W2.heap.size ≤ j := fun j hj => (h.c2.lta (Option.mem_toList.1 hj)).2
  have hc1 : CaIs w w3 P1 a1 cs := (h.c1.moves0 m2).moves hT.2.1 (by
    intro hm
    rcases List.mem_cons.1 hm with e | e
    · omega
    · have := ha _ e; omega) (fun j hj hm => by
    have := h.l3 j hj
    rcases List.mem_cons.1 hm with e | e
    · omega
    · have := ha _ e; omega)
  have M : Moves [] w w3 := (h.mv.then m2).trans hT.2.1 (fun x hx => .inr (by
    rcases List.mem_cons.1 hx with e | e
    · omega
    · have := ha _ e; omega))
  exact ⟨hc1.moves0 m4, hT.1.moves0 m4, hE, M.then m4, k1, k2, h.l3, k4⟩
theorem NumIs.other {w W2 wr w' : World} {P1 P2 : Nat} {a1 a2 : Option Nat} {cs : List Pt} {mv : Value} {k B : Nat} {c : Array Value} {t : TypeId} {fz : Nat × Nat} (h : NumIs w W2 wr P1 P2 a1 a2 cs mv k) (mm : Moves [B] wr w') (hB : wr.heap[B]? = some (.cells c t fz)) (hw : w.heap.size ≤ B) (ht1 : t ≠ 5) (ht2 : t ≠ 50) (ht3 : t ≠ 60) (ht4 : t ≠ 63) : NumIs w W2 w' P1 P2 a1 a2 cs mv k := by
  have hst : Stay (· ≠ t) wr w' := Stay.ofMovesS mm (fun b hb c' t' fz' hc' hn => by
    simp at hb
    subst hb
    rw [hB] at hc'
    simp at hc'
    exact hn hc'.2.1.symm)
  have hca : ∀ {W : World} {P : Nat} {a : Option Nat} {xs : List Pt}, CaIs W wr P a xs → CaIs W w' P a xs := fun {W P a xs} hc => by
    refine hc.moves mm ?_ ?_
    · obtain ⟨v, h1, _, _⟩ := hc
      intro hm
      simp at hm
      subst hm
      rw [hB] at h1
      simp at h1
      exact ht3 h1.2.1
    · intro j hj hm
      simp at hm
      subst hm
      obtain ⟨v, _, hv, h3⟩ := hc
      obtain ⟨cur, hc⟩ := h3.blk (hv.trans hj)
      rw [hB] at hc
      simp at hc
      exact ht4 hc.2.1
  exact ⟨hca h.c1, hca h.c2, h.ents.stay hst ht1.symm ht2.symm, h.mv.trans mm (fun x hx => .inr (by simp at hx; omega)), h.l1, h.l2, h.l3, h.l4⟩

def c2L : List Pt := [⟨0, 1073741824, ⟨#[]⟩⟩, ⟨255, 1, ⟨#[]⟩⟩]
def c1L : List Pt := [⟨0, 1073741824, ⟨#[]⟩⟩]
theorem c1_keep : (if mayK 0 1073741824 ([] : List Nat).length then keepT [] ⟨0, 1073741824, strOf []⟩ else []) = c1L := rfl
theorem c2_keep : (if mayK 255 1 ([] : List Nat).length then keepT c1L ⟨255, 1, strOf []⟩ else c1L) = c2L := rfl
theorem c3_keep : (if mayK 255 1 ([] : List Nat).length then keepT c2L ⟨255, 1, strOf []⟩ else c2L) = c2L := rfl
theorem c1_rise : RiseT c1L := List.pairwise_singleton _ _
theorem c2_rise : RiseT c2L := by
  unfold RiseT c2L
  rw [List.pairwise_cons]
  exact ⟨fun y hy => by simp at hy; subst hy; show (0 : Int) < 255; omega, List.pairwise_singleton _ _⟩

set_option maxRecDepth 100000 in
set_option maxHeartbeats 16000000 in
theorem onceNumbers_w (w : World) : Calls Try.prog 3 #[] w fun e w' => e = .returned (.bool true) ∧ Moves [] w w' := by
  have hmf : ∀ (fn : Fn) (first cap : Array Value) (w : World), (Instr.makeFunc fn first cap).run Try.prog w = .ok (.func fn first cap) w := fun _ _ _ _ => rfl
  have nilB : ∀ w' : World, IsB w' 0 (.slice none 0 0) [] := fun w' => ⟨_, _, _, rfl, rfl, Nat.le_refl _, fun _ => rfl, .inl rfl⟩
  go_enter Try.func3, Try.ntmps3
  go_wp2_with fail
  refine (onew_w w).mono ?_
  rintro _ w1 ⟨rfl, h1, m1⟩
  obtain ⟨P, hP⟩ : ∃ P, w.heap.size = P := ⟨_, rfl⟩
  rw [hP] at h1 ⊢
  go_wp2_with fail
  refine (okeep_no w1 _ (-1) 5 none 0 0 rfl).mono ?_
  rintro _ _ ⟨rfl, rfl⟩
  go_wp2_with fail
  refine (okeep_no _ _ 256 5 none 0 0 rfl).mono ?_
  rintro _ _ ⟨rfl, rfl⟩
  go_wp2_with fail
  refine (okeep_no _ _ 0 0 none 0 0 rfl).mono ?_
  rintro _ _ ⟨rfl, rfl⟩
  go_wp2_with fail
  refine (okeep_no _ _ 0 1073741825 none 0 0 rfl).mono ?_
  rintro _ _ ⟨rfl, rfl⟩
  have hk1 := okeep_w w w1 P none [] 0 1073741824 (.slice none 0 0) 0 [] h1 List.Pairwise.nil (by simp) (nilB _) (by simp) m1.size
  rw [c1_keep] at hk1
  have e1 : (mayK 0 1073741824 ([] : List Nat).length && decide ((ofT [] 0).s < 1073741824)) = true := rfl
  rw [e1] at hk1
  clear e1
  go_wp2_with fail
  refine hk1.mono ?_
  rintro _ w2 ⟨rfl, a2, hT2⟩
  clear hk1
  have hk2 := okeep_w w w2 P a2 c1L 255 1 (.slice none 0 0) 0 [] hT2.1 c1_rise (by decide) (nilB _) (by simp) (by have := hT2.2.1.size; have := m1.size; omega)
  rw [c2_keep] at hk2
  have e1 : (mayK 255 1 ([] : List Nat).length && decide ((ofT c1L 255).s < 1)) = true := rfl
  rw [e1] at hk2
  clear e1
  go_wp2_with fail
  refine hk2.mono ?_
  rintro _ w3 ⟨rfl, a3, hT3⟩
  clear hk2
  have hk3 := okeep_w w w3 P a3 c2L 255 1 (.slice none 0 0) 0 [] hT3.1 c2_rise (by decide) (nilB _) (by simp) (by have := hT3.2.1.size; have := hT2.2.1.size; have := m1.size; omega)
  rw [c3_keep] at hk3
  have e1 : (mayK 255 1 ([] : List Nat).length && decide ((ofT c2L 255).s < 1)) = false := rfl
  rw [e1] at hk3
  clear e1
  go_wp2_with fail
  refine hk3.mono ?_
  rintro _ w4 ⟨rfl, a4, hT4⟩
  clear hk3
  have M4 : Moves [] w w4 := ca_moves hT3.1 (by omega) (Nat.le_refl _) (ca_moves hT2.1 (by omega) (Nat.le_refl _) (ca_moves h1 (by omega) (Nat.le_refl _) m1 hT2) hT3) hT4
  have hc4 := hT4.1
  clear hT2 hT3 hT4 h1 m1
  go_wp2_with fail
  refine (onew_w w4).mono ?_
  rintro _ w5 ⟨rfl, h5, m5⟩
  obtain ⟨P2, hP2⟩ : ∃ P2, w4.heap.size = P2 := ⟨_, rfl⟩
  rw [hP2] at h5 ⊢
  have HN : Hid (NumIs w w4 w5 P P2 a4 none c2L (.slice none 0 0) 0) := ⟨hc4.moves0 m5, h5, EntsAt.nil _, M4.then m5, hc4.ltp, by omega, fun j hj => (hc4.lta hj).1, M4.size⟩
  clear h5 hc4
  go_wp2_with fail
  go_loopw [2, 4] (fun mv iv wr => ∃ (k : Nat) (a : Option Nat), k ≤ 256 ∧ iv = .int .i64 (k : Int) ∧ NumIs w w4 wr P P2 a4 a c2L mv k) (fun _ iv _ => (256 - intOf iv).toNat)
  case atStart => exact ⟨0, none, by omega, rfl, HN.out⟩
  case round =>
    obtain ⟨k, a, hk, rfl, hI⟩ := hrel
    obtain ⟨am, nm, cm, rfl, hnm, -⟩ := hI.ents.open
    have HI : Hid (NumIs w w4 wr P P2 a4 a c2L (.slice am nm cm) k) := hI
    clear HN hI
    by_cases hk256 : k < 256
    · have hk256' : (k : Int) < 256 := by omega
      have hu : IntKind.u8.wrap (k : Int) = (k : Int) := by rw [wrap_u8]; omega
      have hw64 : IntKind.i64.wrap ((k : Int) + 1) = (k : Int) + 1 := by rw [IntWalk.i64_in _ (by omega)]
      obtain ⟨q1, q2⟩ := numT_keep k
      have hmay : mayK (k : Int) ((k : Int) + 1) [k].length = true := mayK_iff.2 ⟨by omega, by omega, by omega, by omega, by simp⟩
      have ma : Moves [] wr (wr.alloc (.cells #[.int .u8 (k : Int)] 5)) := (Moves.refl [] wr).alloc _
      have hkp := okeep_w w4 _ P2 a (numT k) (k : Int) ((k : Int) + 1) _ wr.heap.size [k] (HI.out.c2.moves0 ma) (numT_rise k) (by rw [numT_length]; omega) (has_new wr k) (by simp; omega) (by have := HI.out.c2.ltp; have := HI.out.l2; have := ma.size; omega)
      have e1 : keepT (numT k) ⟨(k : Int), (k : Int) + 1, strOf [k]⟩ = numT (k + 1) := q1
      rw [hmay, if_pos rfl, e1, Bool.true_and, decide_eq_true q2] at hkp
      clear e1 q1
      go_wp2_with fail
      refine hkp.mono ?_
      rintro _ w6 ⟨rfl, a6, hT6⟩
      clear hkp
      have hE6 := (HI.out.ents.moves ma).caTo (HI.out.c2.moves0 ma) hT6
      have mb : Moves [] w6 (w6.alloc (.cells #[.int .u8 (k : Int)] 5)) := (Moves.refl [] w6).alloc _
      have hre := reKeep_w _ (numT k) (k : Int) ((k : Int) + 1) _ w6.heap.size [k] _ (hE6.moves mb) (numT_rise k).one (by rw [numT_length]; omega) (fun x hx => by have := (numT_may hk x hx).2.2.2.2; omega) (has_new w6 k) (by simp; omega)
      have e1 : keepE (numT k) ⟨(k : Int), (k : Int) + 1, strOf [k]⟩ = numT (k + 1) := numT_keepE k
      rw [hmay, if_pos rfl, e1] at hre
      clear e1 hmay q2 hE6
      go_wp2_with fail
      refine hre.mono ?_
      rintro _ w7 ⟨nv, rfl, hE7, m7⟩
      have HI7 : Hid (NumIs w w4 w7 P P2 a4 a6 c2L nv (k + 1)) := HI.out.step ma hT6 (mb.then m7) hE7
      obtain ⟨an, nn, cn, rfl, -, -⟩ := hE7.open
      clear hre hE7 hT6
      go_wp2_with fail
      go_roundw
      case rel => exact ⟨k + 1, a6, by omega, by go_num, HI7.out⟩
      case measure => simp [intOf]; omega
    · have hk256' : ¬ (k : Int) < 256 := by omega
      obtain rfl : k = 256 := by omega
      go_wp2_with fail
      refine (new_w _).mono ?_
      rintro _ w8 ⟨rfl, hW8, m8⟩
      obtain ⟨q, hq⟩ : ∃ q, wr.heap.size = q := ⟨_, rfl⟩
      rw [hq] at hW8 ⊢
      have I8 := HI.out.moves m8
      have sq := HI.out.mv.size
      have hbig : ∀ x ∈ numT 256, BigT x := fun x hx => (numT_may (Nat.le_refl _) x hx).big
      have hwr := owrite_w w4 w8 P2 q a none (numT 256) I8.c2 hW8 hbig (by rw [numT_length]; omega)
      obtain ⟨NT, hNT⟩ : ∃ NT, numT 256 = NT := ⟨_, rfl⟩
      have hNTl : NT.length = 256 := by rw [← hNT, numT_length]
      have hNTr : RiseT NT := by rw [← hNT]; exact numT_rise 256
      rw [hNT] at hwr
      obtain ⟨E, hE⟩ : ∃ E, encC NT = E := ⟨_, rfl⟩
      rw [hE] at hwr
      rw [hNT] at hbig
      have hEl : E.length ≤ 1048585004 := by
        have q1 := encsT_length NT hbig
        rw [← hE]
        unfold encC
        rw [List.length_append, be_length]
        omega
      have hE0 : 4 ≤ E.length := by
        rw [← hE]
        unfold encC
        rw [List.length_append, be_length]
        omega
      go_wp2_with fail
      refine hwr.mono ?_
      rintro _ w9 ⟨rfl, b9, hW9⟩
      have I9 : NumIs w w4 w9 P P2 a4 a c2L (.slice am nm cm) 256 := by
        obtain ⟨vq, hq2, _⟩ := hW8
        exact I8.other (by simpa using hW9.2.1) hq2 (by omega) (by decide) (by decide) (by decide) (by decide)
      clear hwr hW8 I8
      have hD := heap_alloc_new w9 (.cells #[.pointer none] 22)
      have m10 : Moves [] w9 (w9.alloc (.cells #[.pointer none] 22)) := (Moves.refl _ _).alloc _
      obtain ⟨D, hDD⟩ : ∃ D, w9.heap.size = D := ⟨_, rfl⟩
      rw [hDD] at hD
      have I10 := I9.moves m10
      have hdn := done_w q b9 E _ (hW9.1.moves m10 (by simp) (by simp)) (by omega)
      have s9 := I9.mv.size
      go_wp2_with fail
      refine hdn.mono ?_
      rintro _ w11 ⟨v11, rfl, hO11, m11, f11⟩
      clear hdn hW9 I9
      have I11 := I10.moves m11
      obtain ⟨g4, cap4, rfl⟩ : ∃ g4 cap4, v11 = .slice (some ⟨g4, 0, none⟩) E.length cap4 := by
        rcases hO11.2 with ⟨_, e0⟩ | ⟨g, cap, cur, rfl, _⟩
        · omega
        · exact ⟨g, cap, rfl⟩
      obtain ⟨L, hL⟩ : ∃ L, E.length = L := ⟨_, rfl⟩
      rw [hL] at hO11 hEl hE0 ⊢
      have hg4 : g4 < w11.heap.size := hO11.lt (k := g4) rfl
      have hgD : D < g4 := by
        have := f11 g4 rfl
        have := lt_of_block hD
        omega
      have hdE : dTake E = some (NT, []) := by
        have q1 := dTake_enc hNTr hbig (by omega) []
        rw [List.append_nil, hE] at q1
        exact q1
      have hoE : ∀ b ∈ E, b < 256 := by rw [← hE]; exact encC_oct hbig
      have hrd := oreadN_w _ g4 D E NT _ w11 hO11.isB hg4 hoE hdE (m11.at hD (by simp)) (by omega)
      have hD11 := m11.at hD (by simp)
      clear hL hO11 hoE hdE
      go_wp2_with fail
      refine hrd.mono ?_
      rintro _ w12 ⟨rfl, q12, a12, hD12, hc12, m12, hq12⟩
      clear hrd
      have I12 : NumIs w w4 w12 P P2 a4 a c2L (.slice am nm cm) 256 := I11.other m12 hD11 (by omega) (by decide) (by decide) (by decide) (by decide)
      obtain ⟨x12, -⟩ := one_cell hD12
      have hc2 : CaIs w4 w12 P2 a NT := by rw [← hNT]; exact I12.c2
      have hsm := osame_yes w4 _ w12 P2 q12 a a12 NT hc2 hc12 (by omega)
      go_wp2_with fail
      refine hsm.mono ?_
      rintro _ w13 ⟨rfl, m13⟩
      clear hsm
      have x13 := m13.cell x12
      have hsn := osame_len w w4 w13 P P2 a4 a c2L NT (I12.c1.moves0 m13) (hc2.moves0 m13) (by rw [hNTl]; decide)
      go_wp2_with fail
      refine hsn.mono ?_
      rintro _ w14 ⟨rfl, m14⟩
      clear hsn
      have x14 := m14.cell x13
      have hln := olen_w w11 w14 q12 a12 NT ((hc12.moves0 m13).moves0 m14)
      rw [hNTl] at hln
      go_wp2_with fail
      refine hln.mono ?_
      rintro _ _ ⟨rfl, rfl⟩
      clear hln
      have HI14 : Hid (NumIs w w4 w14 P P2 a4 a c2L (.slice am nm cm) 256) := (I12.moves m13).moves m14
      have HC14 : Hid (CaIs w11 w14 q12 a12 (numT 256)) := by rw [hNT]; exact (hc12.moves0 m13).moves0 m14
      clear I10 I11 I12 hc2 hc12 hD12 hD11 hD
      go_wp2_with fail
      obtain ⟨wo, hwo⟩ : ∃ wo, wr = wo := ⟨_, rfl⟩
      subst hwo
      go_loopw [7] (fun iv wj => ∃ j : Nat, j ≤ 256 ∧ iv = .int .i64 (j : Int) ∧ Moves [] w14 wj) (fun iv _ => (256 - intOf iv).toNat)
      case atStart => exact ⟨0, by omega, rfl, Moves.refl _ _⟩
      case round =>
        obtain ⟨j, hj, rfl, mj⟩ := hrel
        by_cases hj256 : j < 256
        · have hj256' : (j : Int) < 256 := by omega
          have xj := mj.cell x14
          have hlk := fun w' (m' : Moves [] w14 w') (c s : Int) => looks_w w11 w' q12 a12 (numT 256) (numT 256) (.slice am nm cm) c s (HC14.out.moves0 m') (numT_agree 256) (HI14.out.ents.moves m') (by rw [numT_length]; omega) (fun x hx => by have := (numT_may (Nat.le_refl _) x hx).2.2.2.2; omega)
          go_wp2_with fail
          refine (hlk _ mj _ _).mono ?_
          rintro _ w15 ⟨rfl, m15⟩
          have x15 := m15.cell xj
          go_wp2_with fail
          refine (hlk _ (mj.then m15) _ _).mono ?_
          rintro _ w16 ⟨rfl, m16⟩
          go_wp2_with fail
          go_roundw
          case rel => exact ⟨j + 1, by omega, by go_num, (mj.then m15).then m16⟩
          case measure => simp [intOf]; omega
        · have hj256' : ¬ (j : Int) < 256 := by omega
          have I17 := HI14.out.moves mj
          have hjn := ojoin_w w4 _ (.pointer none) _ [] (numT 256) (.inl ⟨rfl, rfl⟩) (.inr ⟨P2, a, rfl, I17.c2⟩) (by simp) (fun x hx => (numT_may (Nat.le_refl _) x hx).2.2.1) (by rw [numT_length]; simp)
          have e1 : (numT 256).foldl keepT (([] : List Pt).foldl keepT []) = numT 256 := foldl_self (numT_rise 256) (fun x hx => (numT_may (Nat.le_refl _) x hx).2.2.1)
          rw [e1] at hjn
          clear e1
          go_wp2_with fail
          refine hjn.mono ?_
          rintro _ w17 ⟨rfl, ⟨a17, hc17⟩, m17⟩
          clear hjn
          have hsm := osame_yes _ w4 w17 _ P2 a17 a (numT 256) hc17 (I17.c2.moves0 m17) (by rw [numT_length]; omega)
          have hsm' := hsm
          obtain ⟨R17, hR17⟩ : ∃ R, wr.heap.size = R := ⟨_, rfl⟩
          rw [hR17] at hsm hc17 ⊢
          go_wp2_with fail
          refine hsm.mono ?_
          rintro _ w18 ⟨rfl, m18⟩
          clear hsm hsm'
          go_wp2_with fail
          refine (known9_w _).mono ?_
          rintro _ w19 ⟨rfl, m19⟩
          go_wp2_with fail
          go_ret
          exact ⟨rfl, ((I17.mv.then m17).then m18).then m19⟩

open Go.ChangeShapes Go.WideShapes Go.ChangeAt
set_option linter.unusedVariables false
theorem on_own : ownKnob Try.prog.godebug = none := by kernel_rfl
theorem on_laidOut : laidOutB Try.prog = true := by kernel_rfl

set_option maxRecDepth 100000 in
theorem on_lifted (os : Os) (started : os.Started) (H : Type) (enc : TypeId × Value → H) :
    ReturnsInHanded {} Try.checked os 3 .any (Rows.onceNumbersSpec.pre6 enc Try.prog Try.f3 Rows.onceNumbersRow.domain false) (Rows.onceNumbersSpec.post enc Try.prog Try.f3 false true false false) := by
  refine returnsInHanded_of_change (C := Try.checked) on_own started (by kernel_rfl) Try.func3
    (ChangeSpec.witness6 (enc := enc) (C := Try.checked) false ⟨#[], #[], []⟩ 8 (by kernel_rfl) (by kernel_rfl) (by kernel_rfl) (by kernel_rfl)) ?_
  intro W base args ds gs before hval0 hW hcnd _
  have hval : ∀ (j : Nat) t v, Try.f3.params[j]? = some t → args[j]? = some v → Value.okWide Try.prog W .any base t v := hval0
  have hW' := hW
  obtain ⟨p, q, hA0, hV, rfl, hfz, hnd⟩ := hW
  have hA : DataW.TrodAll enc Try.prog W 0 (fun _ => true) true Try.f3.params.toList args.toList ds p := hA0
  rw [Try.params3] at hA
  obtain ⟨hargs, rfl, rfl⟩ := trodAll_nil hA
  obtain rfl : args = #[] := by cases args; simp_all
  obtain ⟨rfl, rfl⟩ := trodVars_none hV
  clear hA0 hval0
  refine (onceNumbers_w  W ).mono fun e W' ⟨he, mv⟩ => ?_
  subst he
  have bel : Below W.heap.size W W' := mv.below (by simp) (Nat.le_refl _)
  exact ⟨_, rfl, _, _, _, [], _, [], hW', trodAll_mk1 (shut_bool Try.underlying4 _), trodAll_mk0, rfl, bel.frame _, fun h => by cases h⟩

theorem OnceNumbers_holds : Rows.OnceNumbersSaid :=
  OpenClaim.holds_of_wide 3 Try.f3 rfl rfl rfl rfl rfl rfl rfl ⟨rfl, rfl, rfl, rfl, rfl⟩ rfl rfl rfl rfl rfl (by kernel_rfl) Try.func3 (by kernel_rfl)
    (of_decide_eq_true (by kernel_rfl)) (by unfold Func.isWrapper; first | (rw [if_pos (by decide +kernel)]; kernel_rfl) | (rw [if_neg (by decide +kernel)]; exact ⟨rfl, rfl⟩))
    (fun os started H enc _ => on_lifted os started H enc)

#print axioms OnceNumbers_holds
end Go.Proofs.Ytoijkdknjbgebaa
