/- ours -/
import Derived.Test.YtfhdodopjgfedaaGreatCLi0
import Derived.Test.YtfhdodopjgfedaaGreatCB12
import Derived.ProofKit
import Derived.OpenShut
import Derived.ChangeOld
import Derived.Deep.RegionHeld3
import Derived.Great.BuildSlice
/-
  What package value's Put does: it writes a value's bytes as the chapter gives them, behind what was written, and nothing else.
-/
namespace Go.Proofs.YtfhdodopjgfedaaGreat
open Go.RowKit

def venc (A : Vm) : List Nat := if kd A.kind = 1 then [1] ++ be 4 A.bs.length ++ A.bs else if kd A.kind = 2 then [2] ++ be 8 (Pl.canon A.n) else [0]
theorem venc_text {A : Vm} (h : kd A.kind = 1) : venc A = [1] ++ be 4 A.bs.length ++ A.bs := by simp [venc, h]
theorem venc_num {A : Vm} (h : kd A.kind = 2) : venc A = [2] ++ be 8 (Pl.canon A.n) := by simp [venc, h]
theorem venc_other {A : Vm} (h : kd A.kind = 0) : venc A = [0] := by simp [venc, h]
theorem Wrote.after {w w1 w2 : World} {p : Nat} {a a2 : Option Nat} {bs : List Nat} (m : Moves [] w w1) (h : Wrote w1 p a w2 a2 bs) : Wrote w p a w2 a2 bs := by
  obtain ⟨h1, h2, h3⟩ := h
  refine ⟨h1, (m.mono (by simp)).then h2, ?_⟩
  rcases h3 with h3 | ⟨k, h4, h5⟩
  · exact .inl h3
  · exact .inr ⟨k, h4, Nat.le_trans m.size h5⟩

theorem Wr.new {w : World} {p : Nat} {a : Option Nat} {bs : List Nat} (h : Wr w p a bs) : w.heap.size ∉ p :: a.toList := by
  intro hx
  rcases List.mem_cons.1 hx with hx | hx
  · have := h.ltp; omega
  · have := h.lt (k := w.heap.size) (by cases a <;> simp_all)
    omega

theorem pick3 {w w2 w3 : World} {p g : Nat} {a a3 : Option Nat} {v : Value} {cs es : List Nat} (hB : IsB w g v cs) (hg : g ∉ p :: a.toList) (M : Moves [] w w2) (hw : Wrote w2 p a w3 a3 es) (hB3 : IsB w3 g v cs) : ∃ g', g' ∉ p :: a3.toList ∧ IsB w3 g' v cs := by
  refine hB3.pick _ (fun hne hx => ?_)
  have hlt := hB.lt hne
  rcases List.mem_cons.1 hx with hx | hx
  · exact hg (by simp [hx])
  · rcases hw.2.2 with e | ⟨k, e, hk⟩
    · rw [e] at hx; exact hg (by simp [hx])
    · rw [e] at hx
      simp at hx
      have := M.size
      omega

set_option maxHeartbeats 2000000 in
theorem vPut_w (p : Nat) (a : Option Nat) (bs : List Nat) (A : Vm) (w : World) (h : Wr w p a bs) (hb : bs.length + 2000010 ≤ 1099511627776) (ha : A.In w) (hl : A.bs.length ≤ 1048576) (hg : A.bs ≠ [] → A.g ∉ p :: a.toList) :
    Calls Tryz.prog 213 #[.pointer (some ⟨p, 0, none⟩), A.val] w fun e w' => e = .returned (.tuple #[]) ∧ ∃ a', Wrote w p a w' a' (bs ++ venc A) := by
  have hnew := h.new
  obtain ⟨g', hg', hB⟩ := ha.isB.pick (p :: a.toList) hg
  have hf := ha.fits
  obtain ⟨k, bv, g, cs, n⟩ := A
  simp only at hB hf hl
  have hB0 := hB
  obtain ⟨ad, len, cap, rfl, hlen, _⟩ := hB
  simp only [Vm.val]
  have hb1 : bs.length + 1 ≤ 1099511627776 := by omega
  have hA : ∀ w1, Moves [] (w.alloc (.cells #[.int .i64 k, .slice ad len cap, .float .f64 n] 30)) w1 → w1.heap[w.heap.size]? = some (.cells #[.int .i64 k, .slice ad len cap, .float .f64 n] 30 (0, 0)) ∧ Moves [] w w1 := fun w1 m => ⟨m.at (heap_alloc_new _ _) (by simp), ((Moves.refl [] w).alloc _).then m⟩
  obtain ⟨E, hE⟩ : ∃ E, bs ++ venc ⟨k, .slice ad len cap, g, cs, n⟩ = E := ⟨_, rfl⟩
  rw [hE]
  clear ha hg
  rcases kd_cases k with ⟨z, e⟩ | ⟨z, e⟩ | ⟨z1, z2, e⟩
  · rw [venc_text (by exact e)] at hE
    have HE : Hid (bs ++ ([1] ++ be 4 cs.length ++ cs) = E) := hE
    have hbT : (bs ++ [1]).length + 2000000 ≤ 1099511627776 := by rw [List.length_append, List.length_singleton]; omega
    subst z
    have HK : Hid (kd 1 = 1) := e
    clear e hE
    go_enter Tryz.func213, Tryz.ntmps213
    go_wp2_with (first | (go_at_call 218; refine (kind_w _ _ _ _ _ _).mono ?_; rintro _ w2 ⟨rfl, m2⟩; rw [HK.out]; obtain ⟨q2, M2⟩ := hA w2 m2) | (go_at_call 180; refine (wbyte_w _ a bs 1 _ rfl _ (h.moves M2 (by simp) (by simp)) hb1).mono ?_; rintro _ w3 ⟨rfl, a3, hw3⟩; have q3 := hw3.2.1.at q2 hnew; obtain ⟨c0, c1, c2, _, _, _⟩ := three_cells q3; have hB3 := (hB0.moves M2 (by simp)).moves hw3.2.1 hg') | (go_at_call 181; obtain ⟨g3, hg3, hB4⟩ := pick3 hB0 hg' M2 hw3 hB3; refine (wtext_any _ a3 (bs ++ [1]) cs g3 _ _ hw3.1 hbT hB4 hl hg3).mono ?_; rintro _ w4 ⟨rfl, a4, hw4⟩))
    go_end0
    refine ⟨rfl, a4, ?_⟩
    have := (hw3.step hw4).after M2
    rw [List.append_assoc, List.append_assoc, ← List.append_assoc [1], HE.out] at this
    exact this
  · rw [venc_num (by exact e)] at hE
    have HE : Hid (bs ++ ([2] ++ be 8 (Pl.canon n)) = E) := hE
    have hbT : (bs ++ [2]).length + 8 ≤ 1099511627776 := by rw [List.length_append, List.length_singleton]; omega
    subst z
    have HK : Hid (kd 2 = 2) := e
    clear e hE
    go_enter Tryz.func213, Tryz.ntmps213
    go_wp2_with (first | (go_at_call 218; refine (kind_w _ _ _ _ _ _).mono ?_; rintro _ w2 ⟨rfl, m2⟩; rw [HK.out]; obtain ⟨q2, M2⟩ := hA w2 m2) | (go_at_call 180; refine (wbyte_w _ a bs 2 _ rfl _ (h.moves M2 (by simp) (by simp)) hb1).mono ?_; rintro _ w3 ⟨rfl, a3, hw3⟩; have q3 := hw3.2.1.at q2 hnew; obtain ⟨c0, c1, c2, _, _, _⟩ := three_cells q3; have hB3 := (hB0.moves M2 (by simp)).moves hw3.2.1 hg') | (go_at_call 219; refine (wfloat_w _ a3 (bs ++ [2]) n _ hw3.1 hbT).mono ?_; rintro _ w4 ⟨rfl, a4, hw4⟩))
    go_end0
    refine ⟨rfl, a4, ?_⟩
    have := (hw3.step hw4).after M2
    rw [List.append_assoc, HE.out] at this
    exact this
  · rw [venc_other (by exact e)] at hE
    have HE : Hid (bs ++ [0] = E) := hE
    have t1 : (k == 1) = false := by simpa using z1
    have t2 : (k == 2) = false := by simpa using z2
    have HK : Hid (kd k = 0) := e
    clear e hE z1 z2
    go_enter Tryz.func213, Tryz.ntmps213
    go_wp2_with (first | (go_at_call 218; refine (kind_w _ _ _ _ _ _).mono ?_; rintro _ w2 ⟨rfl, m2⟩; rw [HK.out]; obtain ⟨q2, M2⟩ := hA w2 m2) | (go_at_call 180; refine (wbyte_w _ a bs 0 _ rfl _ (h.moves M2 (by simp) (by simp)) hb1).mono ?_; rintro _ w3 ⟨rfl, a3, hw3⟩; have q3 := hw3.2.1.at q2 hnew; obtain ⟨c0, c1, c2, _, _, _⟩ := three_cells q3; have hB3 := (hB0.moves M2 (by simp)).moves hw3.2.1 hg'))
    go_end0
    refine ⟨rfl, a3, ?_⟩
    have := hw3.after M2
    rw [HE.out] at this
    exact this
end Go.Proofs.YtfhdodopjgfedaaGreat
/-
  What package value's Get does while Read runs: it takes a value where the document lets it, and else leaves by the Reader's own panic; no other memory is written.
-/
namespace Go.Proofs.YtfhdodopjgfedaaGreat
open Go.RowKit

def VDec (bs : List Nat) (k : Int) (tx : List Nat) (n : Nat) (rest : List Nat) : Prop :=
  1 ≤ bs.length ∧ ((val (bs.take 1) = 1 ∧ textOk (bs.drop 1) 16 ∧ k = 1 ∧ tx = ((bs.drop 1).drop 4).take (val ((bs.drop 1).take 4)) ∧ n = 0 ∧ rest = ((bs.drop 1).drop 4).drop (val ((bs.drop 1).take 4))) ∨
    (val (bs.take 1) = 2 ∧ (8 ≤ (bs.drop 1).length ∧ Pl.canon (val ((bs.drop 1).take 8)) = val ((bs.drop 1).take 8)) ∧ k = 2 ∧ tx = [] ∧ n = val ((bs.drop 1).take 8) ∧ rest = (bs.drop 1).drop 8))

theorem val_lt8 {bs : List Nat} (h : ∀ b ∈ bs, b < 256) : Pl.Fits (val (bs.take 8)) := by
  have := val_lt h 8
  unfold Pl.Fits
  omega

structure Got (w w' : World) (p g : Nat) (k : Int) (tx : List Nat) (n : Nat) (rest : List Nat) (c : Vm) : Prop where
  kind : c.kind = k
  bs : c.bs = tx
  n : c.n = n
  own : Own w' c.bv tx
  fresh : Fresh w c.bv
  isIn : c.In w'
  rd : RdIs w' p g rest false
  moves : Moves [p] w w'

theorem RdIs.ltp {w : World} {p g : Nat} {bs : List Nat} {fl : Bool} (h : RdIs w p g bs fl) : p < w.heap.size := by
  obtain ⟨v, hp, _⟩ := h
  exact lt_of_block hp

theorem RdIs.ltg {w : World} {p g : Nat} {bs : List Nat} {fl : Bool} (h : RdIs w p g bs fl) (hn : 1 ≤ bs.length) : g < w.heap.size := by
  obtain ⟨v, _, hb, _⟩ := h
  exact hb.lt (by intro e; rw [e] at hn; simp at hn)

set_option maxHeartbeats 2000000 in
theorem vGet_ok (p g : Nat) (bs : List Nat) (k : Int) (tx : List Nat) (n : Nat) (rest : List Nat) (w : World) (h : RdIs w p g bs false) (ho : ∀ b ∈ bs, b < 256) (hd : VDec bs k tx n rest) :
    Calls Tryz.prog 197 #[.pointer (some ⟨p, 0, none⟩)] w fun e w' => ∃ c : Vm, e = .returned c.val ∧ Got w w' p g k tx n rest c := by
  obtain ⟨h1, hd⟩ := hd
  have hp := h.ltp
  have hg := h.ltg h1
  have ho' : ∀ b ∈ bs.drop 1, b < 256 := fun b hb => ho b (List.mem_of_mem_drop hb)
  have hm0 : Moves [] w (w.alloc (.cells #[.int .i64 0, .slice none 0 0, .float .f64 0] 30)) := (Moves.refl _ _).alloc _
  have hr0 := h.moves hm0 (by simp) (by simp)
  have hbx : w.heap.size ∉ [p] := by simp; omega
  have q0 : (w.alloc (.cells #[.int .i64 0, .slice none 0 0, .float .f64 0] 30)).heap[w.heap.size]? = some (.cells #[.int .i64 0, .slice none 0 0, .float .f64 0] 30 (0, 0)) := heap_alloc_new _ _
  rcases hd with ⟨hv, hok, rfl, htx, rfl, hrest⟩ | ⟨hv, ⟨hc1, hc2⟩, rfl, rfl, hn, hrest⟩
  · have HV : Hid ((val (bs.take 1) : Int) = 1) := by
      show (val (bs.take 1) : Int) = 1
      omega
    have HT : Hid (tx = ((bs.drop 1).drop 4).take (val ((bs.drop 1).take 4))) := htx
    have HR : Hid (rest = ((bs.drop 1).drop 4).drop (val ((bs.drop 1).take 4))) := hrest
    clear hv htx hrest
    go_enter Tryz.func197, Tryz.ntmps197
    go_wp2_with (first | (go_at_call 135; refine (rbyte_w _ g bs _ hr0 h1 ho).mono ?_; rintro _ w2 ⟨rfl, hr2, m2⟩; rw [HV.out]; have q2 := m2.at q0 hbx) | (go_at_call 140; refine (rtextr_w _ g (bs.drop 1) 16 _ hr2 ho' hok).mono ?_; rintro _ w3 ⟨v3, rfl, ho3, hr3, m3, f3⟩; rw [← HT.out] at ho3; rw [← HR.out] at hr3; have q3 := m3.at q2 hbx; have hi3 := ho3.isB; obtain ⟨ad3, n3, cap3, rfl, _⟩ := hi3) | (go_at_call 208; refine (vtext_w _ _ _ _).mono ?_; rintro _ w4 ⟨rfl, m4⟩; have q4 := m4.at q3 (by simp); obtain ⟨d0, d1, d2, e0, e1, e2⟩ := three_cells q4))
    try simp only [Exit.inBlock, Exit.then]
    have M4 : Moves [p] w w4 := (((hm0.mono (by simp)).then m2).then m3).then (m4.mono (by simp))
    have s3 : Moves [w.heap.size] w4 (((w4.setCell ⟨w.heap.size, 0, none⟩ (.int .i64 1)).setCell ⟨w.heap.size, 1, none⟩ (.slice ad3 n3 cap3)).setCell ⟨w.heap.size, 2, none⟩ (.float .f64 0)) := ((moves_set _ _ _ _).then (moves_set _ _ _ _)).then (moves_set _ _ _ _)
    have s1 := heap_set (i := 2) (heap_set (i := 1) (heap_set (i := 0) q4 (.int .i64 1)) (.slice ad3 n3 cap3)) (.float .f64 0)
    have hsz : w.heap.size < w2.heap.size := lt_of_block q2
    have hO := (ho3.moves m4 (by simp)).moves s3 (fun k hk => by have := f3 k hk; simp; omega)
    have hox : ∀ z ∈ tx, z < 256 := fun z hz => by rw [HT.out] at hz; exact ho' z (List.mem_of_mem_drop (List.mem_of_mem_take hz))
    refine bodyPost_ret (ret_val rfl _ _ _ _ _ _ rfl s1) rfl ⟨⟨1, .slice ad3 n3 cap3, (Value.slice ad3 n3 cap3).ownBlock.getD 0, tx, 0⟩, rfl, ⟨rfl, rfl, rfl, hO, fun k hk => by have := f3 k hk; omega, ⟨hO.isB, fits_zero, hox⟩, ?_, M4.trans s3 (fun x hx => .inr (by simp at hx; omega))⟩⟩
    exact (hr3.moves m4 (by simp) (by simp)).moves s3 (by simp; omega) (by simp; omega)
  · have HV : Hid ((val (bs.take 1) : Int) = 2) := by
      show (val (bs.take 1) : Int) = 2
      omega
    have HN : Hid (n = val ((bs.drop 1).take 8)) := hn
    have HR : Hid (rest = (bs.drop 1).drop 8) := hrest
    have HF : Hid (Pl.Fits n) := by rw [hn]; exact val_lt8 ho'
    clear hv hn hrest
    go_enter Tryz.func197, Tryz.ntmps197
    go_wp2_with (first | (go_at_call 135; refine (rbyte_w _ g bs _ hr0 h1 ho).mono ?_; rintro _ w2 ⟨rfl, hr2, m2⟩; rw [HV.out]; have q2 := m2.at q0 hbx) | (go_at_call 210; refine (rfloat_ok_w _ g (bs.drop 1) _ hr2 hc1 ho' hc2).mono ?_; rintro _ w3 ⟨rfl, hr3, m3⟩; rw [← HN.out]; rw [← HR.out] at hr3; have q3 := m3.at q2 hbx) | (go_at_call 209; refine (vnumber_w _ _).mono ?_; rintro _ w4 ⟨rfl, m4⟩; have q4 := m4.at q3 (by simp); obtain ⟨d0, d1, d2, e0, e1, e2⟩ := three_cells q4))
    try simp only [Exit.inBlock, Exit.then]
    have M4 : Moves [p] w w4 := (((hm0.mono (by simp)).then m2).then m3).then (m4.mono (by simp))
    have s3 : Moves [w.heap.size] w4 (((w4.setCell ⟨w.heap.size, 0, none⟩ (.int .i64 2)).setCell ⟨w.heap.size, 1, none⟩ (.slice none 0 0)).setCell ⟨w.heap.size, 2, none⟩ (.float .f64 n)) := ((moves_set _ _ _ _).then (moves_set _ _ _ _)).then (moves_set _ _ _ _)
    have s1 := heap_set (i := 2) (heap_set (i := 1) (heap_set (i := 0) q4 (.int .i64 2)) (.slice none 0 0)) (.float .f64 n)
    refine bodyPost_ret (ret_val rfl _ _ _ _ _ _ rfl s1) rfl ⟨⟨2, .slice none 0 0, 0, [], n⟩, rfl, ⟨rfl, rfl, rfl, Own.nil _, Fresh.nil _, ⟨isB_nil _ _, HF.out, by simp⟩, ?_, M4.trans s3 (fun x hx => .inr (by simp at hx; omega))⟩⟩
    exact (hr3.moves m4 (by simp) (by simp)).moves s3 (by simp; omega) (by simp; omega)

set_option maxHeartbeats 2000000 in
theorem vGet_fail (p g : Nat) (bs : List Nat) (w : World) (h : RdIs w p g bs false) (ho : ∀ b ∈ bs, b < 256) (hd : ¬ ∃ k tx n rest, VDec bs k tx n rest) :
    Calls Tryz.prog 197 #[.pointer (some ⟨p, 0, none⟩)] w fun e w' => e = .panicked (stop p) ∧ ∃ bs', RdIs w' p g bs' true ∧ Moves [p] w w' := by
  have hm0 : Moves [] w (w.alloc (.cells #[.int .i64 0, .slice none 0 0, .float .f64 0] 30)) := (Moves.refl _ _).alloc _
  have hr0 := h.moves hm0 (by simp) (by simp)
  have hm1 : Moves [p] w (w.alloc (.cells #[.int .i64 0, .slice none 0 0, .float .f64 0] 30)) := hm0.mono (by simp)
  by_cases h1 : bs.length < 1
  · go_enter Tryz.func197, Tryz.ntmps197
    go_wp2_with (go_at_call 135; refine (rbyte_fail_w _ g bs _ hr0 h1).mono ?_; rintro _ w2 ⟨rfl, hr2, m2⟩)
    exact ⟨rfl, rfl, bs, hr2, hm1.then m2⟩
  · have h1' : 1 ≤ bs.length := by omega
    have ho' : ∀ b ∈ bs.drop 1, b < 256 := fun b hb => ho b (List.mem_of_mem_drop hb)
    clear h1
    by_cases c1 : val (bs.take 1) = 1
    · have hok : ¬ textOk (bs.drop 1) 16 := fun e => hd ⟨_, _, _, _, h1', .inl ⟨c1, e, rfl, rfl, rfl, rfl⟩⟩
      have HV : Hid ((val (bs.take 1) : Int) = 1) := by
        show (val (bs.take 1) : Int) = 1
        omega
      clear c1 hd
      go_enter Tryz.func197, Tryz.ntmps197
      go_wp2_with (first | (go_at_call 135; refine (rbyte_w _ g bs _ hr0 h1' ho).mono ?_; rintro _ w2 ⟨rfl, hr2, m2⟩; rw [HV.out]) | (go_at_call 140; refine (rtextr_fail_w _ g (bs.drop 1) 16 _ hr2 ho' hok).mono ?_; rintro _ w3 ⟨rfl, hr3, m3⟩))
      exact ⟨rfl, rfl, _, hr3, (hm1.then m2).then m3⟩
    · by_cases c2 : val (bs.take 1) = 2
      · have hok : ¬ (8 ≤ (bs.drop 1).length ∧ Pl.canon (val ((bs.drop 1).take 8)) = val ((bs.drop 1).take 8)) := fun e => hd ⟨_, _, _, _, h1', .inr ⟨c2, e, rfl, rfl, rfl, rfl⟩⟩
        have HV : Hid ((val (bs.take 1) : Int) = 2) := by
          show (val (bs.take 1) : Int) = 2
          omega
        clear c1 c2 hd
        go_enter Tryz.func197, Tryz.ntmps197
        go_wp2_with (first | (go_at_call 135; refine (rbyte_w _ g bs _ hr0 h1' ho).mono ?_; rintro _ w2 ⟨rfl, hr2, m2⟩; rw [HV.out]) | (go_at_call 210; refine (rfloat_fail_w _ g (bs.drop 1) _ hr2 ho' hok).mono ?_; rintro _ w3 ⟨rfl, hr3, m3⟩))
        exact ⟨rfl, rfl, _, hr3, (hm1.then m2).then m3⟩
      · obtain ⟨V, hV⟩ : ∃ V : Int, (val (bs.take 1) : Int) = V := ⟨_, rfl⟩
        have HV : Hid ((val (bs.take 1) : Int) = V) := hV
        have t1 : (V == 1) = false := by simp; omega
        have t2 : (V == 2) = false := by simp; omega
        clear c1 c2 hd hV
        go_enter Tryz.func197, Tryz.ntmps197
        go_wp2_with (first | (go_at_call 135; refine (rbyte_w _ g bs _ hr0 h1' ho).mono ?_; rintro _ w2 ⟨rfl, hr2, m2⟩; rw [HV.out]) | (go_at_call 142; refine (rfail_w _ g _ _ hr2).mono ?_; rintro _ w3 ⟨rfl, hr3, m3⟩))
        exact ⟨rfl, rfl, _, hr3, (hm1.then m2).then m3⟩
end Go.Proofs.YtfhdodopjgfedaaGreat
/-
  What ValueBack hands to Read does: of two values that were written it takes both, all of them, and nothing is left.
-/
namespace Go.Proofs.YtfhdodopjgfedaaGreat
open Go.RowKit

end Go.Proofs.YtfhdodopjgfedaaGreat
/-
  What ValueBack does: for any two drawn values it returns true, and writes nothing that was there.
-/
namespace Go.Proofs.YtfhdodopjgfedaaGreat
open Go.RowKit

theorem put_v (p : Nat) (a : Option Nat) (bs es : List Nat) (va : Value) (A : Vm) (w : World) (hva : va = A.val) (h : Wr w p a bs) (hb : bs.length + 2000010 ≤ 1099511627776) (ha : A.In w) (hl : A.bs.length ≤ 1048576) (hg : A.bs ≠ [] → A.g ∉ p :: a.toList) (he : bs ++ venc A = es) :
    Calls Tryz.prog 213 #[.pointer (some ⟨p, 0, none⟩), va] w fun e w' => e = .returned (.tuple #[]) ∧ ∃ a', Wrote w p a w' a' es := by
  subst hva he
  exact vPut_w p a bs A w h hb ha hl hg

end Go.Proofs.YtfhdodopjgfedaaGreat
/-
  What the document's own answer on values (the reference of layer 3) does: Order, Same, Right, Plus and Canon return what package value's functions are proved to return, and write nothing that was there.
-/
namespace Go.Proofs.YtfhdodopjgfedaaGreat
open Go.RowKit

end Go.Proofs.YtfhdodopjgfedaaGreat
/-
  What the document's own Same, Right, Plus and Canon of values do: they return what package value's functions are proved to return, and write nothing that was there.
-/
namespace Go.Proofs.YtfhdodopjgfedaaGreat
open Go.RowKit

end Go.Proofs.YtfhdodopjgfedaaGreat
/-
  What the document's own Put of a value does: it returns the bytes that it was handed and the value's behind them, in a row of its own, and writes nothing that was there.
-/
namespace Go.Proofs.YtfhdodopjgfedaaGreat
open Go.RowKit

end Go.Proofs.YtfhdodopjgfedaaGreat
/-
  What the document's own Get of a value does: it takes a value where the document lets it, and else marks its Reader as bad; no other memory is written.
-/
namespace Go.Proofs.YtfhdodopjgfedaaGreat
open Go.RowKit

end Go.Proofs.YtfhdodopjgfedaaGreat
/-
  What the law's own 'writes' and 'reads' do: for every value, and for any bytes, they return true, and write nothing that was there.
-/
namespace Go.Proofs.YtfhdodopjgfedaaGreat
open Go.RowKit

end Go.Proofs.YtfhdodopjgfedaaGreat
/-
  'x1, .., xn := f1(y1), .., fn(yn)' over boxes once more, where what is handed back lies in new memory: what is said of it is said of the world.
-/
namespace Go.Proofs.YtfhdodopjgfedaaGreat
open Go.RowKit

section
variable {P : Program} {ops : Array Oper} {Q : Exit → Act → World → Prop} {a0 : Act} {W : World} {n : Nat} {L C D : Nat → Nat} {T : TypeId} {Z : Array Value} {src : Nat → Value} {Res : World → Nat → Value → Array Value → Prop}

end
end Go.Proofs.YtfhdodopjgfedaaGreat
/-
  Slices of structs that a call made itself: what lies in them, element by element; what an append leaves. Plain laws, for any element type.
-/
namespace Go.Proofs.YtfhdodopjgfedaaGreat
open Go.RowKit

end Go.Proofs.YtfhdodopjgfedaaGreat
/-
  A drawn region each of whose operations writes a slot of its own: what each one leaves there, told of a world, and kept by whatever comes up behind it.
-/
namespace Go.Proofs.YtfhdodopjgfedaaGreat
open Go.RowKit

end Go.Proofs.YtfhdodopjgfedaaGreat
/-
  The law's own list of values: what the operations of its literal leave, told of a world in which rows of bytes may have been frozen.
-/
namespace Go.Proofs.YtfhdodopjgfedaaGreat
open Go.RowKit

end Go.Proofs.YtfhdodopjgfedaaGreat
/-
  The law's own list of values: its literal, whichever order its operations take; then the nine that are drawn.
-/
namespace Go.Proofs.YtfhdodopjgfedaaGreat
open Go.RowKit

end Go.Proofs.YtfhdodopjgfedaaGreat
/-
  A drawn region each of whose operations writes a slot of its own, with guards: an operation that its guard lets by leaves its value, one that it does not leaves none. Plain laws, no program in sight.
-/
namespace Go.Proofs.YtfhdodopjgfedaaGreat
open Go.RowKit

end Go.Proofs.YtfhdodopjgfedaaGreat
