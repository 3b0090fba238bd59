/-
  Val9, Back3a, Back3: our texts of these names, laid into one.
-/
import Derived.Test.YtcamhlnkcoicpaaGreatCB11
import Derived.ProofKit
import Derived.OpenShut
import Derived.ChangeOld
/-
  What package value's Get does while Read runs: it takes a value where the document lets it, and else leaves by the Reader's own panic; no other memory is written.
-/
namespace Go.Proofs.YtcamhlnkcoicpaaGreat
open Go.RowKit

/-- Those bytes begin with a value: its Kind, its text, its number, what is left behind it. -/
def VDec (bs : List Nat) (k : Int) (tx : List Nat) (n : Nat) (rest : List Nat) : Prop :=
  1 ≤ bs.length ∧ ((val (bs.take 1) = 1 ∧ textOk (bs.drop 1) 16 ∧ k = 1 ∧ tx = ((bs.drop 1).drop 4).take (val ((bs.drop 1).take 4)) ∧ n = 0 ∧ rest = ((bs.drop 1).drop 4).drop (val ((bs.drop 1).take 4))) ∨
    (val (bs.take 1) = 2 ∧ (8 ≤ (bs.drop 1).length ∧ Pl.canon (val ((bs.drop 1).take 8)) = val ((bs.drop 1).take 8)) ∧ k = 2 ∧ tx = [] ∧ n = val ((bs.drop 1).take 8) ∧ rest = (bs.drop 1).drop 8))

theorem val_lt8 {bs : List Nat} (h : ∀ b ∈ bs, b < 256) : Pl.Fits (val (bs.take 8)) := by
  have := val_lt h 8
  unfold Pl.Fits
  omega

/-- What Get hands back. -/
structure Got (w w' : World) (p g : Nat) (k : Int) (tx : List Nat) (n : Nat) (rest : List Nat) (c : Vm) : Prop where
  kind : c.kind = k
  bs : c.bs = tx
  n : c.n = n
  own : Own w' c.bv tx
  fresh : Fresh w c.bv
  isIn : c.In w'
  rd : RdIs w' p g rest false
  moves : Moves [p] w w'

theorem RdIs.ltp {w : World} {p g : Nat} {bs : List Nat} {fl : Bool} (h : RdIs w p g bs fl) : p < w.heap.size := by
  obtain ⟨v, hp, _⟩ := h
  exact lt_of_block hp

theorem RdIs.ltg {w : World} {p g : Nat} {bs : List Nat} {fl : Bool} (h : RdIs w p g bs fl) (hn : 1 ≤ bs.length) : g < w.heap.size := by
  obtain ⟨v, _, hb, _⟩ := h
  exact hb.lt (by intro e; rw [e] at hn; simp at hn)

set_option maxHeartbeats 2000000 in
theorem vGet_ok (p g : Nat) (bs : List Nat) (k : Int) (tx : List Nat) (n : Nat) (rest : List Nat) (w : World) (h : RdIs w p g bs false) (ho : ∀ b ∈ bs, b < 256) (hd : VDec bs k tx n rest) :
    Calls Tryz.prog 165 #[.pointer (some ⟨p, 0, none⟩)] w fun e w' => ∃ c : Vm, e = .returned c.val ∧ Got w w' p g k tx n rest c := by
  obtain ⟨h1, hd⟩ := hd
  have hp := h.ltp
  have hg := h.ltg h1
  have ho' : ∀ b ∈ bs.drop 1, b < 256 := fun b hb => ho b (List.mem_of_mem_drop hb)
  have hm0 : Moves [] w (w.alloc (.cells #[.int .i64 0, .slice none 0 0, .float .f64 0] 25)) := (Moves.refl _ _).alloc _
  have hr0 := h.moves hm0 (by simp) (by simp)
  have hbx : w.heap.size ∉ [p] := by simp; omega
  have q0 : (w.alloc (.cells #[.int .i64 0, .slice none 0 0, .float .f64 0] 25)).heap[w.heap.size]? = some (.cells #[.int .i64 0, .slice none 0 0, .float .f64 0] 25 (0, 0)) := heap_alloc_new _ _
  rcases hd with ⟨hv, hok, rfl, htx, rfl, hrest⟩ | ⟨hv, ⟨hc1, hc2⟩, rfl, rfl, hn, hrest⟩
  · have HV : Hid ((val (bs.take 1) : Int) = 1) := by
      show (val (bs.take 1) : Int) = 1
      omega
    have HT : Hid (tx = ((bs.drop 1).drop 4).take (val ((bs.drop 1).take 4))) := htx
    have HR : Hid (rest = ((bs.drop 1).drop 4).drop (val ((bs.drop 1).take 4))) := hrest
    clear hv htx hrest
    go_enter Tryz.func165, Tryz.ntmps165
    go_wp2_with (first | (go_at_call 64; refine (rbyte_w _ g bs _ hr0 h1 ho).mono ?_; rintro _ w2 ⟨rfl, hr2, m2⟩; rw [HV.out]; have q2 := m2.at q0 hbx) | (go_at_call 66; refine (rtextr_w _ g (bs.drop 1) 16 _ hr2 ho' hok).mono ?_; rintro _ w3 ⟨v3, rfl, ho3, hr3, m3, f3⟩; rw [← HT.out] at ho3; rw [← HR.out] at hr3; have q3 := m3.at q2 hbx; have hi3 := ho3.isB; obtain ⟨ad3, n3, cap3, rfl, _⟩ := hi3) | (go_at_call 173; refine (vtext_w _ _ _ _).mono ?_; rintro _ w4 ⟨rfl, m4⟩; have q4 := m4.at q3 (by simp); obtain ⟨d0, d1, d2, e0, e1, e2⟩ := three_cells q4))
    try simp only [Exit.inBlock, Exit.then]
    have M4 : Moves [p] w w4 := (((hm0.mono (by simp)).then m2).then m3).then (m4.mono (by simp))
    have s3 : Moves [w.heap.size] w4 (((w4.setCell ⟨w.heap.size, 0, none⟩ (.int .i64 1)).setCell ⟨w.heap.size, 1, none⟩ (.slice ad3 n3 cap3)).setCell ⟨w.heap.size, 2, none⟩ (.float .f64 0)) := ((moves_set _ _ _ _).then (moves_set _ _ _ _)).then (moves_set _ _ _ _)
    have s1 := heap_set (i := 2) (heap_set (i := 1) (heap_set (i := 0) q4 (.int .i64 1)) (.slice ad3 n3 cap3)) (.float .f64 0)
    have hsz : w.heap.size < w2.heap.size := lt_of_block q2
    have hO := (ho3.moves m4 (by simp)).moves s3 (fun k hk => by have := f3 k hk; simp; omega)
    have hox : ∀ z ∈ tx, z < 256 := fun z hz => by rw [HT.out] at hz; exact ho' z (List.mem_of_mem_drop (List.mem_of_mem_take hz))
    refine bodyPost_ret (ret_val rfl _ _ _ _ _ _ rfl s1) rfl ⟨⟨1, .slice ad3 n3 cap3, (Value.slice ad3 n3 cap3).ownBlock.getD 0, tx, 0⟩, rfl, ⟨rfl, rfl, rfl, hO, fun k hk => by have := f3 k hk; omega, ⟨hO.isB, fits_zero, hox⟩, ?_, M4.trans s3 (fun x hx => .inr (by simp at hx; omega))⟩⟩
    exact (hr3.moves m4 (by simp) (by simp)).moves s3 (by simp; omega) (by simp; omega)
  · have HV : Hid ((val (bs.take 1) : Int) = 2) := by
      show (val (bs.take 1) : Int) = 2
      omega
    have HN : Hid (n = val ((bs.drop 1).take 8)) := hn
    have HR : Hid (rest = (bs.drop 1).drop 8) := hrest
    have HF : Hid (Pl.Fits n) := by rw [hn]; exact val_lt8 ho'
    clear hv hn hrest
    go_enter Tryz.func165, Tryz.ntmps165
    go_wp2_with (first | (go_at_call 64; refine (rbyte_w _ g bs _ hr0 h1 ho).mono ?_; rintro _ w2 ⟨rfl, hr2, m2⟩; rw [HV.out]; have q2 := m2.at q0 hbx) | (go_at_call 175; refine (rfloat_ok_w _ g (bs.drop 1) _ hr2 hc1 ho' hc2).mono ?_; rintro _ w3 ⟨rfl, hr3, m3⟩; rw [← HN.out]; rw [← HR.out] at hr3; have q3 := m3.at q2 hbx) | (go_at_call 174; refine (vnumber_w _ _).mono ?_; rintro _ w4 ⟨rfl, m4⟩; have q4 := m4.at q3 (by simp); obtain ⟨d0, d1, d2, e0, e1, e2⟩ := three_cells q4))
    try simp only [Exit.inBlock, Exit.then]
    have M4 : Moves [p] w w4 := (((hm0.mono (by simp)).then m2).then m3).then (m4.mono (by simp))
    have s3 : Moves [w.heap.size] w4 (((w4.setCell ⟨w.heap.size, 0, none⟩ (.int .i64 2)).setCell ⟨w.heap.size, 1, none⟩ (.slice none 0 0)).setCell ⟨w.heap.size, 2, none⟩ (.float .f64 n)) := ((moves_set _ _ _ _).then (moves_set _ _ _ _)).then (moves_set _ _ _ _)
    have s1 := heap_set (i := 2) (heap_set (i := 1) (heap_set (i := 0) q4 (.int .i64 2)) (.slice none 0 0)) (.float .f64 n)
    refine bodyPost_ret (ret_val rfl _ _ _ _ _ _ rfl s1) rfl ⟨⟨2, .slice none 0 0, 0, [], n⟩, rfl, ⟨rfl, rfl, rfl, Own.nil _, Fresh.nil _, ⟨isB_nil _ _, HF.out, by simp⟩, ?_, M4.trans s3 (fun x hx => .inr (by simp at hx; omega))⟩⟩
    exact (hr3.moves m4 (by simp) (by simp)).moves s3 (by simp; omega) (by simp; omega)

set_option maxHeartbeats 2000000 in
theorem vGet_fail (p g : Nat) (bs : List Nat) (w : World) (h : RdIs w p g bs false) (ho : ∀ b ∈ bs, b < 256) (hd : ¬ ∃ k tx n rest, VDec bs k tx n rest) :
    Calls Tryz.prog 165 #[.pointer (some ⟨p, 0, none⟩)] w fun e w' => e = .panicked (stop p) ∧ ∃ bs', RdIs w' p g bs' true ∧ Moves [p] w w' := by
  have hm0 : Moves [] w (w.alloc (.cells #[.int .i64 0, .slice none 0 0, .float .f64 0] 25)) := (Moves.refl _ _).alloc _
  have hr0 := h.moves hm0 (by simp) (by simp)
  have hm1 : Moves [p] w (w.alloc (.cells #[.int .i64 0, .slice none 0 0, .float .f64 0] 25)) := hm0.mono (by simp)
  by_cases h1 : bs.length < 1
  · go_enter Tryz.func165, Tryz.ntmps165
    go_wp2_with (go_at_call 64; refine (rbyte_fail_w _ g bs _ hr0 h1).mono ?_; rintro _ w2 ⟨rfl, hr2, m2⟩)
    exact ⟨rfl, rfl, bs, hr2, hm1.then m2⟩
  · have h1' : 1 ≤ bs.length := by omega
    have ho' : ∀ b ∈ bs.drop 1, b < 256 := fun b hb => ho b (List.mem_of_mem_drop hb)
    clear h1
    by_cases c1 : val (bs.take 1) = 1
    · have hok : ¬ textOk (bs.drop 1) 16 := fun e => hd ⟨_, _, _, _, h1', .inl ⟨c1, e, rfl, rfl, rfl, rfl⟩⟩
      have HV : Hid ((val (bs.take 1) : Int) = 1) := by
        show (val (bs.take 1) : Int) = 1
        omega
      clear c1 hd
      go_enter Tryz.func165, Tryz.ntmps165
      go_wp2_with (first | (go_at_call 64; refine (rbyte_w _ g bs _ hr0 h1' ho).mono ?_; rintro _ w2 ⟨rfl, hr2, m2⟩; rw [HV.out]) | (go_at_call 66; refine (rtextr_fail_w _ g (bs.drop 1) 16 _ hr2 ho' hok).mono ?_; rintro _ w3 ⟨rfl, hr3, m3⟩))
      exact ⟨rfl, rfl, _, hr3, (hm1.then m2).then m3⟩
    · by_cases c2 : val (bs.take 1) = 2
      · have hok : ¬ (8 ≤ (bs.drop 1).length ∧ Pl.canon (val ((bs.drop 1).take 8)) = val ((bs.drop 1).take 8)) := fun e => hd ⟨_, _, _, _, h1', .inr ⟨c2, e, rfl, rfl, rfl, rfl⟩⟩
        have HV : Hid ((val (bs.take 1) : Int) = 2) := by
          show (val (bs.take 1) : Int) = 2
          omega
        clear c1 c2 hd
        go_enter Tryz.func165, Tryz.ntmps165
        go_wp2_with (first | (go_at_call 64; refine (rbyte_w _ g bs _ hr0 h1' ho).mono ?_; rintro _ w2 ⟨rfl, hr2, m2⟩; rw [HV.out]) | (go_at_call 175; refine (rfloat_fail_w _ g (bs.drop 1) _ hr2 ho' hok).mono ?_; rintro _ w3 ⟨rfl, hr3, m3⟩))
        exact ⟨rfl, rfl, _, hr3, (hm1.then m2).then m3⟩
      · obtain ⟨V, hV⟩ : ∃ V : Int, (val (bs.take 1) : Int) = V := ⟨_, rfl⟩
        have HV : Hid ((val (bs.take 1) : Int) = V) := hV
        have t1 : (V == 1) = false := by simp; omega
        have t2 : (V == 2) = false := by simp; omega
        clear c1 c2 hd hV
        go_enter Tryz.func165, Tryz.ntmps165
        go_wp2_with (first | (go_at_call 64; refine (rbyte_w _ g bs _ hr0 h1' ho).mono ?_; rintro _ w2 ⟨rfl, hr2, m2⟩; rw [HV.out]) | (go_at_call 111; refine (rfail_w _ g _ _ hr2).mono ?_; rintro _ w3 ⟨rfl, hr3, m3⟩))
        exact ⟨rfl, rfl, _, hr3, (hm1.then m2).then m3⟩
end Go.Proofs.YtcamhlnkcoicpaaGreat
/-
  What ValueBack hands to Read does: of two values that were written it takes both, all of them, and nothing is left.
-/
namespace Go.Proofs.YtcamhlnkcoicpaaGreat
open Go.RowKit

end Go.Proofs.YtcamhlnkcoicpaaGreat
/-
  What ValueBack does: for any two drawn values it returns true, and writes nothing that was there.
-/
namespace Go.Proofs.YtcamhlnkcoicpaaGreat
open Go.RowKit

theorem put_v (p : Nat) (a : Option Nat) (bs es : List Nat) (va : Value) (A : Vm) (w : World) (hva : va = A.val) (h : Wr w p a bs) (hb : bs.length + 2000010 ≤ 1099511627776) (ha : A.In w) (hl : A.bs.length ≤ 1048576) (hg : A.bs ≠ [] → A.g ∉ p :: a.toList) (he : bs ++ venc A = es) :
    Calls Tryz.prog 161 #[.pointer (some ⟨p, 0, none⟩), va] w fun e w' => e = .returned (.tuple #[]) ∧ ∃ a', Wrote w p a w' a' es := by
  subst hva he
  exact vPut_w p a bs A w h hb ha hl hg

end Go.Proofs.YtcamhlnkcoicpaaGreat
