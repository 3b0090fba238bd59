/- ours -/
import Derived.Test.YtilbbnmhnacnlaaGreatCB13
import Derived.ProofKit
import Derived.OpenShut
import Derived.ChangeOld
import Derived.Deep.RegionHeld3
import Derived.Test.YtilbbnmhnacnlaaGreatCB04
import Derived.Great.BuildSlice
import Derived.Sort.Walk0
/-
  What package value's Get does while Read runs: it takes a value where the document lets it, and else leaves by the Reader's own panic; no other memory is written.
-/
namespace Go.Proofs.YtilbbnmhnacnlaaGreat
open Go.RowKit

def VDec (bs : List Nat) (k : Int) (tx : List Nat) (n : Nat) (rest : List Nat) : Prop :=
  1 ≤ bs.length ∧ ((val (bs.take 1) = 1 ∧ textOk (bs.drop 1) 16 ∧ k = 1 ∧ tx = ((bs.drop 1).drop 4).take (val ((bs.drop 1).take 4)) ∧ n = 0 ∧ rest = ((bs.drop 1).drop 4).drop (val ((bs.drop 1).take 4))) ∨
    (val (bs.take 1) = 2 ∧ (8 ≤ (bs.drop 1).length ∧ Pl.canon (val ((bs.drop 1).take 8)) = val ((bs.drop 1).take 8)) ∧ k = 2 ∧ tx = [] ∧ n = val ((bs.drop 1).take 8) ∧ rest = (bs.drop 1).drop 8))

theorem val_lt8 {bs : List Nat} (h : ∀ b ∈ bs, b < 256) : Pl.Fits (val (bs.take 8)) := by
  have := val_lt h 8
  unfold Pl.Fits
  omega

structure Got (w w' : World) (p g : Nat) (k : Int) (tx : List Nat) (n : Nat) (rest : List Nat) (c : Vm) : Prop where
  kind : c.kind = k
  bs : c.bs = tx
  n : c.n = n
  own : Own w' c.bv tx
  fresh : Fresh w c.bv
  isIn : c.In w'
  rd : RdIs w' p g rest false
  moves : Moves [p] w w'

theorem RdIs.ltp {w : World} {p g : Nat} {bs : List Nat} {fl : Bool} (h : RdIs w p g bs fl) : p < w.heap.size := by
  obtain ⟨v, hp, _⟩ := h
  exact lt_of_block hp

theorem RdIs.ltg {w : World} {p g : Nat} {bs : List Nat} {fl : Bool} (h : RdIs w p g bs fl) (hn : 1 ≤ bs.length) : g < w.heap.size := by
  obtain ⟨v, _, hb, _⟩ := h
  exact hb.lt (by intro e; rw [e] at hn; simp at hn)

set_option maxHeartbeats 2000000 in
theorem vGet_ok (p g : Nat) (bs : List Nat) (k : Int) (tx : List Nat) (n : Nat) (rest : List Nat) (w : World) (h : RdIs w p g bs false) (ho : ∀ b ∈ bs, b < 256) (hd : VDec bs k tx n rest) :
    Calls Tryz.prog 197 #[.pointer (some ⟨p, 0, none⟩)] w fun e w' => ∃ c : Vm, e = .returned c.val ∧ Got w w' p g k tx n rest c := by
  obtain ⟨h1, hd⟩ := hd
  have hp := h.ltp
  have hg := h.ltg h1
  have ho' : ∀ b ∈ bs.drop 1, b < 256 := fun b hb => ho b (List.mem_of_mem_drop hb)
  have hm0 : Moves [] w (w.alloc (.cells #[.int .i64 0, .slice none 0 0, .float .f64 0] 30)) := (Moves.refl _ _).alloc _
  have hr0 := h.moves hm0 (by simp) (by simp)
  have hbx : w.heap.size ∉ [p] := by simp; omega
  have q0 : (w.alloc (.cells #[.int .i64 0, .slice none 0 0, .float .f64 0] 30)).heap[w.heap.size]? = some (.cells #[.int .i64 0, .slice none 0 0, .float .f64 0] 30 (0, 0)) := heap_alloc_new _ _
  rcases hd with ⟨hv, hok, rfl, htx, rfl, hrest⟩ | ⟨hv, ⟨hc1, hc2⟩, rfl, rfl, hn, hrest⟩
  · have HV : Hid ((val (bs.take 1) : Int) = 1) := by
      show (val (bs.take 1) : Int) = 1
      omega
    have HT : Hid (tx = ((bs.drop 1).drop 4).take (val ((bs.drop 1).take 4))) := htx
    have HR : Hid (rest = ((bs.drop 1).drop 4).drop (val ((bs.drop 1).take 4))) := hrest
    clear hv htx hrest
    go_enter Tryz.func197, Tryz.ntmps197
    go_wp2_with (first | (go_at_call 135; refine (rbyte_w _ g bs _ hr0 h1 ho).mono ?_; rintro _ w2 ⟨rfl, hr2, m2⟩; rw [HV.out]; have q2 := m2.at q0 hbx) | (go_at_call 140; refine (rtextr_w _ g (bs.drop 1) 16 _ hr2 ho' hok).mono ?_; rintro _ w3 ⟨v3, rfl, ho3, hr3, m3, f3⟩; rw [← HT.out] at ho3; rw [← HR.out] at hr3; have q3 := m3.at q2 hbx; have hi3 := ho3.isB; obtain ⟨ad3, n3, cap3, rfl, _⟩ := hi3) | (go_at_call 208; refine (vtext_w _ _ _ _).mono ?_; rintro _ w4 ⟨rfl, m4⟩; have q4 := m4.at q3 (by simp); obtain ⟨d0, d1, d2, e0, e1, e2⟩ := three_cells q4))
    try simp only [Exit.inBlock, Exit.then]
    have M4 : Moves [p] w w4 := (((hm0.mono (by simp)).then m2).then m3).then (m4.mono (by simp))
    have s3 : Moves [w.heap.size] w4 (((w4.setCell ⟨w.heap.size, 0, none⟩ (.int .i64 1)).setCell ⟨w.heap.size, 1, none⟩ (.slice ad3 n3 cap3)).setCell ⟨w.heap.size, 2, none⟩ (.float .f64 0)) := ((moves_set _ _ _ _).then (moves_set _ _ _ _)).then (moves_set _ _ _ _)
    have s1 := heap_set (i := 2) (heap_set (i := 1) (heap_set (i := 0) q4 (.int .i64 1)) (.slice ad3 n3 cap3)) (.float .f64 0)
    have hsz : w.heap.size < w2.heap.size := lt_of_block q2
    have hO := (ho3.moves m4 (by simp)).moves s3 (fun k hk => by have := f3 k hk; simp; omega)
    have hox : ∀ z ∈ tx, z < 256 := fun z hz => by rw [HT.out] at hz; exact ho' z (List.mem_of_mem_drop (List.mem_of_mem_take hz))
    refine bodyPost_ret (ret_val rfl _ _ _ _ _ _ rfl s1) rfl ⟨⟨1, .slice ad3 n3 cap3, (Value.slice ad3 n3 cap3).ownBlock.getD 0, tx, 0⟩, rfl, ⟨rfl, rfl, rfl, hO, fun k hk => by have := f3 k hk; omega, ⟨hO.isB, fits_zero, hox⟩, ?_, M4.trans s3 (fun x hx => .inr (by simp at hx; omega))⟩⟩
    exact (hr3.moves m4 (by simp) (by simp)).moves s3 (by simp; omega) (by simp; omega)
  · have HV : Hid ((val (bs.take 1) : Int) = 2) := by
      show (val (bs.take 1) : Int) = 2
      omega
    have HN : Hid (n = val ((bs.drop 1).take 8)) := hn
    have HR : Hid (rest = (bs.drop 1).drop 8) := hrest
    have HF : Hid (Pl.Fits n) := by rw [hn]; exact val_lt8 ho'
    clear hv hn hrest
    go_enter Tryz.func197, Tryz.ntmps197
    go_wp2_with (first | (go_at_call 135; refine (rbyte_w _ g bs _ hr0 h1 ho).mono ?_; rintro _ w2 ⟨rfl, hr2, m2⟩; rw [HV.out]; have q2 := m2.at q0 hbx) | (go_at_call 210; refine (rfloat_ok_w _ g (bs.drop 1) _ hr2 hc1 ho' hc2).mono ?_; rintro _ w3 ⟨rfl, hr3, m3⟩; rw [← HN.out]; rw [← HR.out] at hr3; have q3 := m3.at q2 hbx) | (go_at_call 209; refine (vnumber_w _ _).mono ?_; rintro _ w4 ⟨rfl, m4⟩; have q4 := m4.at q3 (by simp); obtain ⟨d0, d1, d2, e0, e1, e2⟩ := three_cells q4))
    try simp only [Exit.inBlock, Exit.then]
    have M4 : Moves [p] w w4 := (((hm0.mono (by simp)).then m2).then m3).then (m4.mono (by simp))
    have s3 : Moves [w.heap.size] w4 (((w4.setCell ⟨w.heap.size, 0, none⟩ (.int .i64 2)).setCell ⟨w.heap.size, 1, none⟩ (.slice none 0 0)).setCell ⟨w.heap.size, 2, none⟩ (.float .f64 n)) := ((moves_set _ _ _ _).then (moves_set _ _ _ _)).then (moves_set _ _ _ _)
    have s1 := heap_set (i := 2) (heap_set (i := 1) (heap_set (i := 0) q4 (.int .i64 2)) (.slice none 0 0)) (.float .f64 n)
    refine bodyPost_ret (ret_val rfl _ _ _ _ _ _ rfl s1) rfl ⟨⟨2, .slice none 0 0, 0, [], n⟩, rfl, ⟨rfl, rfl, rfl, Own.nil _, Fresh.nil _, ⟨isB_nil _ _, HF.out, by simp⟩, ?_, M4.trans s3 (fun x hx => .inr (by simp at hx; omega))⟩⟩
    exact (hr3.moves m4 (by simp) (by simp)).moves s3 (by simp; omega) (by simp; omega)

set_option maxHeartbeats 2000000 in
theorem vGet_fail (p g : Nat) (bs : List Nat) (w : World) (h : RdIs w p g bs false) (ho : ∀ b ∈ bs, b < 256) (hd : ¬ ∃ k tx n rest, VDec bs k tx n rest) :
    Calls Tryz.prog 197 #[.pointer (some ⟨p, 0, none⟩)] w fun e w' => e = .panicked (stop p) ∧ ∃ bs', RdIs w' p g bs' true ∧ Moves [p] w w' := by
  have hm0 : Moves [] w (w.alloc (.cells #[.int .i64 0, .slice none 0 0, .float .f64 0] 30)) := (Moves.refl _ _).alloc _
  have hr0 := h.moves hm0 (by simp) (by simp)
  have hm1 : Moves [p] w (w.alloc (.cells #[.int .i64 0, .slice none 0 0, .float .f64 0] 30)) := hm0.mono (by simp)
  by_cases h1 : bs.length < 1
  · go_enter Tryz.func197, Tryz.ntmps197
    go_wp2_with (go_at_call 135; refine (rbyte_fail_w _ g bs _ hr0 h1).mono ?_; rintro _ w2 ⟨rfl, hr2, m2⟩)
    exact ⟨rfl, rfl, bs, hr2, hm1.then m2⟩
  · have h1' : 1 ≤ bs.length := by omega
    have ho' : ∀ b ∈ bs.drop 1, b < 256 := fun b hb => ho b (List.mem_of_mem_drop hb)
    clear h1
    by_cases c1 : val (bs.take 1) = 1
    · have hok : ¬ textOk (bs.drop 1) 16 := fun e => hd ⟨_, _, _, _, h1', .inl ⟨c1, e, rfl, rfl, rfl, rfl⟩⟩
      have HV : Hid ((val (bs.take 1) : Int) = 1) := by
        show (val (bs.take 1) : Int) = 1
        omega
      clear c1 hd
      go_enter Tryz.func197, Tryz.ntmps197
      go_wp2_with (first | (go_at_call 135; refine (rbyte_w _ g bs _ hr0 h1' ho).mono ?_; rintro _ w2 ⟨rfl, hr2, m2⟩; rw [HV.out]) | (go_at_call 140; refine (rtextr_fail_w _ g (bs.drop 1) 16 _ hr2 ho' hok).mono ?_; rintro _ w3 ⟨rfl, hr3, m3⟩))
      exact ⟨rfl, rfl, _, hr3, (hm1.then m2).then m3⟩
    · by_cases c2 : val (bs.take 1) = 2
      · have hok : ¬ (8 ≤ (bs.drop 1).length ∧ Pl.canon (val ((bs.drop 1).take 8)) = val ((bs.drop 1).take 8)) := fun e => hd ⟨_, _, _, _, h1', .inr ⟨c2, e, rfl, rfl, rfl, rfl⟩⟩
        have HV : Hid ((val (bs.take 1) : Int) = 2) := by
          show (val (bs.take 1) : Int) = 2
          omega
        clear c1 c2 hd
        go_enter Tryz.func197, Tryz.ntmps197
        go_wp2_with (first | (go_at_call 135; refine (rbyte_w _ g bs _ hr0 h1' ho).mono ?_; rintro _ w2 ⟨rfl, hr2, m2⟩; rw [HV.out]) | (go_at_call 210; refine (rfloat_fail_w _ g (bs.drop 1) _ hr2 ho' hok).mono ?_; rintro _ w3 ⟨rfl, hr3, m3⟩))
        exact ⟨rfl, rfl, _, hr3, (hm1.then m2).then m3⟩
      · obtain ⟨V, hV⟩ : ∃ V : Int, (val (bs.take 1) : Int) = V := ⟨_, rfl⟩
        have HV : Hid ((val (bs.take 1) : Int) = V) := hV
        have t1 : (V == 1) = false := by simp; omega
        have t2 : (V == 2) = false := by simp; omega
        clear c1 c2 hd hV
        go_enter Tryz.func197, Tryz.ntmps197
        go_wp2_with (first | (go_at_call 135; refine (rbyte_w _ g bs _ hr0 h1' ho).mono ?_; rintro _ w2 ⟨rfl, hr2, m2⟩; rw [HV.out]) | (go_at_call 142; refine (rfail_w _ g _ _ hr2).mono ?_; rintro _ w3 ⟨rfl, hr3, m3⟩))
        exact ⟨rfl, rfl, _, hr3, (hm1.then m2).then m3⟩
end Go.Proofs.YtilbbnmhnacnlaaGreat
/-
  What ValueBack hands to Read does: of two values that were written it takes both, all of them, and nothing is left.
-/
namespace Go.Proofs.YtilbbnmhnacnlaaGreat
open Go.RowKit

end Go.Proofs.YtilbbnmhnacnlaaGreat
/-
  What ValueBack does: for any two drawn values it returns true, and writes nothing that was there.
-/
namespace Go.Proofs.YtilbbnmhnacnlaaGreat
open Go.RowKit

theorem put_v (p : Nat) (a : Option Nat) (bs es : List Nat) (va : Value) (A : Vm) (w : World) (hva : va = A.val) (h : Wr w p a bs) (hb : bs.length + 2000010 ≤ 1099511627776) (ha : A.In w) (hl : A.bs.length ≤ 1048576) (hg : A.bs ≠ [] → A.g ∉ p :: a.toList) (he : bs ++ venc A = es) :
    Calls Tryz.prog 213 #[.pointer (some ⟨p, 0, none⟩), va] w fun e w' => e = .returned (.tuple #[]) ∧ ∃ a', Wrote w p a w' a' es := by
  subst hva he
  exact vPut_w p a bs A w h hb ha hl hg

end Go.Proofs.YtilbbnmhnacnlaaGreat
/-
  What the document's own answer on values (the reference of layer 3) does: Order, Same, Right, Plus and Canon return what package value's functions are proved to return, and write nothing that was there.
-/
namespace Go.Proofs.YtilbbnmhnacnlaaGreat
open Go.RowKit

end Go.Proofs.YtilbbnmhnacnlaaGreat
/-
  What the document's own Same, Right, Plus and Canon of values do: they return what package value's functions are proved to return, and write nothing that was there.
-/
namespace Go.Proofs.YtilbbnmhnacnlaaGreat
open Go.RowKit

end Go.Proofs.YtilbbnmhnacnlaaGreat
/-
  What the document's own Put of a value does: it returns the bytes that it was handed and the value's behind them, in a row of its own, and writes nothing that was there.
-/
namespace Go.Proofs.YtilbbnmhnacnlaaGreat
open Go.RowKit

end Go.Proofs.YtilbbnmhnacnlaaGreat
/-
  What the document's own Get of a value does: it takes a value where the document lets it, and else marks its Reader as bad; no other memory is written.
-/
namespace Go.Proofs.YtilbbnmhnacnlaaGreat
open Go.RowKit

end Go.Proofs.YtilbbnmhnacnlaaGreat
/-
  What the law's own 'writes' and 'reads' do: for every value, and for any bytes, they return true, and write nothing that was there.
-/
namespace Go.Proofs.YtilbbnmhnacnlaaGreat
open Go.RowKit

end Go.Proofs.YtilbbnmhnacnlaaGreat
/-
  'x1, .., xn := f1(y1), .., fn(yn)' over boxes once more, where what is handed back lies in new memory: what is said of it is said of the world.
-/
namespace Go.Proofs.YtilbbnmhnacnlaaGreat
open Go.RowKit

section
variable {P : Program} {ops : Array Oper} {Q : Exit → Act → World → Prop} {a0 : Act} {W : World} {n : Nat} {L C D : Nat → Nat} {T : TypeId} {Z : Array Value} {src : Nat → Value} {Res : World → Nat → Value → Array Value → Prop}

end
end Go.Proofs.YtilbbnmhnacnlaaGreat
/-
  Slices of structs that a call made itself: what lies in them, element by element; what an append leaves. Plain laws, for any element type.
-/
namespace Go.Proofs.YtilbbnmhnacnlaaGreat
open Go.RowKit

end Go.Proofs.YtilbbnmhnacnlaaGreat
/-
  A drawn region each of whose operations writes a slot of its own: what each one leaves there, told of a world, and kept by whatever comes up behind it.
-/
namespace Go.Proofs.YtilbbnmhnacnlaaGreat
open Go.RowKit

end Go.Proofs.YtilbbnmhnacnlaaGreat
/-
  The law's own list of values: what the operations of its literal leave, told of a world in which rows of bytes may have been frozen.
-/
namespace Go.Proofs.YtilbbnmhnacnlaaGreat
open Go.RowKit

end Go.Proofs.YtilbbnmhnacnlaaGreat
/-
  The law's own list of values: its literal, whichever order its operations take; then the nine that are drawn.
-/
namespace Go.Proofs.YtilbbnmhnacnlaaGreat
open Go.RowKit

end Go.Proofs.YtilbbnmhnacnlaaGreat
/-
  A drawn region each of whose operations writes a slot of its own, with guards: an operation that its guard lets by leaves its value, one that it does not leaves none. Plain laws, no program in sight.
-/
namespace Go.Proofs.YtilbbnmhnacnlaaGreat
open Go.RowKit

end Go.Proofs.YtilbbnmhnacnlaaGreat
/-
  Rows as plain data, and how they lie in memory: lists of structs whose fields are lists. Plain facts, no program in sight but for the numbers of its types.
-/
namespace Go.Proofs.YtilbbnmhnacnlaaGreat
open Go.RowKit

structure Pv where
  kind : Int
  bs : List Nat
  n : Nat
structure Pver where
  t : Int
  v : Pv
structure Pcol where
  name : ByteArray
  l : List Pver

def VC (w : World) (c : List Value) (p : Pv) : Prop := ∃ ad len cap g, c = [.int .i64 p.kind, .slice ad len cap, .float .f64 p.n] ∧ IsB w g (.slice ad len cap) p.bs ∧ Pl.Fits p.n ∧ (∀ z ∈ p.bs, z < 256) ∧ p.bs.length ≤ 1048576 ∧ U8 w g p.bs
theorem VC.stay {T : TypeId → Prop} {w w' : World} (h : Stay T w w') (hT : T 5) {c : List Value} {p : Pv} (hv : VC w c p) : VC w' c p := by
  obtain ⟨ad, len, cap, g, h1, h2, h3, h4, h6, h5⟩ := hv
  obtain ⟨k1, k2⟩ := h2.stay h hT h5
  exact ⟨ad, len, cap, g, h1, k1, h3, h4, h6, k2⟩

def VA (w : World) (c : List Value) (p : Pv) : Prop := ∃ ad len cap g, c = [.int .i64 p.kind, .slice ad len cap, .float .f64 p.n] ∧ IsB w g (.slice ad len cap) p.bs ∧ Pl.Fits p.n ∧ (∀ z ∈ p.bs, z < 256) ∧ p.bs.length ≤ 1048576
theorem VC.va {w : World} {c : List Value} {p : Pv} (h : VC w c p) : VA w c p := by
  obtain ⟨ad, len, cap, g, h1, h2, h3, h4, h5, _⟩ := h
  exact ⟨ad, len, cap, g, h1, h2, h3, h4, h5⟩
def VerC (w : World) (c : List Value) (x : Pver) : Prop := ∃ d, c = .int .i64 x.t :: d ∧ VC w d x.v
theorem VerC.stay {T : TypeId → Prop} {w w' : World} (h : Stay T w w') (hT : T 5) {c : List Value} {x : Pver} (hv : VerC w c x) : VerC w' c x := by
  obtain ⟨d, h1, h2⟩ := hv
  exact ⟨d, h1, h2.stay h hT⟩

def VersAt (w : World) (v : Value) (xs : List Pver) : Prop := ∃ css, Lies w 146 4 v css ∧ All2 (VerC w) css xs
def ColC (w : World) (c : List Value) (x : Pcol) : Prop := ∃ lv, c = [.string x.name, lv] ∧ VersAt w lv x.l
def ColsAt (w : World) (v : Value) (xs : List Pcol) : Prop := ∃ css, Lies w 144 2 v css ∧ All2 (ColC w) css xs
def RowAt (w : World) (v : Value) (xs : List Pcol) : Prop := ∃ lv, v = .agg #[lv] ∧ ColsAt w lv xs

theorem VersAt.stay {T : TypeId → Prop} {w w' : World} (h : Stay T w w') (hT : T 5) (hT2 : T 146) {v : Value} {xs : List Pver} (hv : VersAt w v xs) : VersAt w' v xs := by
  obtain ⟨css, h1, h2⟩ := hv
  exact ⟨css, h1.stay h hT2, h2.mono fun _ _ k => k.stay h hT⟩
theorem ColC.stay {T : TypeId → Prop} {w w' : World} (h : Stay T w w') (hT : T 5) (hT2 : T 146) {c : List Value} {x : Pcol} (hv : ColC w c x) : ColC w' c x := by
  obtain ⟨lv, h1, h2⟩ := hv
  exact ⟨lv, h1, h2.stay h hT hT2⟩
theorem VersAt.moves {w w' : World} (m : Moves [] w w') {v : Value} {xs : List Pver} (hv : VersAt w v xs) : VersAt w' v xs := hv.stay (T := fun _ => True) (Stay.ofMoves m) trivial trivial
theorem VC.moves {w w' : World} (m : Moves [] w w') {c : List Value} {p : Pv} (hv : VC w c p) : VC w' c p := hv.stay (T := fun _ => True) (Stay.ofMoves m) trivial
theorem VerC.moves {w w' : World} (m : Moves [] w w') {c : List Value} {p : Pver} (hv : VerC w c p) : VerC w' c p := hv.stay (T := fun _ => True) (Stay.ofMoves m) trivial
theorem ColC.moves {w w' : World} (m : Moves [] w w') {c : List Value} {p : Pcol} (hv : ColC w c p) : ColC w' c p := hv.stay (T := fun _ => True) (Stay.ofMoves m) trivial trivial
theorem ColsAt.nil (w : World) : ColsAt w (.slice none 0 0) [] := ⟨[], Lies.nil _ _ _, trivial⟩
theorem VersAt.slice {w : World} {v : Value} {xs : List Pver} (h : VersAt w v xs) : ∃ ad cap, v = .slice ad xs.length cap ∧ xs.length ≤ cap := by
  obtain ⟨css, h1, h2⟩ := h
  obtain ⟨ad, cap, e, k⟩ := h1.slice
  rw [h2.length] at e k
  exact ⟨ad, cap, e, k⟩
theorem ColsAt.slice {w : World} {v : Value} {xs : List Pcol} (h : ColsAt w v xs) : ∃ ad cap, v = .slice ad xs.length cap ∧ xs.length ≤ cap := by
  obtain ⟨css, h1, h2⟩ := h
  obtain ⟨ad, cap, e, k⟩ := h1.slice
  rw [h2.length] at e k
  exact ⟨ad, cap, e, k⟩

theorem ColsAt.at {w : World} {ad : Option Addr} {n cap : Nat} {xs : List Pcol} (h : ColsAt w (.slice ad n cap) xs) {k : Nat} {x : Pcol} (hk : xs[k]? = some x) :
    ∃ g off a2 n2 c2, ad = some ⟨g, off, none⟩ ∧ w.cell? ⟨g, off + k * 2, none⟩ = some (.string x.name) ∧ w.cell? ⟨g, off + k * 2 + 1, none⟩ = some (.slice a2 n2 c2) ∧ n2 = x.l.length ∧ n2 ≤ c2 ∧ VersAt w (.slice a2 n2 c2) x.l := by
  obtain ⟨css, h1, h2⟩ := h
  obtain ⟨c, hc, lv, rfl, h3⟩ := h2.get hk
  obtain ⟨g, off, e, h4⟩ := h1.at hc
  obtain ⟨a2, c2, rfl, hle⟩ := h3.slice
  exact ⟨g, off, a2, _, c2, e, h4 0 _ rfl, h4 1 _ rfl, rfl, hle, h3⟩
theorem VersAt.at {w : World} {ad : Option Addr} {n cap : Nat} {xs : List Pver} (h : VersAt w (.slice ad n cap) xs) {k : Nat} {x : Pver} (hk : xs[k]? = some x) :
    ∃ g off a2 n2 c2, ad = some ⟨g, off, none⟩ ∧ w.cell? ⟨g, off + k * 4, none⟩ = some (.int .i64 x.t) ∧ w.cell? ⟨g, off + k * 4 + 1, none⟩ = some (.int .i64 x.v.kind) ∧ w.cell? ⟨g, off + k * 4 + 2, none⟩ = some (.slice a2 n2 c2) ∧ w.cell? ⟨g, off + k * 4 + 3, none⟩ = some (.float .f64 x.v.n) ∧ VC w [.int .i64 x.v.kind, .slice a2 n2 c2, .float .f64 x.v.n] x.v := by
  obtain ⟨css, h1, h2⟩ := h
  obtain ⟨c, hc, d, rfl, h3⟩ := h2.get hk
  obtain ⟨g, off, e, h4⟩ := h1.at hc
  have h3' := h3
  obtain ⟨a2, n2, c2, g2, rfl, _⟩ := h3
  exact ⟨g, off, a2, n2, c2, e, h4 0 _ rfl, h4 1 _ rfl, h4 2 _ rfl, h4 3 _ rfl, h3'⟩

def Pv.vm (p : Pv) (bv : Value) (g : Nat) : Vm := ⟨p.kind, bv, g, p.bs, p.n⟩
theorem VA.vis {w : World} {k : Int} {ad : Option Addr} {len cap n : Nat} {p : Pv} (h : VA w [.int .i64 k, .slice ad len cap, .float .f64 n] p) : ∃ g, VIs w (.agg #[.int .i64 k, .slice ad len cap, .float .f64 n]) (p.vm (.slice ad len cap) g) ∧ p.bs.length ≤ 1048576 := by
  obtain ⟨ad', len', cap', g, h1, h2, h3, h4, h6⟩ := h
  simp at h1
  obtain ⟨rfl, ⟨rfl, rfl, rfl⟩, rfl⟩ := h1
  exact ⟨g, ⟨rfl, ⟨h2, h3, h4⟩⟩, h6⟩

def GrowV (W w : World) (v : Value) (xs : List Pver) : Prop := Grow VerC 146 4 W w v xs
def GrowC (W w : World) (v : Value) (xs : List Pcol) : Prop := Grow ColC 144 2 W w v xs
theorem GrowV.nil (W w : World) : GrowV W w (.slice none 0 0) [] := ⟨Fresh.nil _, [], OwnL.nil _ _ _, trivial⟩
theorem GrowC.nil (W w : World) : GrowC W w (.slice none 0 0) [] := ⟨Fresh.nil _, [], OwnL.nil _ _ _, trivial⟩
theorem GrowV.at {W w : World} {v : Value} {xs : List Pver} (h : GrowV W w v xs) : VersAt w v xs := by
  obtain ⟨_, css, h1, h2⟩ := h
  exact ⟨css, Lies.ofOwn h1, h2⟩
theorem GrowC.at {W w : World} {v : Value} {xs : List Pcol} (h : GrowC W w v xs) : ColsAt w v xs := by
  obtain ⟨_, css, h1, h2⟩ := h
  exact ⟨css, Lies.ofOwn h1, h2⟩
theorem GrowV.moves {W w w' : World} {S : List Nat} (m : Moves S w w') {v : Value} {xs : List Pver} (h : GrowV W w v xs) (hv : ∀ k, v.ownBlock = some k → k ∉ S) (hs : Stay (· = 5) w w') : GrowV W w' v xs := by
  obtain ⟨h0, css, h1, h2⟩ := h
  exact ⟨h0, css, h1.moves m hv, h2.mono fun _ _ k => k.stay hs rfl⟩
theorem GrowC.moves {W w w' : World} {S : List Nat} (m : Moves S w w') {v : Value} {xs : List Pcol} (h : GrowC W w v xs) (hv : ∀ k, v.ownBlock = some k → k ∉ S) (hs : Stay (fun t => t = 5 ∨ t = 146) w w') : GrowC W w' v xs := by
  obtain ⟨h0, css, h1, h2⟩ := h
  exact ⟨h0, css, h1.moves m hv, h2.mono fun _ _ k => k.stay hs (.inl rfl) (.inr rfl)⟩
theorem GrowV.moves0 {W w w' : World} (m : Moves [] w w') {v : Value} {xs : List Pver} (h : GrowV W w v xs) : GrowV W w' v xs := h.moves m (by simp) (Stay.ofMoves m)
theorem GrowC.moves0 {W w w' : World} (m : Moves [] w w') {v : Value} {xs : List Pcol} (h : GrowC W w v xs) : GrowC W w' v xs := h.moves m (by simp) (Stay.ofMoves m)
theorem GrowV.slice {W w : World} {v : Value} {xs : List Pver} (h : GrowV W w v xs) : ∃ ad cap, v = .slice ad xs.length cap ∧ xs.length ≤ cap := h.at.slice
theorem GrowC.slice {W w : World} {v : Value} {xs : List Pcol} (h : GrowC W w v xs) : ∃ ad cap, v = .slice ad xs.length cap ∧ xs.length ≤ cap := h.at.slice

theorem VerC.one {w : World} {c : List Value} {x : Pver} (h : VerC w c x) : ∀ u ∈ c, u.oneCell' = true := by
  obtain ⟨d, rfl, ad, len, cap, g, rfl, _⟩ := h
  intro u hu
  simp only [List.mem_cons, List.not_mem_nil, or_false] at hu
  rcases hu with rfl | rfl | rfl | rfl <;> rfl
theorem ColC.one {w : World} {c : List Value} {x : Pcol} (h : ColC w c x) : ∀ u ∈ c, u.oneCell' = true := by
  obtain ⟨lv, rfl, h2⟩ := h
  obtain ⟨ad, cap, rfl, _⟩ := h2.slice
  intro u hu
  simp only [List.mem_cons, List.not_mem_nil, or_false] at hu
  rcases hu with rfl | rfl <;> rfl

theorem ver_info : (Tryz.prog.info? 146).map (fun i => (i.zero, i.size, i.bytes)) = some (some (.agg #[.int .i64 0, .int .i64 0, .slice none 0 0, .float .f64 0]), 4, 48) := by kernel_rfl
theorem col_info : (Tryz.prog.info? 144).map (fun i => (i.zero, i.size, i.bytes)) = some (some (.agg #[.string ByteArray.empty, .slice none 0 0]), 2, 40) := by kernel_rfl

theorem growV_wp {o : Oper} {a : Act} {K : Act → World → Prop} {Q : Exit → Act → World → Prop} {W w : World} (s x : Operand)
    (ho : o.op = .call { callee := .builtin .append, args := #[s, x], argTypes := #[142, 142] })
    (v yv : Value) (xs ys : List Pver) (hs : a.eval s = v) (hx : a.eval x = yv)
    (hv : GrowV W w v xs) (hy : VersAt w yv ys) (hm : Moves [] W w) (hb : xs.length + ys.length ≤ 1048576)
    (h : ∀ v' w', GrowV W w' v' (xs ++ ys) → Moves [] W w' → Moves v.ownBlock.toList w w' → Stay (· ≠ 146) w w' → Lain w v v' → K (a.put o.dst v') w') :
    o.wp Tryz.prog a w K Q := by
  obtain ⟨ds, hd, hys⟩ := hy
  exact grow_append s x _ 146 _ 4 48 ver_info Tryz.underlying142 rfl (by omega) (by omega) (fun _ _ _ h => h.one) (fun _ _ _ _ h hs => h.stay hs (by decide)) ho v yv xs ys ds hs hx hv hd hys hm hb h
theorem growV_step {ops : Array Oper} {o : Oper} {a : Act} {K : Act → World → Prop} {Q : Exit → Act → World → Prop} {W w : World} (s x : Operand)
    (ho : o.op = .call { callee := .builtin .append, args := #[s, x], argTypes := #[142, 142] })
    (v yv : Value) (xs ys : List Pver) (hs : a.eval s = v) (hx : a.eval x = yv) (hw : Region.wanted o (yielded ops a.tmps) = true)
    (hv : GrowV W w v xs) (hy : VersAt w yv ys) (hm : Moves [] W w) (hb : xs.length + ys.length ≤ 1048576)
    (h : ∀ v' w', GrowV W w' v' (xs ++ ys) → Moves [] W w' → Moves v.ownBlock.toList w w' → Stay (· ≠ 146) w w' → Lain w v v' → K (a.put o.dst v') w') :
    if Region.wanted o (yielded ops a.tmps) then o.wp Tryz.prog a w K Q else K (a.put o.dst undef) w := by
  rw [if_pos hw]
  exact growV_wp s x ho v yv xs ys hs hx hv hy hm hb h
theorem growC_wp {o : Oper} {a : Act} {K : Act → World → Prop} {Q : Exit → Act → World → Prop} {W w : World} (s x : Operand)
    (ho : o.op = .call { callee := .builtin .append, args := #[s, x], argTypes := #[95, 95] })
    (v yv : Value) (xs ys : List Pcol) (hs : a.eval s = v) (hx : a.eval x = yv)
    (hv : GrowC W w v xs) (hy : ColsAt w yv ys) (hm : Moves [] W w) (hb : xs.length + ys.length ≤ 1048576)
    (h : ∀ v' w', GrowC W w' v' (xs ++ ys) → Moves [] W w' → Moves v.ownBlock.toList w w' → Stay (· ≠ 144) w w' → Lain w v v' → K (a.put o.dst v') w') :
    o.wp Tryz.prog a w K Q := by
  obtain ⟨ds, hd, hys⟩ := hy
  exact grow_append s x _ 144 _ 2 40 col_info Tryz.underlying95 rfl (by omega) (by omega) (fun _ _ _ h => h.one) (fun _ _ _ _ h hs => h.stay hs (by decide) (by decide)) ho v yv xs ys ds hs hx hv hd hys hm hb h
theorem growC_step {ops : Array Oper} {o : Oper} {a : Act} {K : Act → World → Prop} {Q : Exit → Act → World → Prop} {W w : World} (s x : Operand)
    (ho : o.op = .call { callee := .builtin .append, args := #[s, x], argTypes := #[95, 95] })
    (v yv : Value) (xs ys : List Pcol) (hs : a.eval s = v) (hx : a.eval x = yv) (hw : Region.wanted o (yielded ops a.tmps) = true)
    (hv : GrowC W w v xs) (hy : ColsAt w yv ys) (hm : Moves [] W w) (hb : xs.length + ys.length ≤ 1048576)
    (h : ∀ v' w', GrowC W w' v' (xs ++ ys) → Moves [] W w' → Moves v.ownBlock.toList w w' → Stay (· ≠ 144) w w' → Lain w v v' → K (a.put o.dst v') w') :
    if Region.wanted o (yielded ops a.tmps) then o.wp Tryz.prog a w K Q else K (a.put o.dst undef) w := by
  rw [if_pos hw]
  exact growC_wp s x ho v yv xs ys hs hx hv hy hm hb h

theorem vers_new (w : World) (c0 c1 c2 c3 : Value) (x : Pver) (h : VerC w [c0, c1, c2, c3] x) : VersAt (w.alloc (.cells #[c0, c1, c2, c3] 146)) (.slice (some ⟨w.heap.size, 0, none⟩) 1 1) [x] :=
  ⟨_, lies_new w [c0, c1, c2, c3] _, h.moves ((Moves.refl _ _).alloc _), trivial⟩
theorem cols_new (w : World) (c0 c1 : Value) (x : Pcol) (h : ColC w [c0, c1] x) : ColsAt (w.alloc (.cells #[c0, c1] 144)) (.slice (some ⟨w.heap.size, 0, none⟩) 1 1) [x] :=
  ⟨_, lies_new w [c0, c1] _, h.moves ((Moves.refl _ _).alloc _), trivial⟩
end Go.Proofs.YtilbbnmhnacnlaaGreat
