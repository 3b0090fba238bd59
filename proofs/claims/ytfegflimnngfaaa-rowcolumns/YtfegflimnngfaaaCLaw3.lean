/-
  What the law's own 'writes' and 'reads' do: for every value, and for any bytes, they return true, and write nothing that was there.
-/
import Derived.Test.YtfegflimnngfaaaCRf3d
import Derived.Test.YtfegflimnngfaaaCBack3
namespace Go.Proofs.Ytfegflimnngfaaa
open Go.RowKit

theorem rPut_v (v : Value) (g : Nat) (bs es : List Nat) (va : Value) (A : Vm) (w : World) (hva : va = A.val) (hb : IsB w g v bs) (ha : A.In w) (hn : bs.length + 2000010 ≤ 1099511627776) (hl : A.bs.length ≤ 1048576) (he : bs ++ venc A = es) :
    Calls Try.prog 34 #[v, va] w fun e w' => ∃ v', e = .returned v' ∧ Own w' v' es ∧ Moves [] w w' ∧ Fresh w v' := by
  subst hva he
  exact rPut_w v g bs A w hb ha hn hl

theorem isB_away {w : World} {g : Nat} {v : Value} {bs : List Nat} (h : IsB w g v bs) (S : List Nat) (hS : ∀ x ∈ S, w.heap.size ≤ x) : ∃ g', g' ∉ S ∧ IsB w g' v bs :=
  h.pick S (fun hn hx => by have := h.lt hn; have := hS g hx; omega)

theorem rf_new {w : World} {g : Nat} {v : Value} {bs : List Nat} (h : IsB w g v bs) (hg : g ≠ w.heap.size) : RfIs (w.alloc (.cells #[v, .bool false] 83)) w.heap.size g bs false :=
  ⟨v, heap_alloc_new _ _, h.moves ((Moves.refl [] _).alloc _) (by simp), hg⟩

theorem vord_like {A B : Vm} (hk : A.kind = B.kind) (hb : A.bs = B.bs) (hn : A.n = B.n) : vord A B = 0 := by
  have := vord_self A
  unfold vord at *
  rw [← hk, ← hb, ← hn]
  exact this

theorem rsame_b (W w : World) (va vb : Value) (A B : Vm) (ha : VIs W va A) (hb : VIs W vb B) (m : Moves [] W w) :
    Calls Try.prog 18 #[va, vb] w fun e w' => e = .returned (.bool (vord A B == 0)) ∧ Moves [] W w' := by
  obtain ⟨rfl, ha⟩ := ha
  obtain ⟨rfl, hb⟩ := hb
  exact (rSame_w A B w (ha.moves m (by simp)) (hb.moves m (by simp))).mono fun e w' h => ⟨h.1, m.then h.2⟩

theorem rsame_like (W w : World) (va vb : Value) (A B : Vm) (ha : VIs W va A) (hb : VIs W vb B) (m : Moves [] W w) (hk : A.kind = B.kind) (hs : A.bs = B.bs) (hn : A.n = B.n) :
    Calls Try.prog 18 #[va, vb] w fun e w' => e = .returned (.bool true) ∧ Moves [] W w' := by
  have h := rsame_b W w va vb A B ha hb m
  rw [vord_like hk hs hn] at h
  exact h

end Go.Proofs.Ytfegflimnngfaaa
