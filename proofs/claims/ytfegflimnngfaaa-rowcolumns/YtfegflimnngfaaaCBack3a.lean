/-
  What ValueBack hands to Read does: of two values that were written it takes both, all of them, and nothing is left.
-/
import Derived.Test.YtfegflimnngfaaaCVal9
namespace Go.Proofs.Ytfegflimnngfaaa
open Go.RowKit

/-- The number that is read of what was written. -/
def cn (A : Vm) : Nat := if A.kind = 2 then Pl.canon A.n else 0

theorem venc_dec {A : Vm} (hw : VWays A) (hf : Pl.Fits A.n) (rest : List Nat) : VDec (venc A ++ rest) A.kind A.bs (cn A) rest := by
  rcases hw with ⟨hk, _, hl⟩ | ⟨hk, hb⟩
  · have e : kd A.kind = 1 := by rw [hk]; decide
    have hc : cn A = 0 := by simp [cn, hk]
    rw [venc_text e, hc, hk]
    obtain ⟨t1, t2, _⟩ := take_of (bs := [1] ++ be 4 A.bs.length ++ A.bs ++ rest) (hd := [1]) (rest := be 4 A.bs.length ++ (A.bs ++ rest)) (n := 1) (by simp) rfl
    obtain ⟨u1, u2, u3⟩ := take_of (bs := be 4 A.bs.length ++ (A.bs ++ rest)) (hd := be 4 A.bs.length) (rest := A.bs ++ rest) (n := 4) rfl (be_length _ _)
    have hv : val (be 4 A.bs.length) = A.bs.length := val_be (by omega)
    refine ⟨by simp, .inl ⟨by rw [t1]; decide, ?_, rfl, ?_, rfl, ?_⟩⟩
    · rw [t2]
      unfold textOk
      rw [u1, u2, hv]
      exact ⟨u3, by omega, fun _ => by omega, by simp⟩
    · rw [t2, u2, u1, hv, List.take_left]
    · rw [t2, u2, u1, hv, List.drop_left]
  · have e : kd A.kind = 2 := by rw [hk]; decide
    have hc : cn A = Pl.canon A.n := by simp [cn, hk]
    rw [venc_num e, hc, hk, hb]
    obtain ⟨t1, t2, _⟩ := take_of (bs := [2] ++ be 8 (Pl.canon A.n) ++ rest) (hd := [2]) (rest := be 8 (Pl.canon A.n) ++ rest) (n := 1) (by simp) rfl
    obtain ⟨u1, u2, u3⟩ := take_of (bs := be 8 (Pl.canon A.n) ++ rest) (hd := be 8 (Pl.canon A.n)) (rest := rest) (n := 8) rfl (be_length _ _)
    have hcf := Pl.fits_canon hf
    have hv : val (be 8 (Pl.canon A.n)) = Pl.canon A.n := val_be (by unfold Pl.Fits at hcf; omega)
    refine ⟨by simp, .inr ⟨by rw [t1]; decide, ?_, rfl, rfl, ?_, ?_⟩⟩
    · rw [t2, u1, hv]
      exact ⟨u3, Pl.canon_canon _⟩
    · rw [t2, u1, hv]
    · rw [t2, u2]

/-- In that box lies such a value, its bytes in memory that is younger than w0. -/
def BoxHas (w0 w : World) (q : Nat) (k : Int) (tx : List Nat) (n : Nat) : Prop :=
  ∃ ad len cap, w.heap[q]? = some (.cells #[.int .i64 k, .slice ad len cap, .float .f64 n] 39 (0, 0)) ∧ Own w (.slice ad len cap) tx ∧ Fresh w0 (.slice ad len cap)
theorem BoxHas.moves {w0 w w' : World} {q : Nat} {k : Int} {tx : List Nat} {n : Nat} {S : List Nat} (h : BoxHas w0 w q k tx n) (m : Moves S w w') (hq : q ∉ S) (hS : ∀ x ∈ S, x < w0.heap.size) : BoxHas w0 w' q k tx n := by
  obtain ⟨ad, len, cap, h1, h2, h3⟩ := h
  refine ⟨ad, len, cap, m.at h1 hq, h2.moves m (fun j hj hx => ?_), h3⟩
  have := hS j hx
  have := h3 j hj
  omega

theorem BoxHas.elder {w0 w1 w : World} {q : Nat} {k : Int} {tx : List Nat} {n : Nat} (h : BoxHas w1 w q k tx n) (hle : w0.heap.size ≤ w1.heap.size) : BoxHas w0 w q k tx n := by
  obtain ⟨ad, len, cap, h1, h2, h3⟩ := h
  exact ⟨ad, len, cap, h1, h2, fun j hj => Nat.le_trans hle (h3 j hj)⟩

theorem stored_box {w0 w : World} {q : Nat} {x0 y0 z0 : Value} {k : Int} {ad : Option Addr} {len cap n : Nat} {tx : List Nat} (hp : w.heap[q]? = some (.cells #[x0, y0, z0] 39 (0, 0))) (ho : Own w (.slice ad len cap) tx) (hf : Fresh w0 (.slice ad len cap)) (hq : q < w0.heap.size) :
    BoxHas w0 (((w.setCell ⟨q, 0, none⟩ (.int .i64 k)).setCell ⟨q, 1, none⟩ (.slice ad len cap)).setCell ⟨q, 2, none⟩ (.float .f64 n)) q k tx n ∧ Moves [q] w (((w.setCell ⟨q, 0, none⟩ (.int .i64 k)).setCell ⟨q, 1, none⟩ (.slice ad len cap)).setCell ⟨q, 2, none⟩ (.float .f64 n)) := by
  have hm : Moves [q] w (((w.setCell ⟨q, 0, none⟩ (.int .i64 k)).setCell ⟨q, 1, none⟩ (.slice ad len cap)).setCell ⟨q, 2, none⟩ (.float .f64 n)) := ((moves_set _ _ _ _).then (moves_set _ _ _ _)).then (moves_set _ _ _ _)
  refine ⟨⟨ad, len, cap, heap_set (i := 2) (heap_set (i := 1) (heap_set (i := 0) hp _) _) _, ho.moves hm (fun j hj hx => ?_), hf⟩, hm⟩
  have := hf j hj
  simp at hx
  omega

end Go.Proofs.Ytfegflimnngfaaa
