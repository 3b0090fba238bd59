/-
  Dec4, Wr4, Wr5, Open4, Times4, Newest4, Ref0, RfRight, Ref1, Ref2, Rw4, Ref3: our texts of these names, laid into one.
-/
import Derived.Test.YtcamhlnkcoicpaaGreatCB14
import Derived.Test.YtcamhlnkcoicpaaGreatCB11
import Derived.Test.YtcamhlnkcoicpaaGreatCB08
import Derived.ChangeShapes
import Derived.Test.YtcamhlnkcoicpaaGreatCB13
/-
  Rows as bytes, as plain data: what is written of a row, and what is read of bytes, with what must be so of a time or without. Plain facts, no program in sight.
-/
namespace Go.Proofs.YtcamhlnkcoicpaaGreat
open Go.RowKit

/-- So many times, one behind the other. -/
def iter {α : Type} (f : List Nat → Option (α × List Nat)) : Nat → List Nat → Option (List α × List Nat)
  | 0, bs => some ([], bs)
  | j + 1, bs => match iter f j bs with
    | none => none
    | some (xs, b1) => match f b1 with
      | none => none
      | some (x, b2) => some (xs ++ [x], b2)

theorem iter_step {α : Type} {f : List Nat → Option (α × List Nat)} {j : Nat} {bs b1 b2 : List Nat} {xs : List α} {x : α} (h : iter f j bs = some (xs, b1)) (hf : f b1 = some (x, b2)) : iter f (j + 1) bs = some (xs ++ [x], b2) := by
  simp only [iter, h, hf]
theorem iter_stop {α : Type} {f : List Nat → Option (α × List Nat)} {j : Nat} {bs b1 : List Nat} {xs : List α} (h : iter f j bs = some (xs, b1)) (hf : f b1 = none) : iter f (j + 1) bs = none := by
  simp only [iter, h, hf]
theorem iter_none {α : Type} {f : List Nat → Option (α × List Nat)} {j : Nat} {bs : List Nat} (h : iter f j bs = none) : ∀ {n : Nat}, j ≤ n → iter f n bs = none := by
  intro n hn
  induction n with
  | zero =>
    have : j = 0 := by omega
    subst this; exact h
  | succ k ih =>
    by_cases e : j = k + 1
    · subst e; exact h
    · have := ih (by omega)
      simp only [iter, this]
theorem iter_parts {α : Type} {f : List Nat → Option (α × List Nat)} {j : Nat} {bs b2 : List Nat} {ys : List α} (h : iter f (j + 1) bs = some (ys, b2)) : ∃ xs b1 x, iter f j bs = some (xs, b1) ∧ f b1 = some (x, b2) ∧ ys = xs ++ [x] := by
  simp only [iter] at h
  cases h1 : iter f j bs with
  | none => rw [h1] at h; simp at h
  | some q =>
    obtain ⟨xs, b1⟩ := q
    rw [h1] at h
    simp only at h
    cases h2 : f b1 with
    | none => rw [h2] at h; simp at h
    | some q2 =>
      obtain ⟨x, b3⟩ := q2
      rw [h2] at h
      simp only [Option.some.injEq, Prod.mk.injEq] at h
      exact ⟨xs, b1, x, rfl, by rw [h2, h.2], h.1.symm⟩
theorem iter_len {α : Type} {f : List Nat → Option (α × List Nat)} : ∀ {j : Nat} {bs b1 : List Nat} {xs : List α}, iter f j bs = some (xs, b1) → xs.length = j
  | 0, _, _, _, h => by simp only [iter, Option.some.injEq, Prod.mk.injEq] at h; rw [← h.1]; rfl
  | j + 1, _, _, _, h => by
    obtain ⟨xs, b1, x, h1, _, rfl⟩ := iter_parts h
    rw [List.length_append, iter_len h1]; rfl
theorem iter_rest {α : Type} {f : List Nat → Option (α × List Nat)} {P : List Nat → Prop} (hf : ∀ b x c, f b = some (x, c) → P b → P c) : ∀ {j : Nat} {bs b1 : List Nat} {xs : List α}, iter f j bs = some (xs, b1) → P bs → P b1
  | 0, _, _, _, h, hP => by simp only [iter, Option.some.injEq, Prod.mk.injEq] at h; rw [← h.2]; exact hP
  | j + 1, _, _, _, h, hP => by
    obtain ⟨xs, b1, x, h1, h2, rfl⟩ := iter_parts h
    exact hf _ _ _ h2 (iter_rest hf h1 hP)
/-- What is left is no more than there was, and octets. -/
def OctN (N : Nat) (bs : List Nat) : Prop := bs.length ≤ N ∧ ∀ z ∈ bs, z < 256
theorem OctN.drop {N : Nat} {bs : List Nat} (h : OctN N bs) (n : Nat) : OctN N (bs.drop n) :=
  ⟨by have := h.1; rw [List.length_drop]; omega, fun z hz => h.2 z (List.mem_of_mem_drop hz)⟩

def textB (bs : List Nat) (most : Nat) : Bool := decide (4 ≤ bs.length) && decide (val (bs.take 4) ≤ 1048576) && decide (val (bs.take 4) ≤ most) && decide (val (bs.take 4) ≤ (bs.drop 4).length)
theorem textB_iff {bs : List Nat} {most : Nat} : textB bs most = true ↔ textOk bs (most : Int) := by
  unfold textB textOk
  simp only [Bool.and_eq_true, decide_eq_true_eq]
  constructor
  · rintro ⟨⟨⟨a, b⟩, c⟩, d⟩
    exact ⟨a, b, fun _ => by omega, d⟩
  · rintro ⟨a, b, c, d⟩
    exact ⟨⟨⟨a, b⟩, by have := c (by omega); omega⟩, d⟩
def dText (most : Nat) (bs : List Nat) : Option (List Nat × List Nat) := if textB bs most then some ((bs.drop 4).take (val (bs.take 4)), (bs.drop 4).drop (val (bs.take 4))) else none
theorem dText_yes {most : Nat} {bs tx r : List Nat} (h : dText most bs = some (tx, r)) : textOk bs (most : Int) ∧ (bs.drop 4).take (val (bs.take 4)) = tx ∧ (bs.drop 4).drop (val (bs.take 4)) = r := by
  unfold dText at h
  split at h
  · rename_i e
    simp only [Option.some.injEq, Prod.mk.injEq] at h
    exact ⟨textB_iff.1 e, h.1, h.2⟩
  · simp at h
theorem dText_no {most : Nat} {bs : List Nat} (h : dText most bs = none) : ¬ textOk bs (most : Int) := by
  unfold dText at h
  split at h
  · simp at h
  · rename_i e
    exact fun k => e (textB_iff.2 k)
theorem dText_rest {most N : Nat} {bs tx r : List Nat} (h : dText most bs = some (tx, r)) (ho : OctN N bs) : OctN N r := by
  obtain ⟨_, _, rfl⟩ := dText_yes h
  exact (ho.drop _).drop _
theorem dText_text {most N : Nat} {bs tx r : List Nat} (h : dText most bs = some (tx, r)) (ho : OctN N bs) : (∀ z ∈ tx, z < 256) ∧ tx.length ≤ most := by
  obtain ⟨h1, rfl, _⟩ := dText_yes h
  refine ⟨fun z hz => ho.2 z (List.mem_of_mem_drop (List.mem_of_mem_take hz)), ?_⟩
  have := h1.2.2.1 (by omega)
  rw [List.length_take]
  omega

def dVal (bs : List Nat) : Option (Pv × List Nat) :=
  if decide (1 ≤ bs.length) && decide (val (bs.take 1) = 1) && textB (bs.drop 1) 16 then some (⟨1, ((bs.drop 1).drop 4).take (val ((bs.drop 1).take 4)), 0⟩, ((bs.drop 1).drop 4).drop (val ((bs.drop 1).take 4)))
  else if decide (1 ≤ bs.length) && decide (val (bs.take 1) = 2) && (decide (8 ≤ (bs.drop 1).length) && decide (Pl.canon (val ((bs.drop 1).take 8)) = val ((bs.drop 1).take 8))) then some (⟨2, [], val ((bs.drop 1).take 8)⟩, (bs.drop 1).drop 8)
  else none
theorem dVal_yes {bs r : List Nat} {p : Pv} (h : dVal bs = some (p, r)) : VDec bs p.kind p.bs p.n r := by
  unfold dVal at h
  split at h
  · rename_i e
    simp only [Bool.and_eq_true, decide_eq_true_eq] at e
    simp only [Option.some.injEq, Prod.mk.injEq] at h
    obtain ⟨rfl, rfl⟩ := h
    exact ⟨e.1.1, .inl ⟨e.1.2, textB_iff.1 e.2, rfl, rfl, rfl, rfl⟩⟩
  · split at h
    · rename_i e
      simp only [Bool.and_eq_true, decide_eq_true_eq] at e
      simp only [Option.some.injEq, Prod.mk.injEq] at h
      obtain ⟨rfl, rfl⟩ := h
      exact ⟨e.1.1, .inr ⟨e.1.2, e.2, rfl, rfl, rfl, rfl⟩⟩
    · simp at h
theorem dVal_no {bs : List Nat} (h : dVal bs = none) : ¬ ∃ k tx n rest, VDec bs k tx n rest := by
  rintro ⟨k, tx, n, rest, h1, h2⟩
  unfold dVal at h
  split at h
  · simp at h
  · rename_i e1
    split at h
    · simp at h
    · rename_i e2
      simp only [Bool.and_eq_true, decide_eq_true_eq] at e1 e2
      rcases h2 with ⟨a, b, _⟩ | ⟨a, b, _⟩
      · exact e1 ⟨⟨h1, a⟩, textB_iff.2 b⟩
      · exact e2 ⟨⟨h1, a⟩, b⟩
theorem dVal_rest {N : Nat} {bs r : List Nat} {p : Pv} (h : dVal bs = some (p, r)) (ho : OctN N bs) : OctN N r := by
  obtain ⟨_, ⟨_, _, _, _, _, rfl⟩ | ⟨_, _, _, _, _, rfl⟩⟩ := dVal_yes h
  · exact ((ho.drop _).drop _).drop _
  · exact (ho.drop _).drop _

/-- The bytes of a row. -/
def penc (p : Pv) : List Nat := venc (p.vm (.slice none 0 0) 0)
theorem venc_p (p : Pv) (bv : Value) (g : Nat) : venc (p.vm bv g) = penc p := rfl
theorem pvr_len {p : Pv} (h : pvr p = true) (hk : kd p.kind = 1) : p.bs.length ≤ 16 := by
  have hk1 : p.kind = 1 := by
    rcases kd_cases p.kind with ⟨e, _⟩ | ⟨_, e⟩ | ⟨_, _, e⟩
    · exact e
    · rw [e] at hk; simp at hk
    · rw [e] at hk; simp at hk
  unfold pvr vright at h
  simp [Pv.vm, hk1] at h
  exact h
theorem penc_len {p : Pv} (h : pvr p = true) : (penc p).length ≤ 21 := by
  unfold penc
  rcases kd_cases p.kind with ⟨_, e⟩ | ⟨_, e⟩ | ⟨_, _, e⟩
  · rw [venc_text (by exact e)]
    have := pvr_len h e
    simp [be_length, Pv.vm]
    omega
  · rw [venc_num (by exact e)]; simp [be_length]
  · rw [venc_other (by exact e)]; simp
theorem penc_oct {p : Pv} (h : ∀ z ∈ p.bs, z < 256) : ∀ z ∈ penc p, z < 256 := venc_oct (A := p.vm (.slice none 0 0) 0) h
end Go.Proofs.YtcamhlnkcoicpaaGreat
/-
  row.Write: for every row what is written behind what was written is the row's bytes, as the chapter gives them, of a row that may not be those of an empty one; nothing else is written.
-/
namespace Go.Proofs.YtcamhlnkcoicpaaGreat
open Go.RowKit

/-- A Writer that was made since W. -/
structure WrS (W w : World) (p : Nat) (a : Option Nat) (bs : List Nat) : Prop where
  wr : Wr w p a bs
  moves : Moves [] W w
  newp : W.heap.size ≤ p
  newa : ∀ k, a = some k → W.heap.size ≤ k
theorem WrS.wrote {W w w' : World} {p : Nat} {a a' : Option Nat} {bs cs : List Nat} (h : WrS W w p a bs) (k : Wrote w p a w' a' cs) : WrS W w' p a' cs := by
  obtain ⟨k1, k2, k3⟩ := k
  refine ⟨k1, h.moves.trans k2 ?_, h.newp, ?_⟩
  · intro x hx
    rcases List.mem_cons.1 hx with rfl | hx
    · exact .inr h.newp
    · exact .inr (h.newa x (by cases a <;> simp_all))
  · rcases k3 with rfl | ⟨k, rfl, hk⟩
    · exact h.newa
    · intro j hj
      simp at hj
      subst hj
      exact Nat.le_trans h.moves.size hk
theorem WrS.after {W w w' : World} {p : Nat} {a : Option Nat} {bs : List Nat} (h : WrS W w p a bs) (m : Moves [] w w') : WrS W w' p a bs := ⟨h.wr.moves m (by simp) (by simp), h.moves.then m, h.newp, h.newa⟩
theorem WrS.past {W w : World} {p : Nat} {a : Option Nat} {bs : List Nat} (h : WrS W w p a bs) {k : Nat} (hk : k < W.heap.size) : k ∉ p :: a.toList := by
  intro hx
  rcases List.mem_cons.1 hx with rfl | hx
  · have := h.newp; omega
  · have := h.newa k (by cases a <;> simp_all); omega

theorem strBytes_new (w : World) (s : ByteArray) : ∃ cap w', (convert 9 23 (.string s)).run Tryz.prog w = .ok (.slice (some ⟨w.heap.size, 0, none⟩) s.size cap) w' ∧ IsB w' w.heap.size (.slice (some ⟨w.heap.size, 0, none⟩) s.size cap) (sbs s) ∧ U8 w' w.heap.size (sbs s) ∧ Moves [] w w' := by
  refine ⟨_, _, Lib.run_convert_string_bytes w 9 23 5 s Tryz.underlying9 Tryz.underlying23 Tryz.underlying5, ?_, ?_, ?_⟩
  · refine ⟨_, _, _, rfl, sbs_length s, grownCap_ge _ _ _ _, fun h => by simp at h, .inr ⟨0, rfl, fun j b hj => ?_⟩⟩
    have hlt : j < s.size := by
      have := (List.getElem?_eq_some_iff.1 hj).1
      rw [sbs_length] at this
      exact this
    rw [Nat.zero_add, Lib.bytesWorld_cell _ _ _ _ hlt]
    simp only [sbs, List.getElem?_map, Option.map_eq_some_iff] at hj
    obtain ⟨u, hu, rfl⟩ := hj
    rw [List.getD_eq_getElem?_getD, hu]
    rfl
  · exact .inr ⟨_, _, Lib.bytesWorld_at_new _ _ _⟩
  · refine ⟨rfl, rfl, rfl, ?_, fun k hk _ => Lib.bytesWorld_at_old _ _ _ _ hk⟩
    rw [Lib.bytesWorld_size]
    omega

/-- value.Put, of a value that lies in a row that is elder than the Writer. -/
theorem putS_w (W w : World) (p : Nat) (a : Option Nat) (bs : List Nat) (k : Int) (ad : Option Addr) (len cap n : Nat) (x : Pv) (h : VA W [.int .i64 k, .slice ad len cap, .float .f64 n] x) (hS : WrS W w p a bs) (hb : bs.length ≤ 1000000000) :
    Calls Tryz.prog 161 #[.pointer (some ⟨p, 0, none⟩), .agg #[.int .i64 k, .slice ad len cap, .float .f64 n]] w fun e w' => e = .returned (.tuple #[]) ∧ ∃ a', Wrote w p a w' a' (bs ++ penc x) := by
  obtain ⟨g, hV, hl⟩ := h.vis
  obtain ⟨e0, hI⟩ := hV
  exact put_v p a bs _ _ _ w e0 hS.wr (by omega) (hI.moves hS.moves (by simp)) hl (fun hn => hS.past (hI.isB.lt hn)) (by rw [venc_p])

end Go.Proofs.YtcamhlnkcoicpaaGreat
/-
  row.Write, and that nothing is written but the Writer.
-/
namespace Go.Proofs.YtcamhlnkcoicpaaGreat
open Go.RowKit

/-- A Writer that is written to since w0. -/
structure WrS2 (W w0 : World) (a0 : Option Nat) (w : World) (p : Nat) (a : Option Nat) (bs : List Nat) : Prop where
  s : WrS W w p a bs
  t : Wrote w0 p a0 w a bs
theorem WrS2.start {W w : World} {p : Nat} {a : Option Nat} {bs : List Nat} (h : WrS W w p a bs) : WrS2 W w a w p a bs := ⟨h, Wrote.refl h.wr⟩
theorem WrS2.wr {W w0 w : World} {p : Nat} {a0 a : Option Nat} {bs : List Nat} (h : WrS2 W w0 a0 w p a bs) : Wr w p a bs := h.s.wr
theorem WrS2.moves {W w0 w : World} {p : Nat} {a0 a : Option Nat} {bs : List Nat} (h : WrS2 W w0 a0 w p a bs) : Moves [] W w := h.s.moves
theorem WrS2.after {W w0 w w' : World} {p : Nat} {a0 a : Option Nat} {bs : List Nat} (h : WrS2 W w0 a0 w p a bs) (m : Moves [] w w') : WrS2 W w0 a0 w' p a bs :=
  ⟨h.s.after m, ⟨h.t.1.moves m (by simp) (by simp), h.t.2.1.then (m.mono (by simp)), h.t.2.2⟩⟩
theorem WrS2.wrote {W w0 w w' : World} {p : Nat} {a0 a a' : Option Nat} {bs cs : List Nat} (h : WrS2 W w0 a0 w p a bs) (k : Wrote w p a w' a' cs) : WrS2 W w0 a0 w' p a' cs := ⟨h.s.wrote k, h.t.step k⟩

end Go.Proofs.YtcamhlnkcoicpaaGreat
/-
  Arguments opened: integers, lists of integers, lists of values as they are drawn, of calls.
-/
namespace Go.Proofs.YtcamhlnkcoicpaaGreat
open Go.RowKit
open Go.ChangeShapes Go.WideShapes

set_option maxRecDepth 100000 in
theorem karg_of_raw {H : Type} {enc : TypeId × Value → H} {W : World} {base fuel : Nat} {spare : Nat → Bool} {held : Bool} {v0 v1 v2 v3 : Value} {x : DataW H × List MemPlace}
    (h : DataW.trod enc Tryz.prog W base spare held fuel 46 [v0, v1, v2, v3] = some x) : ∃ t n x ad len cap, v0 = .bool t ∧ v1 = .int .i64 n ∧ v2 = .float .f64 x ∧ v3 = .slice ad len cap ∧ KArg W (.agg #[.bool t, .int .i64 n, .float .f64 x, .slice ad len cap]) := by
  obtain ⟨xs, k, hk, hxy, _, hxl, hf⟩ := DataW.trod_struct Tryz.underlying46 h
  have c3 : Tryz.prog.cellsOf 3 = 1 := by kernel_rfl
  have c4 : Tryz.prog.cellsOf 4 = 1 := by kernel_rfl
  have cf : Tryz.prog.cellsOf 22 = 1 := by kernel_rfl
  have cb : Tryz.prog.cellsOf 23 = 1 := by kernel_rfl
  match xs, hxl with
  | [y0, y1, y2, y3], _ =>
    have g0 := hf 0 _ rfl
    have g1 := hf 1 _ rfl
    have g2 := hf 2 _ rfl
    have g3 := hf 3 _ rfl
    simp [c3, c4, cf, cb] at g0 g1 g2 g3
    obtain ⟨t, rfl⟩ := bool_of_trod g0
    obtain ⟨n, hn, _, _⟩ := DataW.trod_int Tryz.underlying3 g1
    obtain ⟨x, hx, rfl⟩ := float_of_trod g2
    obtain ⟨g, bs, hB, hO⟩ := isB_of_trod g3
    simp at hn
    subst hn
    obtain ⟨ad, len, cap, rfl, _⟩ := id hB
    exact ⟨t, n, x, ad, len, cap, rfl, rfl, rfl, rfl, ⟨t, n, x, ad, len, cap, g, bs, rfl, hx, hB, hO⟩⟩

end Go.Proofs.YtcamhlnkcoicpaaGreat
/-
  RowTimes' walk.
-/
namespace Go.Proofs.YtcamhlnkcoicpaaGreat
open Go.RowKit

end Go.Proofs.YtcamhlnkcoicpaaGreat
/-
  RowNewest's walk.
-/
namespace Go.Proofs.YtcamhlnkcoicpaaGreat
open Go.RowKit

end Go.Proofs.YtcamhlnkcoicpaaGreat
/-
  The document's own Name, and its Right of a value that lies in a row.
-/
namespace Go.Proofs.YtcamhlnkcoicpaaGreat
open Go.RowKit

end Go.Proofs.YtcamhlnkcoicpaaGreat
/-
  The document's own Right of rows: for every row the call tells whether it may be, and writes nothing that was there.
-/
namespace Go.Proofs.YtcamhlnkcoicpaaGreat
open Go.RowKit

end Go.Proofs.YtcamhlnkcoicpaaGreat
/-
  The document's own Right of rows: of a row that may be the call tells so, and writes nothing that was there.
-/
namespace Go.Proofs.YtcamhlnkcoicpaaGreat
open Go.RowKit

end Go.Proofs.YtcamhlnkcoicpaaGreat
/-
  The document's own Copy of rows: of a row that may be the call returns a row of its own, what the chapter says, and writes nothing that was there.
-/
namespace Go.Proofs.YtcamhlnkcoicpaaGreat
open Go.RowKit

end Go.Proofs.YtcamhlnkcoicpaaGreat
/-
  The document's own Write of rows: of a row that may be the call returns the bytes that it was handed and the row's behind them, in a row of its own, and writes nothing that was there.
-/
namespace Go.Proofs.YtcamhlnkcoicpaaGreat
open Go.RowKit

end Go.Proofs.YtcamhlnkcoicpaaGreat
/-
  The document's own find: the place of a column, or where it would be.
-/
namespace Go.Proofs.YtcamhlnkcoicpaaGreat
open Go.RowKit

end Go.Proofs.YtcamhlnkcoicpaaGreat
