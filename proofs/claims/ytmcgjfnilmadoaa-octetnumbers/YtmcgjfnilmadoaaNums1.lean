/-
  Small steps of OctetNumbers: rows of things that the sentence itself lays in memory, and rows of zeros that it makes.
-/
import Derived.Test.YtmcgjfnilmadoaaReads
namespace Go.Proofs.Ytmcgjfnilmadoaa
open Go.RowKit

/-- make of a row of bytes, guarded or not. -/
theorem make_law {ops : Array Oper} {rest : List Oper} {o : Oper} {a : Act} {Q : Exit → Act → World → Prop} {w : World} (l : Operand) (n : Nat) (z : Int) (hop : o.op = Op.makeSlice 24 l l)
    (hw : Region.wanted o (yielded ops a.tmps) = true) (hl : a.eval l = .int .i64 z) (hz : z = (n : Int)) (hb : n ≤ 1099511627776)
    (h : ∀ w' Z, Z.length = n → (∀ y ∈ Z, y < 256) → Own w' (.slice (some ⟨w.heap.size, 0, none⟩) n n) Z → Moves [] w w' → wpList Try.prog ops Q rest (a.put o.dst (.slice (some ⟨w.heap.size, 0, none⟩) n n)) w') :
    wpList Try.prog ops Q (o :: rest) a w := by
  obtain ⟨i0, hi, hz0, hz1, hz2⟩ := info_parts Try.info5
  refine wpList_wanted hw ?_
  refine wpList_make_full _ rfl l l 24 hop 0 5 i0 (.int .u8 0) 1 Try.underlying24 hi hz0 hz1 .i64 .i64 z z n hl hl hz hz (by rw [hz2]; omega) (by unfold maxLen; omega) (Nat.zero_le _) ?_
  intro w' ho hg
  refine h w' (List.replicate n 0) (List.length_replicate ..) ?_ (own_zeros ho) ((Moves.refl _ _).grown hg (by simp))
  intro y hy
  have := List.eq_of_mem_replicate hy
  omega

/-- A row of one thing. -/
theorem asks_one (w : World) (kind most : Int) (n x : Nat) (bv : Value) (gb : Nat) (bb : List Nat) (hB : IsB w gb bv bb) (hn : Pl.Fits n) (hx : Pl.Fits x) (ho : ∀ y ∈ bb, y < 256) :
    Asks (w.alloc (.cells #[.int .i64 kind, .int .i64 most, .int .u64 (n : Int), .float .f64 x, bv] 26)) (.slice (some ⟨w.heap.size, 0, none⟩) 1 1) [⟨kind, most, n, x, bv, gb, bb⟩] := by
  have hnew := heap_alloc_new w (.cells #[.int .i64 kind, .int .i64 most, .int .u64 (n : Int), .float .f64 x, bv] 26)
  refine ⟨_, _, _, rfl, rfl, Nat.le_refl _, fun k A hk => ?_⟩
  match k, hk with
  | 0, hk =>
    simp at hk
    subst hk
    refine ⟨w.heap.size, 0, rfl, ⟨?_, ?_, ?_, ?_, ?_, hB.moves ((Moves.refl [] _).alloc _) (by simp), hn, hx, ho⟩⟩
    all_goals (unfold World.cell?; simp only [hnew]; rfl)

theorem fits0 : Pl.Fits 0 := by unfold Pl.Fits; omega

/-- The six things. -/
def six (g : Nat) : List AskM :=
  [⟨1, 0, 7, 0, .slice none 0 0, 0, []⟩, ⟨2, 0, 2147483648, 0, .slice none 0 0, 0, []⟩, ⟨3, 0, 18446744073709551615, 0, .slice none 0 0, 0, []⟩, ⟨4, 0, 0, 13826050856027422720, .slice none 0 0, 0, []⟩, ⟨5, 3, 0, 0, .slice (some ⟨g, 0, none⟩) 3 3, g, [97, 98, 99]⟩, ⟨5, -1, 0, 0, .slice none 0 0, 0, []⟩]

theorem abc (w : World) : IsB (w.alloc (.cells #[.int .u8 97, .int .u8 98, .int .u8 99] 5)) w.heap.size (.slice (some ⟨w.heap.size, 0, none⟩) 3 3) [97, 98, 99] := by
  refine ⟨_, _, _, rfl, rfl, Nat.le_refl _, fun h => by simp at h, .inr ⟨0, rfl, fun j c hj => ?_⟩⟩
  have hnew := heap_alloc_new w (.cells #[.int .u8 97, .int .u8 98, .int .u8 99] 5)
  unfold World.cell?
  simp only [hnew]
  match j, hj with
  | 0, hj => simp at hj; subst hj; rfl
  | 1, hj => simp at hj; subst hj; rfl
  | 2, hj => simp at hj; subst hj; rfl

theorem asks_six (g : Nat) (w : World) (hab0 : IsB w g (.slice (some ⟨g, 0, none⟩) 3 3) [97, 98, 99]) : Asks (w.alloc (.cells #[.int .i64 1, .int .i64 0, .int .u64 7, .float .f64 0, .slice none 0 0, .int .i64 2, .int .i64 0, .int .u64 2147483648, .float .f64 0, .slice none 0 0, .int .i64 3, .int .i64 0, .int .u64 18446744073709551615, .float .f64 0, .slice none 0 0, .int .i64 4, .int .i64 0, .int .u64 0, .float .f64 13826050856027422720, .slice none 0 0, .int .i64 5, .int .i64 3, .int .u64 0, .float .f64 0, .slice (some ⟨g, 0, none⟩) 3 3, .int .i64 5, .int .i64 (-1), .int .u64 0, .float .f64 0, .slice none 0 0] 26)) (.slice (some ⟨w.heap.size, 0, none⟩) 6 6) (six g) := by
  have hnew := heap_alloc_new w (.cells #[.int .i64 1, .int .i64 0, .int .u64 7, .float .f64 0, .slice none 0 0, .int .i64 2, .int .i64 0, .int .u64 2147483648, .float .f64 0, .slice none 0 0, .int .i64 3, .int .i64 0, .int .u64 18446744073709551615, .float .f64 0, .slice none 0 0, .int .i64 4, .int .i64 0, .int .u64 0, .float .f64 13826050856027422720, .slice none 0 0, .int .i64 5, .int .i64 3, .int .u64 0, .float .f64 0, .slice (some ⟨g, 0, none⟩) 3 3, .int .i64 5, .int .i64 (-1), .int .u64 0, .float .f64 0, .slice none 0 0] 26)
  have ma : Moves [] w (w.alloc (.cells #[.int .i64 1, .int .i64 0, .int .u64 7, .float .f64 0, .slice none 0 0, .int .i64 2, .int .i64 0, .int .u64 2147483648, .float .f64 0, .slice none 0 0, .int .i64 3, .int .i64 0, .int .u64 18446744073709551615, .float .f64 0, .slice none 0 0, .int .i64 4, .int .i64 0, .int .u64 0, .float .f64 13826050856027422720, .slice none 0 0, .int .i64 5, .int .i64 3, .int .u64 0, .float .f64 0, .slice (some ⟨g, 0, none⟩) 3 3, .int .i64 5, .int .i64 (-1), .int .u64 0, .float .f64 0, .slice none 0 0] 26)) := (Moves.refl _ _).alloc _
  have hab := hab0.moves ma (by simp)
  have hnl := isB_nil (w.alloc (.cells #[.int .i64 1, .int .i64 0, .int .u64 7, .float .f64 0, .slice none 0 0, .int .i64 2, .int .i64 0, .int .u64 2147483648, .float .f64 0, .slice none 0 0, .int .i64 3, .int .i64 0, .int .u64 18446744073709551615, .float .f64 0, .slice none 0 0, .int .i64 4, .int .i64 0, .int .u64 0, .float .f64 13826050856027422720, .slice none 0 0, .int .i64 5, .int .i64 3, .int .u64 0, .float .f64 0, .slice (some ⟨g, 0, none⟩) 3 3, .int .i64 5, .int .i64 (-1), .int .u64 0, .float .f64 0, .slice none 0 0] 26)) 0
  have f1 : Pl.Fits 7 := by unfold Pl.Fits; omega
  have f2 : Pl.Fits 2147483648 := by unfold Pl.Fits; omega
  have f3 : Pl.Fits 18446744073709551615 := by unfold Pl.Fits; omega
  have f4 : Pl.Fits 13826050856027422720 := by unfold Pl.Fits; omega
  refine ⟨_, _, _, rfl, rfl, Nat.le_refl _, fun k A hk => ⟨w.heap.size, 0, rfl, ?_⟩⟩
  match k, hk with
  | 0, hk => simp [six] at hk; subst hk; refine ⟨?_, ?_, ?_, ?_, ?_, hnl, f1, fits0, by simp⟩ <;> (unfold World.cell?; simp only [hnew]; rfl)
  | 1, hk => simp [six] at hk; subst hk; refine ⟨?_, ?_, ?_, ?_, ?_, hnl, f2, fits0, by simp⟩ <;> (unfold World.cell?; simp only [hnew]; rfl)
  | 2, hk => simp [six] at hk; subst hk; refine ⟨?_, ?_, ?_, ?_, ?_, hnl, f3, fits0, by simp⟩ <;> (unfold World.cell?; simp only [hnew]; rfl)
  | 3, hk => simp [six] at hk; subst hk; refine ⟨?_, ?_, ?_, ?_, ?_, hnl, fits0, f4, by simp⟩ <;> (unfold World.cell?; simp only [hnew]; rfl)
  | 4, hk => simp [six] at hk; subst hk; refine ⟨?_, ?_, ?_, ?_, ?_, hab, fits0, fits0, by simp⟩ <;> (unfold World.cell?; simp only [hnew]; rfl)
  | 5, hk => simp [six] at hk; subst hk; refine ⟨?_, ?_, ?_, ?_, ?_, hnl, fits0, fits0, by simp⟩ <;> (unfold World.cell?; simp only [hnew]; rfl)
  | k + 6, hk => simp [six] at hk

theorem abc_run (w : World) : ∃ w', (convert 24 24 (.slice (some ⟨w.heap.size, 0, none⟩) 3 3)).run Try.prog (w.alloc (.cells #[.int .u8 97, .int .u8 98, .int .u8 99] 5)) = .ok (.slice (some ⟨w.heap.size, 0, none⟩) 3 3) w' ∧
    IsB w' w.heap.size (.slice (some ⟨w.heap.size, 0, none⟩) 3 3) [97, 98, 99] ∧ Moves [] w w' := by
  have hnew := heap_alloc_new w (.cells #[.int .u8 97, .int .u8 98, .int .u8 99] 5)
  have hsh : (w.alloc (.cells #[.int .u8 97, .int .u8 98, .int .u8 99] 5)).shape? w.heap.size = some (5, 3) := by
    unfold World.shape?; rw [hnew]; rfl
  have hlt : w.heap.size < (w.alloc (.cells #[.int .u8 97, .int .u8 98, .int .u8 99] 5)).heap.size := by simp
  refine ⟨(w.alloc (.cells #[.int .u8 97, .int .u8 98, .int .u8 99] 5)).freeze ⟨w.heap.size, 3, none⟩ 1, ?_, ?_, ?_⟩
  · simp [convert, run_underlying Try.underlying24, run_underlying Try.underlying5, markStringish, hsh]
  · refine ⟨_, _, _, rfl, rfl, Nat.le_refl _, fun h => by simp at h, .inr ⟨0, rfl, fun j c hj => ?_⟩⟩
    have hz : ((w.alloc (.cells #[.int .u8 97, .int .u8 98, .int .u8 99] 5)).freeze ⟨w.heap.size, 3, none⟩ 1).heap[w.heap.size]? = some (.cells #[.int .u8 97, .int .u8 98, .int .u8 99] 5 (3, 4)) := by
      have h' : (w.alloc (.cells #[.int .u8 97, .int .u8 98, .int .u8 99] 5)).heap[w.heap.size] = .cells #[.int .u8 97, .int .u8 98, .int .u8 99] 5 (0, 0) := by simpa [Array.getElem?_eq_getElem hlt] using hnew
      show (Array.modify _ _ _)[w.heap.size]? = _
      rw [Array.getElem?_eq_getElem (by simp), Array.getElem_modify_self, h']
      rfl
    unfold World.cell?
    simp only [hz]
    match j, hj with
    | 0, hj => simp at hj; subst hj; rfl
    | 1, hj => simp at hj; subst hj; rfl
    | 2, hj => simp at hj; subst hj; rfl
  · refine ((Moves.refl [] w).alloc (.cells #[.int .u8 97, .int .u8 98, .int .u8 99] 5)).trans (T := [w.heap.size]) ⟨rfl, rfl, rfl, by simp [World.freeze], fun k _ hn => ?_⟩ (fun x hx => .inr (by simp at hx; omega))
    show (Array.modify _ _ _)[k]? = _
    have hn' : k ≠ w.heap.size := by simpa using hn
    rw [Array.getElem?_modify, if_neg (fun e => hn' e.symm)]

theorem has_eight (w : World) : IsB (w.alloc (.cells #[.int .u8 127, .int .u8 240, .int .u8 0, .int .u8 0, .int .u8 0, .int .u8 0, .int .u8 0, .int .u8 1] 5)) w.heap.size (.slice (some ⟨w.heap.size, 0, none⟩) 8 8) [127, 240, 0, 0, 0, 0, 0, 1] := by
  refine ⟨_, _, _, rfl, rfl, Nat.le_refl _, fun h => by simp at h, .inr ⟨0, rfl, fun j c hj => ?_⟩⟩
  have hnew := heap_alloc_new w (.cells #[.int .u8 127, .int .u8 240, .int .u8 0, .int .u8 0, .int .u8 0, .int .u8 0, .int .u8 0, .int .u8 1] 5)
  unfold World.cell?
  simp only [hnew]
  match j, hj with
  | 0, hj => simp at hj; subst hj; rfl
  | 1, hj => simp at hj; subst hj; rfl
  | 2, hj => simp at hj; subst hj; rfl
  | 3, hj => simp at hj; subst hj; rfl
  | 4, hj => simp at hj; subst hj; rfl
  | 5, hj => simp at hj; subst hj; rfl
  | 6, hj => simp at hj; subst hj; rfl
  | 7, hj => simp at hj; subst hj; rfl

/-- A thing that asks nothing but its kind and its most. -/
theorem asks_bare (w : World) (kind most : Int) : Asks (w.alloc (.cells #[.int .i64 kind, .int .i64 most, .int .u64 0, .float .f64 0, .slice none 0 0] 26)) (.slice (some ⟨w.heap.size, 0, none⟩) 1 1) [⟨kind, most, 0, 0, .slice none 0 0, 0, []⟩] :=
  asks_one w kind most 0 0 _ 0 [] (isB_nil _ _) fits0 fits0 (by simp)

end Go.Proofs.Ytmcgjfnilmadoaa
