/-
  Package meta: the library's stable sort of tablets by their Los, as far as one insertion sort does it (at most twenty).
-/
import Derived.Test.YtfhdodopjgfedaaGreatCMt6
namespace Go.Proofs.YtfhdodopjgfedaaGreat
open Go.RowKit

theorem tbCells_set : ∀ (xs : List Ptb) (i : Nat) (y : Ptb), i < xs.length → ((((tbCells xs).set (i * 4) (.string y.lo)).set (i * 4 + 1) (.string y.hi)).set (i * 4 + 2) (.int .i64 y.g)).set (i * 4 + 3) (.int .i64 y.n) = tbCells (xs.set i y)
  | [], i, y, h => by simp at h
  | x :: t, 0, y, h => by simp [tbCells]
  | x :: t, i + 1, y, h => by
    have := tbCells_set t i y (by simpa using h)
    have e : (i + 1) * 4 = i * 4 + 1 + 1 + 1 + 1 := by omega
    rw [e]
    simp only [tbCells, List.set_cons_succ]
    rw [this]
/-- Element i of a list of one's own is written. -/
def World.set4 (w : World) (g i : Nat) (y : Ptb) : World := (((w.setCell ⟨g, i * 4, none⟩ (.string y.lo)).setCell ⟨g, i * 4 + 1, none⟩ (.string y.hi)).setCell ⟨g, i * 4 + 2, none⟩ (.int .i64 y.g)).setCell ⟨g, i * 4 + 3, none⟩ (.int .i64 y.n)
theorem OwnT.set {w : World} {g n cap : Nat} {xs : List Ptb} (h : OwnT w (.slice (some ⟨g, 0, none⟩) n cap) xs) {i : Nat} (hi : i < xs.length) (y : Ptb) : OwnT (World.set4 w g i y) (.slice (some ⟨g, 0, none⟩) n cap) (xs.set i y) ∧ Moves [g] w (World.set4 w g i y) := by
  refine ⟨?_, (((moves_set w g _ _).then (moves_set _ g _ _)).then (moves_set _ g _ _)).then (moves_set _ g _ _)⟩
  unfold World.set4
  rcases h.2 with ⟨e, _⟩ | ⟨g', cap', cur, e, hb, hgg, h1, h2, h3, h4⟩
  · simp at e
  · simp at e
    obtain ⟨rfl, rfl, rfl⟩ := e
    refine ⟨by rw [tbCells_length], .inr ⟨g, cap, _, by rw [List.length_set], hb, heap_set (i := i * 4 + 3) (heap_set (i := i * 4 + 2) (heap_set (i := i * 4 + 1) (heap_set (i := i * 4) hgg (.string y.lo)) (.string y.hi)) (.int .i64 y.g)) (.int .i64 y.n), by rw [List.length_set]; exact h1, h2, by simpa using h3, ?_⟩⟩
    rw [Array.toList_setIfInBounds, Array.toList_setIfInBounds, Array.toList_setIfInBounds, Array.toList_setIfInBounds, List.take_set, List.take_set, List.take_set, List.take_set, List.length_set, h4]
    exact tbCells_set xs i y hi
theorem OwnT.cells {w : World} {g n cap : Nat} {xs : List Ptb} (h : OwnT w (.slice (some ⟨g, 0, none⟩) n cap) xs) {k : Nat} {x : Ptb} (hk : xs[k]? = some x) :
    (w.cell? ⟨g, k * 4, none⟩ = some (.string x.lo) ∧ w.cell? ⟨g, k * 4 + 1, none⟩ = some (.string x.hi) ∧ w.cell? ⟨g, k * 4 + 2, none⟩ = some (.int .i64 x.g) ∧ w.cell? ⟨g, k * 4 + 3, none⟩ = some (.int .i64 x.n)) ∧ (w.frozen? ⟨g, k * 4, none⟩ = false ∧ w.frozen? ⟨g, k * 4 + 1, none⟩ = false ∧ w.frozen? ⟨g, k * 4 + 2, none⟩ = false ∧ w.frozen? ⟨g, k * 4 + 3, none⟩ = false) := by
  refine ⟨?_, ?_⟩
  · obtain ⟨off, e, h1, h2, h3, h4⟩ := (h.tbl (g := g) (fun k hk => by simp [Value.ownBlock] at hk; exact hk.symm)).at hk
    simp at e
    subst e
    simp only [Nat.zero_add] at h1 h2 h3 h4
    exact ⟨h1, h2, h3, h4⟩
  · obtain ⟨cur, hc⟩ : ∃ cur, w.heap[g]? = some (.cells cur 54 (0, 0)) := by
      rcases h.2 with ⟨e, _⟩ | ⟨g', cap', cur, e, hb, hgg, _⟩
      · simp at e
      · simp at e
        obtain ⟨rfl, _⟩ := e
        exact ⟨_, hgg⟩
    simp [World.frozen?, hc]

theorem mtLo4_w (lo hi : ByteArray) (g n : Int) (w : World) : Calls Tryz.prog 101 #[.agg #[.string lo, .string hi, .int .i64 g, .int .i64 n]] w fun e w' => e = .returned (.string lo) ∧ Moves [] w w' := mtLo_w ⟨lo, hi, g, n⟩ w

set_option maxRecDepth 100000 in
set_option maxHeartbeats 2000000 in
theorem mtCmp_w (a b : Ptb) (w : World) : Calls Tryz.prog 152 #[.agg #[.string a.lo, .string a.hi, .int .i64 a.g, .int .i64 a.n], .agg #[.string b.lo, .string b.hi, .int .i64 b.g, .int .i64 b.n]] w fun e w' => e = .returned (.int .i64 (tcmp a.lo b.lo)) ∧ Moves [] w w' := by
  have M : Moves [] w ((w.alloc (.cells #[.string a.lo, .string a.hi, .int .i64 a.g, .int .i64 a.n] 54)).alloc (.cells #[.string b.lo, .string b.hi, .int .i64 b.g, .int .i64 b.n] 54)) := ((Moves.refl _ _).alloc _).alloc _
  have hA := ((Moves.refl [] (w.alloc (.cells #[.string a.lo, .string a.hi, .int .i64 a.g, .int .i64 a.n] 54))).alloc (.cells #[.string b.lo, .string b.hi, .int .i64 b.g, .int .i64 b.n] 54)).at (heap_alloc_new w (.cells #[.string a.lo, .string a.hi, .int .i64 a.g, .int .i64 a.n] 54)) (by simp)
  have hB := heap_alloc_new (w.alloc (.cells #[.string a.lo, .string a.hi, .int .i64 a.g, .int .i64 a.n] 54)) (.cells #[.string b.lo, .string b.hi, .int .i64 b.g, .int .i64 b.n] 54)
  rw [World.size_alloc] at hB
  have hmx : Tryz.prog.follows .mixedOrders = true := by kernel_rfl
  go_enter Tryz.func152, Tryz.ntmps152
  go_wp2_with fail
  generalize hw1 : (w.alloc (.cells #[.string a.lo, .string a.hi, .int .i64 a.g, .int .i64 a.n] 54)).alloc (.cells #[.string b.lo, .string b.hi, .int .i64 b.g, .int .i64 b.n] 54) = w1 at *
  generalize hq : w.heap.size = q at *
  have M1 : Moves [] w w1.drew := M.drew
  obtain ⟨a0, a1, a2, a3, _⟩ := four_cells (show w1.drew.heap[q]? = _ from hA)
  obtain ⟨b0, b1, b2, b3, _⟩ := four_cells (show w1.drew.heap[q + 1]? = _ from hB)
  clear hA hB M hw1 hq
  go_region_with (first | (go_at_call 101; refine (mtLo4_w _ _ _ _ _).mono ?_; rintro _ w2 ⟨rfl, m2⟩; have M1 := M1.then m2; have a0 := m2.cell a0; have a1 := m2.cell a1; have a2 := m2.cell a2; have a3 := m2.cell a3; have b0 := m2.cell b0; have b1 := m2.cell b1; have b2 := m2.cell b2; have b3 := m2.cell b3) | (go_at_call 129; refine (compareT_w _ _ _).mono ?_; rintro _ _ ⟨rfl, rfl⟩))
  all_goals go_wp2_with fail
  all_goals go_ret
  all_goals exact ⟨rfl, M1⟩
end Go.Proofs.YtfhdodopjgfedaaGreat
