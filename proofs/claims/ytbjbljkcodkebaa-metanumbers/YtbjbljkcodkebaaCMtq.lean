/-
  MetaNumbers' walk.
-/
import Derived.Test.YtbjbljkcodkebaaCMto
import Derived.Test.YtbjbljkcodkebaaCMtp
namespace Go.Proofs.Ytbjbljkcodkebaa
open Go.RowKit

theorem tbCells_lo : ∀ (xs : List Ptb) (i : Nat) (x : Ptb) (z : ByteArray), xs[i]? = some x → (tbCells xs).set (i * 4) (.string z) = tbCells (xs.set i ⟨z, x.hi, x.g, x.n⟩)
  | [], i, x, z, h => by simp at h
  | y :: t, 0, x, z, h => by
    simp at h
    subst h
    simp [tbCells]
  | y :: t, i + 1, x, z, h => by
    have := tbCells_lo t i x z (by simpa using h)
    have e : (i + 1) * 4 = i * 4 + 1 + 1 + 1 + 1 := by omega
    rw [e]
    simp only [tbCells, List.set_cons_succ]
    rw [this]
theorem tbCells_hi : ∀ (xs : List Ptb) (i : Nat) (x : Ptb) (z : ByteArray), xs[i]? = some x → (tbCells xs).set (i * 4 + 1) (.string z) = tbCells (xs.set i ⟨x.lo, z, x.g, x.n⟩)
  | [], i, x, z, h => by simp at h
  | y :: t, 0, x, z, h => by
    simp at h
    subst h
    simp [tbCells]
  | y :: t, i + 1, x, z, h => by
    have := tbCells_hi t i x z (by simpa using h)
    have e : (i + 1) * 4 + 1 = i * 4 + 1 + 1 + 1 + 1 + 1 := by omega
    rw [e]
    simp only [tbCells, List.set_cons_succ]
    rw [this]
theorem OwnT.setAt {w : World} {g n cap : Nat} {xs ys : List Ptb} (h : OwnT w (.slice (some ⟨g, 0, none⟩) n cap) xs) (j : Nat) (u : Value) (hj : (tbCells xs).set j u = tbCells ys) (hl : ys.length = xs.length) : OwnT (w.setCell ⟨g, j, none⟩ u) (.slice (some ⟨g, 0, none⟩) n cap) ys ∧ Moves [g] w (w.setCell ⟨g, j, none⟩ u) := by
  refine ⟨?_, moves_set w g _ _⟩
  rcases h.2 with ⟨e, _⟩ | ⟨g', cap', cur, e, hb, hgg, h1, h2, h3, h4⟩
  · simp at e
  · simp at e
    obtain ⟨rfl, rfl, rfl⟩ := e
    refine ⟨by rw [tbCells_length], .inr ⟨g, cap, _, by rw [hl], hb, heap_set (i := j) hgg u, by rw [hl]; exact h1, h2, by simpa using h3, ?_⟩⟩
    rw [Array.toList_setIfInBounds, List.take_set, hl, h4]
    exact hj

set_option maxHeartbeats 4000000 in
theorem nlists (w w7 : World) (h7 : (((((((w.alloc (.cells #[.string ⟨#[]⟩, .string ⟨#[]⟩, .int .i64 0, .int .i64 0] 25)).alloc (.cells #[.string ⟨#[]⟩, .string ⟨#[]⟩, .int .i64 256, .int .i64 1] 25)).alloc (.cells #[.string ⟨#[]⟩, .string ⟨#[]⟩, .int .i64 0, .int .i64 1073741825] 25)).alloc (.cells #[.string ⟨#[97]⟩, .string ⟨#[]⟩, .int .i64 0, .int .i64 1] 25)).alloc (.cells #[.string ⟨#[]⟩, .string ⟨#[97]⟩, .int .i64 0, .int .i64 1] 25)).alloc (.cells #[.string ⟨#[]⟩, .string ⟨#[98]⟩, .int .i64 0, .int .i64 1, .string ⟨#[97]⟩, .string ⟨#[]⟩, .int .i64 0, .int .i64 1] 25)).alloc (.cells #[.slice none 0 0, .slice (some ⟨w.heap.size, 0, none⟩) 1 1, .slice (some ⟨w.heap.size + 1, 0, none⟩) 1 1, .slice (some ⟨w.heap.size + 1 + 1, 0, none⟩) 1 1, .slice (some ⟨w.heap.size + 1 + 1 + 1, 0, none⟩) 1 1, .slice (some ⟨w.heap.size + 1 + 1 + 1 + 1, 0, none⟩) 1 1, .slice (some ⟨w.heap.size + 1 + 1 + 1 + 1 + 1, 0, none⟩) 2 2] 26)) = w7) :
    Moves [] w w7 ∧ ∀ k, k < 7 → ∃ v g xs, w7.cell? ⟨w.heap.size + 1 + 1 + 1 + 1 + 1 + 1, k, none⟩ = some v ∧ TbL w7 g v xs ∧ mayT xs = 1 ∧ xs.length ≤ 1000 := by
  obtain ⟨u1, e1⟩ : ∃ u, w.alloc (.cells #[.string ⟨#[]⟩, .string ⟨#[]⟩, .int .i64 0, .int .i64 0] 25) = u := ⟨_, rfl⟩
  rw [e1] at h7
  have s1 : u1.heap.size = w.heap.size + 1 := by rw [← e1]; simp
  have m1 : Moves [] w u1 := by rw [← e1]; exact (Moves.refl _ _).alloc _
  have t1 : TbL u1 (w.heap.size) (.slice (some ⟨w.heap.size, 0, none⟩) 1 1) nw1 := by
    have h := tb_new w ⟨⟨#[]⟩, ⟨#[]⟩, 0, 0⟩
    rw [← e1]
    exact h
  obtain ⟨u2, e2⟩ : ∃ u, u1.alloc (.cells #[.string ⟨#[]⟩, .string ⟨#[]⟩, .int .i64 256, .int .i64 1] 25) = u := ⟨_, rfl⟩
  rw [e2] at h7
  have s2 : u2.heap.size = w.heap.size + 1 + 1 := by rw [← e2]; simp [s1]
  have m2 : Moves [] u1 u2 := by rw [← e2]; exact (Moves.refl _ _).alloc _
  have t2 : TbL u2 (w.heap.size + 1) (.slice (some ⟨w.heap.size + 1, 0, none⟩) 1 1) nw2 := by
    have h := tb_new u1 ⟨⟨#[]⟩, ⟨#[]⟩, 256, 1⟩
    rw [s1] at h
    rw [← e2]
    exact h
  obtain ⟨u3, e3⟩ : ∃ u, u2.alloc (.cells #[.string ⟨#[]⟩, .string ⟨#[]⟩, .int .i64 0, .int .i64 1073741825] 25) = u := ⟨_, rfl⟩
  rw [e3] at h7
  have s3 : u3.heap.size = w.heap.size + 1 + 1 + 1 := by rw [← e3]; simp [s2]
  have m3 : Moves [] u2 u3 := by rw [← e3]; exact (Moves.refl _ _).alloc _
  have t3 : TbL u3 (w.heap.size + 1 + 1) (.slice (some ⟨w.heap.size + 1 + 1, 0, none⟩) 1 1) nw3 := by
    have h := tb_new u2 ⟨⟨#[]⟩, ⟨#[]⟩, 0, 1073741825⟩
    rw [s2] at h
    rw [← e3]
    exact h
  obtain ⟨u4, e4⟩ : ∃ u, u3.alloc (.cells #[.string ⟨#[97]⟩, .string ⟨#[]⟩, .int .i64 0, .int .i64 1] 25) = u := ⟨_, rfl⟩
  rw [e4] at h7
  have s4 : u4.heap.size = w.heap.size + 1 + 1 + 1 + 1 := by rw [← e4]; simp [s3]
  have m4 : Moves [] u3 u4 := by rw [← e4]; exact (Moves.refl _ _).alloc _
  have t4 : TbL u4 (w.heap.size + 1 + 1 + 1) (.slice (some ⟨w.heap.size + 1 + 1 + 1, 0, none⟩) 1 1) nw4 := by
    have h := tb_new u3 ⟨⟨#[97]⟩, ⟨#[]⟩, 0, 1⟩
    rw [s3] at h
    rw [← e4]
    exact h
  obtain ⟨u5, e5⟩ : ∃ u, u4.alloc (.cells #[.string ⟨#[]⟩, .string ⟨#[97]⟩, .int .i64 0, .int .i64 1] 25) = u := ⟨_, rfl⟩
  rw [e5] at h7
  have s5 : u5.heap.size = w.heap.size + 1 + 1 + 1 + 1 + 1 := by rw [← e5]; simp [s4]
  have m5 : Moves [] u4 u5 := by rw [← e5]; exact (Moves.refl _ _).alloc _
  have t5 : TbL u5 (w.heap.size + 1 + 1 + 1 + 1) (.slice (some ⟨w.heap.size + 1 + 1 + 1 + 1, 0, none⟩) 1 1) nw5 := by
    have h := tb_new u4 ⟨⟨#[]⟩, ⟨#[97]⟩, 0, 1⟩
    rw [s4] at h
    rw [← e5]
    exact h
  obtain ⟨u6, e6⟩ : ∃ u, u5.alloc (.cells #[.string ⟨#[]⟩, .string ⟨#[98]⟩, .int .i64 0, .int .i64 1, .string ⟨#[97]⟩, .string ⟨#[]⟩, .int .i64 0, .int .i64 1] 25) = u := ⟨_, rfl⟩
  rw [e6] at h7
  have s6 : u6.heap.size = w.heap.size + 1 + 1 + 1 + 1 + 1 + 1 := by rw [← e6]; simp [s5]
  have m6 : Moves [] u5 u6 := by rw [← e6]; exact (Moves.refl _ _).alloc _
  have t6 : TbL u6 (w.heap.size + 1 + 1 + 1 + 1 + 1) (.slice (some ⟨w.heap.size + 1 + 1 + 1 + 1 + 1, 0, none⟩) 2 2) nw6 := by
    have h := tb_new2 u5 ⟨⟨#[]⟩, ⟨#[98]⟩, 0, 1⟩ ⟨⟨#[97]⟩, ⟨#[]⟩, 0, 1⟩
    rw [s5] at h
    rw [← e6]
    exact h
  have m7 : Moves [] u6 w7 := by rw [← h7]; exact (Moves.refl _ _).alloc _
  have hb := heap_alloc_new u6 (.cells #[.slice none 0 0, .slice (some ⟨w.heap.size, 0, none⟩) 1 1, .slice (some ⟨w.heap.size + 1, 0, none⟩) 1 1, .slice (some ⟨w.heap.size + 1 + 1, 0, none⟩) 1 1, .slice (some ⟨w.heap.size + 1 + 1 + 1, 0, none⟩) 1 1, .slice (some ⟨w.heap.size + 1 + 1 + 1 + 1, 0, none⟩) 1 1, .slice (some ⟨w.heap.size + 1 + 1 + 1 + 1 + 1, 0, none⟩) 2 2] 26)
  rw [h7, s6] at hb
  have m67 := m7
  have T6 := t6.moves m7 (by simp)
  have M5 : Moves [] u5 w7 := m6.then m7
  have T5 := t5.moves M5 (by simp)
  have M4 : Moves [] u4 w7 := m5.then M5
  have T4 := t4.moves M4 (by simp)
  have M3 : Moves [] u3 w7 := m4.then M4
  have T3 := t3.moves M3 (by simp)
  have M2 : Moves [] u2 w7 := m3.then M3
  have T2 := t2.moves M2 (by simp)
  have M1 : Moves [] u1 w7 := m2.then M2
  have T1 := t1.moves M1 (by simp)
  have M0 : Moves [] w w7 := m1.then M1
  refine ⟨M0, fun k hk => ?_⟩
  match k, hk with
  | 0, _ => exact ⟨_, 0, nw0, by simp [World.cell?, hb], TbL.nil _ _, nw0_may, by decide⟩
  | 1, _ => exact ⟨_, _, nw1, by simp [World.cell?, hb], T1, nw1_may, by decide⟩
  | 2, _ => exact ⟨_, _, nw2, by simp [World.cell?, hb], T2, nw2_may, by decide⟩
  | 3, _ => exact ⟨_, _, nw3, by simp [World.cell?, hb], T3, nw3_may, by decide⟩
  | 4, _ => exact ⟨_, _, nw4, by simp [World.cell?, hb], T4, nw4_may, by decide⟩
  | 5, _ => exact ⟨_, _, nw5, by simp [World.cell?, hb], T5, nw5_may, by decide⟩
  | 6, _ => exact ⟨_, _, nw6, by simp [World.cell?, hb], T6, nw6_may, by decide⟩
  | m + 7, h => omega

theorem n16_store {w : World} {v : Value} (h : OwnT w v ([] ++ n16r)) : ∃ g cap, v = .slice (some ⟨g, 0, none⟩) 16 cap ∧ w.cell? ⟨g, 61, none⟩ = some (.string ⟨#[113]⟩) ∧ w.frozen? ⟨g, 61, none⟩ = false ∧ Hid (OwnT (w.setCell ⟨g, 61, none⟩ (.string ⟨#[]⟩)) v n16) ∧ Hid (Moves [g] w (w.setCell ⟨g, 61, none⟩ (.string ⟨#[]⟩))) := by
  have h' : OwnT w v n16r := h
  obtain ⟨g, n, cap, rfl, hn⟩ := h'.somes (by simp [n16r])
  have hn16 : n = 16 := hn
  subst hn16
  obtain ⟨⟨q0, q1, q2, q3⟩, r0, r1, r2, r3⟩ := h'.cells (k := 15) (x := ⟨⟨#[112]⟩, ⟨#[113]⟩, 0, 16⟩) rfl
  obtain ⟨hO3, mS3⟩ := h'.setAt (ys := n16) 61 (.string ⟨#[]⟩) (tbCells_hi n16r 15 ⟨⟨#[112]⟩, ⟨#[113]⟩, 0, 16⟩ ⟨#[]⟩ rfl) rfl
  exact ⟨g, cap, rfl, q1, r1, hO3, mS3⟩

def n17At (i : Nat) (x : Ptb) : Prop := n17r[i]? = some x ∧ x.g = (i : Int).tmod 3 ∧ x.n = (i : Int) + 1
    ∧ (∀ w1 : World, (Instr.slice 9 (.string ⟨#[97, 98, 99, 100, 101, 102, 103, 104, 105, 106, 107, 108, 109, 110, 111, 112, 113]⟩) (some (.int .i64 (i : Int))) (some (.int .i64 ((i + 1 : Nat) : Int))) none).run Try.prog w1 = .ok (.string x.lo) w1)
    ∧ (∀ w1 : World, (Instr.slice 9 (.string ⟨#[98, 99, 100, 101, 102, 103, 104, 105, 106, 107, 108, 109, 110, 111, 112, 113, 114]⟩) (some (.int .i64 (i : Int))) (some (.int .i64 ((i + 1 : Nat) : Int))) none).run Try.prog w1 = .ok (.string x.hi) w1)
theorem n17_at (i : Nat) (hi : i < 17) : ∃ x, n17At i x := by
  match i, hi with
  | 0, _ => exact ⟨⟨⟨#[97]⟩, ⟨#[98]⟩, 0, 1⟩, rfl, by decide, by decide, fun w1 => by kernel_rfl, fun w1 => by kernel_rfl⟩
  | 1, _ => exact ⟨⟨⟨#[98]⟩, ⟨#[99]⟩, 1, 2⟩, rfl, by decide, by decide, fun w1 => by kernel_rfl, fun w1 => by kernel_rfl⟩
  | 2, _ => exact ⟨⟨⟨#[99]⟩, ⟨#[100]⟩, 2, 3⟩, rfl, by decide, by decide, fun w1 => by kernel_rfl, fun w1 => by kernel_rfl⟩
  | 3, _ => exact ⟨⟨⟨#[100]⟩, ⟨#[101]⟩, 0, 4⟩, rfl, by decide, by decide, fun w1 => by kernel_rfl, fun w1 => by kernel_rfl⟩
  | 4, _ => exact ⟨⟨⟨#[101]⟩, ⟨#[102]⟩, 1, 5⟩, rfl, by decide, by decide, fun w1 => by kernel_rfl, fun w1 => by kernel_rfl⟩
  | 5, _ => exact ⟨⟨⟨#[102]⟩, ⟨#[103]⟩, 2, 6⟩, rfl, by decide, by decide, fun w1 => by kernel_rfl, fun w1 => by kernel_rfl⟩
  | 6, _ => exact ⟨⟨⟨#[103]⟩, ⟨#[104]⟩, 0, 7⟩, rfl, by decide, by decide, fun w1 => by kernel_rfl, fun w1 => by kernel_rfl⟩
  | 7, _ => exact ⟨⟨⟨#[104]⟩, ⟨#[105]⟩, 1, 8⟩, rfl, by decide, by decide, fun w1 => by kernel_rfl, fun w1 => by kernel_rfl⟩
  | 8, _ => exact ⟨⟨⟨#[105]⟩, ⟨#[106]⟩, 2, 9⟩, rfl, by decide, by decide, fun w1 => by kernel_rfl, fun w1 => by kernel_rfl⟩
  | 9, _ => exact ⟨⟨⟨#[106]⟩, ⟨#[107]⟩, 0, 10⟩, rfl, by decide, by decide, fun w1 => by kernel_rfl, fun w1 => by kernel_rfl⟩
  | 10, _ => exact ⟨⟨⟨#[107]⟩, ⟨#[108]⟩, 1, 11⟩, rfl, by decide, by decide, fun w1 => by kernel_rfl, fun w1 => by kernel_rfl⟩
  | 11, _ => exact ⟨⟨⟨#[108]⟩, ⟨#[109]⟩, 2, 12⟩, rfl, by decide, by decide, fun w1 => by kernel_rfl, fun w1 => by kernel_rfl⟩
  | 12, _ => exact ⟨⟨⟨#[109]⟩, ⟨#[110]⟩, 0, 13⟩, rfl, by decide, by decide, fun w1 => by kernel_rfl, fun w1 => by kernel_rfl⟩
  | 13, _ => exact ⟨⟨⟨#[110]⟩, ⟨#[111]⟩, 1, 14⟩, rfl, by decide, by decide, fun w1 => by kernel_rfl, fun w1 => by kernel_rfl⟩
  | 14, _ => exact ⟨⟨⟨#[111]⟩, ⟨#[112]⟩, 2, 15⟩, rfl, by decide, by decide, fun w1 => by kernel_rfl, fun w1 => by kernel_rfl⟩
  | 15, _ => exact ⟨⟨⟨#[112]⟩, ⟨#[113]⟩, 0, 16⟩, rfl, by decide, by decide, fun w1 => by kernel_rfl, fun w1 => by kernel_rfl⟩
  | 16, _ => exact ⟨⟨⟨#[113]⟩, ⟨#[114]⟩, 1, 17⟩, rfl, by decide, by decide, fun w1 => by kernel_rfl, fun w1 => by kernel_rfl⟩
  | m + 17, h => omega

/-- The list of seventeen is made. -/
def Made17 (w : World) (i : Nat) (v : Value) (w' : World) : Prop := OwnT w' v (n17r.take i) ∧ Fresh w v ∧ Moves [] w w'

theorem ndraws (w : World) : DArgs11 (w.alloc (.cells #[.int .i64 0, .int .i64 0, .int .i64 2, .int .i64 0, .slice none 0 0, .int .i64 0, .int .i64 1, .int .i64 4, .int .i64 0, .slice none 0 0, .int .i64 1, .int .i64 0, .int .i64 0, .int .i64 0, .slice none 0 0, .int .i64 2, .int .i64 0, .int .i64 0, .int .i64 5, .slice none 0 0, .int .i64 4, .int .i64 0, .int .i64 2, .int .i64 0, .slice none 0 0, .int .i64 3, .int .i64 0, .int .i64 0, .int .i64 0, .slice none 0 0] 39)) (.slice (some ⟨w.heap.size, 0, none⟩) 6 6) := by
  have hb := heap_alloc_new w (.cells #[.int .i64 0, .int .i64 0, .int .i64 2, .int .i64 0, .slice none 0 0, .int .i64 0, .int .i64 1, .int .i64 4, .int .i64 0, .slice none 0 0, .int .i64 1, .int .i64 0, .int .i64 0, .int .i64 0, .slice none 0 0, .int .i64 2, .int .i64 0, .int .i64 0, .int .i64 5, .slice none 0 0, .int .i64 4, .int .i64 0, .int .i64 2, .int .i64 0, .slice none 0 0, .int .i64 3, .int .i64 0, .int .i64 0, .int .i64 0, .slice none 0 0] 39)
  obtain ⟨w', hw'⟩ : ∃ w', w.alloc (.cells #[.int .i64 0, .int .i64 0, .int .i64 2, .int .i64 0, .slice none 0 0, .int .i64 0, .int .i64 1, .int .i64 4, .int .i64 0, .slice none 0 0, .int .i64 1, .int .i64 0, .int .i64 0, .int .i64 0, .slice none 0 0, .int .i64 2, .int .i64 0, .int .i64 0, .int .i64 5, .slice none 0 0, .int .i64 4, .int .i64 0, .int .i64 2, .int .i64 0, .slice none 0 0, .int .i64 3, .int .i64 0, .int .i64 0, .int .i64 0, .slice none 0 0] 39) = w' := ⟨_, rfl⟩
  rw [hw'] at hb ⊢
  clear hw'
  refine ⟨_, 6, 6, rfl, Nat.le_refl _, fun k hk => ?_⟩
  match k, hk with
  | 0, _ => exact ⟨_, 0, 0, 0, 2, 0, none, 0, 0, 0, [], rfl, by simp [World.cell?, hb], by simp [World.cell?, hb], by simp [World.cell?, hb], by simp [World.cell?, hb], by simp [World.cell?, hb], TbL.nil _ _⟩
  | 1, _ => exact ⟨_, 0, 0, 1, 4, 0, none, 0, 0, 0, [], rfl, by simp [World.cell?, hb], by simp [World.cell?, hb], by simp [World.cell?, hb], by simp [World.cell?, hb], by simp [World.cell?, hb], TbL.nil _ _⟩
  | 2, _ => exact ⟨_, 0, 1, 0, 0, 0, none, 0, 0, 0, [], rfl, by simp [World.cell?, hb], by simp [World.cell?, hb], by simp [World.cell?, hb], by simp [World.cell?, hb], by simp [World.cell?, hb], TbL.nil _ _⟩
  | 3, _ => exact ⟨_, 0, 2, 0, 0, 5, none, 0, 0, 0, [], rfl, by simp [World.cell?, hb], by simp [World.cell?, hb], by simp [World.cell?, hb], by simp [World.cell?, hb], by simp [World.cell?, hb], TbL.nil _ _⟩
  | 4, _ => exact ⟨_, 0, 4, 0, 2, 0, none, 0, 0, 0, [], rfl, by simp [World.cell?, hb], by simp [World.cell?, hb], by simp [World.cell?, hb], by simp [World.cell?, hb], by simp [World.cell?, hb], TbL.nil _ _⟩
  | 5, _ => exact ⟨_, 0, 3, 0, 0, 0, none, 0, 0, 0, [], rfl, by simp [World.cell?, hb], by simp [World.cell?, hb], by simp [World.cell?, hb], by simp [World.cell?, hb], by simp [World.cell?, hb], TbL.nil _ _⟩
  | m + 6, h => omega

set_option maxRecDepth 100000 in
set_option maxHeartbeats 16000000 in
theorem metaNumbers_w (w : World) : Calls Try.prog 3 #[] w fun e w' => e = .returned (.bool true) ∧ Moves [] w w' := by
  have hmx : Try.prog.follows .mixedOrders = true := by kernel_rfl
  have hnn : ∀ w1 : World, (binOp .neq 28 (.pointer none) (.pointer none)).run Try.prog w1 = .ok (.bool false) w1 := by intro w1; kernel_rfl
  go_enter Try.func3, Try.ntmps3
  go_wp2_with fail
  obtain ⟨w7, h7⟩ : ∃ w7, (((((((w.alloc (.cells #[.string ⟨#[]⟩, .string ⟨#[]⟩, .int .i64 0, .int .i64 0] 25)).alloc (.cells #[.string ⟨#[]⟩, .string ⟨#[]⟩, .int .i64 256, .int .i64 1] 25)).alloc (.cells #[.string ⟨#[]⟩, .string ⟨#[]⟩, .int .i64 0, .int .i64 1073741825] 25)).alloc (.cells #[.string ⟨#[97]⟩, .string ⟨#[]⟩, .int .i64 0, .int .i64 1] 25)).alloc (.cells #[.string ⟨#[]⟩, .string ⟨#[97]⟩, .int .i64 0, .int .i64 1] 25)).alloc (.cells #[.string ⟨#[]⟩, .string ⟨#[98]⟩, .int .i64 0, .int .i64 1, .string ⟨#[97]⟩, .string ⟨#[]⟩, .int .i64 0, .int .i64 1] 25)).alloc (.cells #[.slice none 0 0, .slice (some ⟨w.heap.size, 0, none⟩) 1 1, .slice (some ⟨w.heap.size + 1, 0, none⟩) 1 1, .slice (some ⟨w.heap.size + 1 + 1, 0, none⟩) 1 1, .slice (some ⟨w.heap.size + 1 + 1 + 1, 0, none⟩) 1 1, .slice (some ⟨w.heap.size + 1 + 1 + 1 + 1, 0, none⟩) 1 1, .slice (some ⟨w.heap.size + 1 + 1 + 1 + 1 + 1, 0, none⟩) 2 2] 26)) = w7 := ⟨_, rfl⟩
  obtain ⟨m7, hL⟩ := nlists w w7 h7
  rw [h7]
  clear h7
  obtain ⟨B, hB⟩ : ∃ B, w.heap.size + 1 + 1 + 1 + 1 + 1 + 1 = B := ⟨_, rfl⟩
  rw [hB] at hL ⊢
  have HL : Hid (∀ k, k < 7 → ∃ v g xs, w7.cell? ⟨B, k, none⟩ = some v ∧ TbL w7 g v xs ∧ mayT xs = 1 ∧ xs.length ≤ 1000) := hL
  clear hB hL
  generalize w.heap.size + 1 + 1 + 1 + 1 + 1 = b5
  generalize w.heap.size + 1 + 1 + 1 + 1 = b4
  generalize w.heap.size + 1 + 1 + 1 = b3
  generalize w.heap.size + 1 + 1 = b2
  generalize w.heap.size + 1 = b1
  go_loopw [34] (fun vi wr => ∃ k : Nat, k ≤ 7 ∧ vi = .int .i64 (k : Nat) ∧ Moves [] w7 wr) (fun vi _ => 7 - (intOf vi).toNat)
  case atStart => exact ⟨0, by omega, rfl, Moves.refl _ _⟩
  case round =>
    obtain ⟨k, hk7, rfl, mr⟩ := hrel
    by_cases hlt : k < 7
    · have hk3 : (k : Int) < 7 := by omega
      obtain ⟨v, g, xs, hc, hT, hm, hl⟩ := HL.out k hlt
      have hc2 := mr.cell hc
      have hnew := mtNew_no wr g v xs (hT.moves mr (by simp)) hl (by rw [hm]; decide)
      rw [hm] at hnew
      obtain ⟨ad, n, cap, rfl, _, _, _⟩ := hT.open
      clear hc hT hm
      go_wp2_with fail
      refine hnew.mono ?_
      rintro _ w5 ⟨rfl, m5⟩
      go_wp2_with fail
      go_roundw
      case rel => exact ⟨k + 1, by omega, by go_num, mr.then m5⟩
      case measure => simp [intOf]; omega
    · obtain rfl : k = 7 := by omega
      have M0 : Moves [] w wr := m7.then mr
      clear mr HL m7
      obtain ⟨wo, hwo⟩ : ∃ wo, wo = wr := ⟨_, rfl⟩
      subst hwo
      go_wp2_with fail
      go_loopw [5, 6] (fun vo vi wr => ∃ (i : Nat) (u : Value), i ≤ 17 ∧ u = vo ∧ vi = .int .i64 (i : Nat) ∧ Made17 wo i u wr) (fun _ vi _ => 17 - (intOf vi).toNat)
      case atStart => exact ⟨0, _, by omega, rfl, rfl, OwnT.nil _, Fresh.nil _, Moves.refl _ _⟩
      case round =>
        obtain ⟨i, u, hi17, rfl, rfl, hMd⟩ := hrel
        have HMd : Hid (Made17 wo i u wr) := hMd
        clear hMd
        by_cases hlt : i < 17
        · have hk3 : (i : Int) < 17 := by omega
          obtain ⟨x, hx, hxg, hxn, hs1, hs2⟩ := n17_at i hlt
          have HX : Hid (n17r[i]? = some x ∧ x.g = (i : Int).tmod 3 ∧ x.n = (i : Int) + 1) := ⟨hx, hxg, hxn⟩
          obtain ⟨i1, hi1⟩ : ∃ i1, i + 1 = i1 := ⟨_, rfl⟩
          rw [hi1] at hs1 hs2
          have hwk : IntKind.i64.wrap ((i : Int) + 1) = (i1 : Int) := by rw [IntKind.wrap_i64]; omega
          have HI1 : Hid (i + 1 = i1) := hi1
          have hO := HMd.out.1
          have hF := HMd.out.2.1
          have mo := HMd.out.2.2
          have hbd : Hid ((n17r.take i).length + [x].length ≤ 1048576) := by
            unfold Hid
            rw [List.length_take]
            simp only [List.length_cons, List.length_nil]
            omega
          have exx : Hid (x = ⟨x.lo, x.hi, (i : Int).tmod 3, (i1 : Int)⟩) := by
            unfold Hid
            have e1 := HX.out.2.1
            have e2 : x.n = (i1 : Int) := by have := HX.out.2.2; omega
            rw [← e1, ← e2]
          have HO : Hid (OwnT wr u (n17r.take i)) := hO
          clear hx hxg hxn hi1 hO
          go_wp2_with fail
          refine wp_some7 [54, 55, 56, 57, 58, 59, 60, 61, 62, 63, 64, 65, 66, 67, 68, 69, 70, 5] (fun u w' => ∃ v', u 5 = v' ∧ Made17 wo (i + 1) v' w') ?_ ?_
          · skip
            refine wp_region_noPanic ?_
            refine wp_region_held_drew (S := (fun _ => True)) (by kernel_rfl) ?_ (fun hHeld => ?_)
            · first | (go_keep; done) | trivial
            refine wpAnyH_take (i := 0) (oi := { dst := some 54, op := Op.move (Operand.tmp 5), type := 26, pos := "law.go:182", after := #[], guard := none }) (v := ?_) rfl (by kernel_rfl) (by kernel_rfl) (by kernel_rfl) (fun _ _ _ h => h) (Or.inl ⟨by rfl, ?_⟩) (by assumption) ?_
            rotate_left
            · (intro w hSw; (try dsimp only at hSw); go_simp; try (with_reducible rfl))
            try simp only [Act.put, List.setIfInBounds_toArray, List.set_cons_zero, List.set_cons_succ]
            refine wpAnyH_take (i := 1) (oi := { dst := some 55, op := Op.move (Operand.tmp 6), type := 3, pos := "law.go:182", after := #[], guard := none }) (v := ?_) rfl (by kernel_rfl) (by kernel_rfl) (by kernel_rfl) (fun _ _ _ h => h) (Or.inl ⟨by rfl, ?_⟩) (by assumption) ?_
            rotate_left
            · (intro w hSw; (try dsimp only at hSw); go_simp; try (with_reducible rfl))
            try simp only [Act.put, List.setIfInBounds_toArray, List.set_cons_zero, List.set_cons_succ]
            refine wpAnyH_take (i := 2) (oi := { dst := some 56, op := Op.move (Operand.tmp 6), type := 3, pos := "law.go:182", after := #[], guard := none }) (v := ?_) rfl (by kernel_rfl) (by kernel_rfl) (by kernel_rfl) (fun _ _ _ h => h) (Or.inl ⟨by rfl, ?_⟩) (by assumption) ?_
            rotate_left
            · (intro w hSw; (try dsimp only at hSw); go_simp; try (with_reducible rfl))
            try simp only [Act.put, List.setIfInBounds_toArray, List.set_cons_zero, List.set_cons_succ]
            refine wpAnyH_take (i := 3) (oi := { dst := some 57, op := Op.binOp BinOp.add 3 (Operand.tmp 56) (Operand.const (Value.int IntKind.i64 1)) 3, type := 3, pos := "law.go:182", after := #[{ on := 2, ground := Ground.data }], guard := none }) (v := ?_) rfl (by kernel_rfl) (by kernel_rfl) (by kernel_rfl) (fun _ _ _ h => h) (Or.inl ⟨by rfl, ?_⟩) (by assumption) ?_
            rotate_left
            · (intro w hSw; (try dsimp only at hSw); go_simp; try (with_reducible rfl))
            try simp only [Act.put, List.setIfInBounds_toArray, List.set_cons_zero, List.set_cons_succ]
            refine wpAnyH_take (i := 4) (oi := { dst := some 58, op := Op.slice 9 (Operand.const (Value.string { data := #[97, 98, 99, 100, 101, 102, 103, 104, 105, 106, 107, 108, 109, 110, 111, 112, 113] })) (some (Operand.tmp 55)) (some (Operand.tmp 57)) none, type := 9, pos := "law.go:182", after := #[{ on := 1, ground := Ground.data }, { on := 3, ground := Ground.data }], guard := none }) (v := ?_) rfl (by kernel_rfl) (by kernel_rfl) (by kernel_rfl) (fun _ _ _ h => h) (Or.inl ⟨by rfl, ?_⟩) (by assumption) ?_
            rotate_left
            · (intro w hSw; (try dsimp only at hSw); go_simp; try (with_reducible rfl))
            try simp only [Act.put, List.setIfInBounds_toArray, List.set_cons_zero, List.set_cons_succ]
            refine wpAnyH_take (i := 5) (oi := { dst := some 59, op := Op.move (Operand.tmp 6), type := 3, pos := "law.go:182", after := #[], guard := none }) (v := ?_) rfl (by kernel_rfl) (by kernel_rfl) (by kernel_rfl) (fun _ _ _ h => h) (Or.inl ⟨by rfl, ?_⟩) (by assumption) ?_
            rotate_left
            · (intro w hSw; (try dsimp only at hSw); go_simp; try (with_reducible rfl))
            try simp only [Act.put, List.setIfInBounds_toArray, List.set_cons_zero, List.set_cons_succ]
            refine wpAnyH_take (i := 6) (oi := { dst := some 60, op := Op.move (Operand.tmp 6), type := 3, pos := "law.go:182", after := #[], guard := none }) (v := ?_) rfl (by kernel_rfl) (by kernel_rfl) (by kernel_rfl) (fun _ _ _ h => h) (Or.inl ⟨by rfl, ?_⟩) (by assumption) ?_
            rotate_left
            · (intro w hSw; (try dsimp only at hSw); go_simp; try (with_reducible rfl))
            try simp only [Act.put, List.setIfInBounds_toArray, List.set_cons_zero, List.set_cons_succ]
            refine wpAnyH_take (i := 7) (oi := { dst := some 61, op := Op.binOp BinOp.add 3 (Operand.tmp 60) (Operand.const (Value.int IntKind.i64 1)) 3, type := 3, pos := "law.go:182", after := #[{ on := 6, ground := Ground.data }], guard := none }) (v := ?_) rfl (by kernel_rfl) (by kernel_rfl) (by kernel_rfl) (fun _ _ _ h => h) (Or.inl ⟨by rfl, ?_⟩) (by assumption) ?_
            rotate_left
            · (intro w hSw; (try dsimp only at hSw); go_simp; try (with_reducible rfl))
            try simp only [Act.put, List.setIfInBounds_toArray, List.set_cons_zero, List.set_cons_succ]
            refine wpAnyH_take (i := 8) (oi := { dst := some 62, op := Op.slice 9 (Operand.const (Value.string { data := #[98, 99, 100, 101, 102, 103, 104, 105, 106, 107, 108, 109, 110, 111, 112, 113, 114] })) (some (Operand.tmp 59)) (some (Operand.tmp 61)) none, type := 9, pos := "law.go:182", after := #[{ on := 5, ground := Ground.data }, { on := 7, ground := Ground.data }], guard := none }) (v := ?_) rfl (by kernel_rfl) (by kernel_rfl) (by kernel_rfl) (fun _ _ _ h => h) (Or.inl ⟨by rfl, ?_⟩) (by assumption) ?_
            rotate_left
            · (intro w hSw; (try dsimp only at hSw); go_simp; try (with_reducible rfl))
            try simp only [Act.put, List.setIfInBounds_toArray, List.set_cons_zero, List.set_cons_succ]
            refine wpAnyH_take (i := 9) (oi := { dst := some 63, op := Op.build 23 #[(0, Operand.tmp 58), (1, Operand.tmp 62)], type := 23, pos := "law.go:182", after := #[{ on := 4, ground := Ground.data }, { on := 8, ground := Ground.data }], guard := none }) (v := ?_) rfl (by kernel_rfl) (by kernel_rfl) (by kernel_rfl) (fun _ _ _ h => h) (Or.inl ⟨by rfl, ?_⟩) (by assumption) ?_
            rotate_left
            · (intro w hSw; (try dsimp only at hSw); go_simp; try (with_reducible rfl))
            try simp only [Act.put, List.setIfInBounds_toArray, List.set_cons_zero, List.set_cons_succ]
            refine wpAnyH_take (i := 10) (oi := { dst := some 64, op := Op.move (Operand.tmp 6), type := 3, pos := "law.go:182", after := #[], guard := none }) (v := ?_) rfl (by kernel_rfl) (by kernel_rfl) (by kernel_rfl) (fun _ _ _ h => h) (Or.inl ⟨by rfl, ?_⟩) (by assumption) ?_
            rotate_left
            · (intro w hSw; (try dsimp only at hSw); go_simp; try (with_reducible rfl))
            try simp only [Act.put, List.setIfInBounds_toArray, List.set_cons_zero, List.set_cons_succ]
            refine wpAnyH_take (i := 11) (oi := { dst := some 65, op := Op.binOp BinOp.rem 3 (Operand.tmp 64) (Operand.const (Value.int IntKind.i64 3)) 3, type := 3, pos := "law.go:182", after := #[{ on := 10, ground := Ground.data }], guard := none }) (v := ?_) rfl (by kernel_rfl) (by kernel_rfl) (by kernel_rfl) (fun _ _ _ h => h) (Or.inl ⟨by rfl, ?_⟩) (by assumption) ?_
            rotate_left
            · (intro w hSw; (try dsimp only at hSw); go_simp; try (with_reducible rfl))
            try simp only [Act.put, List.setIfInBounds_toArray, List.set_cons_zero, List.set_cons_succ]
            refine wpAnyH_take (i := 12) (oi := { dst := some 66, op := Op.move (Operand.tmp 6), type := 3, pos := "law.go:182", after := #[], guard := none }) (v := ?_) rfl (by kernel_rfl) (by kernel_rfl) (by kernel_rfl) (fun _ _ _ h => h) (Or.inl ⟨by rfl, ?_⟩) (by assumption) ?_
            rotate_left
            · (intro w hSw; (try dsimp only at hSw); go_simp; try (with_reducible rfl))
            try simp only [Act.put, List.setIfInBounds_toArray, List.set_cons_zero, List.set_cons_succ]
            refine wpAnyH_take (i := 13) (oi := { dst := some 67, op := Op.binOp BinOp.add 3 (Operand.tmp 66) (Operand.const (Value.int IntKind.i64 1)) 3, type := 3, pos := "law.go:182", after := #[{ on := 12, ground := Ground.data }], guard := none }) (v := ?_) rfl (by kernel_rfl) (by kernel_rfl) (by kernel_rfl) (fun _ _ _ h => h) (Or.inl ⟨by rfl, ?_⟩) (by assumption) ?_
            rotate_left
            · (intro w hSw; (try dsimp only at hSw); go_simp; try (with_reducible rfl))
            try simp only [Act.put, List.setIfInBounds_toArray, List.set_cons_zero, List.set_cons_succ]
            refine wpAnyH_take (i := 14) (oi := { dst := some 68, op := Op.build 25 #[(0, Operand.tmp 63), (1, Operand.tmp 65), (2, Operand.tmp 67)], type := 25, pos := "law.go:182", after := #[{ on := 9, ground := Ground.data }, { on := 11, ground := Ground.data }, { on := 13, ground := Ground.data }], guard := none }) (v := ?_) rfl (by kernel_rfl) (by kernel_rfl) (by kernel_rfl) (fun _ _ _ h => h) (Or.inl ⟨by rfl, ?_⟩) (by assumption) ?_
            rotate_left
            · (intro w hSw; (try dsimp only at hSw); go_simp; try (with_reducible rfl))
            try simp only [Act.put, List.setIfInBounds_toArray, List.set_cons_zero, List.set_cons_succ]
            refine wpAnyH_ready (rs := [15]) (by kernel_rfl) (by simp) ?_
            refine AllReadyH.cons (o := { dst := some 69, op := Op.buildSlice 26 1 #[(0, Operand.tmp 68)], type := 26, pos := "law.go:182", after := #[{ on := 14, ground := Ground.data }], guard := none }) rfl (fun K hK => ?_) AllReadyH.nil
            go_simp
            have mA : Moves [] wr (wr.alloc (.cells #[.string x.lo, .string x.hi, .int .i64 ((i : Int).tmod 3), .int .i64 (i1 : Int)] 25)).drew := ((Moves.refl _ _).alloc _).drew
            have hN : TbL (wr.alloc (.cells #[.string x.lo, .string x.hi, .int .i64 ((i : Int).tmod 3), .int .i64 (i1 : Int)] 25)).drew wr.heap.size (.slice (some ⟨wr.heap.size, 0, none⟩) 1 1) [x] := by
              rw [exx.out]
              exact (tb_new wr ⟨x.lo, x.hi, (i : Int).tmod 3, (i1 : Int)⟩).moves ((Moves.refl [] _).drew) (by simp)
            have hO15 := HO.out.moves mA (by simp)
            obtain ⟨w15, hw15⟩ : ∃ w15, (wr.alloc (.cells #[.string x.lo, .string x.hi, .int .i64 ((i : Int).tmod 3), .int .i64 (i1 : Int)] 25)).drew = w15 := ⟨_, rfl⟩
            rw [hw15] at mA hN hO15 ⊢
            clear hw15
            refine hK.out _ _ ?_ (fun hHeld => ?_)
            · trivial
            clear hK K
            try simp only [Act.put, List.setIfInBounds_toArray, List.set_cons_zero, List.set_cons_succ]
            refine wpAnyH_ready (rs := [16]) (by kernel_rfl) (by simp) ?_
            refine AllReadyH.cons (o := { dst := some 70, op := Op.call { callee := Callee.builtin Builtin.append, args := #[Operand.tmp 54, Operand.tmp 69], argTypes := #[26, 26] }, type := 26, pos := "law.go:182", after := #[{ on := 0, ground := Ground.data }, { on := 15, ground := Ground.data }], guard := none }) rfl (fun K hK => ?_) AllReadyH.nil
            refine tabs_step (.tmp 54) (.tmp 69) rfl _ _ wr.heap.size (n17r.take i) [x] rfl rfl (by rfl) hO15 hN hbd.out ?_
            intro v16 w16 hO16 m16 hla
            have hfin : Made17 wo (i + 1) v16 w16 := ⟨by rw [List.take_add_one, HX.out.1]; simpa using hO16, lain_fresh hF (mo.then mA).size hla, fresh_trans (mo.then mA) hF m16⟩
            obtain ⟨ad16, n16', cap16, rfl, hn16⟩ := hO16.open
            refine hK.out _ _ ?_ (fun hHeld => ?_)
            · trivial
            clear hK K
            try simp only [Act.put, List.setIfInBounds_toArray, List.set_cons_zero, List.set_cons_succ]
            refine wpAnyH_take (i := 17) (oi := { dst := some 5, op := Op.assign (Operand.tmp 70), type := 26, pos := "law.go:182", after := #[{ on := 16, ground := Ground.data }, { on := 16, ground := Ground.chain }, { on := 0, ground := Ground.phase }, { on := 1, ground := Ground.phase }, { on := 2, ground := Ground.phase }, { on := 3, ground := Ground.phase }, { on := 4, ground := Ground.phase }, { on := 5, ground := Ground.phase }, { on := 6, ground := Ground.phase }, { on := 7, ground := Ground.phase }, { on := 8, ground := Ground.phase }, { on := 9, ground := Ground.phase }, { on := 10, ground := Ground.phase }, { on := 11, ground := Ground.phase }, { on := 12, ground := Ground.phase }, { on := 13, ground := Ground.phase }, { on := 14, ground := Ground.phase }, { on := 15, ground := Ground.phase }, { on := 16, ground := Ground.phase }], guard := none }) (v := ?_) rfl (by kernel_rfl) (by kernel_rfl) (by kernel_rfl) (fun _ _ _ h => h) (Or.inl ⟨by rfl, ?_⟩) (by assumption) ?_
            rotate_left
            · (intro w hSw; (try dsimp only at hSw); go_simp; try (with_reducible rfl))
            try simp only [Act.put, List.setIfInBounds_toArray, List.set_cons_zero, List.set_cons_succ]
            refine wpAnyH_done (by kernel_rfl) ?_ _
            refine NoPanic.normal ?_
            exact ⟨rfl, by kernel_rfl, _, rfl, hfin⟩
          · rintro u w2 ⟨v2, hu, hM2⟩
            have HM2 : Hid (Made17 wo (i + 1) v2 w2) := hM2
            clear hM2
            simp only [List.foldl_cons, List.foldl_nil, List.setIfInBounds_toArray, List.set_cons_zero, List.set_cons_succ, hu]
            clear hu
            generalize u 54 = u54
            generalize u 55 = u55
            generalize u 56 = u56
            generalize u 57 = u57
            generalize u 58 = u58
            generalize u 59 = u59
            generalize u 60 = u60
            generalize u 61 = u61
            generalize u 62 = u62
            generalize u 63 = u63
            generalize u 64 = u64
            generalize u 65 = u65
            generalize u 66 = u66
            generalize u 67 = u67
            generalize u 68 = u68
            generalize u 69 = u69
            generalize u 70 = u70
            obtain ⟨ad2, n2, cap2, rfl, _⟩ := HM2.out.1.open
            go_wp2_with fail
            go_roundw
            case rel => exact ⟨i1, _, by have := HI1.out; omega, rfl, by go_num, by rw [← HI1.out]; exact HM2.out⟩
            case measure => have := HI1.out; simp [intOf]; omega
        · obtain rfl : i = 17 := by omega
          have hO : OwnT wr u n17r := HMd.out.1
          have hF := HMd.out.2.1
          have M1 : Moves [] w wr := M0.then HMd.out.2.2
          obtain ⟨wq, hwq⟩ : ∃ wq, wq = wr := ⟨_, rfl⟩
          subst hwq
          obtain ⟨g, n, cap, rfl, hn⟩ := hO.somes (by simp [n17r])
          have hn17 : n = 17 := hn
          subst hn17
          have hg := hF g rfl
          have hgl := hO.lt (k := g) rfl
          have hsz := HMd.out.2.2.size
          have hMo := M0
          clear hF HMd hn
          obtain ⟨⟨p0, p1, p2, p3⟩, f0, f1, f2, f3⟩ := hO.cells (k := 0) (x := ⟨⟨#[97]⟩, ⟨#[98]⟩, 0, 1⟩) rfl
          simp only [Nat.zero_mul] at p0 f0
          obtain ⟨hO2, mS2⟩ := hO.setAt (ys := n17a) 0 (.string ⟨#[]⟩) (tbCells_lo n17r 0 ⟨⟨#[97]⟩, ⟨#[98]⟩, 0, 1⟩ ⟨#[]⟩ rfl) rfl
          obtain ⟨⟨q0, q1, q2, q3⟩, r0, r1, r2, r3⟩ := hO2.cells (k := 16) (x := ⟨⟨#[113]⟩, ⟨#[114]⟩, 1, 17⟩) rfl
          have q1' : (wq.setCell ⟨g, 0, none⟩ (.string ⟨#[]⟩)).cell? ⟨g, 65, none⟩ = some (.string ⟨#[114]⟩) := q1
          have r1' : (wq.setCell ⟨g, 0, none⟩ (.string ⟨#[]⟩)).frozen? ⟨g, 65, none⟩ = false := r1
          obtain ⟨hO3, mS3⟩ := hO2.setAt (ys := n17) 65 (.string ⟨#[]⟩) (tbCells_hi n17a 16 ⟨⟨#[113]⟩, ⟨#[114]⟩, 1, 17⟩ ⟨#[]⟩ rfl) rfl
          have hmx3 : Moves [g] wq ((wq.setCell ⟨g, 0, none⟩ (.string ⟨#[]⟩)).setCell ⟨g, 65, none⟩ (.string ⟨#[]⟩)) := mS2.then mS3
          clear hO hO2 p1 p2 p3 f1 f2 f3 q0 q1 q2 q3 r0 r1 r2 r3 mS2 mS3
          go_wp2_with fail
          obtain ⟨w9, hw9⟩ : ∃ w9, (wq.setCell ⟨g, 0, none⟩ (.string ⟨#[]⟩)).setCell ⟨g, 65, none⟩ (.string ⟨#[]⟩) = w9 := ⟨_, rfl⟩
          rw [hw9] at hO3 hmx3 ⊢
          clear hw9 p0 f0 q1' r1'
          have M9 : Moves [] w w9 := M1.trans hmx3 (fun x hx => .inr (by have := M0.size; simp at hx; omega))
          have hT9 : TbL w9 g (.slice (some ⟨g, 0, none⟩) 17 cap) n17 := hO3.tbl (g := g) (fun k hk => by simp [Value.ownBlock] at hk; exact hk.symm)
          have hcap := hT9.len.2.1
          have hsl : Hid (TbL w9 g (.slice (some ⟨g, 0, none⟩) 16 cap) n16r) := ⟨_, 16, cap, rfl, rfl, by omega, by simp, by have h := hT9.len.2.2.2.first 16; exact h⟩
          have hnew := mtNew_no w9 g _ n17 hT9 (by decide) (by rw [n17_may]; decide)
          rw [n17_may] at hnew
          clear hT9 hO3 hmx3
          refine hnew.mono ?_
          rintro _ w10 ⟨rfl, m10⟩
          have mE : Moves [] w10 (w10.alloc (.cells #[] 25)) := (Moves.refl _ _).alloc _
          have hE : Hid (OwnT (w10.alloc (.cells #[] 25)) (.slice (some ⟨w10.heap.size, 0, none⟩) 0 0) []) := OwnT.empty (heap_alloc_new _ _)
          have hS10 : Hid (TbL (w10.alloc (.cells #[] 25)) g (.slice (some ⟨g, 0, none⟩) 16 cap) n16r) := hsl.out.moves (m10.then mE) (by simp)
          have hbd : Hid (([] : List Ptb).length + n16r.length ≤ 1048576) := by unfold Hid; decide
          have M10 : Moves [] w (w10.alloc (.cells #[] 25)) := (M9.then m10).then mE
          have hs10 : w.heap.size ≤ w10.heap.size := (M9.then m10).size
          have hc16 : (16 : Int) ≤ cap := by omega
          clear hnew
          go_wp2_with (at_builtin; refine tabs_append _ _ rfl _ _ g [] n16r rfl rfl rfl hE.out hS10.out hbd.out ?_; intro v' w11 hO11 m11 hla; obtain ⟨g2, cap2, rfl, hc61, hf61, hO12, mS12⟩ := n16_store hO11)
          obtain ⟨w12, hw12⟩ : ∃ w12, w11.setCell ⟨g2, 61, none⟩ (.string ⟨#[]⟩) = w12 := ⟨_, rfl⟩
          rw [hw12] at hO12 mS12 ⊢
          clear hw12 hc61 hf61 hO11
          have hf0 : Fresh w10 (.slice (some ⟨w10.heap.size, 0, none⟩) 0 0) := fun k hk => by simp [Value.ownBlock] at hk; omega
          have hg2 : w10.heap.size ≤ g2 := (lain_fresh hf0 mE.size hla) g2 rfl
          have m11' : Moves [w10.heap.size] (w10.alloc (.cells #[] 25)) w11 := m11
          have M12 : Moves [] w w12 := (M10.trans m11' (fun x hx => .inr (by simp at hx; omega))).trans mS12.out (fun x hx => .inr (by simp at hx; omega))
          have hT12 : Hid (TbL w12 g2 (.slice (some ⟨g2, 0, none⟩) 16 cap2) n16) := hO12.out.tbl (g := g2) (fun k hk => by simp [Value.ownBlock] at hk; exact hk.symm)
          have hnew2 := mtNew_yes w12 g2 _ n16 hT12.out (by decide) n16_may
          clear hf0 hla m11 m11' mS12 hO12 hE hS10 hbd hsl
          refine hnew2.mono ?_
          rintro _ w13 ⟨q, rfl, hM13, hq13, m13⟩
          have hqe : ∀ w1 : World, (binOp .eql 28 (.pointer (some ⟨q, 0, none⟩)) (.pointer none)).run Try.prog w1 = .ok (.bool false) w1 := by intro w1; kernel_rfl
          have HM13 : Hid (MtIs w13 q n16) := hM13
          have HT13 : Hid (TbL w13 g2 (.slice (some ⟨g2, 0, none⟩) 16 cap2) n16) := hT12.out.moves m13 (by simp)
          have M13 := M12.then m13
          have hqw : w.heap.size ≤ q := by have := M12.size; omega
          have ht1 := tells11_w w13 q n16 hM13 n16_may g2 _ HT13.out ⟨#[99, 99]⟩
          have ht2 := fun w1 (m : Moves [] w13 w1) => tells11_w w1 q n16 (HM13.out.moves0 m) n16_may g2 _ (HT13.out.moves m (by simp)) ⟨#[122, 122, 122, 122]⟩
          clear hnew2 hM13 hT12
          go_wp2_with fail
          refine ht1.mono ?_
          rintro _ w14 ⟨rfl, m14⟩
          go_wp2_with fail
          refine (ht2 w14 m14).mono ?_
          rintro _ w15 ⟨rfl, m15⟩
          have m35 := m14.then m15
          obtain ⟨_, e', c0, c1, _, _⟩ := (HT13.out.moves m35 (by simp)).at (k := 3) (x := ⟨⟨#[100]⟩, ⟨#[101]⟩, 0, 4⟩) rfl
          simp only [Option.some.injEq, Addr.mk.injEq, and_true, true_and] at e'
          subst e'
          have c0' : w15.cell? ⟨g2, 12, none⟩ = some (.string ⟨#[100]⟩) := c0
          have c1' : w15.cell? ⟨g2, 13, none⟩ = some (.string ⟨#[101]⟩) := c1
          have hsp := rfSplit7_yes ⟨#[100]⟩ ⟨#[101]⟩ ⟨#[100, 100]⟩ w15 n3_split
          clear c0 c1 ht1 ht2
          go_wp2_with fail
          refine hsp.mono ?_
          rintro _ w16 ⟨rfl, m16⟩
          clear c0' c1' hsp
          go_wp2_with fail
          have mA1 : Moves [] w16 (w16.alloc (.cells #[.string ⟨#[100]⟩, .string ⟨#[100, 100]⟩] 23)) := (Moves.refl _ _).alloc _
          have mA2 : Moves [] w16 ((w16.alloc (.cells #[.string ⟨#[100]⟩, .string ⟨#[100, 100]⟩] 23)).alloc (.cells #[.string ⟨#[100, 100]⟩, .string ⟨#[101]⟩] 23)) := mA1.alloc _
          obtain ⟨wb, hwb⟩ : ∃ wb, (w16.alloc (.cells #[.string ⟨#[100]⟩, .string ⟨#[100, 100]⟩] 23)).alloc (.cells #[.string ⟨#[100, 100]⟩, .string ⟨#[101]⟩] 23) = wb := ⟨_, rfl⟩
          have hwbs : w16.heap.size + 1 + 1 = wb.heap.size := by rw [← hwb]; simp
          rw [hwb] at mA2 ⊢
          rw [hwbs]
          generalize w16.heap.size + 1 = x1
          clear hwb hwbs mA1
          have mA3 : Moves [] wb (wb.alloc (.cells #[.string ⟨#[100]⟩, .string ⟨#[100, 100]⟩, .int .i64 0, .int .i64 99, .string ⟨#[100, 100]⟩, .string ⟨#[101]⟩, .int .i64 0, .int .i64 99] 25)) := (Moves.refl _ _).alloc _
          have hyA := tb_new2 wb ⟨⟨#[100]⟩, ⟨#[100, 100]⟩, 0, 99⟩ ⟨⟨#[100, 100]⟩, ⟨#[101]⟩, 0, 99⟩
          have m3A := ((m35.then m16).then mA2).then mA3
          have M17 := M13.then m3A
          have hput := mtPut_w _ q n16 (HM13.out.moves0 m3A) (by simp [n16]) (by decide) _ _ nyA hyA (by decide)
          clear hyA
          refine hput.mono ?_
          rintro _ w18 ⟨r, xs', rfl, hP, hM18, m18⟩
          obtain ⟨hr, hxs⟩ := put_law n16_may hP
          rw [nA_err] at hr
          rw [nA_to] at hxs
          subst hr hxs
          have HM18 : Hid (MtIs w18 q n16) := hM18
          have M18 : Moves [] w w18 := M17.trans m18 (fun x hx => .inr (by simp at hx; omega))
          clear hput hP hM18 m18 M17 m3A mA2 mA3
          have mB3 : Moves [] w18 (w18.alloc (.cells #[.string ⟨#[98]⟩, .string ⟨#[101]⟩, .int .i64 0, .int .i64 50] 25)) := (Moves.refl _ _).alloc _
          have hyB := tb_new w18 ⟨⟨#[98]⟩, ⟨#[101]⟩, 0, 50⟩
          have hput := mtPut_w _ q n16 (HM18.out.moves0 mB3) (by simp [n16]) (by decide) _ _ nyB hyB (by decide)
          have M19 := M18.then mB3
          clear hyB
          go_wp2_with fail
          refine hput.mono ?_
          rintro _ w20 ⟨r, xs', rfl, hP, hM20, m20⟩
          obtain ⟨hr, hxs⟩ := put_law n16_may hP
          rw [nB_err] at hr
          rw [nB_to] at hxs
          subst hr hxs
          have HM20 : Hid (MtIs w20 q n14) := hM20
          have M20 : Moves [] w w20 := M19.trans m20 (fun x hx => .inr (by simp at hx; omega))
          clear hput hP hM20 m20 M19 mB3
          have mC3 : Moves [] w20 (w20.alloc (.cells #[.string ⟨#[98]⟩, .string ⟨#[101, 101]⟩, .int .i64 0, .int .i64 50] 25)) := (Moves.refl _ _).alloc _
          have hyC := tb_new w20 ⟨⟨#[98]⟩, ⟨#[101, 101]⟩, 0, 50⟩
          have hput := mtPut_w _ q n14 (HM20.out.moves0 mC3) (by simp [n14]) (by decide) _ _ nyC hyC (by decide)
          have M21 := M20.then mC3
          clear hyC
          go_wp2_with fail
          refine hput.mono ?_
          rintro _ w22 ⟨r, xs', rfl, hP, hM22, m22⟩
          obtain ⟨hr, hxs⟩ := put_law n14_may hP
          rw [nC_err] at hr
          rw [nC_to] at hxs
          subst hr hxs
          have HM22 : Hid (MtIs w22 q n14) := hM22
          have M22 : Moves [] w w22 := M21.trans m22 (fun x hx => .inr (by simp at hx; omega))
          clear hput hP hM22 m22 M21 mC3
          have hput := mtPut_w w22 q n14 HM22.out (by simp [n14]) (by decide) 0 _ [] (TbL.nil w22 0) (by decide)
          go_wp2_with fail
          refine hput.mono ?_
          rintro _ w24 ⟨r, xs', rfl, hP, hM24, m24⟩
          obtain ⟨hr, hxs⟩ := put_law n14_may hP
          rw [nD_err] at hr
          rw [nD_to] at hxs
          subst hr hxs
          have M24 : Moves [] w w24 := M22.trans m24 (fun x hx => .inr (by simp at hx; omega))
          have hlen := mtLen_w w24 q n14 hM24 (by simp [n14]) (by decide)
          have e14 : ((n14.length : Nat) : Int) = 14 := rfl
          rw [e14] at hlen
          clear hput hP m24 e14
          go_wp2_with fail
          refine hlen.mono ?_
          rintro _ w25 ⟨rfl, m25⟩
          have mD : Moves [] w25 (w25.alloc (.cells #[.int .i64 0, .int .i64 0, .int .i64 2, .int .i64 0, .slice none 0 0, .int .i64 0, .int .i64 1, .int .i64 4, .int .i64 0, .slice none 0 0, .int .i64 1, .int .i64 0, .int .i64 0, .int .i64 0, .slice none 0 0, .int .i64 2, .int .i64 0, .int .i64 0, .int .i64 5, .slice none 0 0, .int .i64 4, .int .i64 0, .int .i64 2, .int .i64 0, .slice none 0 0, .int .i64 3, .int .i64 0, .int .i64 0, .int .i64 0, .slice none 0 0] 39)) := (Moves.refl _ _).alloc _
          have hD := ndraws w25
          have hpl := play11_w _ _ _ hD (Moves.refl _ _)
          clear hlen hD
          go_wp2_with fail
          refine hpl.mono ?_
          rintro _ w26 ⟨rfl, m26⟩
          go_wp2_with fail
          refine (known11_w _).mono ?_
          rintro _ w27 ⟨rfl, m27⟩
          go_wp2_with fail
          go_ret
          exact ⟨rfl, M24.then (((m25.then mD).then m26).then m27)⟩
end Go.Proofs.Ytbjbljkcodkebaa
