/-
  The law's own list of values: what the operations of its literal leave, told of a world in which rows of bytes may have been frozen.
-/
import Derived.Test.YtpofalalfemkhaaSsa
import Derived.Great.BuildSlice
namespace Go.Proofs.Ytpofalalfemkhaa
open Go.RowKit

theorem IsB.kept {W w w' : World} (k : Kept W w w') {g : Nat} {v : Value} {bs : List Nat} (h : IsB w g v bs) : IsB w' g v bs := by
  obtain ⟨ad, n, cap, h1, h2, h3, h4, h5⟩ := h
  refine ⟨ad, n, cap, h1, h2, h3, h4, ?_⟩
  rcases h5 with h5 | ⟨off, h5, h6⟩
  · exact .inl h5
  · exact .inr ⟨off, h5, fun j b hj => k.cell (h6 j b hj)⟩
theorem OwnL.kept {W w w' : World} (k : Kept W w w') {e : TypeId} (he : e ≠ 5) {size : Nat} {v : Value} {css : List (List Value)} (h : OwnL w e size v css) : OwnL w' e size v css := by
  refine ⟨h.1, h.2.1, ?_⟩
  rcases h.2.2 with hn | ⟨g, cap, cur, rfl, hb, hgg, rest⟩
  · exact .inl hn
  · obtain ⟨fz, h1, h2⟩ := k.block g cur e (0, 0) hgg
    rw [h2 he] at h1
    exact .inr ⟨g, cap, cur, rfl, hb, h1, rest⟩

/-- Where bytes lie: in a row of bytes. -/
def U8 (w : World) (g : Nat) (bs : List Nat) : Prop := bs = [] ∨ ∃ c fz, w.heap[g]? = some (.cells c 5 fz)
theorem U8.kept {W w w' : World} (k : Kept W w w') {g : Nat} {bs : List Nat} (h : U8 w g bs) : U8 w' g bs := by
  rcases h with h | ⟨c, fz, h⟩
  · exact .inl h
  · obtain ⟨f, h1, _⟩ := k.block _ _ _ _ h
    exact .inr ⟨c, f, h1⟩

/-- Bytes of few. -/
def BGood (w : World) (v : Value) : Prop := ∃ ad n cap g bs, v = .slice ad n cap ∧ IsB w g (.slice ad n cap) bs ∧ (∀ z ∈ bs, z < 256) ∧ bs.length ≤ 17 ∧ U8 w g bs
/-- A value of few bytes. -/
def VGood (w : World) (v : Value) : Prop := ∃ A : Vm, VIs w v A ∧ A.bs.length ≤ 17 ∧ U8 w A.g A.bs
/-- A row of bytes of the call's own. -/
def Raw (W : World) (c : List Nat) (w : World) (v : Value) : Prop := ∃ g fz, v = .slice (some ⟨g, 0, none⟩) c.length c.length ∧ W.heap.size ≤ g ∧ w.heap[g]? = some (.cells (c.map fun (b : Nat) => Value.int .u8 (b : Int)).toArray 5 fz)
/-- A list of m values of the call's own. -/
def LGood (W : World) (m : Nat) (w : World) (v : Value) : Prop := ∃ css, css.length = m ∧ OwnL w 39 3 v css ∧ (∀ c ∈ css, VGood w (.agg c.toArray)) ∧ Fresh W v

theorem BGood.kept {W w w' : World} (k : Kept W w w') {v : Value} (h : BGood w v) : BGood w' v := by
  obtain ⟨ad, n, cap, g, bs, h1, h2, h3, h4, h5⟩ := h
  exact ⟨ad, n, cap, g, bs, h1, h2.kept k, h3, h4, h5.kept k⟩
theorem VGood.kept {W w w' : World} (k : Kept W w w') {v : Value} (h : VGood w v) : VGood w' v := by
  obtain ⟨A, h1, h2, h3⟩ := h
  exact ⟨A, ⟨h1.val, h1.isIn.isB.kept k, h1.isIn.fits, h1.isIn.oct⟩, h2, h3.kept k⟩
theorem Raw.kept {W W' w w' : World} {c : List Nat} (k : Kept W' w w') {v : Value} (h : Raw W c w v) : Raw W c w' v := by
  obtain ⟨g, fz, h1, h2, h3⟩ := h
  obtain ⟨f, h4, _⟩ := k.block _ _ _ _ h3
  exact ⟨g, f, h1, h2, h4⟩
theorem LGood.kept {W W' w w' : World} {m : Nat} (k : Kept W' w w') {v : Value} (h : LGood W m w v) : LGood W m w' v := by
  obtain ⟨css, h1, h2, h3, h4⟩ := h
  exact ⟨css, h1, h2.kept k (by decide), fun c hc => (h3 c hc).kept k, h4⟩

theorem VGood.of (w : World) (k : Int) (v : Value) (n : Nat) (hn : Pl.Fits n) (h : BGood w v) : VGood w (.agg #[.int .i64 k, v, .float .f64 n]) := by
  obtain ⟨ad, m, cap, g, bs, rfl, h2, h3, h4⟩ := h
  exact ⟨⟨k, .slice ad m cap, g, bs, n⟩, ⟨rfl, h2, hn, h3⟩, h4⟩
theorem BGood.nil (w : World) : BGood w (.slice none 0 0) := ⟨none, 0, 0, 0, [], rfl, ⟨none, 0, 0, rfl, rfl, Nat.le_refl _, fun _ => rfl, .inl rfl⟩, by simp, by simp, .inl rfl⟩
theorem VGood.cells {w : World} {v : Value} (h : VGood w v) : ∃ k ad n cap x, v = .agg #[.int .i64 k, .slice ad n cap, .float .f64 x] := by
  obtain ⟨A, hV, _⟩ := h
  obtain ⟨ad, len, cap, _, rfl⟩ := hV.open
  exact ⟨_, _, _, _, _, rfl⟩

/-- Writing into rows of no bytes. -/
theorem VGood.moves {S : List Nat} {w w' : World} (m : Moves S w w') (hS : ∀ k ∈ S, ∃ c t fz, w.heap[k]? = some (.cells c t fz) ∧ t ≠ 5) {v : Value} (h : VGood w v) : VGood w' v := by
  obtain ⟨A, h1, h2, h3⟩ := h
  have hne : A.bs ≠ [] → A.g ∉ S := fun hn hm => by
    rcases h3 with h3 | ⟨c, fz, h3⟩
    · exact hn h3
    · obtain ⟨c', t, fz', h4, h5⟩ := hS _ hm
      rw [h3] at h4
      simp at h4
      exact h5 h4.2.1.symm
  obtain ⟨g', hg, hB⟩ := h1.isIn.isB.pick S hne
  have hval := h1.val
  by_cases hn : A.bs = []
  · exact ⟨{ A with g := g' }, ⟨hval, hB.moves m hg, h1.isIn.fits, h1.isIn.oct⟩, h2, .inl hn⟩
  · refine ⟨A, ⟨hval, h1.isIn.isB.moves m (hne hn), h1.isIn.fits, h1.isIn.oct⟩, h2, ?_⟩
    rcases h3 with h3 | ⟨c, fz, h3⟩
    · exact absurd h3 hn
    · exact .inr ⟨c, fz, m.at h3 (hne hn)⟩

set_option maxHeartbeats 1000000 in
theorem keepNum_w (n : Int) (x : Nat) (w : World) (hx : Pl.Fits x) :
    Calls Try.prog 15 #[.agg #[.bool false, .int .i64 n, .float .f64 x, .slice none 0 0]] w fun e w' => ∃ c : Nat, Pl.Fits c ∧ e = .returned (.agg #[.int .i64 2, .slice none 0 0, .float .f64 c]) ∧ Moves [] w w' := by
  go_enter Try.func15, Try.ntmps15
  go_wp2_with (go_at_call 44; refine (float_w _ _ hx _).mono ?_; rintro _ _ ⟨c, hc, rfl, rfl⟩)
  try simp only [Exit.inBlock, Exit.then]
  refine bodyPost_ret (ret_val rfl _ _ _ _ _ _ rfl (heap_alloc2_new _ _ _)) rfl ⟨c, hc, rfl, ((Moves.refl _ _).alloc _).alloc _⟩

/-- []byte("..") of a row that is the call's own. -/
theorem conv_run {W w : World} {c : List Nat} {v : Value} (h : Raw W c w v) (hc : ∀ z ∈ c, z < 256) (hl : c.length ≤ 17) : ∃ w', (convert 25 25 v).run Try.prog w = .ok v w' ∧ BGood w' v ∧ Kept W w w' := by
  obtain ⟨g, fz, rfl, hW, hg⟩ := h
  have hsh : w.shape? g = some (5, c.length) := by unfold World.shape?; rw [hg]; simp
  have hlt : g < w.heap.size := (Array.getElem?_eq_some_iff.1 hg).1
  have hfr : ∃ f, (w.freeze ⟨g, c.length, none⟩ 1).heap[g]? = some (.cells (c.map fun (b : Nat) => Value.int .u8 (b : Int)).toArray 5 f) := by
    have h' : w.heap[g] = .cells (c.map fun (b : Nat) => Value.int .u8 (b : Int)).toArray 5 fz := by simpa [Array.getElem?_eq_getElem hlt] using hg
    show ∃ f, (Array.modify _ _ _)[g]? = _
    rw [Array.getElem?_eq_getElem (by simpa using hlt), Array.getElem_modify_self, h']
    exact ⟨_, rfl⟩
  refine ⟨w.freeze ⟨g, c.length, none⟩ 1, ?_, ?_, ?_⟩
  · simp [convert, run_underlying Try.underlying25, run_underlying Try.underlying5, markStringish, hsh]
  · obtain ⟨f, hf⟩ := hfr
    refine ⟨_, _, _, g, c, rfl, ⟨_, _, _, rfl, rfl, Nat.le_refl _, fun h => by simp at h, .inr ⟨0, rfl, fun j b hj => ?_⟩⟩, hc, hl, .inr ⟨_, _, hf⟩⟩
    unfold World.cell?
    simp only [hf]
    simp [hj]
  · have hne : ∀ k, k ≠ g → (w.freeze ⟨g, c.length, none⟩ 1).heap[k]? = w.heap[k]? := fun k hk => by
      show (Array.modify _ _ _)[k]? = _
      rw [Array.getElem?_modify, if_neg (fun e => hk e.symm)]
    refine ⟨by simp [World.freeze], fun k x t f hk => ?_, fun m => m.trans (T := [g]) ⟨rfl, rfl, rfl, by simp [World.freeze], fun k _ hn => hne k (by simpa using hn)⟩ (fun x hx => .inr (by simp at hx; omega))⟩
    by_cases e : k = g
    · subst e
      rw [hg] at hk
      simp at hk
      obtain ⟨rfl, rfl, rfl⟩ := hk
      obtain ⟨f', hf⟩ := hfr
      exact ⟨f', hf, fun h => absurd rfl h⟩
    · exact ⟨f, by rw [hne k e]; exact hk, fun _ => rfl⟩
end Go.Proofs.Ytpofalalfemkhaa
