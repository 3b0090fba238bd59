/-
  RefW, Asks, Written: our texts of these names, laid into one.
-/
import Derived.Test.YtcamhlnkcoicpaaGreatCWriter
/-
  What the document's own writing does: each function returns the bytes that it was handed and those of what is written, in a row of its own; nothing that was there is written. Conditions: the bytes together are at most 2 to the 40th.
-/
namespace Go.Proofs.YtcamhlnkcoicpaaGreat
open Go.RowKit

theorem be4 (n : Nat) : be 4 n = [n / 16777216 % 256, n / 65536 % 256, n / 256 % 256, n % 256] := by
  simp [be, hi, List.range_succ]

/-- A new row of four bytes. -/
theorem has_four (w : World) (n : Nat) (x0 x1 x2 x3 : Int) (h0 : x0 = ((n / 16777216 % 256 : Nat) : Int)) (h1 : x1 = ((n / 65536 % 256 : Nat) : Int)) (h2 : x2 = ((n / 256 % 256 : Nat) : Int)) (h3 : x3 = ((n % 256 : Nat) : Int)) :
    IsB (w.alloc (.cells #[.int .u8 x0, .int .u8 x1, .int .u8 x2, .int .u8 x3] 5)) w.heap.size (.slice (some ⟨w.heap.size, 0, none⟩) 4 4) (be 4 n) := by
  subst h0 h1 h2 h3
  refine ⟨_, _, _, rfl, be_length _ _, Nat.le_refl _, fun h => by simp at h, .inr ⟨0, rfl, fun j c hj => ?_⟩⟩
  have hnew := heap_alloc_new w (.cells #[.int .u8 ((n / 16777216 % 256 : Nat) : Int), .int .u8 ((n / 65536 % 256 : Nat) : Int), .int .u8 ((n / 256 % 256 : Nat) : Int), .int .u8 ((n % 256 : Nat) : Int)] 5)
  rw [be4] at hj
  unfold World.cell?
  simp only [hnew]
  match j, hj with
  | 0, hj => simp at hj; subst hj; rfl
  | 1, hj => simp at hj; subst hj; rfl
  | 2, hj => simp at hj; subst hj; rfl
  | 3, hj => simp at hj; subst hj; rfl

theorem own_empty (w : World) : Own (w.alloc (.cells #[] 5)) (.slice (some ⟨w.heap.size, 0, none⟩) 0 0) [] :=
  ⟨by simp [u8s], .inr ⟨w.heap.size, 0, #[], rfl, Nat.zero_le _, heap_alloc_new _ _, Nat.le_refl _, by unfold maxLen; omega, rfl, by simp [u8s]⟩⟩

theorem Lain.fresh {w0 w : World} {v v' : Value} (h : Lain w v v') (hv : Fresh w0 v) (hw : w0.heap.size ≤ w.heap.size) : Fresh w0 v' := by
  intro k hk
  rcases h with e | e
  · exact hv k (by rw [← e]; exact hk)
  · rw [e] at hk; simp at hk; omega

theorem fresh_empty (w : World) : Fresh w (.slice (some ⟨w.heap.size, 0, none⟩) 0 0) := fun k hk => by simp [Value.ownBlock] at hk; omega

/-- What an append to a new row leaves. -/
theorem appended {w0 w1 w2 : World} {v v' : Value} (hm : Moves [] w0 w1) (hv : Fresh w0 v) (m : Moves v.ownBlock.toList w1 w2) (hat : Lain w1 v v') : Moves [] w0 w2 ∧ Fresh w0 v' :=
  ⟨hm.trans m (fun x hx => .inr (hv x (by cases hq : v.ownBlock <;> simp_all))), hat.fresh hv hm.size⟩

set_option maxHeartbeats 1000000 in
theorem rnum_w (v : Value) (g : Nat) (bs : List Nat) (n : Nat) (x : Int) (hx : x = (n : Int)) (w : World) (h : IsB w g v bs) (hb : bs.length + 8 ≤ 1099511627776) (hn : n < 4294967296) :
    Calls Tryz.prog 33 #[v, .int .u32 x] w fun e w' => ∃ v', e = .returned v' ∧ Own w' v' (bs ++ be 4 n) ∧ Moves [] w w' ∧ Fresh w v' := by
  subst hx
  have hm0 : Moves [] w (w.alloc (.cells #[] 5)) := (Moves.refl _ _).alloc _
  have ho0 := own_empty w
  have hc0 : IsB (w.alloc (.cells #[] 5)) g v bs := h.moves hm0 (by simp)
  have hf0 := fresh_empty w
  have hl1 : ([] : List Nat).length + bs.length ≤ 1099511627776 := by simp; omega
  have hl2 : bs.length + (be 4 n).length ≤ 1099511627776 := by rw [be_length]; omega
  obtain ⟨ad, len, cap, rfl, _⟩ := h
  go_enter Tryz.func33, Tryz.ntmps33
  go_wp2_with (first | (at_builtin; refine append_law (.tmp 5) (.tmp 6) rfl _ _ [] bs g rfl rfl rfl ho0 hc0 hl1 ?_; intro v1 w1 ho1 m1 hat1; rw [List.nil_append] at ho1; have hA1 := appended hm0 hf0 m1 hat1) | (at_builtin; refine append_law (.tmp 7) (.tmp 19) rfl _ _ bs (be 4 n) w1.heap.size rfl rfl rfl (ho1.moves ((Moves.refl [] _).alloc _) (by simp)) (has_four w1 n _ _ _ _ (by omega) (by omega) (by omega) (by omega)) hl2 ?_; intro v2 w2 ho2 m2 hat2; have hA2 := appended (hA1.1.alloc _) hA1.2 m2 hat2; obtain ⟨g2, n2, cap2, rfl⟩ := ho2.cap (by rw [List.length_append, be_length]; omega)))
  go_ret
  exact ⟨_, rfl, ho2, hA2.1, hA2.2⟩

set_option maxHeartbeats 1000000 in
theorem rtext_w (v : Value) (g : Nat) (bs : List Nat) (x : Value) (gx : Nat) (cs : List Nat) (w : World) (h : IsB w g v bs) (hx : IsB w gx x cs) (hb : bs.length + 2000000 ≤ 1099511627776) (hl : cs.length ≤ 1048576) :
    Calls Tryz.prog 35 #[v, x] w fun e w' => ∃ v', e = .returned v' ∧ Own w' v' (bs ++ be 4 cs.length ++ cs) ∧ Moves [] w w' ∧ Fresh w v' := by
  have h0 := h
  have hx0 := hx
  obtain ⟨ad, len, cap, rfl, _⟩ := h
  obtain ⟨ax, lx, cx, rfl, hlx, _⟩ := hx
  have hb1 : bs.length + 8 ≤ 1099511627776 := by omega
  have hl1 : lx < 4294967296 := by omega
  have hl2 : (lx : Int) < 4294967296 := by omega
  have hb2 : (bs ++ be 4 lx).length + cs.length ≤ 1099511627776 := by rw [List.length_append, be_length]; omega
  rw [hlx]
  go_enter Tryz.func35, Tryz.ntmps35
  go_wp2_with (first | (go_at_call 33; refine (rnum_w _ g bs lx _ (by first | rfl | omega) _ h0 hb1 hl1).mono ?_; rintro _ w1 ⟨v1, rfl, ho1, m1, f1⟩; have hx1 := hx0.moves m1 (by simp)) | (at_builtin; refine append_law (.tmp 9) (.tmp 10) rfl _ _ _ cs gx rfl rfl rfl ho1 hx1 hb2 ?_; intro v2 w2 ho2 m2 hat2; have hA2 := appended m1 f1 m2 hat2; obtain ⟨g2, n2, cap2, rfl⟩ := ho2.cap (by rw [List.length_append, List.length_append, be_length]; omega)))
  go_ret
  exact ⟨_, rfl, ho2, hA2.1, hA2.2⟩

theorem Has.take {w : World} {g : Nat} {ad : Option Addr} {bs : List Nat} (h : Has w g ad bs) (n : Nat) : Has w g ad (bs.take n) := by
  rcases h with rfl | ⟨off, h1, h2⟩
  · exact .inl (by simp)
  · refine .inr ⟨off, h1, fun j b hj => h2 j b ?_⟩
    rw [List.getElem?_take] at hj
    split at hj
    · exact hj
    · simp at hj

theorem cut_w (v : Value) (g : Nat) (bs : List Nat) (n : Nat) (z : Int) (hz : z = (n : Int)) (w : World) (h : IsB w g v bs) :
    Calls Tryz.prog 20 #[v, .int .i64 z] w fun e w' => ∃ v', e = .returned v' ∧ IsB w g v' (bs.take n) ∧ w = w' := by
  subst hz
  have h0 := h
  obtain ⟨ad, len, cap, rfl, h1, h2, h3, h4⟩ := h
  by_cases hlt : n < len
  · have hlt1 : (n : Int) < (len : Int) := by omega
    have hlt2 : (n : Int) ≤ (cap : Int) := by omega
    go_enter Tryz.func20, Tryz.ntmps20
    go_wp2
    go_ret
    refine ⟨_, rfl, ⟨ad, n, cap, rfl, by rw [List.length_take]; omega, by omega, h3, ?_⟩, rfl⟩
    exact h4.take n
  · have hlt1 : ¬ (n : Int) < (len : Int) := by omega
    go_enter Tryz.func20, Tryz.ntmps20
    go_wp2
    go_ret
    exact ⟨_, rfl, by rw [List.take_of_length_le (by omega)]; exact h0, rfl⟩

end Go.Proofs.YtcamhlnkcoicpaaGreat
/-
  Rows of things to be written or read, as they lie in memory, and the bytes that the document gives them. Plain facts, no walk.
-/
namespace Go.Proofs.YtcamhlnkcoicpaaGreat
open Go.RowKit

theorem Moves.cell {w w' : World} (m : Moves [] w w') {a : Addr} {v : Value} (h : w.cell? a = some v) : w'.cell? a = some v :=
  (World.cell?_of_block (w := w) (m.block a.block (lt_of_cell h) (by simp))).trans h

/-- The block of bytes that are there is old. -/
theorem Has.lt {w : World} {g : Nat} {ad : Option Addr} {bs : List Nat} (h : Has w g ad bs) (hn : bs ≠ []) : g < w.heap.size := by
  rcases h with h | ⟨off, _, h2⟩
  · exact absurd h hn
  · cases bs with
    | nil => exact absurd rfl hn
    | cons b t => exact lt_of_cell (h2 0 b rfl)
theorem IsB.lt {w : World} {g : Nat} {v : Value} {bs : List Nat} (h : IsB w g v bs) (hn : bs ≠ []) : g < w.heap.size := by
  obtain ⟨ad, n, cap, _, _, _, _, h5⟩ := h
  exact h5.lt hn

/-- Of no bytes any block may be said. -/
theorem IsB.pick {w : World} {g : Nat} {v : Value} {bs : List Nat} (h : IsB w g v bs) (S : List Nat) (hS : bs ≠ [] → g ∉ S) : ∃ g', g' ∉ S ∧ IsB w g' v bs := by
  by_cases hn : bs = []
  · subst hn
    obtain ⟨ad, n, cap, h1, h2, h3, h4, _⟩ := h
    refine ⟨S.sum + 1, fun hx => ?_, ⟨ad, n, cap, h1, h2, h3, h4, .inl rfl⟩⟩
    have : ∀ (T : List Nat) (x : Nat), x ∈ T → x ≤ T.sum := by
      intro T
      induction T with
      | nil => intro x hx; simp at hx
      | cons y t ih =>
        intro x hx
        rcases List.mem_cons.1 hx with rfl | hx
        · simp
        · have := ih x hx; simp; omega
    have := this S _ hx
    omega
  · exact ⟨g, hS hn, h⟩

theorem Wr.lt {w : World} {p : Nat} {a : Option Nat} {bs : List Nat} (h : Wr w p a bs) {k : Nat} (hk : a = some k) : k < w.heap.size := by
  obtain ⟨v, _, h1, h2⟩ := h
  exact h2.lt (h1.trans hk)
theorem Wr.moves {w w' : World} {p : Nat} {a : Option Nat} {bs : List Nat} {S : List Nat} (h : Wr w p a bs) (m : Moves S w w') (hp : p ∉ S) (ha : ∀ k, a = some k → k ∉ S) : Wr w' p a bs := by
  obtain ⟨v, h0, h1, h2⟩ := h
  exact ⟨v, m.at h0 hp, h1, h2.moves m (fun k hk => ha k (h1.symm.trans hk))⟩

end Go.Proofs.YtcamhlnkcoicpaaGreat
/-
  What 'written' does: for every row of things it returns what the program wrote and what the document writes, both the same bytes, and true; nothing that was there is written.
-/
namespace Go.Proofs.YtcamhlnkcoicpaaGreat
open Go.RowKit

/-- Text, of bytes that lie anywhere but in the Writer. -/
theorem wtext_any (p : Nat) (a : Option Nat) (bs cs : List Nat) (g : Nat) (v : Value) (w : World) (h : Wr w p a bs) (hb : bs.length + 2000000 ≤ 1099511627776) (hc : IsB w g v cs) (hl : cs.length ≤ 1048576) (hg : g ∉ p :: a.toList) :
    Calls Tryz.prog 62 #[.pointer (some ⟨p, 0, none⟩), v] w fun e w' => e = .returned (.bool true) ∧ ∃ a', Wrote w p a w' a' (bs ++ be 4 cs.length ++ cs) :=
  wtext_w p a bs cs g v w h hb hc hl (fun e => hg (by simp [e])) (fun e => hg (by simp [e]))

end Go.Proofs.YtcamhlnkcoicpaaGreat
