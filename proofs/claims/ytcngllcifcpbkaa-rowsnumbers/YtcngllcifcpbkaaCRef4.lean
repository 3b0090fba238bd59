/-
  The document's own Put of a row that may be: the call returns what its words come to, and writes nothing that was there.
-/
import Derived.Test.YtcngllcifcpbkaaCBaseW
import Derived.Test.YtcngllcifcpbkaaCPeel
namespace Go.Proofs.Ytcngllcifcpbkaa
open Go.RowKit

theorem GrowC.elder {W0 W w : World} {v : Value} {xs : List Pcol} (h : GrowC W w v xs) (m : Moves [] W0 W) : GrowC W0 w v xs := ⟨fun k hk => Nat.le_trans m.size (h.1 k hk), h.2⟩

/-- A list of columns of the call's own, opened. -/
theorem GrowC.own {W w : World} {v : Value} {xs : List Pcol} (h : GrowC W w v xs) (hpos : 0 < xs.length) : ∃ gl nl capl arr, v = .slice (some ⟨gl, 0, none⟩) nl capl ∧ Hid (nl = xs.length) ∧ nl ≤ capl ∧ w.heap[gl]? = some (.cells arr 33 (0, 0)) ∧ W.heap.size ≤ gl ∧
    ∀ k x, xs[k]? = some x → ∃ a n c, w.cell? ⟨gl, k * 2, none⟩ = some (.string x.name) ∧ w.cell? ⟨gl, k * 2 + 1, none⟩ = some (.slice a n c) ∧ VersAt w (.slice a n c) x.l ∧ n = x.l.length ∧ w.frozen? ⟨gl, k * 2 + 1, none⟩ = false := by
  have hA := h.at
  obtain ⟨hF, css, hO, hE⟩ := h
  have hl := hE.length
  rcases hO.2.2 with ⟨_, h0⟩ | ⟨g, cap, cur, rfl, hb, hgg, h1, h2, h3, h4⟩
  · omega
  · refine ⟨g, css.length, cap, cur, rfl, hl, h1, hgg, hF g rfl, fun k x hx => ?_⟩
    obtain ⟨g', off, a, n, c, e, e1, e2, e3, _, e4⟩ := hA.at hx
    simp at e
    obtain ⟨rfl, rfl⟩ := e
    rw [Nat.zero_add] at e1 e2
    exact ⟨a, n, c, e1, e2, e4, e3, by simp [World.frozen?, hgg]⟩

/-- A column's list is set in a list of the call's own. -/
theorem GrowC.set {W w : World} {gl nl capl : Nat} {xs : List Pcol} (h : GrowC W w (.slice (some ⟨gl, 0, none⟩) nl capl) xs) {i : Nat} {x : Pcol} (hx : xs[i]? = some x) {lv : Value} {l : List Pver} (hv : VersAt w lv l) :
    ColsAt (w.setCell ⟨gl, i * 2 + 1, none⟩ lv) (.slice (some ⟨gl, 0, none⟩) nl capl) (xs.set i ⟨x.name, l⟩) := by
  obtain ⟨_, css, hO, hE⟩ := h
  have hl := hE.length
  obtain ⟨c, hc, lv0, rfl, _⟩ := hE.get hx
  have hic := (List.getElem?_eq_some_iff.1 hc).1
  have hlie := Lies.ofOwn hO
  rcases hO.2.2 with ⟨e, _⟩ | ⟨g, cap, cur, e, hb, hgg, h1, h2, h3, h4⟩
  · simp at e
  · simp at e
    obtain ⟨rfl, rfl, rfl⟩ := e
    have st : Stay (fun t => t ≠ 33) w (w.setCell ⟨gl, i * 2 + 1, none⟩ lv) := Stay.set hgg (by simp) _
    have hs := heap_set (i := i * 2 + 1) hgg lv
    obtain ⟨k0, ad, cp, e1, e2, e3, e4⟩ := hlie
    rcases e4 with rfl | ⟨g', off, arr, fz, e5, e6, e7⟩
    · simp at hc
    · simp at e1
      obtain ⟨rfl, rfl⟩ := e1
      simp at e5
      obtain ⟨rfl, rfl⟩ := e5
      rw [hgg] at e6
      simp at e6
      obtain ⟨rfl, rfl⟩ := e6
      refine ⟨css.set i [.string x.name, lv], ⟨fun c hc => ?_, some ⟨gl, 0, none⟩, capl, by rw [List.length_set], by rw [List.length_set]; exact e2, fun h => by simp at h, .inr ⟨gl, 0, _, _, rfl, hs, fun k c hk j u hj => ?_⟩⟩, ?_⟩
      · rcases List.mem_or_eq_of_mem_set hc with hc | rfl
        · exact k0 c hc
        · rfl
      · rw [Nat.zero_add]
        by_cases e : i = k
        · subst e
          rw [List.getElem?_set_self hic] at hk
          simp at hk
          subst hk
          have o0 := e7 i _ hc 0 _ rfl
          have o1 := e7 i _ hc 1 _ rfl
          rw [Nat.zero_add] at o0 o1
          match j, hj with
          | 0, hj =>
            simp at hj
            subst hj
            rw [Array.getElem?_setIfInBounds_ne (by omega)]
            exact o0
          | 1, hj =>
            simp at hj
            subst hj
            rw [Array.getElem?_setIfInBounds_self_of_lt (Array.getElem?_eq_some_iff.1 o1).1]
        · rw [List.getElem?_set_ne e] at hk
          have hj2 : j < 2 := by
            have := (List.getElem?_eq_some_iff.1 hj).1
            rw [k0 c (List.mem_of_getElem? hk)] at this
            exact this
          have o := e7 k c hk j u hj
          rw [Nat.zero_add] at o
          rw [Array.getElem?_setIfInBounds_ne (by omega)]
          exact o
      · exact All2.set ⟨lv, rfl, hv.stay st (by decide) (by decide)⟩ i (hE.mono fun _ _ q => q.stay st (by decide) (by decide))

/-- An empty list that is not nil. -/
theorem GrowC.empty {W u : World} (m : Moves [] W u) : GrowC W (u.alloc (.cells #[] 33)) (.slice (some ⟨u.heap.size, 0, none⟩) 0 0) [] := by
  refine ⟨fun k hk => ?_, [], ⟨by simp, rfl, .inr ⟨u.heap.size, 0, #[], rfl, Nat.zero_le _, heap_alloc_new _ _, Nat.le_refl _, by unfold maxLen; omega, rfl, rfl⟩⟩, trivial⟩
  simp [Value.ownBlock] at hk
  subst hk
  exact m.size
theorem GrowC.empty' {W u : World} (m : Moves [] W u) (o : Obj) : GrowC W ((u.alloc o).alloc (.cells #[] 33)) (.slice (some ⟨u.heap.size + 1, 0, none⟩) 0 0) [] := by
  have := GrowC.empty (m.alloc o)
  simpa using this
/-- One column of no versions, in a box. -/
theorem cols_box {w : World} {b : Nat} {s : ByteArray} {fz : Nat × Nat} (h : w.heap[b]? = some (.cells #[.string s, .slice none 0 0] 33 fz)) : ColsAt w (.slice (some ⟨b, 0, none⟩) 1 1) [⟨s, []⟩] := by
  refine ⟨[[.string s, .slice none 0 0]], ⟨by simp, some ⟨b, 0, none⟩, 1, rfl, Nat.le_refl _, fun h => by simp at h, .inr ⟨b, 0, _, fz, rfl, h, fun k c hk j u hj => ?_⟩⟩, ⟨_, rfl, VersAt.nil _⟩, trivial⟩
  match k, hk with
  | 0, hk =>
    simp at hk
    subst hk
    simpa using hj
theorem Lies.drop {w : World} {e : TypeId} {size : Nat} {g off n cap : Nat} {css : List (List Value)} (h : Lies w e size (.slice (some ⟨g, off, none⟩) n cap) css) {k : Nat} (hk : k ≤ n) : Lies w e size (.slice (some ⟨g, off + k * size, none⟩) (n - k) (cap - k)) (css.drop k) := by
  obtain ⟨h0, ad', cap', h1, h2, h3, h4⟩ := h
  simp at h1
  obtain ⟨rfl, rfl, rfl⟩ := h1
  refine ⟨fun x hx => h0 x (List.mem_of_mem_drop hx), _, _, by rw [List.length_drop], by rw [List.length_drop]; omega, fun hn => by simp at hn, ?_⟩
  rcases h4 with rfl | ⟨g', off', arr, fz, k1, k2, k3⟩
  · exact .inl (by simp)
  · simp at k1
    obtain ⟨rfl, rfl⟩ := k1
    refine .inr ⟨g, off + k * size, arr, fz, rfl, k2, fun i x hi j u hj => ?_⟩
    rw [List.getElem?_drop] at hi
    have := k3 (k + i) x hi j u hj
    rw [Nat.add_mul, ← Nat.add_assoc] at this
    exact this
theorem ColsAt.drop {w : World} {g off n cap : Nat} {xs : List Pcol} (h : ColsAt w (.slice (some ⟨g, off, none⟩) n cap) xs) {k : Nat} (hk : k ≤ n) : ColsAt w (.slice (some ⟨g, off + k * 2, none⟩) (n - k) (cap - k)) (xs.drop k) := by
  obtain ⟨css, h1, h2⟩ := h
  exact ⟨css.drop k, h1.drop hk, h2.drop k⟩
/-- The same, as the model's slicing writes it. -/
theorem cols_if {w : World} {g n cap k : Nat} {A : Option Addr} {xs : List Pcol} (h : ColsAt w (.slice (some ⟨g, k * 2, none⟩) (n - k) (cap - k)) xs) (hn : n ≤ cap) (hA : A = if cap = k then some ⟨g, 0, none⟩ else some ⟨g, k * 2, none⟩) : ColsAt w (.slice A (n - k) (cap - k)) xs := by
  by_cases hc : cap = k
  · rw [if_pos hc] at hA
    subst hA
    have hl := h.len
    have h0 : xs = [] := List.eq_nil_of_length_eq_zero (by omega)
    subst h0
    exact ⟨[], ⟨by simp, _, _, by rw [show n - k = 0 by omega]; rfl, by simp, fun h => by simp at h, .inl rfl⟩, trivial⟩
  · rw [if_neg hc] at hA
    subst hA
    exact h
/-- The list of a column, as the document's own Put makes it. -/
def rlist (old : List Pver) (v : Pver) : List Pver := (old.takeWhile (fun x => decide (v.t < x.t)) ++ [v] ++ (old.dropWhile (fun x => decide (v.t < x.t))).filter (fun x => x.t != v.t)).take 2
end Go.Proofs.Ytcngllcifcpbkaa
