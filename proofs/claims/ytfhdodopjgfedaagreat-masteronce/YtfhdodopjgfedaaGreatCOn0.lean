/-
  What clients were told, as plain data, and how a list of it, a cache, lies in memory; lists of one's own that grow, that are written in their midst. Plain facts, no program in sight but for the numbers of its types.
-/
import Derived.Test.YtfhdodopjgfedaaGreatCLi0
namespace Go.Proofs.YtfhdodopjgfedaaGreat
open Go.RowKit

structure Pt where
  c : Int
  s : Int
  a : ByteArray
def ToldC (_ : World) (c : List Value) (x : Pt) : Prop := c = [.int .i64 x.c, .int .i64 x.s, .string x.a]
def ToldsAt (w : World) (v : Value) (xs : List Pt) : Prop := ∃ css, Lies w 173 3 v css ∧ All2 (ToldC w) css xs
def GrowT (W w : World) (v : Value) (xs : List Pt) : Prop := Grow ToldC 173 3 W w v xs

theorem ToldC.any {w w' : World} {c : List Value} {x : Pt} (h : ToldC w c x) : ToldC w' c x := h
theorem ToldC.one {w : World} {c : List Value} {x : Pt} (h : ToldC w c x) : ∀ u ∈ c, u.oneCell' = true := by
  unfold ToldC at h
  subst h
  intro u hu
  simp only [List.mem_cons, List.not_mem_nil, or_false] at hu
  rcases hu with rfl | rfl | rfl <;> rfl
theorem ToldsAt.slice {w : World} {v : Value} {xs : List Pt} (h : ToldsAt w v xs) : ∃ ad cap, v = .slice ad xs.length cap ∧ xs.length ≤ cap := by
  obtain ⟨css, h1, h2⟩ := h
  obtain ⟨ad, cap, e, k⟩ := h1.slice
  rw [h2.length] at e k
  exact ⟨ad, cap, e, k⟩
/-- Element k of such a list. -/
theorem ToldsAt.at {w : World} {ad : Option Addr} {n cap : Nat} {xs : List Pt} (h : ToldsAt w (.slice ad n cap) xs) {k : Nat} {x : Pt} (hk : xs[k]? = some x) :
    ∃ g off, ad = some ⟨g, off, none⟩ ∧ w.cell? ⟨g, off + k * 3, none⟩ = some (.int .i64 x.c) ∧ w.cell? ⟨g, off + k * 3 + 1, none⟩ = some (.int .i64 x.s) ∧ w.cell? ⟨g, off + k * 3 + 2, none⟩ = some (.string x.a) := by
  obtain ⟨css, h1, h2⟩ := h
  obtain ⟨c, hc, h3⟩ := h2.get hk
  unfold ToldC at h3
  subst h3
  obtain ⟨g, off, e, h4⟩ := h1.at hc
  exact ⟨g, off, e, h4 0 _ rfl, h4 1 _ rfl, h4 2 _ rfl⟩

theorem GrowT.nil (W w : World) : GrowT W w (.slice none 0 0) [] := ⟨Fresh.nil _, [], OwnL.nil _ _ _, trivial⟩
theorem GrowT.at {W w : World} {v : Value} {xs : List Pt} (h : GrowT W w v xs) : ToldsAt w v xs := by
  obtain ⟨_, css, h1, h2⟩ := h
  exact ⟨css, Lies.ofOwn h1, h2⟩
theorem GrowT.moves {W w w' : World} {S : List Nat} (m : Moves S w w') {v : Value} {xs : List Pt} (h : GrowT W w v xs) (hv : ∀ k, v.ownBlock = some k → k ∉ S) : GrowT W w' v xs := by
  obtain ⟨h0, css, h1, h2⟩ := h
  exact ⟨h0, css, h1.moves m hv, h2.mono fun _ _ k => k.any⟩
theorem GrowT.moves0 {W w w' : World} (m : Moves [] w w') {v : Value} {xs : List Pt} (h : GrowT W w v xs) : GrowT W w' v xs := h.moves m (by simp)
theorem GrowT.slice {W w : World} {v : Value} {xs : List Pt} (h : GrowT W w v xs) : ∃ ad cap, v = .slice ad xs.length cap ∧ xs.length ≤ cap := h.at.slice
theorem GrowT.open {W w : World} {v : Value} {xs : List Pt} (h : GrowT W w v xs) : ∃ ad n cap, v = .slice ad n cap ∧ Hid (n = xs.length) ∧ n ≤ cap := by
  obtain ⟨ad, cap, rfl, hc⟩ := h.slice
  exact ⟨ad, _, cap, rfl, rfl, hc⟩
theorem GrowT.elder {W W' w : World} {v : Value} {xs : List Pt} (h : GrowT W' w v xs) (hle : W.heap.size ≤ W'.heap.size) : GrowT W w v xs := ⟨fun k hk => Nat.le_trans hle (h.1 k hk), h.2⟩

theorem told_info : (Tryz.prog.info? 173).map (fun i => (i.zero, i.size, i.bytes)) = some (some (.agg #[.int .i64 0, .int .i64 0, .string ByteArray.empty]), 3, 32) := by kernel_rfl
theorem growT_wp {o : Oper} {a : Act} {K : Act → World → Prop} {Q : Exit → Act → World → Prop} {W w : World} (s x : Operand)
    (ho : o.op = .call { callee := .builtin .append, args := #[s, x], argTypes := #[106, 106] })
    (v yv : Value) (xs ys : List Pt) (hs : a.eval s = v) (hx : a.eval x = yv)
    (hv : GrowT W w v xs) (hy : ToldsAt w yv ys) (hm : W.heap.size ≤ w.heap.size) (hb : xs.length + ys.length ≤ 1048576)
    (h : ∀ v' w', GrowT W w' v' (xs ++ ys) → Moves v.ownBlock.toList w w' → Stay (· ≠ 173) w w' → Lain w v v' → K (a.put o.dst v') w') :
    o.wp Tryz.prog a w K Q := by
  obtain ⟨ds, hd, hys⟩ := hy
  refine grow_append (W := cutTo W w) s x _ 173 _ 3 32 told_info Tryz.underlying106 rfl (by omega) (by omega) (fun _ _ _ h => h.one) (fun _ _ _ _ h _ => h.any) ho v yv xs ys ds hs hx ?_ hd hys (cutTo_moves hm) hb ?_
  · unfold GrowT Grow Fresh at hv
    unfold Grow Fresh
    rw [cutTo_size hm]
    exact hv
  · intro v' w' h1 _ h3 h4 h5
    refine h v' w' ?_ h3 h4 h5
    unfold Grow Fresh at h1
    rw [cutTo_size hm] at h1
    exact h1
theorem growT_append {ops : Array Oper} {rest : List Oper} {o : Oper} {a : Act} {Q : Exit → Act → World → Prop} {W w : World} (s x : Operand)
    (ho : o.op = .call { callee := .builtin .append, args := #[s, x], argTypes := #[106, 106] })
    (v yv : Value) (xs ys : List Pt) (hs : a.eval s = v) (hx : a.eval x = yv) (hw : Region.wanted o (yielded ops a.tmps) = true)
    (hv : GrowT W w v xs) (hy : ToldsAt w yv ys) (hm : W.heap.size ≤ w.heap.size) (hb : xs.length + ys.length ≤ 1048576)
    (h : ∀ v' w', GrowT W w' v' (xs ++ ys) → Moves v.ownBlock.toList w w' → Stay (· ≠ 173) w w' → Lain w v v' → wpList Tryz.prog ops Q rest (a.put o.dst v') w') :
    wpList Tryz.prog ops Q (o :: rest) a w := by
  refine wpList_wanted hw (wpList_plain rfl fun K hK => ?_)
  exact growT_wp s x ho v yv xs ys hs hx hv hy hm hb (fun v' w' h1 h3 h4 h5 => hK _ _ (h v' w' h1 h3 h4 h5))
/-- What a list of one's own is, opened; a list with other elements in the same block. -/
theorem GrowT.own {W w : World} {ad : Option Addr} {n cap : Nat} {xs : List Pt} (h : GrowT W w (.slice ad n cap) xs) (hpos : 0 < cap) : ∃ g cur css, ad = some ⟨g, 0, none⟩ ∧ W.heap.size ≤ g ∧ w.heap[g]? = some (.cells cur 173 (0, 0)) ∧ n = xs.length ∧ n ≤ cap ∧ cap ≤ maxLen ∧ cur.size = cap * 3 ∧ cur.toList.take (n * 3) = css.flatten ∧ (∀ c ∈ css, c.length = 3) ∧ css.length = n ∧ All2 (ToldC w) css xs := by
  obtain ⟨hf, css, h1, h2⟩ := h
  have hl := h2.length
  rcases h1.2.2 with ⟨e, _⟩ | ⟨g, cap', cur, e, _, hg, k1, k2, k3, k4⟩
  · simp at e; omega
  · simp at e
    obtain ⟨rfl, rfl, rfl⟩ := e
    exact ⟨g, cur, css, rfl, hf g rfl, hg, by omega, k1, k2, k3, k4, h1.1, rfl, h2⟩
theorem GrowT.mk' {W w : World} {g n cap : Nat} {cur : Array Value} {css : List (List Value)} {xs : List Pt} (hg : w.heap[g]? = some (.cells cur 173 (0, 0))) (hW : W.heap.size ≤ g) (hn : css.length = n) (h1 : n ≤ cap) (h2 : cap ≤ maxLen) (h3 : cur.size = cap * 3) (h4 : cur.toList.take (n * 3) = css.flatten) (h5 : ∀ c ∈ css, c.length = 3) (h6 : All2 (ToldC w) css xs) : GrowT W w (.slice (some ⟨g, 0, none⟩) n cap) xs := by
  subst hn
  refine ⟨fun k hk => by simp [Value.ownBlock] at hk; omega, css, ⟨h5, flatten_length h5, .inr ⟨g, cap, cur, rfl, Nat.zero_le _, hg, h1, h2, h3, h4⟩⟩, h6⟩
theorem GrowT.blk {W w : World} {v : Value} {xs : List Pt} (h : GrowT W w v xs) {k : Nat} (hk : v.ownBlock = some k) : ∃ cur, w.heap[k]? = some (.cells cur 173 (0, 0)) := by
  obtain ⟨_, css, h1, h2⟩ := h
  rcases h1.2.2 with ⟨e, _⟩ | ⟨g, cap', cur, e, _, hg, k1, k2, k3, k4⟩
  · rw [e] at hk; simp [Value.ownBlock] at hk
  · rw [e] at hk
    simp [Value.ownBlock] at hk
    subst hk
    exact ⟨cur, hg⟩

/-- A cache: its list, in the row of block a. -/
def CaIs (W w : World) (p : Nat) (a : Option Nat) (xs : List Pt) : Prop :=
  ∃ v, w.heap[p]? = some (.cells #[v] 108 (0, 0)) ∧ v.ownBlock = a ∧ GrowT W w v xs
/-- From w0 to w the cache at p alone was written to, and has xs now. -/
def CaTo (W w0 : World) (p : Nat) (a0 : Option Nat) (w : World) (a : Option Nat) (xs : List Pt) : Prop :=
  CaIs W w p a xs ∧ Moves (p :: a0.toList) w0 w ∧ (a = a0 ∨ ∃ k, a = some k ∧ w0.heap.size ≤ k)
theorem CaIs.ltp {W w : World} {p : Nat} {a : Option Nat} {xs : List Pt} (h : CaIs W w p a xs) : p < w.heap.size := by
  obtain ⟨v, h, _⟩ := h
  exact lt_of_block h
theorem CaIs.lta {W w : World} {p : Nat} {a : Option Nat} {xs : List Pt} (h : CaIs W w p a xs) {k : Nat} (hk : a = some k) : k < w.heap.size ∧ W.heap.size ≤ k := by
  obtain ⟨v, _, rfl, h⟩ := h
  exact ⟨h.lt hk, h.1 k hk⟩
theorem CaIs.moves {W w w' : World} {p : Nat} {a : Option Nat} {xs : List Pt} {S : List Nat} (h : CaIs W w p a xs) (m : Moves S w w') (hp : p ∉ S) (ha : ∀ k, a = some k → k ∉ S) : CaIs W w' p a xs := by
  obtain ⟨v, h1, rfl, h3⟩ := h
  exact ⟨v, m.at h1 hp, rfl, h3.moves m ha⟩
theorem CaIs.moves0 {W w w' : World} {p : Nat} {a : Option Nat} {xs : List Pt} (h : CaIs W w p a xs) (m : Moves [] w w') : CaIs W w' p a xs := h.moves m (by simp) (by simp)
theorem CaIs.apart {W w : World} {p : Nat} {a : Option Nat} {xs : List Pt} (h : CaIs W w p a xs) : p ∉ a.toList := by
  obtain ⟨v, h1, rfl, h3⟩ := h
  intro hm
  obtain ⟨cur, hc⟩ := h3.blk (Option.mem_toList.1 hm)
  rw [h1] at hc
  simp at hc
theorem CaTo.refl {W w : World} {p : Nat} {a : Option Nat} {xs : List Pt} (h : CaIs W w p a xs) : CaTo W w p a w a xs := ⟨h, Moves.refl _ _, .inl rfl⟩
theorem CaTo.same {W w w' : World} {p : Nat} {a : Option Nat} {xs : List Pt} (h : CaIs W w p a xs) (m : Moves [] w w') : CaTo W w p a w' a xs := ⟨h.moves0 m, m.mono (by simp), .inl rfl⟩
/-- By rising clients. -/
def RiseT (xs : List Pt) : Prop := xs.Pairwise (fun a b => a.c < b.c)
theorem RiseT.lt {xs : List Pt} (h : RiseT xs) {j k : Nat} {x y : Pt} (hx : xs[j]? = some x) (hy : xs[k]? = some y) (hjk : j < k) : x.c < y.c := by
  obtain ⟨h1, rfl⟩ := List.getElem?_eq_some_iff.1 hx
  obtain ⟨h2, rfl⟩ := List.getElem?_eq_some_iff.1 hy
  exact List.pairwise_iff_getElem.1 h j k h1 h2 hjk
/-- The place of a client, or where it would be. -/
structure PlaceT (xs : List Pt) (s : Int) (i : Nat) : Prop where
  le : i ≤ xs.length
  lo : ∀ k x, xs[k]? = some x → k < i → x.c < s
  hi : ∀ k x, xs[k]? = some x → i ≤ k → s ≤ x.c
def hasT (xs : List Pt) (s : Int) (i : Nat) : Bool := match xs[i]? with
  | some x => decide (x.c = s)
  | none => false
theorem RiseT.tail {x : Pt} {xs : List Pt} (h : RiseT (x :: xs)) : RiseT xs := (List.pairwise_cons.1 h).2
theorem placeT_ex (xs : List Pt) (h : RiseT xs) (s : Int) : ∃ i, PlaceT xs s i := by
  induction xs with
  | nil => exact ⟨0, ⟨by simp, by simp, by simp⟩⟩
  | cons x xs ih =>
    obtain ⟨i, hP⟩ := ih h.tail
    by_cases hx : x.c < s
    · refine ⟨i + 1, ⟨by have := hP.le; simp; omega, ?_, ?_⟩⟩
      · intro k y hy hk
        match k, hy with
        | 0, hy => simp at hy; rw [← hy]; exact hx
        | k + 1, hy => exact hP.lo k y (by simpa using hy) (by omega)
      · intro k y hy hk
        match k, hy with
        | 0, hy => omega
        | k + 1, hy => exact hP.hi k y (by simpa using hy) (by omega)
    · refine ⟨0, ⟨by simp, by intro k y _ hk; omega, ?_⟩⟩
      intro k y hy _
      match k, hy with
      | 0, hy => simp at hy; rw [← hy]; omega
      | k + 1, hy =>
        have := (List.pairwise_cons.1 h).1 y (List.mem_of_getElem? (by simpa using hy))
        omega
theorem placeT_one {xs : List Pt} {s : Int} {i j : Nat} (h1 : PlaceT xs s i) (h2 : PlaceT xs s j) : i = j := by
  rcases Nat.lt_trichotomy i j with h | h | h
  · have hi : i < xs.length := Nat.lt_of_lt_of_le h h2.le
    have e := h1.hi i _ (List.getElem?_eq_getElem hi) (Nat.le_refl _)
    have e2 := h2.lo i _ (List.getElem?_eq_getElem hi) h
    omega
  · exact h
  · have hi : j < xs.length := Nat.lt_of_lt_of_le h h1.le
    have e := h2.hi j _ (List.getElem?_eq_getElem hi) (Nat.le_refl _)
    have e2 := h1.lo j _ (List.getElem?_eq_getElem hi) h
    omega
end Go.Proofs.YtfhdodopjgfedaaGreat
