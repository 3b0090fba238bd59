/- ours -/
import Derived.Test.YtilbbnmhnacnlaaGreatCB04
/-
  What clients were told, as plain data, and how a list of it, a cache, lies in memory; lists of one's own that grow, that are written in their midst. Plain facts, no program in sight but for the numbers of its types.
-/
namespace Go.Proofs.YtilbbnmhnacnlaaGreat
open Go.RowKit

structure Pt where
  c : Int
  s : Int
  a : ByteArray
def ToldC (_ : World) (c : List Value) (x : Pt) : Prop := c = [.int .i64 x.c, .int .i64 x.s, .string x.a]
def ToldsAt (w : World) (v : Value) (xs : List Pt) : Prop := ∃ css, Lies w 173 3 v css ∧ All2 (ToldC w) css xs
def GrowT (W w : World) (v : Value) (xs : List Pt) : Prop := Grow ToldC 173 3 W w v xs

theorem ToldC.any {w w' : World} {c : List Value} {x : Pt} (h : ToldC w c x) : ToldC w' c x := h
theorem ToldC.one {w : World} {c : List Value} {x : Pt} (h : ToldC w c x) : ∀ u ∈ c, u.oneCell' = true := by
  unfold ToldC at h
  subst h
  intro u hu
  simp only [List.mem_cons, List.not_mem_nil, or_false] at hu
  rcases hu with rfl | rfl | rfl <;> rfl
theorem ToldsAt.slice {w : World} {v : Value} {xs : List Pt} (h : ToldsAt w v xs) : ∃ ad cap, v = .slice ad xs.length cap ∧ xs.length ≤ cap := by
  obtain ⟨css, h1, h2⟩ := h
  obtain ⟨ad, cap, e, k⟩ := h1.slice
  rw [h2.length] at e k
  exact ⟨ad, cap, e, k⟩
theorem ToldsAt.at {w : World} {ad : Option Addr} {n cap : Nat} {xs : List Pt} (h : ToldsAt w (.slice ad n cap) xs) {k : Nat} {x : Pt} (hk : xs[k]? = some x) :
    ∃ g off, ad = some ⟨g, off, none⟩ ∧ w.cell? ⟨g, off + k * 3, none⟩ = some (.int .i64 x.c) ∧ w.cell? ⟨g, off + k * 3 + 1, none⟩ = some (.int .i64 x.s) ∧ w.cell? ⟨g, off + k * 3 + 2, none⟩ = some (.string x.a) := by
  obtain ⟨css, h1, h2⟩ := h
  obtain ⟨c, hc, h3⟩ := h2.get hk
  unfold ToldC at h3
  subst h3
  obtain ⟨g, off, e, h4⟩ := h1.at hc
  exact ⟨g, off, e, h4 0 _ rfl, h4 1 _ rfl, h4 2 _ rfl⟩

theorem GrowT.nil (W w : World) : GrowT W w (.slice none 0 0) [] := ⟨Fresh.nil _, [], OwnL.nil _ _ _, trivial⟩
theorem GrowT.at {W w : World} {v : Value} {xs : List Pt} (h : GrowT W w v xs) : ToldsAt w v xs := by
  obtain ⟨_, css, h1, h2⟩ := h
  exact ⟨css, Lies.ofOwn h1, h2⟩
theorem GrowT.moves {W w w' : World} {S : List Nat} (m : Moves S w w') {v : Value} {xs : List Pt} (h : GrowT W w v xs) (hv : ∀ k, v.ownBlock = some k → k ∉ S) : GrowT W w' v xs := by
  obtain ⟨h0, css, h1, h2⟩ := h
  exact ⟨h0, css, h1.moves m hv, h2.mono fun _ _ k => k.any⟩
theorem GrowT.moves0 {W w w' : World} (m : Moves [] w w') {v : Value} {xs : List Pt} (h : GrowT W w v xs) : GrowT W w' v xs := h.moves m (by simp)
theorem GrowT.slice {W w : World} {v : Value} {xs : List Pt} (h : GrowT W w v xs) : ∃ ad cap, v = .slice ad xs.length cap ∧ xs.length ≤ cap := h.at.slice
theorem GrowT.open {W w : World} {v : Value} {xs : List Pt} (h : GrowT W w v xs) : ∃ ad n cap, v = .slice ad n cap ∧ Hid (n = xs.length) ∧ n ≤ cap := by
  obtain ⟨ad, cap, rfl, hc⟩ := h.slice
  exact ⟨ad, _, cap, rfl, rfl, hc⟩
theorem GrowT.elder {W W' w : World} {v : Value} {xs : List Pt} (h : GrowT W' w v xs) (hle : W.heap.size ≤ W'.heap.size) : GrowT W w v xs := ⟨fun k hk => Nat.le_trans hle (h.1 k hk), h.2⟩

theorem told_info : (Tryz.prog.info? 173).map (fun i => (i.zero, i.size, i.bytes)) = some (some (.agg #[.int .i64 0, .int .i64 0, .string ByteArray.empty]), 3, 32) := by kernel_rfl
theorem growT_wp {o : Oper} {a : Act} {K : Act → World → Prop} {Q : Exit → Act → World → Prop} {W w : World} (s x : Operand)
    (ho : o.op = .call { callee := .builtin .append, args := #[s, x], argTypes := #[106, 106] })
    (v yv : Value) (xs ys : List Pt) (hs : a.eval s = v) (hx : a.eval x = yv)
    (hv : GrowT W w v xs) (hy : ToldsAt w yv ys) (hm : W.heap.size ≤ w.heap.size) (hb : xs.length + ys.length ≤ 1048576)
    (h : ∀ v' w', GrowT W w' v' (xs ++ ys) → Moves v.ownBlock.toList w w' → Stay (· ≠ 173) w w' → Lain w v v' → K (a.put o.dst v') w') :
    o.wp Tryz.prog a w K Q := by
  obtain ⟨ds, hd, hys⟩ := hy
  refine grow_append (W := cutTo W w) s x _ 173 _ 3 32 told_info Tryz.underlying106 rfl (by omega) (by omega) (fun _ _ _ h => h.one) (fun _ _ _ _ h _ => h.any) ho v yv xs ys ds hs hx ?_ hd hys (cutTo_moves hm) hb ?_
  · unfold GrowT Grow Fresh at hv
    unfold Grow Fresh
    rw [cutTo_size hm]
    exact hv
  · intro v' w' h1 _ h3 h4 h5
    refine h v' w' ?_ h3 h4 h5
    unfold Grow Fresh at h1
    rw [cutTo_size hm] at h1
    exact h1
theorem growT_append {ops : Array Oper} {rest : List Oper} {o : Oper} {a : Act} {Q : Exit → Act → World → Prop} {W w : World} (s x : Operand)
    (ho : o.op = .call { callee := .builtin .append, args := #[s, x], argTypes := #[106, 106] })
    (v yv : Value) (xs ys : List Pt) (hs : a.eval s = v) (hx : a.eval x = yv) (hw : Region.wanted o (yielded ops a.tmps) = true)
    (hv : GrowT W w v xs) (hy : ToldsAt w yv ys) (hm : W.heap.size ≤ w.heap.size) (hb : xs.length + ys.length ≤ 1048576)
    (h : ∀ v' w', GrowT W w' v' (xs ++ ys) → Moves v.ownBlock.toList w w' → Stay (· ≠ 173) w w' → Lain w v v' → wpList Tryz.prog ops Q rest (a.put o.dst v') w') :
    wpList Tryz.prog ops Q (o :: rest) a w := by
  refine wpList_wanted hw (wpList_plain rfl fun K hK => ?_)
  exact growT_wp s x ho v yv xs ys hs hx hv hy hm hb (fun v' w' h1 h3 h4 h5 => hK _ _ (h v' w' h1 h3 h4 h5))
theorem GrowT.own {W w : World} {ad : Option Addr} {n cap : Nat} {xs : List Pt} (h : GrowT W w (.slice ad n cap) xs) (hpos : 0 < cap) : ∃ g cur css, ad = some ⟨g, 0, none⟩ ∧ W.heap.size ≤ g ∧ w.heap[g]? = some (.cells cur 173 (0, 0)) ∧ n = xs.length ∧ n ≤ cap ∧ cap ≤ maxLen ∧ cur.size = cap * 3 ∧ cur.toList.take (n * 3) = css.flatten ∧ (∀ c ∈ css, c.length = 3) ∧ css.length = n ∧ All2 (ToldC w) css xs := by
  obtain ⟨hf, css, h1, h2⟩ := h
  have hl := h2.length
  rcases h1.2.2 with ⟨e, _⟩ | ⟨g, cap', cur, e, _, hg, k1, k2, k3, k4⟩
  · simp at e; omega
  · simp at e
    obtain ⟨rfl, rfl, rfl⟩ := e
    exact ⟨g, cur, css, rfl, hf g rfl, hg, by omega, k1, k2, k3, k4, h1.1, rfl, h2⟩
theorem GrowT.mk' {W w : World} {g n cap : Nat} {cur : Array Value} {css : List (List Value)} {xs : List Pt} (hg : w.heap[g]? = some (.cells cur 173 (0, 0))) (hW : W.heap.size ≤ g) (hn : css.length = n) (h1 : n ≤ cap) (h2 : cap ≤ maxLen) (h3 : cur.size = cap * 3) (h4 : cur.toList.take (n * 3) = css.flatten) (h5 : ∀ c ∈ css, c.length = 3) (h6 : All2 (ToldC w) css xs) : GrowT W w (.slice (some ⟨g, 0, none⟩) n cap) xs := by
  subst hn
  refine ⟨fun k hk => by simp [Value.ownBlock] at hk; omega, css, ⟨h5, flatten_length h5, .inr ⟨g, cap, cur, rfl, Nat.zero_le _, hg, h1, h2, h3, h4⟩⟩, h6⟩
theorem GrowT.blk {W w : World} {v : Value} {xs : List Pt} (h : GrowT W w v xs) {k : Nat} (hk : v.ownBlock = some k) : ∃ cur, w.heap[k]? = some (.cells cur 173 (0, 0)) := by
  obtain ⟨_, css, h1, h2⟩ := h
  rcases h1.2.2 with ⟨e, _⟩ | ⟨g, cap', cur, e, _, hg, k1, k2, k3, k4⟩
  · rw [e] at hk; simp [Value.ownBlock] at hk
  · rw [e] at hk
    simp [Value.ownBlock] at hk
    subst hk
    exact ⟨cur, hg⟩

def CaIs (W w : World) (p : Nat) (a : Option Nat) (xs : List Pt) : Prop :=
  ∃ v, w.heap[p]? = some (.cells #[v] 108 (0, 0)) ∧ v.ownBlock = a ∧ GrowT W w v xs
def CaTo (W w0 : World) (p : Nat) (a0 : Option Nat) (w : World) (a : Option Nat) (xs : List Pt) : Prop :=
  CaIs W w p a xs ∧ Moves (p :: a0.toList) w0 w ∧ (a = a0 ∨ ∃ k, a = some k ∧ w0.heap.size ≤ k)
theorem CaIs.ltp {W w : World} {p : Nat} {a : Option Nat} {xs : List Pt} (h : CaIs W w p a xs) : p < w.heap.size := by
  obtain ⟨v, h, _⟩ := h
  exact lt_of_block h
theorem CaIs.lta {W w : World} {p : Nat} {a : Option Nat} {xs : List Pt} (h : CaIs W w p a xs) {k : Nat} (hk : a = some k) : k < w.heap.size ∧ W.heap.size ≤ k := by
  obtain ⟨v, _, rfl, h⟩ := h
  exact ⟨h.lt hk, h.1 k hk⟩
theorem CaIs.moves {W w w' : World} {p : Nat} {a : Option Nat} {xs : List Pt} {S : List Nat} (h : CaIs W w p a xs) (m : Moves S w w') (hp : p ∉ S) (ha : ∀ k, a = some k → k ∉ S) : CaIs W w' p a xs := by
  obtain ⟨v, h1, rfl, h3⟩ := h
  exact ⟨v, m.at h1 hp, rfl, h3.moves m ha⟩
theorem CaIs.moves0 {W w w' : World} {p : Nat} {a : Option Nat} {xs : List Pt} (h : CaIs W w p a xs) (m : Moves [] w w') : CaIs W w' p a xs := h.moves m (by simp) (by simp)
theorem CaIs.apart {W w : World} {p : Nat} {a : Option Nat} {xs : List Pt} (h : CaIs W w p a xs) : p ∉ a.toList := by
  obtain ⟨v, h1, rfl, h3⟩ := h
  intro hm
  obtain ⟨cur, hc⟩ := h3.blk (Option.mem_toList.1 hm)
  rw [h1] at hc
  simp at hc
theorem CaTo.refl {W w : World} {p : Nat} {a : Option Nat} {xs : List Pt} (h : CaIs W w p a xs) : CaTo W w p a w a xs := ⟨h, Moves.refl _ _, .inl rfl⟩
theorem CaTo.same {W w w' : World} {p : Nat} {a : Option Nat} {xs : List Pt} (h : CaIs W w p a xs) (m : Moves [] w w') : CaTo W w p a w' a xs := ⟨h.moves0 m, m.mono (by simp), .inl rfl⟩
def RiseT (xs : List Pt) : Prop := xs.Pairwise (fun a b => a.c < b.c)
theorem RiseT.lt {xs : List Pt} (h : RiseT xs) {j k : Nat} {x y : Pt} (hx : xs[j]? = some x) (hy : xs[k]? = some y) (hjk : j < k) : x.c < y.c := by
  obtain ⟨h1, rfl⟩ := List.getElem?_eq_some_iff.1 hx
  obtain ⟨h2, rfl⟩ := List.getElem?_eq_some_iff.1 hy
  exact List.pairwise_iff_getElem.1 h j k h1 h2 hjk
structure PlaceT (xs : List Pt) (s : Int) (i : Nat) : Prop where
  le : i ≤ xs.length
  lo : ∀ k x, xs[k]? = some x → k < i → x.c < s
  hi : ∀ k x, xs[k]? = some x → i ≤ k → s ≤ x.c
def hasT (xs : List Pt) (s : Int) (i : Nat) : Bool := match xs[i]? with
  | some x => decide (x.c = s)
  | none => false
theorem RiseT.tail {x : Pt} {xs : List Pt} (h : RiseT (x :: xs)) : RiseT xs := (List.pairwise_cons.1 h).2
theorem placeT_ex (xs : List Pt) (h : RiseT xs) (s : Int) : ∃ i, PlaceT xs s i := by
  induction xs with
  | nil => exact ⟨0, ⟨by simp, by simp, by simp⟩⟩
  | cons x xs ih =>
    obtain ⟨i, hP⟩ := ih h.tail
    by_cases hx : x.c < s
    · refine ⟨i + 1, ⟨by have := hP.le; simp; omega, ?_, ?_⟩⟩
      · intro k y hy hk
        match k, hy with
        | 0, hy => simp at hy; rw [← hy]; exact hx
        | k + 1, hy => exact hP.lo k y (by simpa using hy) (by omega)
      · intro k y hy hk
        match k, hy with
        | 0, hy => omega
        | k + 1, hy => exact hP.hi k y (by simpa using hy) (by omega)
    · refine ⟨0, ⟨by simp, by intro k y _ hk; omega, ?_⟩⟩
      intro k y hy _
      match k, hy with
      | 0, hy => simp at hy; rw [← hy]; omega
      | k + 1, hy =>
        have := (List.pairwise_cons.1 h).1 y (List.mem_of_getElem? (by simpa using hy))
        omega
theorem placeT_one {xs : List Pt} {s : Int} {i j : Nat} (h1 : PlaceT xs s i) (h2 : PlaceT xs s j) : i = j := by
  rcases Nat.lt_trichotomy i j with h | h | h
  · have hi : i < xs.length := Nat.lt_of_lt_of_le h h2.le
    have e := h1.hi i _ (List.getElem?_eq_getElem hi) (Nat.le_refl _)
    have e2 := h2.lo i _ (List.getElem?_eq_getElem hi) h
    omega
  · exact h
  · have hi : j < xs.length := Nat.lt_of_lt_of_le h h1.le
    have e := h2.hi j _ (List.getElem?_eq_getElem hi) (Nat.le_refl _)
    have e2 := h1.lo j _ (List.getElem?_eq_getElem hi) h
    omega
end Go.Proofs.YtilbbnmhnacnlaaGreat
/-
  Where a client is in a cache, or would be: the library's search, the cache's place.
-/
namespace Go.Proofs.YtilbbnmhnacnlaaGreat
open Go.RowKit

def ocmp (a b : Int) : Int := if a < b then -1 else if b < a then 1 else 0
theorem ocmp_lt (a b : Int) : decide (ocmp a b < 0) = decide (a < b) := by
  unfold ocmp
  by_cases h1 : a < b
  · simp [h1]
  · by_cases h2 : b < a <;> simp [h1, h2]
theorem ocmp_eq (a b : Int) : (ocmp a b == 0) = decide (a = b) := by
  unfold ocmp
  by_cases h1 : a < b
  · have : a ≠ b := by omega
    simp [h1, this]
  · by_cases h2 : b < a
    · have : a ≠ b := by omega
      simp [h1, h2, this]
    · have : a = b := by omega
      simp [this]

theorem compareI_w (x y : Int) (w : World) :
    Calls Tryz.prog 167 #[.int .i64 x, .int .i64 y] w fun e w' => e = .returned (.int .i64 (ocmp x y)) ∧ w = w' := by
  unfold ocmp
  by_cases h1 : x < y
  · rw [if_pos h1]
    go_enter Tryz.func167, Tryz.ntmps167
    go_wp2
    all_goals (go_ret; exact ⟨rfl, rfl⟩)
  · rw [if_neg h1]
    by_cases h2 : y < x
    · rw [if_pos h2]
      go_enter Tryz.func167, Tryz.ntmps167
      go_wp2
      all_goals (go_ret; exact ⟨rfl, rfl⟩)
    · rw [if_neg h2]
      go_enter Tryz.func167, Tryz.ntmps167
      go_wp2
      all_goals (go_ret; exact ⟨rfl, rfl⟩)

set_option maxRecDepth 100000 in
theorem oplace1_w (x : Pt) (s : Int) (w : World) : Calls Tryz.prog 166 #[.agg #[.int .i64 x.c, .int .i64 x.s, .string x.a], .int .i64 s] w fun e w' => e = .returned (.int .i64 (ocmp x.c s)) ∧ Moves [] w w' := by
  go_enter Tryz.func166, Tryz.ntmps166
  go_wp2_with (go_at_call 167; refine (compareI_w _ _ _).mono ?_; rintro _ _ ⟨rfl, rfl⟩)
  go_ret
  exact ⟨rfl, (Moves.refl _ _).alloc _⟩

set_option maxRecDepth 100000 in
set_option maxHeartbeats 4000000 in
theorem osearch_w (W w : World) (ad : Option Addr) (n cap : Nat) (xs : List Pt) (s : Int) (h : ToldsAt W (.slice ad n cap) xs) (hn : n = xs.length) (m : Moves [] W w) (hr : RiseT xs) (hl : n ≤ 1000000) :
    Calls Tryz.prog 165 #[.slice ad n cap, .int .i64 s, .func (.func 166) #[] #[]] w fun e w' => ∃ i : Nat, e = .returned (.tuple #[.int .i64 (i : Int), .bool (hasT xs s i)]) ∧ PlaceT xs s i ∧ Moves [] w w' := by
  have HN : Hid (n = xs.length) := hn
  have HH : Hid (ToldsAt W (.slice ad n cap) xs) := h
  have HW : Hid (Moves [] W w) := m
  have hcf : ∀ (args : Array Value) (w : World), (callFunc 166 args).run Tryz.prog w = .ok (.enter 166 args) w := fun _ _ => rfl
  clear hn h m
  go_enter Tryz.func165, Tryz.ntmps165
  go_wp2_with fail
  go_loopw [9, 10] (fun vi vj wr => ∃ (i j : Nat), i ≤ j ∧ j ≤ n ∧ vi = .int .i64 (i : Nat) ∧ vj = .int .i64 (j : Nat) ∧ Moves [] w wr ∧ (∀ k x, xs[k]? = some x → k < i → x.c < s) ∧ (∀ k x, xs[k]? = some x → j ≤ k → s ≤ x.c)) (fun vi vj _ => (intOf vj - intOf vi).toNat)
  case atStart => exact ⟨0, n, Nat.zero_le _, Nat.le_refl _, rfl, rfl, Moves.refl _ _, fun k x _ hk => absurd hk (by omega), fun k x hx hk => by have := (List.getElem?_eq_some_iff.1 hx).1; have := HN.out; omega⟩
  case round =>
    obtain ⟨i, j, hij, hjn, rfl, rfl, mr, hlo, hhi⟩ := hrel
    have HLO : Hid (∀ k x, xs[k]? = some x → k < i → x.c < s) := hlo
    have HHI : Hid (∀ k x, xs[k]? = some x → j ≤ k → s ≤ x.c) := hhi
    clear hlo hhi
    by_cases hlt : i < j
    · have hk3 : (i : Int) < j := by omega
      obtain ⟨q, hq⟩ : ∃ q, q = (i + j) / 2 := ⟨_, rfl⟩
      have hqi : i ≤ q := by omega
      have hqj : q < j := by omega
      have hqn : (q : Int) < n := by omega
      have hmid : ((i : Int) + (j : Int)) / 2 = (q : Int) := by omega
      have hmid2 : ((i : Int) + (j : Int)) / 2 ^ 1 = (q : Int) := by omega
      obtain ⟨x, hx⟩ : ∃ x, xs[q]? = some x := ⟨_, List.getElem?_eq_getElem (by have := HN.out; omega)⟩
      obtain ⟨g, off, rfl, y0, y1, y2⟩ := HH.out.at hx
      have z0 := (HW.out.then mr).cell y0
      have z1 := (HW.out.then mr).cell y1
      have z2 := (HW.out.then mr).cell y2
      have HX : Hid (xs[q]? = some x) := hx
      have hsl := ocmp_lt x.c s
      obtain ⟨sc, hsc⟩ : ∃ sc, ocmp x.c s = sc := ⟨_, rfl⟩
      rw [hsc] at hsl
      have HSC : Hid (ocmp x.c s = sc) := hsc
      have HSL : Hid (decide (sc < 0) = decide (x.c < s)) := hsl
      clear hx y0 y1 y2 hsc hsl hq
      by_cases hs : sc < 0
      · go_wp2_with (go_at_call 166; refine (oplace1_w x _ _).mono ?_; rintro _ w2 ⟨rfl, m2⟩; rw [HSC.out])
        go_roundw
        case rel =>
          refine ⟨q + 1, j, by omega, hjn, by go_num, rfl, mr.then m2, fun k y hy hk => ?_, HHI.out⟩
          have hxs : x.c < s := by have := HSL.out; rw [decide_eq_true hs] at this; exact of_decide_eq_true this.symm
          by_cases e : k = q
          · subst e; rw [HX.out] at hy; simp at hy; subst hy; exact hxs
          · exact Int.lt_trans (hr.lt hy HX.out (by omega)) hxs
        case measure => simp [intOf]; omega
      · go_wp2_with (go_at_call 166; refine (oplace1_w x _ _).mono ?_; rintro _ w2 ⟨rfl, m2⟩; rw [HSC.out])
        go_roundw
        case rel =>
          refine ⟨i, q, by omega, by omega, rfl, rfl, mr.then m2, HLO.out, fun k y hy hk => ?_⟩
          have hxs : ¬ x.c < s := by have := HSL.out; rw [decide_eq_false (show ¬ sc < 0 by omega)] at this; exact of_decide_eq_false this.symm
          by_cases e : k = q
          · subst e; rw [HX.out] at hy; simp at hy; subst hy; omega
          · have := hr.lt HX.out hy (by omega)
            omega
        case measure => simp [intOf]; omega
    · have hk3 : ¬ (i : Int) < j := by omega
      obtain rfl : i = j := by omega
      have HP : Hid (PlaceT xs s i) := ⟨by have := HN.out; omega, HLO.out, HHI.out⟩
      by_cases hin : i < n
      · have hin3 : (i : Int) < n := by omega
        obtain ⟨x, hx⟩ : ∃ x, xs[i]? = some x := ⟨_, List.getElem?_eq_getElem (by have := HN.out; omega)⟩
        obtain ⟨g, off, rfl, y0, y1, y2⟩ := HH.out.at hx
        have z0 := (HW.out.then mr).cell y0
        have z1 := (HW.out.then mr).cell y1
        have z2 := (HW.out.then mr).cell y2
        have HA : Hid (hasT xs s i = (ocmp x.c s == 0)) := by unfold Hid hasT; rw [hx, ocmp_eq]
        clear hx y0 y1 y2
        go_wp2_with (go_at_call 166; refine (oplace1_w x _ _).mono ?_; rintro _ w2 ⟨rfl, m2⟩)
        go_ret2
        exact ⟨i, by rw [HA.out]; rfl, HP.out, mr.then m2⟩
      · have hin3 : ¬ (i : Int) < n := by omega
        have HA : Hid (hasT xs s i = false) := by unfold Hid hasT; rw [List.getElem?_eq_none (by have := HN.out; omega)]
        go_wp2_with fail
        go_ret2
        exact ⟨i, by rw [HA.out]; rfl, HP.out, mr⟩

set_option maxRecDepth 100000 in
theorem oplace_w (W w : World) (p : Nat) (a : Option Nat) (xs : List Pt) (s : Int) (i : Nat) (h : CaIs W w p a xs) (hr : RiseT xs) (hl : xs.length ≤ 1000000) (hi : PlaceT xs s i) :
    Calls Tryz.prog 130 #[.pointer (some ⟨p, 0, none⟩), .int .i64 s] w fun e w' => e = .returned (.tuple #[.int .i64 (i : Int), .bool (hasT xs s i)]) ∧ Moves [] w w' := by
  obtain ⟨v, hp, _, hG⟩ := h
  obtain ⟨ad, n, cap, rfl, hn, _⟩ := hG.open
  obtain ⟨c0, _⟩ := one_cell hp
  have hS := osearch_w w w ad n cap xs s hG.at hn.out (Moves.refl _ _) hr (by rw [hn.out]; exact hl)
  have HI : Hid (PlaceT xs s i) := hi
  go_enter Tryz.func130, Tryz.ntmps130
  go_wp2_with (go_at_call 165; refine hS.mono ?_; rintro _ w2 ⟨j, rfl, hP, m2⟩; rw [← placeT_one HI.out hP])
  go_ret2
  exact ⟨rfl, m2⟩
end Go.Proofs.YtilbbnmhnacnlaaGreat
