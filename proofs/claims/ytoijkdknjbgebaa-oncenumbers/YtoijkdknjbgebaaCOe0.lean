/-
  The document's own entries of clients, how a list of them lies in memory, how it grows. Plain facts, no program in sight but for the numbers of its types.
-/
import Derived.Test.YtoijkdknjbgebaaCOn5
namespace Go.Proofs.Ytoijkdknjbgebaa
open Go.RowKit

def EntC (w : World) (c : List Value) (x : Pt) : Prop := ∃ ad n cap g, c = [.int .i64 x.c, .int .i64 x.s, .slice ad n cap] ∧ IsB w g (.slice ad n cap) (zbs x.a) ∧ U8 w g (zbs x.a)
def EntsAt (w : World) (v : Value) (xs : List Pt) : Prop := ∃ css, Lies w 50 3 v css ∧ All2 (EntC w) css xs
def GrowE (W w : World) (v : Value) (xs : List Pt) : Prop := Grow EntC 50 3 W w v xs

theorem EntC.stay {T : TypeId → Prop} {w w' : World} (st : Stay T w w') (h1 : T 5) {c : List Value} {x : Pt} (h : EntC w c x) : EntC w' c x := by
  obtain ⟨ad, n, cap, g, e, k1, k2⟩ := h
  obtain ⟨j1, j2⟩ := k1.stay st h1 k2
  exact ⟨ad, n, cap, g, e, j1, j2⟩
theorem EntC.moves {w w' : World} (m : Moves [] w w') {c : List Value} {x : Pt} (h : EntC w c x) : EntC w' c x := h.stay (T := fun _ => True) (Stay.ofMoves m) trivial
theorem EntC.one {w : World} {c : List Value} {x : Pt} (h : EntC w c x) : ∀ u ∈ c, u.oneCell' = true := by
  obtain ⟨ad, n, cap, g, rfl, _⟩ := h
  intro u hu
  simp only [List.mem_cons, List.not_mem_nil, or_false] at hu
  rcases hu with rfl | rfl | rfl <;> rfl
theorem EntsAt.stay {T : TypeId → Prop} {w w' : World} (st : Stay T w w') (h1 : T 5) (h4 : T 50) {v : Value} {xs : List Pt} (h : EntsAt w v xs) : EntsAt w' v xs := by
  obtain ⟨css, k1, k2⟩ := h
  exact ⟨css, k1.stay st h4, k2.mono fun _ _ k => k.stay st h1⟩
theorem EntsAt.moves {w w' : World} (m : Moves [] w w') {v : Value} {xs : List Pt} (h : EntsAt w v xs) : EntsAt w' v xs := h.stay (T := fun _ => True) (Stay.ofMoves m) trivial trivial
theorem EntsAt.nil (w : World) : EntsAt w (.slice none 0 0) [] := ⟨[], Lies.nil _ _ _, trivial⟩
theorem EntsAt.slice {w : World} {v : Value} {xs : List Pt} (h : EntsAt w v xs) : ∃ ad cap, v = .slice ad xs.length cap ∧ xs.length ≤ cap := by
  obtain ⟨css, h1, h2⟩ := h
  obtain ⟨ad, cap, e, k⟩ := h1.slice
  rw [h2.length] at e k
  exact ⟨ad, cap, e, k⟩
theorem EntsAt.open {w : World} {v : Value} {xs : List Pt} (h : EntsAt w v xs) : ∃ ad n cap, v = .slice ad n cap ∧ Hid (n = xs.length) ∧ n ≤ cap := by
  obtain ⟨ad, cap, rfl, hc⟩ := h.slice
  exact ⟨ad, _, cap, rfl, rfl, hc⟩
/-- Element k of such a list. -/
theorem EntsAt.at {w : World} {ad : Option Addr} {n cap : Nat} {xs : List Pt} (h : EntsAt w (.slice ad n cap) xs) {k : Nat} {x : Pt} (hk : xs[k]? = some x) :
    ∃ g off a2 n2 c2, ad = some ⟨g, off, none⟩ ∧ w.cell? ⟨g, off + k * 3, none⟩ = some (.int .i64 x.c) ∧ w.cell? ⟨g, off + k * 3 + 1, none⟩ = some (.int .i64 x.s) ∧ w.cell? ⟨g, off + k * 3 + 2, none⟩ = some (.slice a2 n2 c2) ∧ EntC w [.int .i64 x.c, .int .i64 x.s, .slice a2 n2 c2] x := by
  obtain ⟨css, h1, h2⟩ := h
  obtain ⟨c, hc, h3⟩ := h2.get hk
  have h3' := h3
  obtain ⟨a2, n2, c2, g2, rfl, _⟩ := h3'
  obtain ⟨g, off, e, h4⟩ := h1.at hc
  exact ⟨g, off, a2, n2, c2, e, h4 0 _ rfl, h4 1 _ rfl, h4 2 _ rfl, h3⟩
theorem EntC.isB {w : World} {a : Option Addr} {n cap : Nat} {y z : Value} {x : Pt} (h : EntC w [y, z, .slice a n cap] x) : ∃ g, IsB w g (.slice a n cap) (zbs x.a) := by
  obtain ⟨ad, n', cap', g, e, k1, _⟩ := h
  simp at e
  obtain ⟨_, _, rfl, rfl, rfl⟩ := e
  exact ⟨g, k1⟩

theorem GrowE.nil (W w : World) : GrowE W w (.slice none 0 0) [] := ⟨Fresh.nil _, [], OwnL.nil _ _ _, trivial⟩
theorem GrowE.at {W w : World} {v : Value} {xs : List Pt} (h : GrowE W w v xs) : EntsAt w v xs := by
  obtain ⟨_, css, h1, h2⟩ := h
  exact ⟨css, Lies.ofOwn h1, h2⟩
theorem GrowE.moves0 {W w w' : World} (m : Moves [] w w') {v : Value} {xs : List Pt} (h : GrowE W w v xs) : GrowE W w' v xs := by
  obtain ⟨h0, css, h1, h2⟩ := h
  exact ⟨h0, css, h1.moves m (by simp), h2.mono fun _ _ k => k.moves m⟩
theorem GrowE.open {W w : World} {v : Value} {xs : List Pt} (h : GrowE W w v xs) : ∃ ad n cap, v = .slice ad n cap ∧ Hid (n = xs.length) ∧ n ≤ cap := h.at.open

theorem ent_info : (Try.prog.info? 50).map (fun i => (i.zero, i.size, i.bytes)) = some (some (.agg #[.int .i64 0, .int .i64 0, .slice none 0 0]), 3, 40) := by kernel_rfl
theorem growE_wp {o : Oper} {a : Act} {K : Act → World → Prop} {Q : Exit → Act → World → Prop} {W w : World} (s x : Operand)
    (ho : o.op = .call { callee := .builtin .append, args := #[s, x], argTypes := #[25, 25] })
    (v yv : Value) (xs ys : List Pt) (hs : a.eval s = v) (hx : a.eval x = yv)
    (hv : GrowE W w v xs) (hy : EntsAt w yv ys) (hm : Moves [] W w) (hb : xs.length + ys.length ≤ 1048576)
    (h : ∀ v' w', GrowE W w' v' (xs ++ ys) → Moves [] W w' → Moves v.ownBlock.toList w w' → Stay (· ≠ 50) w w' → Lain w v v' → K (a.put o.dst v') w') :
    o.wp Try.prog a w K Q := by
  obtain ⟨ds, hd, hys⟩ := hy
  exact grow_append s x _ 50 _ 3 40 ent_info Try.underlying25 rfl (by omega) (by omega) (fun _ _ _ h => h.one) (fun _ _ _ _ h hs => h.stay hs (by decide)) ho v yv xs ys ds hs hx hv hd hys hm hb h
theorem growE_append {ops : Array Oper} {rest : List Oper} {o : Oper} {a : Act} {Q : Exit → Act → World → Prop} {W w : World} (s x : Operand)
    (ho : o.op = .call { callee := .builtin .append, args := #[s, x], argTypes := #[25, 25] })
    (v yv : Value) (xs ys : List Pt) (hs : a.eval s = v) (hx : a.eval x = yv) (hw : Region.wanted o (yielded ops a.tmps) = true)
    (hv : GrowE W w v xs) (hy : EntsAt w yv ys) (hm : Moves [] W w) (hb : xs.length + ys.length ≤ 1048576)
    (h : ∀ v' w', GrowE W w' v' (xs ++ ys) → Moves [] W w' → Moves v.ownBlock.toList w w' → Stay (· ≠ 50) w w' → Lain w v v' → wpList Try.prog ops Q rest (a.put o.dst v') w') :
    wpList Try.prog ops Q (o :: rest) a w := by
  refine wpList_wanted hw (wpList_plain rfl fun K hK => ?_)
  exact growE_wp s x ho v yv xs ys hs hx hv hy hm hb (fun v' w' h1 h2 h3 h4 h5 => hK _ _ (h v' w' h1 h2 h3 h4 h5))
/-- One new element. -/
theorem ents_new (w : World) (c0 c1 c2 : Value) (x : Pt) (h : EntC w [c0, c1, c2] x) : EntsAt (w.alloc (.cells #[c0, c1, c2] 50)) (.slice (some ⟨w.heap.size, 0, none⟩) 1 1) [x] :=
  ⟨_, lies_new w [c0, c1, c2] _, h.moves ((Moves.refl _ _).alloc _), trivial⟩
theorem Own.u8 {w : World} {v : Value} {bs : List Nat} (h : Own w v bs) : ∃ g, IsB w g v bs ∧ U8 w g bs := by
  refine ⟨v.ownBlock.getD 0, h.isB, ?_⟩
  rcases h.2 with ⟨rfl, h0⟩ | ⟨g, cap, cur, rfl, hb, hgg, _⟩
  · exact .inl (List.eq_nil_of_length_eq_zero h0)
  · exact .inr ⟨cur, _, hgg⟩

/-- What a cache's writing leaves. -/
theorem CaTo.stay {W w w' : World} {p : Nat} {a a' : Option Nat} {xs ys : List Pt} (h : CaIs W w p a xs) (k : CaTo W w p a w' a' ys) : Stay (fun t => t ≠ 60 ∧ t ≠ 63) w w' := by
  refine Stay.ofMovesS k.2.1 (fun b hb c t fz hc => ?_)
  obtain ⟨v, h1, rfl, h3⟩ := h
  rcases List.mem_cons.1 hb with rfl | hb
  · rw [h1] at hc
    simp at hc
    intro hn
    exact hn.1 hc.2.1.symm
  · obtain ⟨cur, hc2⟩ := h3.blk (Option.mem_toList.1 hb)
    rw [hc2] at hc
    simp at hc
    intro hn
    exact hn.2 hc.2.1.symm
theorem EntsAt.caTo {W w w' : World} {p : Nat} {a a' : Option Nat} {xs ys zs : List Pt} {v : Value} (e : EntsAt w v zs) (h : CaIs W w p a xs) (k : CaTo W w p a w' a' ys) : EntsAt w' v zs :=
  e.stay (k.stay h) (by decide) (by decide)

/-- What the document's Keep makes of its entries. -/
def keepE (m : List Pt) (x : Pt) : List Pt := if (ofT m x.c).s < x.s then m.filter (fun y => decide (y.c ≠ x.c)) ++ [x] else m
/-- The cache and the document's entries have the same. -/
structure Agree (xs m : List Pt) : Prop where
  rise : RiseT xs
  perm : xs.Perm m
theorem Agree.one {xs m : List Pt} (h : Agree xs m) : OneT m := fun x hx y hy e => h.rise.one x (h.perm.mem_iff.2 hx) y (h.perm.mem_iff.2 hy) e
theorem Agree.of {xs m : List Pt} (h : Agree xs m) (c : Int) : ofT m c = ofT xs c := by
  rcases ofT_cases xs c with ⟨k1, k2⟩ | ⟨k1, k2⟩
  · have := ofT_mem h.one (h.perm.mem_iff.1 k1)
    rw [k2] at this
    exact this
  · rw [k1]
    exact ofT_none fun x hx => k2 x (h.perm.mem_iff.2 hx)
theorem Agree.len {xs m : List Pt} (h : Agree xs m) : m.length = xs.length := h.perm.length_eq.symm
end Go.Proofs.Ytoijkdknjbgebaa
