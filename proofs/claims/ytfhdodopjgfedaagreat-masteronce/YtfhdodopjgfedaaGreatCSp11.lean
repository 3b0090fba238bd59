/-
  Lists of spans that the call itself makes: they grow by append.
-/
import Derived.Test.YtfhdodopjgfedaaGreatCSp9
namespace Go.Proofs.YtfhdodopjgfedaaGreat
open Go.RowKit

/-- A list of spans of the call's own. -/
def OwnS (w : World) (v : Value) (xs : List Psp) : Prop := w.ownsRow 0 37 2 v xs.length (spCells xs)
theorem spCells_append : ∀ (a b : List Psp), spCells (a ++ b) = spCells a ++ spCells b
  | [], b => rfl
  | x :: a, b => by simp [spCells, spCells_append a b]
theorem spCells_length : ∀ a : List Psp, (spCells a).length = a.length * 2
  | [] => rfl
  | x :: a => by simp [spCells, spCells_length a]; omega
theorem spCells_one : ∀ (a : List Psp), ∀ u ∈ spCells a, u.oneCell' = true
  | [], u, h => by simp [spCells] at h
  | x :: a, u, h => by
    simp only [spCells, List.mem_cons] at h
    rcases h with rfl | rfl | h
    · rfl
    · rfl
    · exact spCells_one a u h
theorem spCells_get : ∀ (xs : List Psp) (j : Nat) (u : Value), (spCells xs)[j]? = some u → ∃ (k : Nat) (s : Psp), xs[k]? = some s ∧ ((j = k * 2 ∧ u = .string s.lo) ∨ (j = k * 2 + 1 ∧ u = .string s.hi))
  | [], j, u, h => by simp [spCells] at h
  | x :: t, 0, u, h => by simp [spCells] at h; exact ⟨0, x, rfl, .inl ⟨rfl, h.symm⟩⟩
  | x :: t, 1, u, h => by simp [spCells] at h; exact ⟨0, x, rfl, .inr ⟨rfl, h.symm⟩⟩
  | x :: t, j + 2, u, h => by
    obtain ⟨k, s, h1, h2⟩ := spCells_get t j u (by simpa [spCells] using h)
    refine ⟨k + 1, s, by simpa using h1, ?_⟩
    rcases h2 with ⟨rfl, h2⟩ | ⟨rfl, h2⟩
    · exact .inl ⟨by omega, h2⟩
    · exact .inr ⟨by omega, h2⟩
theorem OwnS.nil (w : World) : OwnS w (.slice none 0 0) [] := by unfold OwnS; exact World.ownsRow_nil _ _ _ _
theorem OwnS.moves {w w' : World} {v : Value} {xs : List Psp} {S : List Nat} (h : OwnS w v xs) (m : Moves S w w') (hg : ∀ k, v.ownBlock = some k → k ∉ S) : OwnS w' v xs := by
  refine ⟨h.1, ?_⟩
  rcases h.2 with hn | ⟨g, cap, cur, rfl, hb, hgg, rest⟩
  · exact .inl hn
  · exact .inr ⟨g, cap, cur, rfl, hb, m.at hgg (hg g rfl), rest⟩
theorem OwnS.at {w : World} {v : Value} {xs : List Psp} (h : OwnS w v xs) : ∃ ad cap, v = .slice ad xs.length cap ∧ xs.length ≤ cap ∧ (ad = none → cap = 0) ∧ SpsAt w ad xs := by
  rcases h.2 with ⟨rfl, h0⟩ | ⟨g, cap, cur, rfl, hb, hgg, h1, h2, h3, h4⟩
  · have : xs = [] := List.eq_nil_of_length_eq_zero h0
    subst this
    exact ⟨none, 0, rfl, Nat.le_refl _, fun _ => rfl, fun k s hs => by simp at hs⟩
  · refine ⟨_, cap, rfl, h1, fun h => by simp at h, fun k s hs => ?_⟩
    have hlt := (List.getElem?_eq_some_iff.1 hs).1
    obtain ⟨e1, e2⟩ := spCells_at xs k s hs
    rw [← h4, List.getElem?_take, if_pos (by omega)] at e1 e2
    exact ⟨g, 0, rfl, by simp only [World.cell?, hgg, Nat.zero_add]; simpa using e1, by simp only [World.cell?, hgg, Nat.zero_add]; simpa using e2⟩
theorem Tryz.info37 : (Tryz.prog.info? 37).map (fun i => (i.zero, i.size, i.bytes)) = some (some (.agg #[.string ⟨#[]⟩, .string ⟨#[]⟩]), 2, 32) := by kernel_rfl

/-- append to a list of the call's own, whatever is appended. -/
theorem spans_append {ops : Array Oper} {rest : List Oper} {o : Oper} {a : Act} {Q : Exit → Act → World → Prop} {w : World} (s x : Operand)
    (ho : o.op = .call { callee := .builtin .append, args := #[s, x], argTypes := #[50, 50] })
    (v : Value) (ad : Option Addr) (n cap : Nat) (xs ys : List Psp) (hs : a.eval s = v) (hx : a.eval x = .slice ad n cap) (hw : Region.wanted o (yielded ops a.tmps) = true)
    (hv : OwnS w v xs) (hc : SpsAt w ad ys) (hn : n = ys.length) (hnil : ad = none → cap = 0) (hb : xs.length + ys.length ≤ 1099511627776)
    (h : ∀ v' w', OwnS w' v' (xs ++ ys) → Moves v.ownBlock.toList w w' → Lain w v v' → wpList Tryz.prog ops Q rest (a.put o.dst v') w') :
    wpList Tryz.prog ops Q (o :: rest) a w := by
  refine wpList_wanted hw ?_
  obtain ⟨i0, hi, hz0, hz1, hz2⟩ := info_parts Tryz.info37
  have fin : ∀ v' w', w'.ownsRow 0 37 2 v' (xs.length + ys.length) (spCells xs ++ spCells ys) → w.grownBy w' v.ownBlock → Lain w v v' → wpList Tryz.prog ops Q rest (a.put o.dst v') w' := by
    intro v' w' h1 h2 h3
    refine h v' w' ?_ ?_ h3
    · unfold OwnS; rw [spCells_append, List.length_append]; exact h1
    · exact (Moves.refl _ _).grown h2 (fun k hk => .inl (by rw [hk]; simp))
  cases ad with
  | none =>
    have hys : ys = [] := by
      cases ys with
      | nil => rfl
      | cons y t => obtain ⟨_, _, h1, _⟩ := hc 0 y rfl; simp at h1
    subst hys
    obtain rfl : cap = 0 := hnil rfl
    simp at hn
    subst hn
    refine wpList_append_own_none rfl s x 50 ho 0 37 i0 2 Tryz.underlying50 hi v xs.length (spCells xs) hs hv hx ?_
    exact fin v w (by simpa [spCells, OwnS] using hv) (World.grownBy.refl _ _) (.inl rfl)
  | some y =>
    refine wpList_append_own_at _ rfl s x 50 ho 0 37 i0 (.agg #[.string ⟨#[]⟩, .string ⟨#[]⟩]) 2 32 Tryz.underlying50 hi hz0 hz1 hz2 rfl (by decide) v xs.length (spCells xs) hs hv y ys.length cap (spCells ys) (by rw [hx, hn]) (by rw [spCells_length]) ?_ (spCells_one ys) (by unfold maxLen; omega) (by omega) (by simp) ?_
    · intro j u hj
      obtain ⟨k, z, hk, hz⟩ := spCells_get ys j u hj
      obtain ⟨g, off, e1, e2, e3⟩ := hc k z hk
      simp only [Option.some.injEq] at e1
      subst e1
      rcases hz with ⟨rfl, rfl⟩ | ⟨rfl, rfl⟩
      · have e : (⟨g, off, none⟩ : Addr).add (k * 2) = ⟨g, off + k * 2, none⟩ := by unfold Addr.add; split <;> simp_all
        rw [e]; exact e2
      · have e : (⟨g, off, none⟩ : Addr).add (k * 2 + 1) = ⟨g, off + k * 2 + 1, none⟩ := by unfold Addr.add; split <;> simp_all [Nat.add_assoc]
        rw [e]; exact e3
    · intro v' w' h1 h2 _ h4
      exact fin v' w' h1 h2 h4
end Go.Proofs.YtfhdodopjgfedaaGreat
