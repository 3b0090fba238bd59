/-
  Lists of texts: as they are handed in, and of the call's own.
-/
import Derived.Test.YtbjbljkcodkebaaCSpV
import Derived.Test.YtbjbljkcodkebaaCBaseR
namespace Go.Proofs.Ytbjbljkcodkebaa
open Go.RowKit
open Go.ChangeShapes Go.WideShapes

/-- These texts lie there, one behind the other. -/
def StrsAt (w : World) (ad : Option Addr) (ss : List ByteArray) : Prop := ∀ (k : Nat) s, ss[k]? = some s → ∃ g off, ad = some ⟨g, off, none⟩ ∧ w.cell? ⟨g, off + k, none⟩ = some (.string s)
/-- A list of texts of the call's own. -/
def OwnZ (w : World) (v : Value) (ss : List ByteArray) : Prop := w.ownsRow 0 9 1 v ss.length (ss.map Value.string)
theorem OwnZ.moves {w w' : World} {v : Value} {ss : List ByteArray} {S : List Nat} (h : OwnZ w v ss) (m : Moves S w w') (hg : ∀ k, v.ownBlock = some k → k ∉ S) : OwnZ w' v ss := by
  refine ⟨h.1, ?_⟩
  rcases h.2 with hn | ⟨g, cap, cur, rfl, hb, hgg, rest⟩
  · exact .inl hn
  · exact .inr ⟨g, cap, cur, rfl, hb, m.at hgg (hg g rfl), rest⟩
theorem OwnZ.at {w : World} {v : Value} {ss : List ByteArray} (h : OwnZ w v ss) : ∃ ad cap, v = .slice ad ss.length cap ∧ ss.length ≤ cap ∧ StrsAt w ad ss := by
  rcases h.2 with ⟨rfl, h0⟩ | ⟨g, cap, cur, rfl, hb, hgg, h1, h2, h3, h4⟩
  · have : ss = [] := List.eq_nil_of_length_eq_zero h0
    subst this
    exact ⟨none, 0, rfl, Nat.le_refl _, fun k s hs => by simp at hs⟩
  · refine ⟨_, cap, rfl, h1, fun k s hs => ?_⟩
    have hlt := (List.getElem?_eq_some_iff.1 hs).1
    have e1 : (ss.map Value.string)[k]? = some (.string s) := by rw [List.getElem?_map, hs]; rfl
    rw [← h4, List.getElem?_take, if_pos (by omega)] at e1
    exact ⟨g, 0, rfl, by simp only [World.cell?, hgg, Nat.zero_add]; simpa using e1⟩
theorem Try.info9 : (Try.prog.info? 9).map (fun i => (i.zero, i.size, i.bytes)) = some (some (.string ⟨#[]⟩), 1, 16) := by kernel_rfl

/-- append to a list of the call's own, whatever is appended. -/
theorem strs_append {ops : Array Oper} {rest : List Oper} {o : Oper} {a : Act} {Q : Exit → Act → World → Prop} {w : World} (s x : Operand)
    (ho : o.op = .call { callee := .builtin .append, args := #[s, x], argTypes := #[49, 49] })
    (v : Value) (ad : Option Addr) (n cap : Nat) (xs ys : List ByteArray) (hs : a.eval s = v) (hx : a.eval x = .slice ad n cap) (hw : Region.wanted o (yielded ops a.tmps) = true)
    (hv : OwnZ w v xs) (hc : StrsAt w ad ys) (hn : n = ys.length) (hnil : ad = none → cap = 0) (hb : xs.length + ys.length ≤ 1000000)
    (h : ∀ v' w', OwnZ w' v' (xs ++ ys) → Moves v.ownBlock.toList w w' → Lain w v v' → wpList Try.prog ops Q rest (a.put o.dst v') w') :
    wpList Try.prog ops Q (o :: rest) a w := by
  refine wpList_wanted hw ?_
  obtain ⟨i0, hi, hz0, hz1, hz2⟩ := info_parts Try.info9
  have fin : ∀ v' w', w'.ownsRow 0 9 1 v' (xs.length + ys.length) (xs.map Value.string ++ ys.map Value.string) → w.grownBy w' v.ownBlock → Lain w v v' → wpList Try.prog ops Q rest (a.put o.dst v') w' := by
    intro v' w' h1 h2 h3
    refine h v' w' ?_ ?_ h3
    · unfold OwnZ; rw [List.map_append, List.length_append]; exact h1
    · exact (Moves.refl _ _).grown h2 (fun k hk => .inl (by rw [hk]; simp))
  cases ad with
  | none =>
    have hys : ys = [] := by
      cases ys with
      | nil => rfl
      | cons y t => obtain ⟨_, _, h1, _⟩ := hc 0 y rfl; simp at h1
    subst hys
    obtain rfl : cap = 0 := hnil rfl
    simp at hn
    subst hn
    refine wpList_append_own_none rfl s x 49 ho 0 9 i0 1 Try.underlying49 hi v xs.length (xs.map Value.string) hs hv hx ?_
    exact fin v w (by simpa [OwnZ] using hv) (World.grownBy.refl _ _) (.inl rfl)
  | some y =>
    refine wpList_append_own_at _ rfl s x 49 ho 0 9 i0 (.string ⟨#[]⟩) 1 16 Try.underlying49 hi hz0 hz1 hz2 rfl (by decide) v xs.length (xs.map Value.string) hs hv y ys.length cap (ys.map Value.string) (by rw [hx, hn]) (by simp) ?_ (fun u hu => by simp only [List.mem_map] at hu; obtain ⟨b, _, rfl⟩ := hu; rfl) (by unfold maxLen; omega) (by omega) (by simp) ?_
    · intro j u hj
      simp only [List.getElem?_map, Option.map_eq_some_iff] at hj
      obtain ⟨z, hz, rfl⟩ := hj
      obtain ⟨g, off, e1, e2⟩ := hc j z hz
      simp only [Option.some.injEq] at e1
      subst e1
      have e : (⟨g, off, none⟩ : Addr).add j = ⟨g, off + j, none⟩ := by unfold Addr.add; split <;> simp_all
      rw [e]; exact e2
    · intro v' w' h1 h2 _ h4
      exact fin v' w' h1 h2 h4

end Go.Proofs.Ytbjbljkcodkebaa
