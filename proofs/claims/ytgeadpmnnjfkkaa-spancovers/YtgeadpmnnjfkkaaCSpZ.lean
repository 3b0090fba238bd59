/-
  Lists of texts: as they are handed in, and of the call's own.
-/
import Derived.Test.YtgeadpmnnjfkkaaCSpV
import Derived.Test.YtgeadpmnnjfkkaaCBaseR
namespace Go.Proofs.Ytgeadpmnnjfkkaa
open Go.RowKit
open Go.ChangeShapes Go.WideShapes

/-- These texts lie there, one behind the other. -/
def StrsAt (w : World) (ad : Option Addr) (ss : List ByteArray) : Prop := ∀ (k : Nat) s, ss[k]? = some s → ∃ g off, ad = some ⟨g, off, none⟩ ∧ w.cell? ⟨g, off + k, none⟩ = some (.string s)
theorem StrsAt.moves {w w' : World} {ad : Option Addr} {ss : List ByteArray} (h : StrsAt w ad ss) (m : Moves [] w w') : StrsAt w' ad ss := by
  intro k s hs
  obtain ⟨g, off, h1, h2⟩ := h k s hs
  exact ⟨g, off, h1, m.cell h2⟩
theorem StrsAt.first {w : World} {ad : Option Addr} {ss : List ByteArray} (h : StrsAt w ad ss) (i : Nat) : StrsAt w ad (ss.take i) := fun k s hs => h k s (by
  rw [List.getElem?_take] at hs
  split at hs
  · exact hs
  · simp at hs)
/-- A list of texts that was handed in. -/
def ZArgs (W : World) (v : Value) : Prop := ∃ ad ss cap, v = .slice ad ss.length cap ∧ ss.length ≤ cap ∧ (ad = none → cap = 0) ∧ StrsAt W ad ss
set_option maxRecDepth 100000 in
theorem zargs_of_raw {H : Type} {enc : TypeId × Value → H} {W : World} {base fuel : Nat} {spare : Nat → Bool} {held : Bool} {v : Value} {x : DataW H × List MemPlace}
    (h : DataW.trod enc Try.prog W base spare held fuel 24 [v] = some x) : ZArgs W v := by
  rcases Go.Deep.open_slice1 Try.underlying24 (by kernel_rfl) h with ⟨hcs, _⟩ | ⟨ad, len, cap, m, n, V, D, Pls, hcs, _, hl, hm, hmm, _, hx⟩
  · simp at hcs
    subst hcs
    exact ⟨none, [], 0, rfl, Nat.le_refl _, fun _ => rfl, fun k s hs => by simp at hs⟩
  · simp at hcs
    subst hcs
    have hlm : len ≤ m := by rw [hmm]; split <;> omega
    have key : ∀ k, k < len → ∃ s : ByteArray, ∃ b off, ad = ⟨b, off, none⟩ ∧ W.cell? ⟨b, off + k, none⟩ = some (.string s) := by
      intro k hk
      obtain ⟨hc, hd⟩ := hx k (by omega)
      obtain ⟨z, hz⟩ := str_of_trod hd
      have hsp := World.cell?_spot (hx 0 (by omega)).1
      obtain ⟨b, off, spot⟩ := ad
      obtain rfl : spot = none := by simpa [Addr.add] using hsp
      have e : (⟨b, off, none⟩ : Addr).add k = ⟨b, off + k, none⟩ := by unfold Addr.add; split <;> simp_all
      rw [e, hz] at hc
      exact ⟨z, b, off, rfl, hc⟩
    refine ⟨some ad, List.ofFn (fun i : Fin len => Classical.choose (key i.1 i.2)), cap, by simp, by simpa using hl, fun h => by simp at h, fun k s hs => ?_⟩
    rw [List.getElem?_ofFn] at hs
    split at hs
    · rename_i hk
      simp at hs
      obtain ⟨b, off, e, hc⟩ := Classical.choose_spec (key k hk)
      rw [hs] at hc
      exact ⟨b, off, by rw [e], hc⟩
    · simp at hs
set_option maxRecDepth 100000 in
theorem zargs_of_trod {H : Type} {enc : TypeId × Value → H} {W : World} {base b0 : Nat} {r : Reach} {spare : Nat → Bool} {held : Bool} {v : Value} {d : DataW H} {p : List MemPlace}
    (hv : Value.okWide Try.prog W r b0 24 v) (h : DataW.Trod enc Try.prog W base spare held 24 v d p) : ZArgs W v := by
  obtain ⟨a, len, cap, rfl⟩ := okWide_slice Try.underlying24 hv
  obtain ⟨fuel, hf⟩ := h
  exact zargs_of_raw (by simpa [Value.cells] using hf)

/-- A list of texts of the call's own. -/
def OwnZ (w : World) (v : Value) (ss : List ByteArray) : Prop := w.ownsRow 0 9 1 v ss.length (ss.map Value.string)
theorem OwnZ.empty {w : World} {g : Nat} (h : w.heap[g]? = some (.cells #[] 9 (0, 0))) : OwnZ w (.slice (some ⟨g, 0, none⟩) 0 0) [] := by
  unfold OwnZ
  refine ⟨by simp, .inr ⟨g, 0, #[], rfl, Nat.zero_le _, h, Nat.le_refl _, by simp [maxLen], by simp, by simp⟩⟩
theorem OwnZ.moves {w w' : World} {v : Value} {ss : List ByteArray} {S : List Nat} (h : OwnZ w v ss) (m : Moves S w w') (hg : ∀ k, v.ownBlock = some k → k ∉ S) : OwnZ w' v ss := by
  refine ⟨h.1, ?_⟩
  rcases h.2 with hn | ⟨g, cap, cur, rfl, hb, hgg, rest⟩
  · exact .inl hn
  · exact .inr ⟨g, cap, cur, rfl, hb, m.at hgg (hg g rfl), rest⟩
theorem OwnZ.at {w : World} {v : Value} {ss : List ByteArray} (h : OwnZ w v ss) : ∃ ad cap, v = .slice ad ss.length cap ∧ ss.length ≤ cap ∧ StrsAt w ad ss := by
  rcases h.2 with ⟨rfl, h0⟩ | ⟨g, cap, cur, rfl, hb, hgg, h1, h2, h3, h4⟩
  · have : ss = [] := List.eq_nil_of_length_eq_zero h0
    subst this
    exact ⟨none, 0, rfl, Nat.le_refl _, fun k s hs => by simp at hs⟩
  · refine ⟨_, cap, rfl, h1, fun k s hs => ?_⟩
    have hlt := (List.getElem?_eq_some_iff.1 hs).1
    have e1 : (ss.map Value.string)[k]? = some (.string s) := by rw [List.getElem?_map, hs]; rfl
    rw [← h4, List.getElem?_take, if_pos (by omega)] at e1
    exact ⟨g, 0, rfl, by simp only [World.cell?, hgg, Nat.zero_add]; simpa using e1⟩
theorem OwnZ.lt {w : World} {v : Value} {ss : List ByteArray} (h : OwnZ w v ss) {k : Nat} (hk : v.ownBlock = some k) : k < w.heap.size := (World.ownsRow.lt h k hk).2
theorem Try.info9 : (Try.prog.info? 9).map (fun i => (i.zero, i.size, i.bytes)) = some (some (.string ⟨#[]⟩), 1, 16) := by kernel_rfl

/-- append to a list of the call's own, whatever is appended. -/
theorem strs_append {ops : Array Oper} {rest : List Oper} {o : Oper} {a : Act} {Q : Exit → Act → World → Prop} {w : World} (s x : Operand)
    (ho : o.op = .call { callee := .builtin .append, args := #[s, x], argTypes := #[24, 24] })
    (v : Value) (ad : Option Addr) (n cap : Nat) (xs ys : List ByteArray) (hs : a.eval s = v) (hx : a.eval x = .slice ad n cap) (hw : Region.wanted o (yielded ops a.tmps) = true)
    (hv : OwnZ w v xs) (hc : StrsAt w ad ys) (hn : n = ys.length) (hnil : ad = none → cap = 0) (hb : xs.length + ys.length ≤ 1000000)
    (h : ∀ v' w', OwnZ w' v' (xs ++ ys) → Moves v.ownBlock.toList w w' → Lain w v v' → wpList Try.prog ops Q rest (a.put o.dst v') w') :
    wpList Try.prog ops Q (o :: rest) a w := by
  refine wpList_wanted hw ?_
  obtain ⟨i0, hi, hz0, hz1, hz2⟩ := info_parts Try.info9
  have fin : ∀ v' w', w'.ownsRow 0 9 1 v' (xs.length + ys.length) (xs.map Value.string ++ ys.map Value.string) → w.grownBy w' v.ownBlock → Lain w v v' → wpList Try.prog ops Q rest (a.put o.dst v') w' := by
    intro v' w' h1 h2 h3
    refine h v' w' ?_ ?_ h3
    · unfold OwnZ; rw [List.map_append, List.length_append]; exact h1
    · exact (Moves.refl _ _).grown h2 (fun k hk => .inl (by rw [hk]; simp))
  cases ad with
  | none =>
    have hys : ys = [] := by
      cases ys with
      | nil => rfl
      | cons y t => obtain ⟨_, _, h1, _⟩ := hc 0 y rfl; simp at h1
    subst hys
    obtain rfl : cap = 0 := hnil rfl
    simp at hn
    subst hn
    refine wpList_append_own_none rfl s x 24 ho 0 9 i0 1 Try.underlying24 hi v xs.length (xs.map Value.string) hs hv hx ?_
    exact fin v w (by simpa [OwnZ] using hv) (World.grownBy.refl _ _) (.inl rfl)
  | some y =>
    refine wpList_append_own_at _ rfl s x 24 ho 0 9 i0 (.string ⟨#[]⟩) 1 16 Try.underlying24 hi hz0 hz1 hz2 rfl (by decide) v xs.length (xs.map Value.string) hs hv y ys.length cap (ys.map Value.string) (by rw [hx, hn]) (by simp) ?_ (fun u hu => by simp only [List.mem_map] at hu; obtain ⟨b, _, rfl⟩ := hu; rfl) (by unfold maxLen; omega) (by omega) (by simp) ?_
    · intro j u hj
      simp only [List.getElem?_map, Option.map_eq_some_iff] at hj
      obtain ⟨z, hz, rfl⟩ := hj
      obtain ⟨g, off, e1, e2⟩ := hc j z hz
      simp only [Option.some.injEq] at e1
      subst e1
      have e : (⟨g, off, none⟩ : Addr).add j = ⟨g, off + j, none⟩ := by unfold Addr.add; split <;> simp_all
      rw [e]; exact e2
    · intro v' w' h1 h2 _ h4
      exact fin v' w' h1 h2 h4

set_option maxRecDepth 100000 in
theorem few7_w (w : World) (ad : Option Addr) (ss : List ByteArray) (cap : Nat) (hc : ss.length ≤ cap) (hnil : ad = none → cap = 0) : Calls Try.prog 20 #[.slice ad ss.length cap] w fun e w' => ∃ n, e = .returned (.slice ad n cap) ∧ n = (ss.take 4).length ∧ w = w' := by
  obtain ⟨n, HN⟩ : ∃ n, Hid (ss.length = n) := ⟨_, rfl⟩
  rw [HN.out] at hc ⊢
  by_cases h4 : 4 < n
  · have h4' : (4 : Int) < n := by omega
    have hc4 : (4 : Int) ≤ cap := by omega
    have hc5 : 4 ≤ cap := by omega
    cases ad with
    | none => have := hnil rfl; omega
    | some y =>
      go_enter Try.func20, Try.ntmps20
      go_wp2_with fail
      go_ret
      exact ⟨4, rfl, by rw [List.length_take, HN.out]; omega, rfl⟩
  · have h4' : ¬ (4 : Int) < n := by omega
    go_enter Try.func20, Try.ntmps20
    go_wp2_with fail
    go_ret
    exact ⟨n, rfl, by first | (rw [List.length_take, HN.out]; omega) | (rw [HN.out]; omega), rfl⟩
end Go.Proofs.Ytgeadpmnnjfkkaa
