/-
  Memory that a call moves: which blocks it may have written, and rows of bytes that lie in memory: nil, empty, an argument's, or the call's own. Plain facts, no program in sight but for the numbers of its types.
-/
import Derived.Test.YtcamhlnkcoicpaaGreatCB01
import Derived.Maps.AppendAt
import Derived.Laws.AppendOwnNone
import Derived.Laws.CopyOwn
namespace Go.Proofs.YtcamhlnkcoicpaaGreat
open Go.RowKit

/-- From w to w' no block but those of S was written; there may be new ones. -/
structure Moves (S : List Nat) (w w' : World) : Prop where
  os : w'.os = w.os
  tape : w'.tape = w.tape
  output : w'.output = w.output
  size : w.heap.size ≤ w'.heap.size
  block : ∀ k, k < w.heap.size → k ∉ S → w'.heap[k]? = w.heap[k]?

theorem Moves.refl (S : List Nat) (w : World) : Moves S w w := ⟨rfl, rfl, rfl, Nat.le_refl _, fun _ _ _ => rfl⟩
theorem Moves.trans {S T : List Nat} {a b c : World} (h : Moves S a b) (k : Moves T b c) (hT : ∀ x ∈ T, x ∈ S ∨ a.heap.size ≤ x) : Moves S a c :=
  ⟨k.os.trans h.os, k.tape.trans h.tape, k.output.trans h.output, Nat.le_trans h.size k.size, fun i hi hn =>
    (k.block i (Nat.lt_of_lt_of_le hi h.size) (fun hx => by rcases hT i hx with h1 | h1; exact hn h1; omega)).trans (h.block i hi hn)⟩
theorem Moves.then {S : List Nat} {a b c : World} (h : Moves S a b) (k : Moves S b c) : Moves S a c := h.trans k fun _ hx => .inl hx
theorem Moves.mono {S T : List Nat} {a b : World} (h : Moves S a b) (hT : ∀ x ∈ S, x ∈ T) : Moves T a b :=
  ⟨h.os, h.tape, h.output, h.size, fun i hi hn => h.block i hi fun hx => hn (hT i hx)⟩
theorem Moves.at {S : List Nat} {w w' : World} {k : Nat} {o : Obj} (h : Moves S w w') (hk : w.heap[k]? = some o) (hn : k ∉ S) : w'.heap[k]? = some o :=
  (h.block k (lt_of_block hk) hn).trans hk
theorem Moves.drew {S : List Nat} {a w : World} (h : Moves S a w) : Moves S a w.drew := ⟨h.os, h.tape, h.output, h.size, h.block⟩
theorem Moves.alloc {S : List Nat} {a w : World} (h : Moves S a w) (o : Obj) : Moves S a (w.alloc o) :=
  h.trans (T := []) ⟨rfl, rfl, rfl, by simp, fun k hk _ => Below.heap_alloc _ _ _ hk⟩ (fun _ hx => by simp at hx)
theorem Moves.setCell {S : List Nat} {a w : World} (h : Moves S a w) {p : Addr} (hp : p.block ∈ S ∨ a.heap.size ≤ p.block) (u : Value) : Moves S a (w.setCell p u) :=
  h.trans (T := [p.block]) ⟨rfl, rfl, rfl, by simp [World.setCell], fun k _ hn => Below.heap_setCell _ _ _ _ (by simpa using hn)⟩ (fun _ hx => by simp at hx; subst hx; exact hp)
theorem Moves.grown {S : List Nat} {a w w' : World} {row : Option Nat} (h : Moves S a w) (hg : w.grownBy w' row) (hr : ∀ k, row = some k → k ∈ S ∨ a.heap.size ≤ k) : Moves S a w' :=
  h.trans (T := row.toList) ⟨hg.os, hg.tape, hg.output, hg.size, fun k hk hn => hg.block k hk (by cases row <;> simp_all)⟩ (fun x hx => hr x (by cases row <;> simp_all))
theorem Moves.below {S : List Nat} {w w' : World} {B : Nat} (h : Moves S w w') (hS : ∀ k ∈ S, B ≤ k) (hB : B ≤ w.heap.size) : Below B w w' :=
  ⟨h.os, h.tape, h.output, h.size, fun k hk => h.block k (by omega) fun hx => by have := hS k hx; omega⟩

/-- The bytes as values. -/
def u8s (bs : List Nat) : List Value := bs.map fun b : Nat => Value.int .u8 (b : Int)
theorem u8s_length (bs : List Nat) : (u8s bs).length = bs.length := by simp [u8s]
theorem u8s_append (a b : List Nat) : u8s (a ++ b) = u8s a ++ u8s b := by simp [u8s]
theorem u8s_get {bs : List Nat} {j : Nat} {u : Value} (h : (u8s bs)[j]? = some u) : ∃ b, bs[j]? = some b ∧ u = .int .u8 (b : Int) := by
  simp only [u8s, List.getElem?_map, Option.map_eq_some_iff] at h
  obtain ⟨b, h1, h2⟩ := h
  exact ⟨b, h1, h2.symm⟩
theorem u8s_one (bs : List Nat) : ∀ u ∈ u8s bs, u.oneCell' = true := by
  intro u hu
  simp only [u8s, List.mem_map] at hu
  obtain ⟨b, _, rfl⟩ := hu
  rfl

/-- The bytes bs lie at that address, in block g; where there are none, anywhere. -/
def Has (w : World) (g : Nat) (ad : Option Addr) (bs : List Nat) : Prop :=
  bs = [] ∨ ∃ off, ad = some ⟨g, off, none⟩ ∧ ∀ (j b : Nat), bs[j]? = some b → w.cell? ⟨g, off + j, none⟩ = some (.int .u8 (b : Int))

theorem lt_of_cell {w : World} {a : Addr} {v : Value} (h : w.cell? a = some v) : a.block < w.heap.size := by
  refine Nat.lt_of_not_le fun hle => ?_
  have : w.heap[a.block]? = none := Array.getElem?_eq_none hle
  simp [World.cell?, this] at h
theorem Has.moves {w w' : World} {g : Nat} {ad : Option Addr} {bs : List Nat} {S : List Nat} (h : Has w g ad bs) (m : Moves S w w') (hg : g ∉ S) : Has w' g ad bs := by
  rcases h with h | ⟨off, h1, h2⟩
  · exact .inl h
  · refine .inr ⟨off, h1, fun j b hj => ?_⟩
    have hc := h2 j b hj
    have hlt := lt_of_cell hc
    exact (World.cell?_of_block (w := w) (m.block g hlt hg)).trans hc

/-- A slice of bytes. -/
def IsB (w : World) (g : Nat) (v : Value) (bs : List Nat) : Prop :=
  ∃ ad n cap, v = .slice ad n cap ∧ bs.length = n ∧ n ≤ cap ∧ (ad = none → cap = 0) ∧ Has w g ad bs
theorem IsB.moves {w w' : World} {g : Nat} {v : Value} {bs : List Nat} {S : List Nat} (h : IsB w g v bs) (m : Moves S w w') (hg : g ∉ S) : IsB w' g v bs := by
  obtain ⟨ad, n, cap, h1, h2, h3, h4, h5⟩ := h
  exact ⟨ad, n, cap, h1, h2, h3, h4, h5.moves m hg⟩

/-- A row of bytes of the call's own. -/
def Own (w : World) (v : Value) (bs : List Nat) : Prop := w.ownsRow 0 5 1 v bs.length (u8s bs)
theorem Own.nil (w : World) : Own w (.slice none 0 0) [] := by unfold Own; exact World.ownsRow_nil _ _ _ _
theorem Own.moves {w w' : World} {v : Value} {bs : List Nat} {S : List Nat} (h : Own w v bs) (m : Moves S w w') (hg : ∀ k, v.ownBlock = some k → k ∉ S) : Own w' v bs := by
  refine ⟨h.1, ?_⟩
  rcases h.2 with hn | ⟨g, cap, cur, rfl, hb, hgg, rest⟩
  · exact .inl hn
  · exact .inr ⟨g, cap, cur, rfl, hb, m.at hgg (hg g rfl), rest⟩
theorem Own.isB {w : World} {v : Value} {bs : List Nat} (h : Own w v bs) : IsB w (v.ownBlock.getD 0) v bs := by
  rcases h.2 with ⟨rfl, h0⟩ | ⟨g, cap, cur, rfl, hb, hgg, h1, h2, h3, h4⟩
  · refine ⟨none, 0, 0, rfl, h0, Nat.le_refl _, fun _ => rfl, .inl (List.eq_nil_of_length_eq_zero h0)⟩
  · refine ⟨some ⟨g, 0, none⟩, bs.length, cap, rfl, rfl, h1, fun h => by simp at h, .inr ⟨0, rfl, fun j b hj => ?_⟩⟩
    have hlt := (List.getElem?_eq_some_iff.1 hj).1
    have e : (cur.toList.take (bs.length * 1))[j]? = some (.int .u8 (b : Int)) := by rw [h4]; simp [u8s, hj]
    rw [List.getElem?_take, if_pos (by omega)] at e
    simp only [Value.ownBlock, Option.getD, World.cell?, hgg, Nat.zero_add]
    simpa using e
theorem Own.cap {w : World} {v : Value} {bs : List Nat} (h : Own w v bs) (hpos : 0 < bs.length) : ∃ g n cap, v = .slice (some ⟨g, 0, none⟩) n cap := by
  rcases h.2 with ⟨_, h0⟩ | ⟨g, cap, _, h1, _⟩
  · omega
  · exact ⟨g, _, cap, h1⟩
theorem Own.lt {w : World} {v : Value} {bs : List Nat} (h : Own w v bs) {k : Nat} (hk : v.ownBlock = some k) : k < w.heap.size := (World.ownsRow.lt h k hk).2
theorem Own.ne {w : World} {v : Value} {bs : List Nat} (h : Own w v bs) {p : Nat} {c : Array Value} {t : TypeId} {fz : Nat × Nat} (hp : w.heap[p]? = some (.cells c t fz)) (ht : t ≠ 5) : v.ownBlock ≠ some p := by
  intro hk
  rcases h.2 with ⟨rfl, _⟩ | ⟨g, cap, cur, rfl, hb, hgg, _⟩
  · simp [Value.ownBlock] at hk
  · simp [Value.ownBlock] at hk
    subst hk
    rw [hgg] at hp
    simp at hp
    exact ht hp.2.1.symm

/-- What a call made anew. -/
def Fresh (w : World) (v : Value) : Prop := ∀ k, v.ownBlock = some k → w.heap.size ≤ k
theorem Fresh.nil (w : World) : Fresh w (.slice none 0 0) := fun k h => by simp [Value.ownBlock] at h

theorem Tryz.info5 : (Tryz.prog.info? 5).map (fun i => (i.zero, i.size, i.bytes)) = some (some (.int .u8 0), 1, 1) := by kernel_rfl

/-- An operation whose guard says yes is the same operation without it. -/
theorem wpList_wanted {P : Program} {w : World} {ops : Array Oper} {rest : List Oper} {o : Oper} {a : Act} {Q : Exit → Act → World → Prop}
    (hw : Region.wanted o (yielded ops a.tmps) = true) (h : wpList P ops Q ({ o with guard := none } :: rest) a w) : wpList P ops Q (o :: rest) a w := by
  unfold wpList at h ⊢
  rw [if_pos hw]
  rw [if_pos (by simp [Region.wanted])] at h
  exact h

/-- The grown row lies where it lay, or in the next block. -/
def Lain (w : World) (v v' : Value) : Prop := v'.ownBlock = v.ownBlock ∨ v'.ownBlock = some w.heap.size

/-- append to a row of the call's own, whatever is appended. -/
theorem append_law {ops : Array Oper} {rest : List Oper} {o : Oper} {a : Act} {Q : Exit → Act → World → Prop} {w : World} (s x : Operand)
    (ho : o.op = .call { callee := .builtin .append, args := #[s, x], argTypes := #[23, 23] })
    (v xv : Value) (bs cs : List Nat) (g : Nat) (hs : a.eval s = v) (hx : a.eval x = xv) (hw : Region.wanted o (yielded ops a.tmps) = true)
    (hv : Own w v bs) (hc : IsB w g xv cs) (hb : bs.length + cs.length ≤ 1099511627776)
    (h : ∀ v' w', Own w' v' (bs ++ cs) → Moves v.ownBlock.toList w w' → Lain w v v' → wpList Tryz.prog ops Q rest (a.put o.dst v') w') :
    wpList Tryz.prog ops Q (o :: rest) a w := by
  refine wpList_wanted hw ?_
  obtain ⟨i0, hi, hz0, hz1, hz2⟩ := info_parts Tryz.info5
  obtain ⟨ad, n, cap, rfl, rfl, hle, hnil, hhas⟩ := hc
  have fin : ∀ v' w', w'.ownsRow 0 5 1 v' (bs.length + cs.length) (u8s bs ++ u8s cs) → w.grownBy w' v.ownBlock → Lain w v v' → wpList Tryz.prog ops Q rest (a.put o.dst v') w' := by
    intro v' w' h1 h2 h3
    refine h v' w' ?_ ?_ h3
    · unfold Own; rw [u8s_append, List.length_append]; exact h1
    · exact (Moves.refl _ _).grown h2 (fun k hk => .inl (by rw [hk]; simp))
  cases ad with
  | none =>
    obtain rfl : cap = 0 := hnil rfl
    have h0 : cs.length = 0 := by omega
    obtain rfl : cs = [] := List.eq_nil_of_length_eq_zero h0
    refine wpList_append_own_none rfl s x 23 ho 0 5 i0 1 Tryz.underlying23 hi v bs.length (u8s bs) hs hv hx ?_
    exact fin v w (by simpa [u8s, Own] using hv) (World.grownBy.refl _ _) (.inl rfl)
  | some y =>
    refine wpList_append_own_at _ rfl s x 23 ho 0 5 i0 (.int .u8 0) 1 1 Tryz.underlying23 hi hz0 hz1 hz2 rfl (by decide) v bs.length (u8s bs) hs hv y cs.length cap (u8s cs) hx (by simp [u8s]) ?_ (u8s_one cs) (by unfold maxLen; omega) (by omega) (by simp) ?_
    · intro j u hj
      obtain ⟨b, hjb, rfl⟩ := u8s_get hj
      rcases hhas with rfl | ⟨off, hy, hcell⟩
      · simp at hjb
      · simp only [Option.some.injEq] at hy
        subst hy
        have := hcell j b hjb
        have e : (⟨g, off, none⟩ : Addr).add j = ⟨g, off + j, none⟩ := by unfold Addr.add; split <;> simp_all
        rw [e]; exact this
    · intro v' w' h1 h2 _ h4
      exact fin v' w' h1 h2 h4

end Go.Proofs.YtcamhlnkcoicpaaGreat
