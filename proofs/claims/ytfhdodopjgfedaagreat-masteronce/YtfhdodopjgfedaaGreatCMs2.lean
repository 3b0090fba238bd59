/-
  How a master lies in memory.
-/
import Derived.Test.YtfhdodopjgfedaaGreatCMs1
import Derived.Test.YtfhdodopjgfedaaGreatCAm5
namespace Go.Proofs.YtfhdodopjgfedaaGreat
open Go.RowKit

/-- Lists of tablets whose memory is none of Z. -/
def MsZ (Z : List Nat) (w : World) (v : Value) (ms : List (List Ptb)) : Prop := ∃ ad n cap, v = .slice ad n cap ∧ n = ms.length ∧ n ≤ cap ∧ (ad = none → cap = 0) ∧ ∀ (k : Nat) m, ms[k]? = some m → ∃ g off u gu, ad = some ⟨g, off, none⟩ ∧ g ∉ Z ∧ w.cell? ⟨g, off + k, none⟩ = some u ∧ TbL w gu u m ∧ gu ∉ Z
def MtZ (Z : List Nat) (w : World) (q : Nat) (xs : List Ptb) : Prop := ∃ v, w.heap[q]? = some (.cells #[v] 105 (0, 0)) ∧ MsZ Z w v (fours xs)
theorem MtZ.is {Z : List Nat} {w : World} {q : Nat} {xs : List Ptb} (h : MtZ Z w q xs) : MtIs w q xs := by
  obtain ⟨v, h1, ad, n, cap, e1, e2, e3, e4, e5⟩ := h
  refine ⟨v, h1, ad, n, cap, e1, e2, e3, e4, fun k m hk => ?_⟩
  obtain ⟨g, off, u, gu, f1, _, f3, f4, _⟩ := e5 k m hk
  exact ⟨g, off, u, gu, f1, Nat.zero_le _, f3, f4, Nat.zero_le _⟩
theorem MtZ.ofB {B : Nat} {Z : List Nat} {w : World} {q : Nat} {xs : List Ptb} (h : MtB B w q xs) (hZ : ∀ k ∈ Z, k < B) : MtZ Z w q xs := by
  obtain ⟨v, h1, ad, n, cap, e1, e2, e3, e4, e5⟩ := h
  refine ⟨v, h1, ad, n, cap, e1, e2, e3, e4, fun k m hk => ?_⟩
  obtain ⟨g, off, u, gu, f1, f2, f3, f4, f5⟩ := e5 k m hk
  exact ⟨g, off, u, gu, f1, fun hm => by have := hZ g hm; omega, f3, f4, fun hm => by have := hZ gu hm; omega⟩
theorem MtZ.moves {Z S : List Nat} {w w' : World} {q : Nat} {xs : List Ptb} (h : MtZ Z w q xs) (m : Moves S w w') (hS : ∀ k ∈ S, k ∈ Z) (hq : q ∉ S) : MtZ Z w' q xs := by
  obtain ⟨v, h1, ad, n, cap, e1, e2, e3, e4, e5⟩ := h
  refine ⟨v, m.at h1 hq, ad, n, cap, e1, e2, e3, e4, fun k x hk => ?_⟩
  obtain ⟨g, off, u, gu, f1, f2, f3, f4, f5⟩ := e5 k x hk
  exact ⟨g, off, u, gu, f1, f2, cell_moves m (fun hm => f2 (hS g hm)) f3, f4.moves m (fun hm => f5 (hS gu hm)), f5⟩
theorem tbL_lt {w : World} {g : Nat} {u : Value} {m : List Ptb} (h : TbL w g u m) (hne : m ≠ []) : g < w.heap.size := by
  obtain ⟨ad, n, cap, rfl, _, _, _, h5⟩ := h
  cases m with
  | nil => exact absurd rfl hne
  | cons x t =>
    obtain ⟨off, _, hc, _⟩ := h5 0 x rfl
    exact lt_of_cell hc
theorem MtZ.more {Z Z' : List Nat} {w : World} {q : Nat} {xs : List Ptb} (h : MtZ Z w q xs) (hZ : ∀ k ∈ Z', k ∈ Z ∨ w.heap.size ≤ k) : MtZ Z' w q xs := by
  obtain ⟨v, h1, ad, n, cap, e1, e2, e3, e4, e5⟩ := h
  refine ⟨v, h1, ad, n, cap, e1, e2, e3, e4, fun k x hk => ?_⟩
  obtain ⟨g, off, u, gu, f1, f2, f3, f4, f5⟩ := e5 k x hk
  have hg : g < w.heap.size := lt_of_cell f3
  have hgu : gu < w.heap.size := tbL_lt f4 (four_ne x (List.mem_of_getElem? hk))
  exact ⟨g, off, u, gu, f1, fun hm => by rcases hZ g hm with h | h; exact f2 h; omega, f3, f4, fun hm => by rcases hZ gu hm with h | h; exact f5 h; omega⟩

def mrCells (q c : Nat) (S : Pms) : Array Value := #[.int .i64 S.grps, .pointer (some ⟨q, 0, none⟩), .int .i64 S.last, .int .i64 S.pend.code, .slice none 0 0, .string S.pend.lo, .string S.pend.hi, .int .i64 S.pend.grp, .int .i64 S.pend.gen, .int .i64 S.pend.old, .int .i64 S.pend.to, .int .i64 S.pend.act, .string S.pend.at', .slice none 0 0, .pointer (some ⟨c, 0, none⟩)]
/-- The master S at p, its table at q, its cache at c, whose list lies in a; all of it younger than W. -/
structure MrIs (W w : World) (p q c : Nat) (a : Option Nat) (S : Pms) : Prop where
  box : w.heap[p]? = some (.cells (mrCells q c S) 76 (0, 0))
  tab : MtZ (p :: q :: c :: a.toList) w q S.xs
  cac : CaIs W w c a S.ca
  hp : W.heap.size ≤ p
  hq : W.heap.size ≤ q
  hc : W.heap.size ≤ c
theorem MrIs.moves {W w w' : World} {p q c : Nat} {a : Option Nat} {S : Pms} (h : MrIs W w p q c a S) {X : List Nat} (m : Moves X w w') (hX : ∀ k ∈ X, k ∉ p :: q :: c :: a.toList ∧ w.heap.size ≤ k) : MrIs W w' p q c a S := by
  have hm : Moves [] w w' := by
    refine (Moves.refl [] w).trans m (fun k hk => .inr (hX k hk).2)
  exact ⟨hm.at h.box (by simp), h.tab.moves hm (by simp) (by simp), h.cac.moves0 hm, h.hp, h.hq, h.hc⟩
theorem MrIs.moves0 {W w w' : World} {p q c : Nat} {a : Option Nat} {S : Pms} (h : MrIs W w p q c a S) (m : Moves [] w w') : MrIs W w' p q c a S := h.moves m (by simp)
theorem MrIs.ne {W w : World} {p q c : Nat} {a : Option Nat} {S : Pms} (h : MrIs W w p q c a S) : p ≠ q ∧ p ≠ c ∧ q ≠ c ∧ p ∉ a.toList ∧ q ∉ a.toList ∧ c ∉ a.toList := by
  obtain ⟨v, t1, _⟩ := h.tab
  have hb := h.box
  have hap := h.cac.apart
  obtain ⟨cv, c1, c2, c3⟩ := h.cac
  have hk : ∀ k, k ∈ a.toList → ∃ cur, w.heap[k]? = some (.cells cur 173 (0, 0)) := by
    intro k hk
    exact c3.blk (by rw [c2]; exact Option.mem_toList.1 hk)
  refine ⟨?_, ?_, ?_, ?_, ?_, hap⟩
  · rintro rfl
    rw [hb] at t1
    simp [mrCells] at t1
  · rintro rfl
    rw [hb] at c1
    simp [mrCells] at c1
  · rintro rfl
    rw [t1] at c1
    simp at c1
  · intro hk1
    obtain ⟨cur, e⟩ := hk p hk1
    rw [hb] at e
    simp at e
  · intro hk1
    obtain ⟨cur, e⟩ := hk q hk1
    rw [t1] at e
    simp at e
theorem MrIs.lt {W w : World} {p q c : Nat} {a : Option Nat} {S : Pms} (h : MrIs W w p q c a S) : p < w.heap.size ∧ q < w.heap.size ∧ c < w.heap.size ∧ ∀ k, a = some k → k < w.heap.size := by
  obtain ⟨v, t1, _⟩ := h.tab
  exact ⟨lt_of_block h.box, lt_of_block t1, h.cac.ltp, fun k hk => (h.cac.lta hk).1⟩
theorem MrIs.young {W w : World} {p q c : Nat} {a : Option Nat} {S : Pms} (h : MrIs W w p q c a S) {k : Nat} (hk : a = some k) : W.heap.size ≤ k := (h.cac.lta hk).2

/-- An answer with no rows and no state. -/
def ansV (p : Pans) : Array Value := #[.int .i64 p.code, .slice none 0 0, .string p.lo, .string p.hi, .int .i64 p.grp, .int .i64 p.gen, .int .i64 p.old, .int .i64 p.to, .int .i64 p.act, .string p.at', .slice none 0 0]
theorem ansC_bare {w : World} {p : Pans} (h : Bare p) : AnsC w (ansV p).toList p := by
  obtain ⟨h1, h2⟩ := h
  refine ⟨none, 0, 0, none, 0, 0, 0, rfl, ?_, ?_, ?_, ?_⟩
  · rw [h1]; exact ⟨[], Lies.nil _ _ _, trivial⟩
  · rw [h2]; exact isB_nil _ _
  · rw [h2]; exact .inl rfl
  · rw [h2]; simp
theorem AnsC.bare {w w' : World} {c : List Value} {p : Pans} (h : AnsC w c p) (hb : Bare p) : AnsC w' c p := by
  obtain ⟨h1, h2⟩ := hb
  obtain ⟨ar, nr, cr, sa, ns, cs, g, hc, hN, hB, hU, hz⟩ := h
  refine ⟨ar, nr, cr, sa, ns, cs, g, hc, ?_, ?_, ?_, ?_⟩
  · rw [h1] at hN ⊢
    obtain ⟨css, ⟨l1, ad, cap, l2, l3, l4, l5⟩, hA⟩ := hN
    cases css with
    | nil => exact ⟨[], ⟨by simp, ad, cap, l2, l3, l4, .inl rfl⟩, trivial⟩
    | cons _ _ => exact hA.elim
  · rw [h2] at hB ⊢
    obtain ⟨ad, n, cap, e1, e2, e3, e4, e5⟩ := hB
    exact ⟨ad, n, cap, e1, e2, e3, e4, .inl rfl⟩
  · rw [h2]; exact .inl rfl
  · rw [h2]; simp
end Go.Proofs.YtfhdodopjgfedaaGreat
