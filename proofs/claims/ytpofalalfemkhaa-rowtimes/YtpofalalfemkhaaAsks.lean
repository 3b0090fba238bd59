/-
  Rows of things to be written or read, as they lie in memory, and the bytes that the document gives them. Plain facts, no walk.
-/
import Derived.Test.YtpofalalfemkhaaRefW
namespace Go.Proofs.Ytpofalalfemkhaa
open Go.RowKit

/-- One thing to be written or read. -/
structure AskM where
  kind : Int
  most : Int
  n : Nat
  x : Nat
  bv : Value
  g : Nat
  bb : List Nat

/-- It lies at that place of block b. -/
structure AskAt (w : World) (b o : Nat) (a : AskM) : Prop where
  c0 : w.cell? ⟨b, o, none⟩ = some (.int .i64 a.kind)
  c1 : w.cell? ⟨b, o + 1, none⟩ = some (.int .i64 a.most)
  c2 : w.cell? ⟨b, o + 2, none⟩ = some (.int .u64 (a.n : Int))
  c3 : w.cell? ⟨b, o + 3, none⟩ = some (.float .f64 a.x)
  c4 : w.cell? ⟨b, o + 4, none⟩ = some a.bv
  isB : IsB w a.g a.bv a.bb
  fn : Pl.Fits a.n
  fx : Pl.Fits a.x
  oct : ∀ z ∈ a.bb, z < 256

/-- A slice of such things. -/
def Asks (w : World) (v : Value) (L : List AskM) : Prop :=
  ∃ ad len cap, v = .slice ad len cap ∧ L.length = len ∧ len ≤ cap ∧ ∀ (k : Nat) (a : AskM), L[k]? = some a → ∃ b off, ad = some ⟨b, off, none⟩ ∧ AskAt w b (off + k * 5) a

theorem Moves.cell {w w' : World} (m : Moves [] w w') {a : Addr} {v : Value} (h : w.cell? a = some v) : w'.cell? a = some v :=
  (World.cell?_of_block (w := w) (m.block a.block (lt_of_cell h) (by simp))).trans h

theorem AskAt.moves {w w' : World} {b o : Nat} {a : AskM} (h : AskAt w b o a) (m : Moves [] w w') : AskAt w' b o a :=
  ⟨m.cell h.c0, m.cell h.c1, m.cell h.c2, m.cell h.c3, m.cell h.c4, h.isB.moves m (by simp), h.fn, h.fx, h.oct⟩

theorem Asks.moves {w w' : World} {v : Value} {L : List AskM} (h : Asks w v L) (m : Moves [] w w') : Asks w' v L := by
  obtain ⟨ad, len, cap, h1, h2, h3, h4⟩ := h
  refine ⟨ad, len, cap, h1, h2, h3, fun k a hk => ?_⟩
  obtain ⟨b, off, h5, h6⟩ := h4 k a hk
  exact ⟨b, off, h5, h6.moves m⟩

/-- The block of bytes that are there is old. -/
theorem Has.lt {w : World} {g : Nat} {ad : Option Addr} {bs : List Nat} (h : Has w g ad bs) (hn : bs ≠ []) : g < w.heap.size := by
  rcases h with h | ⟨off, _, h2⟩
  · exact absurd h hn
  · cases bs with
    | nil => exact absurd rfl hn
    | cons b t => exact lt_of_cell (h2 0 b rfl)
theorem IsB.lt {w : World} {g : Nat} {v : Value} {bs : List Nat} (h : IsB w g v bs) (hn : bs ≠ []) : g < w.heap.size := by
  obtain ⟨ad, n, cap, _, _, _, _, h5⟩ := h
  exact h5.lt hn

/-- Of no bytes any block may be said. -/
theorem IsB.pick {w : World} {g : Nat} {v : Value} {bs : List Nat} (h : IsB w g v bs) (S : List Nat) (hS : bs ≠ [] → g ∉ S) : ∃ g', g' ∉ S ∧ IsB w g' v bs := by
  by_cases hn : bs = []
  · subst hn
    obtain ⟨ad, n, cap, h1, h2, h3, h4, _⟩ := h
    refine ⟨S.sum + 1, fun hx => ?_, ⟨ad, n, cap, h1, h2, h3, h4, .inl rfl⟩⟩
    have : ∀ (T : List Nat) (x : Nat), x ∈ T → x ≤ T.sum := by
      intro T
      induction T with
      | nil => intro x hx; simp at hx
      | cons y t ih =>
        intro x hx
        rcases List.mem_cons.1 hx with rfl | hx
        · simp
        · have := ih x hx; simp; omega
    have := this S _ hx
    omega
  · exact ⟨g, hS hn, h⟩

/-- What is written of one. -/
def enc (a : AskM) : List Nat :=
  if a.kind = 1 then [a.n % 256] else if a.kind = 2 then be 4 (a.n % 4294967296) else if a.kind = 3 then be 8 a.n
  else if a.kind = 4 then be 8 (Pl.canon a.x) else if a.kind = 5 then be 4 (a.bb.take 30).length ++ a.bb.take 30 else []

theorem enc_length (a : AskM) : (enc a).length ≤ 34 := by
  unfold enc
  split
  · simp
  split
  · rw [be_length]; omega
  split
  · rw [be_length]; omega
  split
  · rw [be_length]; omega
  split
  · rw [List.length_append, be_length, List.length_take]; omega
  · simp

/-- What is written of the first k. -/
def encs (L : List AskM) (k : Nat) : List Nat := (L.take k).flatMap enc
theorem encs_zero (L : List AskM) : encs L 0 = [] := by simp [encs]
theorem encs_succ {L : List AskM} {k : Nat} {a : AskM} (h : L[k]? = some a) : encs L (k + 1) = encs L k ++ enc a := by
  unfold encs
  rw [List.take_add_one, h]
  simp
theorem encs_length (L : List AskM) (k : Nat) : (encs L k).length ≤ 34 * k := by
  induction k with
  | zero => simp [encs]
  | succ n ih =>
    cases h : L[n]? with
    | none =>
      have : encs L (n + 1) = encs L n := by unfold encs; rw [List.take_add_one, h]; simp
      rw [this]; omega
    | some a =>
      rw [encs_succ h, List.length_append]
      have := enc_length a
      omega
theorem encs_past {L : List AskM} {k : Nat} (h : L.length ≤ k) : encs L k = encs L L.length := by
  unfold encs; rw [List.take_of_length_le h, List.take_length]

/-- In writing: the Writer at the block that came next has bs', the row vb has bs; all that was there in w is as it was. -/
def Inv (w wr : World) (vb : Value) (a : Option Nat) (bs bs' : List Nat) : Prop :=
  Wr wr w.heap.size a bs' ∧ Own wr vb bs ∧ Moves [] w wr ∧ (∀ k, a = some k → w.heap.size ≤ k) ∧ Fresh w vb ∧ ∀ k, a = some k → vb.ownBlock ≠ some k

theorem Inv.wrote {w wr w1 : World} {vb : Value} {a a1 : Option Nat} {bs cs ds : List Nat} (h : Inv w wr vb a bs cs) (k : Wrote wr w.heap.size a w1 a1 ds) : Inv w w1 vb a1 bs ds := by
  obtain ⟨⟨v, hp, hva, hv⟩, h2, h3, h4, h5, h6⟩ := h
  obtain ⟨k1, k2, k3⟩ := k
  have hS : ∀ x ∈ w.heap.size :: a.toList, w.heap.size ≤ x := by
    intro x hx
    rcases List.mem_cons.1 hx with rfl | hx
    · exact Nat.le_refl _
    · exact h4 x (by cases a <;> simp_all)
  refine ⟨k1, h2.moves k2 ?_, h3.trans k2 (fun x hx => .inr (hS x hx)), ?_, h5, ?_⟩
  · intro x hx hm
    rcases List.mem_cons.1 hm with rfl | hm
    · exact h2.ne hp (by decide) hx
    · exact h6 x (by cases a <;> simp_all) hx
  · intro x hx
    rcases k3 with rfl | ⟨y, rfl, hy⟩
    · exact h4 x hx
    · simp at hx; subst hx; exact Nat.le_trans h3.size hy
  · intro x hx hb
    rcases k3 with rfl | ⟨y, rfl, hy⟩
    · exact h6 x hx hb
    · simp at hx; subst hx
      have := h2.lt hb
      omega

theorem Wr.lt {w : World} {p : Nat} {a : Option Nat} {bs : List Nat} (h : Wr w p a bs) {k : Nat} (hk : a = some k) : k < w.heap.size := by
  obtain ⟨v, _, h1, h2⟩ := h
  exact h2.lt (h1.trans hk)
theorem Wr.moves {w w' : World} {p : Nat} {a : Option Nat} {bs : List Nat} {S : List Nat} (h : Wr w p a bs) (m : Moves S w w') (hp : p ∉ S) (ha : ∀ k, a = some k → k ∉ S) : Wr w' p a bs := by
  obtain ⟨v, h0, h1, h2⟩ := h
  exact ⟨v, m.at h0 hp, h1, h2.moves m (fun k hk => ha k (h1.symm.trans hk))⟩

theorem Inv.made {w w1 w2 : World} {vb v2 : Value} {a : Option Nat} {bs cs : List Nat} (h : Inv w w1 vb a bs cs) (ho : Own w2 v2 cs) (m : Moves [] w1 w2) (hf : Fresh w1 v2) : Inv w w2 v2 a cs cs := by
  obtain ⟨h1, _, h3, h4, _, _⟩ := h
  refine ⟨h1.moves m (by simp) (by simp), ho, h3.then m, h4, fun k hk => Nat.le_trans h3.size (hf k hk), fun k hk hb => ?_⟩
  have h5 := h1.lt hk
  have h6 := hf k hb
  omega

theorem Inv.app {w w1 w3 : World} {vb v3 : Value} {a : Option Nat} {bs cs : List Nat} {o : Obj} (h : Inv w w1 vb a bs cs) (ho : Own w3 v3 cs) (m : Moves vb.ownBlock.toList (w1.alloc o) w3) (hat : Lain (w1.alloc o) vb v3) : Inv w w3 v3 a cs cs := by
  obtain ⟨h1, h2, h3, h4, h5, h6⟩ := h
  have ma : Moves [] w1 (w1.alloc o) := (Moves.refl _ _).alloc _
  obtain ⟨v, hp, hva, hv⟩ := h1
  have h1' : Wr (w1.alloc o) w.heap.size a cs := Wr.moves ⟨v, hp, hva, hv⟩ ma (by simp) (by simp)
  have hb : ∀ x ∈ vb.ownBlock.toList, vb.ownBlock = some x := by intro x hx; cases hq : vb.ownBlock <;> simp_all
  refine ⟨h1'.moves m (fun hx => h2.ne hp (by decide) (hb _ hx)) (fun k hk hx => h6 k hk (hb k hx)), ho, ?_, h4, ?_, ?_⟩
  · exact (h3.then ma).trans m (fun x hx => .inr (h5 x (hb x hx)))
  · exact hat.fresh h5 (Nat.le_trans h3.size ma.size)
  · intro k hk hq
    rcases hat with e | e
    · exact h6 k hk (by rw [← e]; exact hq)
    · rw [e] at hq
      have := h1'.lt hk
      simp at hq
      simp at this
      omega

end Go.Proofs.Ytpofalalfemkhaa
