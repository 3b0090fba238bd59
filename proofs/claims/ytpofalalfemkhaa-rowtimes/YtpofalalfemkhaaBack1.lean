/-
  What the function that OctetBack hands to Read does: it reads all that was written, finds it the same, and nothing is left.
-/
import Derived.Test.YtpofalalfemkhaaKnown
import Derived.Deep.RegionHeld3
namespace Go.Proofs.Ytpofalalfemkhaa
open Go.RowKit

theorem Moves.cellOf {S : List Nat} {w w' : World} (m : Moves S w w') {a : Addr} {v : Value} (h : w.cell? a = some v) (ha : a.block ∉ S) : w'.cell? a = some v :=
  (World.cell?_of_block (w := w) (m.block a.block (lt_of_cell h) ha)).trans h

theorem Moves.frozenOf {S : List Nat} {w w' : World} (m : Moves S w w') {a : Addr} {v : Value} (h : w.cell? a = some v) (ha : a.block ∉ S) (hf : w.frozen? a = false) : w'.frozen? a = false :=
  (World.frozen?_of_block (w := w) (m.block a.block (lt_of_cell h) ha)).trans hf

/-- What is left to be read at the k-th. -/
def left (L : List AskM) (k : Nat) : List Nat := ((L.take 15).drop k).flatMap enc

theorem left_step {L : List AskM} {k : Nat} {a : AskM} (h : L[k]? = some a) (h15 : k < 15) : left L k = enc a ++ left L (k + 1) := by
  unfold left
  have hlt : k < (L.take 15).length := by
    have := (List.getElem?_eq_some_iff.1 h).1
    rw [List.length_take]; omega
  have e : (L.take 15)[k] = a := by
    have := (List.getElem?_eq_some_iff.1 h).2
    rw [List.getElem_take]; exact this
  rw [List.drop_eq_getElem_cons hlt, e]
  simp

theorem wrap_u8 (n : Int) : IntKind.u8.wrap n = n % 256 := by simp [IntKind.wrap, IntKind.bits, IntKind.signed]
theorem wrap_u32 (n : Int) : IntKind.u32.wrap n = n % 4294967296 := by simp [IntKind.wrap, IntKind.bits, IntKind.signed]

theorem mem_be {size n b : Nat} (h : b ∈ be size n) : b < 256 := by
  unfold be hi at h
  obtain ⟨t, _, rfl⟩ := List.mem_map.1 h
  exact Nat.mod_lt _ (by decide)

theorem val_append (a : List Nat) (b : Nat) : val (a ++ [b]) = val a * 256 + b := by simp [val]

theorem val_hi {size n : Nat} (h : n < 256 ^ size) : ∀ j, j ≤ size → val (hi size n j) = n / 256 ^ (size - j)
  | 0, _ => by
    have e : hi size n 0 = [] := by simp [hi]
    rw [e, Nat.sub_zero, Nat.div_eq_of_lt h]; rfl
  | j + 1, hj => by
    have ih := val_hi h j (by omega)
    have e : hi size n (j + 1) = hi size n j ++ [n / 256 ^ (size - 1 - j) % 256] := be_step n size j
    have e2 : size - j = (size - 1 - j) + 1 := by omega
    have e3 : size - (j + 1) = size - 1 - j := by omega
    rw [e, val_append, ih, e2, e3, Nat.pow_succ, ← Nat.div_div_eq_div_mul]
    omega

theorem val_be {size n : Nat} (h : n < 256 ^ size) : val (be size n) = n := by
  unfold be
  rw [val_hi h size (Nat.le_refl _), Nat.sub_self]
  simp

theorem enc_oct {a : AskM} (h : ∀ z ∈ a.bb, z < 256) : ∀ z ∈ enc a, z < 256 := by
  intro z hz
  unfold enc at hz
  split at hz
  · simp at hz; omega
  split at hz
  · exact mem_be hz
  split at hz
  · exact mem_be hz
  split at hz
  · exact mem_be hz
  split at hz
  · rcases List.mem_append.1 hz with hz | hz
    · exact mem_be hz
    · exact h z (List.mem_of_mem_take hz)
  · simp at hz

/-- Every byte that a thing bears is one. -/
def Octs (L : List AskM) : Prop := ∀ a ∈ L, ∀ z ∈ a.bb, z < 256
theorem Asks.octs {w : World} {v : Value} {L : List AskM} (h : Asks w v L) : Octs L := by
  obtain ⟨ad, len, cap, _, _, _, h⟩ := h
  intro a ha
  obtain ⟨k, hk, rfl⟩ := List.mem_iff_getElem.1 ha
  obtain ⟨_, _, _, hA⟩ := h k L[k] (by simp)
  exact hA.oct
theorem left_oct {L : List AskM} (h : Octs L) (k : Nat) : ∀ z ∈ left L k, z < 256 := by
  intro z hz
  unfold left at hz
  obtain ⟨a, ha, hz⟩ := List.mem_flatMap.1 hz
  exact enc_oct (h a (List.mem_of_mem_take (List.mem_of_mem_drop ha))) z hz
theorem encs_oct {L : List AskM} (h : Octs L) (k : Nat) : ∀ z ∈ encs L k, z < 256 := by
  intro z hz
  unfold encs at hz
  obtain ⟨a, ha, hz⟩ := List.mem_flatMap.1 hz
  exact enc_oct (h a (List.mem_of_mem_take ha)) z hz
theorem encs_left (L : List AskM) : encs L 15 = left L 0 := by simp [encs, left]

theorem take_of {bs hd rest : List Nat} {n : Nat} (hb : bs = hd ++ rest) (hl : hd.length = n) : bs.take n = hd ∧ bs.drop n = rest ∧ n ≤ bs.length := by
  subst hb hl
  simp

theorem rbyte_v (p g : Nat) (bs hd rest : List Nat) (V : Nat) (w : World) (h : RdIs w p g bs false) (hb : bs = hd ++ rest) (hl : hd.length = 1) (hV : val hd = V) (ho : ∀ b ∈ bs, b < 256) :
    Calls Try.prog 75 #[.pointer (some ⟨p, 0, none⟩)] w fun e w' => e = .returned (.int .u8 (V : Int)) ∧ RdIs w' p g rest false ∧ Moves [p] w w' := by
  obtain ⟨e1, e2, e3⟩ := take_of hb hl
  have := rbyte_w p g bs w h e3 ho
  rw [e1, e2, hV] at this
  exact this
theorem rnum_v (p g : Nat) (bs hd rest : List Nat) (V : Nat) (w : World) (h : RdIs w p g bs false) (hb : bs = hd ++ rest) (hl : hd.length = 4) (hV : val hd = V) (ho : ∀ b ∈ bs, b < 256) :
    Calls Try.prog 116 #[.pointer (some ⟨p, 0, none⟩)] w fun e w' => e = .returned (.int .u32 (V : Int)) ∧ RdIs w' p g rest false ∧ Moves [p] w w' := by
  obtain ⟨e1, e2, e3⟩ := take_of hb hl
  have := rnumr_w p g bs w h e3 ho
  rw [e1, e2, hV] at this
  exact this
theorem rlong_v (p g : Nat) (bs hd rest : List Nat) (V : Nat) (w : World) (h : RdIs w p g bs false) (hb : bs = hd ++ rest) (hl : hd.length = 8) (hV : val hd = V) (ho : ∀ b ∈ bs, b < 256) :
    Calls Try.prog 102 #[.pointer (some ⟨p, 0, none⟩)] w fun e w' => e = .returned (.int .u64 (V : Int)) ∧ RdIs w' p g rest false ∧ Moves [p] w w' := by
  obtain ⟨e1, e2, e3⟩ := take_of hb hl
  have := rlongr_w p g bs w h e3 ho
  rw [e1, e2, hV] at this
  exact this
theorem rfloat_v (p g : Nat) (bs hd rest : List Nat) (V : Nat) (w : World) (h : RdIs w p g bs false) (hb : bs = hd ++ rest) (hl : hd.length = 8) (hV : val hd = V) (hc : Pl.canon V = V) (ho : ∀ b ∈ bs, b < 256) :
    Calls Try.prog 118 #[.pointer (some ⟨p, 0, none⟩)] w fun e w' => e = .returned (.float .f64 V) ∧ RdIs w' p g rest false ∧ Moves [p] w w' := by
  obtain ⟨e1, e2, e3⟩ := take_of hb hl
  have := rfloat_ok_w p g bs w h e3 ho (by rw [e1, hV]; exact hc)
  rw [e1, e2, hV] at this
  exact this
theorem rtext_v (p g : Nat) (bs hd tx rest : List Nat) (most : Int) (w : World) (h : RdIs w p g bs false) (hb : bs = hd ++ (tx ++ rest)) (hl : hd.length = 4) (hV : val hd = tx.length) (hm : 0 ≤ most → (tx.length : Int) ≤ most) (ht : tx.length ≤ 1048576) (ho : ∀ b ∈ bs, b < 256) :
    Calls Try.prog 101 #[.pointer (some ⟨p, 0, none⟩), .int .i64 most] w fun e w' => ∃ v', e = .returned v' ∧ Own w' v' tx ∧ RdIs w' p g rest false ∧ Moves [p] w w' ∧ Fresh w v' := by
  obtain ⟨e1, e2, e3⟩ := take_of hb hl
  have := rtextr_w p g bs most w h ho ⟨e3, by rw [e1, hV]; exact ht, by rw [e1, hV]; exact hm, by rw [e1, e2, hV]; simp⟩
  rw [e1, e2, hV] at this
  simpa using this

/-- What the loads of a statement read is there behind its store too. -/
theorem S_set {w : World} {qs ql b o : Nat} {lv nv : Value} {t : Bool} (ht : t = true) (h1 : w.cell? ⟨qs, 0, none⟩ = some (.bool true)) (h2 : w.cell? ⟨ql, 0, none⟩ = some lv) (h3 : w.cell? ⟨b, o, none⟩ = some nv) (hql : ql ≠ qs) (hb : b ≠ qs) :
    (w.setCell ⟨qs, 0, none⟩ (.bool t)).cell? ⟨qs, 0, none⟩ = some (.bool true) ∧ (w.setCell ⟨qs, 0, none⟩ (.bool t)).cell? ⟨ql, 0, none⟩ = some lv ∧ (w.setCell ⟨qs, 0, none⟩ (.bool t)).cell? ⟨b, o, none⟩ = some nv := by
  subst ht
  have m := moves_set w qs 0 (.bool true)
  refine ⟨?_, m.cellOf h2 (by simpa using hql), m.cellOf h3 (by simpa using hb)⟩
  obtain ⟨c, e, fz, hb'⟩ : ∃ c e fz, w.heap[qs]? = some (.cells c e fz) := by
    unfold World.cell? at h1
    split at h1
    · exact ⟨_, _, _, by assumption⟩
    · simp at h1
  have hc : c[0]? = some (.bool true) := by simpa [World.cell?, hb'] using h1
  have hlt : 0 < c.size := by
    have := (Array.getElem?_eq_some_iff.1 hc).1
    exact this
  have := heap_set (i := 0) hb' (.bool true)
  simp [World.cell?, this, hlt]

theorem left_end {L : List AskM} {k : Nat} (h : L.length ≤ k ∨ 15 ≤ k) : left L k = [] := by
  unfold left
  rw [List.drop_of_length_le (by rw [List.length_take]; omega)]
  rfl

end Go.Proofs.Ytpofalalfemkhaa
