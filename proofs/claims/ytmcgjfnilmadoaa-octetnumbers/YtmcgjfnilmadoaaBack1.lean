/-
  What the function that OctetBack hands to Read does: it reads all that was written, finds it the same, and nothing is left.
-/
import Derived.Test.YtmcgjfnilmadoaaKnown
import Derived.Deep.RegionHeld3
namespace Go.Proofs.Ytmcgjfnilmadoaa
open Go.RowKit

theorem Moves.cellOf {S : List Nat} {w w' : World} (m : Moves S w w') {a : Addr} {v : Value} (h : w.cell? a = some v) (ha : a.block ∉ S) : w'.cell? a = some v :=
  (World.cell?_of_block (w := w) (m.block a.block (lt_of_cell h) ha)).trans h

theorem Moves.frozenOf {S : List Nat} {w w' : World} (m : Moves S w w') {a : Addr} {v : Value} (h : w.cell? a = some v) (ha : a.block ∉ S) (hf : w.frozen? a = false) : w'.frozen? a = false :=
  (World.frozen?_of_block (w := w) (m.block a.block (lt_of_cell h) ha)).trans hf

/-- What is left to be read at the k-th. -/
def left (L : List AskM) (k : Nat) : List Nat := ((L.take 15).drop k).flatMap enc

theorem left_step {L : List AskM} {k : Nat} {a : AskM} (h : L[k]? = some a) (h15 : k < 15) : left L k = enc a ++ left L (k + 1) := by
  unfold left
  have hlt : k < (L.take 15).length := by
    have := (List.getElem?_eq_some_iff.1 h).1
    rw [List.length_take]; omega
  have e : (L.take 15)[k] = a := by
    have := (List.getElem?_eq_some_iff.1 h).2
    rw [List.getElem_take]; exact this
  rw [List.drop_eq_getElem_cons hlt, e]
  simp

theorem wrap_u8 (n : Int) : IntKind.u8.wrap n = n % 256 := by simp [IntKind.wrap, IntKind.bits, IntKind.signed]
theorem wrap_u32 (n : Int) : IntKind.u32.wrap n = n % 4294967296 := by simp [IntKind.wrap, IntKind.bits, IntKind.signed]

theorem mem_be {size n b : Nat} (h : b ∈ be size n) : b < 256 := by
  unfold be hi at h
  obtain ⟨t, _, rfl⟩ := List.mem_map.1 h
  exact Nat.mod_lt _ (by decide)

theorem val_append (a : List Nat) (b : Nat) : val (a ++ [b]) = val a * 256 + b := by simp [val]

theorem val_hi {size n : Nat} (h : n < 256 ^ size) : ∀ j, j ≤ size → val (hi size n j) = n / 256 ^ (size - j)
  | 0, _ => by
    have e : hi size n 0 = [] := by simp [hi]
    rw [e, Nat.sub_zero, Nat.div_eq_of_lt h]; rfl
  | j + 1, hj => by
    have ih := val_hi h j (by omega)
    have e : hi size n (j + 1) = hi size n j ++ [n / 256 ^ (size - 1 - j) % 256] := be_step n size j
    have e2 : size - j = (size - 1 - j) + 1 := by omega
    have e3 : size - (j + 1) = size - 1 - j := by omega
    rw [e, val_append, ih, e2, e3, Nat.pow_succ, ← Nat.div_div_eq_div_mul]
    omega

theorem val_be {size n : Nat} (h : n < 256 ^ size) : val (be size n) = n := by
  unfold be
  rw [val_hi h size (Nat.le_refl _), Nat.sub_self]
  simp

theorem enc_oct {a : AskM} (h : ∀ z ∈ a.bb, z < 256) : ∀ z ∈ enc a, z < 256 := by
  intro z hz
  unfold enc at hz
  split at hz
  · simp at hz; omega
  split at hz
  · exact mem_be hz
  split at hz
  · exact mem_be hz
  split at hz
  · exact mem_be hz
  split at hz
  · rcases List.mem_append.1 hz with hz | hz
    · exact mem_be hz
    · exact h z (List.mem_of_mem_take hz)
  · simp at hz

/-- Every byte that a thing bears is one. -/
def Octs (L : List AskM) : Prop := ∀ a ∈ L, ∀ z ∈ a.bb, z < 256
theorem Asks.octs {w : World} {v : Value} {L : List AskM} (h : Asks w v L) : Octs L := by
  obtain ⟨ad, len, cap, _, _, _, h⟩ := h
  intro a ha
  obtain ⟨k, hk, rfl⟩ := List.mem_iff_getElem.1 ha
  obtain ⟨_, _, _, hA⟩ := h k L[k] (by simp)
  exact hA.oct
theorem left_oct {L : List AskM} (h : Octs L) (k : Nat) : ∀ z ∈ left L k, z < 256 := by
  intro z hz
  unfold left at hz
  obtain ⟨a, ha, hz⟩ := List.mem_flatMap.1 hz
  exact enc_oct (h a (List.mem_of_mem_take (List.mem_of_mem_drop ha))) z hz
theorem encs_oct {L : List AskM} (h : Octs L) (k : Nat) : ∀ z ∈ encs L k, z < 256 := by
  intro z hz
  unfold encs at hz
  obtain ⟨a, ha, hz⟩ := List.mem_flatMap.1 hz
  exact enc_oct (h a (List.mem_of_mem_take ha)) z hz
theorem encs_left (L : List AskM) : encs L 15 = left L 0 := by simp [encs, left]

theorem take_of {bs hd rest : List Nat} {n : Nat} (hb : bs = hd ++ rest) (hl : hd.length = n) : bs.take n = hd ∧ bs.drop n = rest ∧ n ≤ bs.length := by
  subst hb hl
  simp

theorem rbyte_v (p g : Nat) (bs hd rest : List Nat) (V : Nat) (w : World) (h : RdIs w p g bs false) (hb : bs = hd ++ rest) (hl : hd.length = 1) (hV : val hd = V) (ho : ∀ b ∈ bs, b < 256) :
    Calls Try.prog 17 #[.pointer (some ⟨p, 0, none⟩)] w fun e w' => e = .returned (.int .u8 (V : Int)) ∧ RdIs w' p g rest false ∧ Moves [p] w w' := by
  obtain ⟨e1, e2, e3⟩ := take_of hb hl
  have := rbyte_w p g bs w h e3 ho
  rw [e1, e2, hV] at this
  exact this
theorem rnum_v (p g : Nat) (bs hd rest : List Nat) (V : Nat) (w : World) (h : RdIs w p g bs false) (hb : bs = hd ++ rest) (hl : hd.length = 4) (hV : val hd = V) (ho : ∀ b ∈ bs, b < 256) :
    Calls Try.prog 18 #[.pointer (some ⟨p, 0, none⟩)] w fun e w' => e = .returned (.int .u32 (V : Int)) ∧ RdIs w' p g rest false ∧ Moves [p] w w' := by
  obtain ⟨e1, e2, e3⟩ := take_of hb hl
  have := rnumr_w p g bs w h e3 ho
  rw [e1, e2, hV] at this
  exact this
theorem rlong_v (p g : Nat) (bs hd rest : List Nat) (V : Nat) (w : World) (h : RdIs w p g bs false) (hb : bs = hd ++ rest) (hl : hd.length = 8) (hV : val hd = V) (ho : ∀ b ∈ bs, b < 256) :
    Calls Try.prog 19 #[.pointer (some ⟨p, 0, none⟩)] w fun e w' => e = .returned (.int .u64 (V : Int)) ∧ RdIs w' p g rest false ∧ Moves [p] w w' := by
  obtain ⟨e1, e2, e3⟩ := take_of hb hl
  have := rlongr_w p g bs w h e3 ho
  rw [e1, e2, hV] at this
  exact this
theorem rfloat_v (p g : Nat) (bs hd rest : List Nat) (V : Nat) (w : World) (h : RdIs w p g bs false) (hb : bs = hd ++ rest) (hl : hd.length = 8) (hV : val hd = V) (hc : Pl.canon V = V) (ho : ∀ b ∈ bs, b < 256) :
    Calls Try.prog 21 #[.pointer (some ⟨p, 0, none⟩)] w fun e w' => e = .returned (.float .f64 V) ∧ RdIs w' p g rest false ∧ Moves [p] w w' := by
  obtain ⟨e1, e2, e3⟩ := take_of hb hl
  have := rfloat_ok_w p g bs w h e3 ho (by rw [e1, hV]; exact hc)
  rw [e1, e2, hV] at this
  exact this
theorem rtext_v (p g : Nat) (bs hd tx rest : List Nat) (most : Int) (w : World) (h : RdIs w p g bs false) (hb : bs = hd ++ (tx ++ rest)) (hl : hd.length = 4) (hV : val hd = tx.length) (hm : 0 ≤ most → (tx.length : Int) ≤ most) (ht : tx.length ≤ 1048576) (ho : ∀ b ∈ bs, b < 256) :
    Calls Try.prog 22 #[.pointer (some ⟨p, 0, none⟩), .int .i64 most] w fun e w' => ∃ v', e = .returned v' ∧ Own w' v' tx ∧ RdIs w' p g rest false ∧ Moves [p] w w' ∧ Fresh w v' := by
  obtain ⟨e1, e2, e3⟩ := take_of hb hl
  have := rtextr_w p g bs most w h ho ⟨e3, by rw [e1, hV]; exact ht, by rw [e1, hV]; exact hm, by rw [e1, e2, hV]; simp⟩
  rw [e1, e2, hV] at this
  simpa using this

/-- What the loads of a statement read is there behind its store too. -/
theorem S_set {w : World} {qs ql b o : Nat} {lv nv : Value} {t : Bool} (ht : t = true) (h1 : w.cell? ⟨qs, 0, none⟩ = some (.bool true)) (h2 : w.cell? ⟨ql, 0, none⟩ = some lv) (h3 : w.cell? ⟨b, o, none⟩ = some nv) (hql : ql ≠ qs) (hb : b ≠ qs) :
    (w.setCell ⟨qs, 0, none⟩ (.bool t)).cell? ⟨qs, 0, none⟩ = some (.bool true) ∧ (w.setCell ⟨qs, 0, none⟩ (.bool t)).cell? ⟨ql, 0, none⟩ = some lv ∧ (w.setCell ⟨qs, 0, none⟩ (.bool t)).cell? ⟨b, o, none⟩ = some nv := by
  subst ht
  have m := moves_set w qs 0 (.bool true)
  refine ⟨?_, m.cellOf h2 (by simpa using hql), m.cellOf h3 (by simpa using hb)⟩
  obtain ⟨c, e, fz, hb'⟩ : ∃ c e fz, w.heap[qs]? = some (.cells c e fz) := by
    unfold World.cell? at h1
    split at h1
    · exact ⟨_, _, _, by assumption⟩
    · simp at h1
  have hc : c[0]? = some (.bool true) := by simpa [World.cell?, hb'] using h1
  have hlt : 0 < c.size := by
    have := (Array.getElem?_eq_some_iff.1 hc).1
    exact this
  have := heap_set (i := 0) hb' (.bool true)
  simp [World.cell?, this, hlt]

/-- The state in which the function goes round. -/
def BackInv (w0 wr : World) (p g ql qs : Nat) (lv : Value) (bs : List Nat) : Prop :=
  RdIs wr p g bs false ∧ wr.heap[p + 1]? = some (.cells #[.pointer (some ⟨p, 0, none⟩)] 41 (0, 0)) ∧ wr.heap[ql]? = some (.cells #[lv] 27 (0, 0)) ∧ wr.heap[qs]? = some (.cells #[.bool true] 4 (0, 0)) ∧ Moves [] w0 wr

theorem back_next {w0 wr w2 : World} {p g ql qs : Nat} {lv : Value} {bs rest : List Nat} (h : BackInv w0 wr p g ql qs lv bs) (hr2 : RdIs w2 p g rest false) (m2 : Moves [p] wr.drew w2) (hp : w0.heap.size ≤ p) (hqs : w0.heap.size ≤ qs) (hgs : g ≠ qs)
    (hqsp : qs ∉ [p]) (hqlp : ql ∉ [p]) (hqlqs : ql ≠ qs) : BackInv w0 (w2.setCell ⟨qs, 0, none⟩ (.bool true)) p g ql qs lv rest := by
  obtain ⟨_, h2, h3, h4, h5⟩ := h
  have ms := moves_set w2 qs 0 (.bool true)
  have hpq : p + 1 ≠ qs := by
    intro e
    rw [e, h4] at h2
    simp at h2
  have hqp : p ∉ [qs] := by simp at hqsp ⊢; omega
  refine ⟨hr2.moves ms hqp (by simpa using hgs), ?_, ?_, ?_, ?_⟩
  · exact ms.at (m2.at h2 (by simp)) (by simpa using hpq)
  · exact ms.at (m2.at h3 hqlp) (by simpa using hqlqs)
  · exact one_setCell (m2.at h4 hqsp)
  · have a1 : Moves [] w0 w2 := h5.drew.trans (T := [p]) m2 (fun x hx => .inr (by simp at hx; omega))
    exact a1.trans ms (fun x hx => .inr (by simp at hx; omega))

theorem left_end {L : List AskM} {k : Nat} (h : L.length ≤ k ∨ 15 ≤ k) : left L k = [] := by
  unfold left
  rw [List.drop_of_length_le (by rw [List.length_take]; omega)]
  rfl

set_option maxRecDepth 100000 in
set_option maxHeartbeats 8000000 in
theorem back1_w (w0 : World) (p g ql qs : Nat) (lv : Value) (L : List AskM) (w : World) (hA : Asks w0 lv L) (hp : w0.heap.size ≤ p) (hqs : w0.heap.size ≤ qs) (hgs : g ≠ qs)
    (h : BackInv w0 w p g ql qs lv (left L 0))
    (hqsp : qs ∉ [p]) (hqlp : ql ∉ [p]) (hqlqs : ql ≠ qs) :
    Calls Try.prog 16 #[.pointer (some ⟨p, 0, none⟩), .pointer (some ⟨ql, 0, none⟩), .pointer (some ⟨qs, 0, none⟩)] w fun e w' => e = .returned (.tuple #[]) ∧ BackInv w0 w' p g ql qs lv [] := by
  have hO := hA.octs
  obtain ⟨ad, len, cap, rfl, hlen, hcap, hL⟩ := hA
  have cl := cell_of_one h.2.2.1
  go_enter Try.func16, Try.ntmps16
  go_wp2
  go_loopw [4] (fun i wr => ∃ k : Nat, k ≤ len ∧ k ≤ 15 ∧ i = .int .i64 k ∧ BackInv w0 wr p g ql qs (.slice ad len cap) (left L k)) (fun i _ => len - (intOf i).toNat)
  case atStart => exact ⟨0, Nat.zero_le _, Nat.zero_le _, rfl, h⟩
  case round =>
    obtain ⟨k, hk1, hk2, rfl, hI⟩ := hrel
    have hI' := hI
    obtain ⟨hr, hpv, hql, hqv, hm⟩ := hI'
    have cl := cell_of_one hql
    have cs := cell_of_one hqv
    have fs := free_of_one hqv
    clear h
    by_cases hlt : k < len
    · by_cases h15 : k < 15
      · have hk3 : (k : Int) < (len : Int) := by omega
        have hk4 : (k : Int) < 15 := by omega
        have hk5 : (0 : Int) ≤ (k : Int) := by omega
        obtain ⟨A, hA⟩ : ∃ A, L[k]? = some A := ⟨L[k]'(by omega), by simp⟩
        obtain ⟨b, off, rfl, hAt⟩ := hL k A hA
        have HE : Hid (left L k = enc A ++ left L (k + 1)) := left_step hA h15
        clear hA hL
        obtain ⟨kind, most, n, x, bv, gb, bb⟩ := A
        obtain ⟨d0, d1, d2, d3, d4, dB, hn, hx, hoct⟩ := hAt
        simp only at d0 d1 d2 d3 d4 dB hn hx hoct
        have c0 := hm.cell d0
        have c2 := hm.cell d2
        have c3 := hm.cell d3
        have c4 := hm.cell d4
        have hbp' : b ∉ [p] := by have := lt_of_cell d0; simp at this ⊢; omega
        have hbqs : b ≠ qs := by have := lt_of_cell d0; simp at this; omega
        have hrd : RdIs wr.drew p g (left L k) false := hr
        have csd : wr.drew.cell? ⟨qs, 0, none⟩ = some (.bool true) := cs
        have fsd : wr.drew.frozen? ⟨qs, 0, none⟩ = false := fs
        have cld : wr.drew.cell? ⟨ql, 0, none⟩ = some (.slice (some ⟨b, off, none⟩) len cap) := cl
        have c3d : wr.drew.cell? ⟨b, off + k * 5 + 3, none⟩ = some (.float .f64 x) := c3
        have c4d : wr.drew.cell? ⟨b, off + k * 5 + 4, none⟩ = some bv := c4
        have hBd : IsB wr.drew gb bv bb := dB.moves hm.drew (by simp)
        have c2d : wr.drew.cell? ⟨b, off + k * 5 + 2, none⟩ = some (.int .u64 (n : Int)) := c2
        have hol := left_oct hO k
        rcases kind_ways kind with rfl | rfl | rfl | rfl | rfl | ⟨q1, q2, q3, q4, q5⟩
        · have HE1 : Hid (left L k = [n % 256] ++ left L (k + 1)) := HE.out.trans (by simp [enc])
          have ht : ((n : Int) % 256 == IntKind.u8.wrap (n : Int)) = true := by rw [wrap_u8]; simp
          go_wp2
          go_region_held3 (fun w' => w'.cell? ⟨qs, 0, none⟩ = some (.bool true) ∧ w'.cell? ⟨ql, 0, none⟩ = some (.slice (some ⟨b, off, none⟩) len cap) ∧ w'.cell? ⟨b, off + k * 5 + 2, none⟩ = some (.int .u64 (n : Int))) (first | go_keep | exact S_set rfl k1 k2 k3 hqlqs hbqs) (first | (go_at_call 17; refine (rbyte_v _ g (left L k) [n % 256] (left L (k + 1)) (n % 256) _ hrd HE1.out rfl (by simp [val]) hol).mono ?_; rintro _ w2 ⟨rfl, hr2, m2⟩; have k1 := m2.cellOf csd hqsp; have k2 := m2.cellOf cld hqlp; have k3 := m2.cellOf c2d hbp'; have k4 := m2.frozenOf csd hqsp fsd))
          go_wp2
          go_roundw
          case rel => exact ⟨k + 1, by omega, by omega, by go_num, back_next hI hr2 m2 hp hqs hgs hqsp hqlp hqlqs⟩
          case measure => simp [intOf]; omega
        · have HE1 : Hid (left L k = be 4 (n % 4294967296) ++ left L (k + 1)) := HE.out.trans (by simp [enc])
          have ht : ((n : Int) % 4294967296 == IntKind.u32.wrap (n : Int)) = true := by rw [wrap_u32]; simp
          go_wp2
          go_region_held3 (fun w' => w'.cell? ⟨qs, 0, none⟩ = some (.bool true) ∧ w'.cell? ⟨ql, 0, none⟩ = some (.slice (some ⟨b, off, none⟩) len cap) ∧ w'.cell? ⟨b, off + k * 5 + 2, none⟩ = some (.int .u64 (n : Int))) (first | go_keep | exact S_set rfl k1 k2 k3 hqlqs hbqs) (first | (go_at_call 18; refine (rnum_v _ g (left L k) (be 4 (n % 4294967296)) (left L (k + 1)) (n % 4294967296) _ hrd HE1.out (be_length _ _) (val_be (by omega)) hol).mono ?_; rintro _ w2 ⟨rfl, hr2, m2⟩; have k1 := m2.cellOf csd hqsp; have k2 := m2.cellOf cld hqlp; have k3 := m2.cellOf c2d hbp'; have k4 := m2.frozenOf csd hqsp fsd))
          go_wp2
          go_roundw
          case rel => exact ⟨k + 1, by omega, by omega, by go_num, back_next hI hr2 m2 hp hqs hgs hqsp hqlp hqlqs⟩
          case measure => simp [intOf]; omega
        · have HE1 : Hid (left L k = be 8 n ++ left L (k + 1)) := HE.out.trans (by simp [enc])
          go_wp2
          go_region_held3 (fun w' => w'.cell? ⟨qs, 0, none⟩ = some (.bool true) ∧ w'.cell? ⟨ql, 0, none⟩ = some (.slice (some ⟨b, off, none⟩) len cap) ∧ w'.cell? ⟨b, off + k * 5 + 2, none⟩ = some (.int .u64 (n : Int))) (first | go_keep | exact S_set rfl k1 k2 k3 hqlqs hbqs) (first | (go_at_call 19; refine (rlong_v _ g (left L k) (be 8 n) (left L (k + 1)) n _ hrd HE1.out (be_length _ _) (val_be hn) hol).mono ?_; rintro _ w2 ⟨rfl, hr2, m2⟩; have k1 := m2.cellOf csd hqsp; have k2 := m2.cellOf cld hqlp; have k3 := m2.cellOf c2d hbp'; have k4 := m2.frozenOf csd hqsp fsd))
          go_wp2
          go_roundw
          case rel => exact ⟨k + 1, by omega, by omega, by go_num, back_next hI hr2 m2 hp hqs hgs hqsp hqlp hqlqs⟩
          case measure => simp [intOf]; omega
        · have HE1 : Hid (left L k = be 8 (Pl.canon x) ++ left L (k + 1)) := HE.out.trans (by simp [enc])
          have hcx := Pl.fits_canon hx
          have ht : ((Pl.canon (Pl.canon x) : Int) == (Pl.canon x : Int)) = true := by rw [Pl.canon_canon]; simp
          go_wp2
          go_region_held3 (fun w' => w'.cell? ⟨qs, 0, none⟩ = some (.bool true) ∧ w'.cell? ⟨ql, 0, none⟩ = some (.slice (some ⟨b, off, none⟩) len cap) ∧ w'.cell? ⟨b, off + k * 5 + 3, none⟩ = some (.float .f64 x)) (first | go_keep | exact S_set rfl k1 k2 k3 hqlqs hbqs) (first | (go_at_call 21; refine (rfloat_v _ g (left L k) (be 8 (Pl.canon x)) (left L (k + 1)) (Pl.canon x) _ hrd HE1.out (be_length _ _) (val_be hcx) (Pl.canon_canon x) hol).mono ?_; rintro _ w2 ⟨rfl, hr2, m2⟩; have k1 := m2.cellOf csd hqsp; have k2 := m2.cellOf cld hqlp; have k3 := m2.cellOf c3d hbp'; have k4 := m2.frozenOf csd hqsp fsd) | (go_at_call 20; refine (refSame_w _ _ hcx hx _).mono ?_; rintro _ _ ⟨rfl, rfl⟩))
          go_wp2
          go_roundw
          case rel => exact ⟨k + 1, by omega, by omega, by go_num, back_next hI hr2 m2 hp hqs hgs hqsp hqlp hqlqs⟩
          case measure => simp [intOf]; omega
        · have HE1 : Hid (left L k = be 4 (bb.take 30).length ++ (bb.take 30 ++ left L (k + 1))) := HE.out.trans (by simp [enc])
          obtain ⟨t30, ht30⟩ : ∃ t, t = bb.take 30 := ⟨_, rfl⟩
          rw [← ht30] at HE1
          have ht31 : t30.length ≤ 30 := by rw [ht30, List.length_take]; omega
          have hto : ∀ z ∈ t30, z < 256 := fun z hz => hoct z (List.mem_of_mem_take (by rw [← ht30]; exact hz))
          have HT : Hid (t30 = bb.take 30) := ht30
          have hgbp : bb ≠ [] → gb ∉ [p] := fun hne => by have := dB.lt hne; simp; omega
          obtain ⟨gb', hgb', hBp⟩ := hBd.pick [p] hgbp
          clear ht30
          go_wp2
          go_region_held (fun w' => w'.cell? ⟨qs, 0, none⟩ = some (.bool true) ∧ w'.cell? ⟨ql, 0, none⟩ = some (.slice (some ⟨b, off, none⟩) len cap) ∧ w'.cell? ⟨b, off + k * 5 + 4, none⟩ = some bv) (first | go_keep | exact S_set rfl k1 k2 k3 hqlqs hbqs) (first | (go_at_call 22; refine (rtext_v _ g (left L k) (be 4 t30.length) t30 (left L (k + 1)) _ _ hrd HE1.out (be_length _ _) (val_be (by omega)) (by intro h; omega) (by omega) hol).mono ?_; rintro _ w2 ⟨v2, rfl, ho2, hr2, m2, f2⟩; have k1 := m2.cellOf csd hqsp; have k2 := m2.cellOf cld hqlp; have k3 := m2.cellOf c4d hbp'; have k4 := m2.frozenOf csd hqsp fsd; have hs2 := run_str ho2.isB hto; have hB2 := hBp.moves m2 hgb') | (go_at_call 15; refine (cut_w _ gb' bb 30 _ rfl _ hB2).mono ?_; rintro _ _ ⟨v5, rfl, hv5, rfl⟩; rw [← HT.out] at hv5; have hs5 := run_str hv5 hto))
          all_goals go_wp2
          all_goals go_roundw
          all_goals first | (case rel => exact ⟨k + 1, by omega, by omega, by go_num, back_next hI hr2 m2 hp hqs hgs hqsp hqlp hqlqs⟩) | skip
          all_goals first | (case measure => simp [intOf]; omega) | skip
        · have HE1 : Hid (left L k = left L (k + 1)) := HE.out.trans (by simp at q1 q2 q3 q4 q5; simp [enc, q1, q2, q3, q4, q5])
          go_wp2
          go_roundw
          case rel =>
            refine ⟨k + 1, by omega, by omega, by go_num, ?_⟩
            rw [← HE1.out]; exact hI
          case measure => simp [intOf]; omega
      · have hk4 : ¬ (k : Int) < 15 := by omega
        have hk3 : (k : Int) < (len : Int) := by omega
        have hE := left_end (L := L) (k := k) (by omega)
        rw [hE] at hI hr
        have hN := back_next (w2 := wr) hI hr ⟨rfl, rfl, rfl, Nat.le_refl _, fun _ _ _ => rfl⟩ hp hqs hgs hqsp hqlp hqlqs
        clear hL
        go_wp2_with (go_at_call 23; refine (rleft_w _ g [] false _ hr).mono ?_; rintro _ _ ⟨rfl, rfl⟩)
        go_end0
        exact ⟨rfl, hN⟩
    · have hk3 : ¬ (k : Int) < (len : Int) := by omega
      have hE := left_end (L := L) (k := k) (by omega)
      rw [hE] at hI hr
      have hN := back_next (w2 := wr) hI hr ⟨rfl, rfl, rfl, Nat.le_refl _, fun _ _ _ => rfl⟩ hp hqs hgs hqsp hqlp hqlqs
      clear hL
      go_wp2_with (go_at_call 23; refine (rleft_w _ g [] false _ hr).mono ?_; rintro _ _ ⟨rfl, rfl⟩)
      go_end0
      exact ⟨rfl, hN⟩
end Go.Proofs.Ytmcgjfnilmadoaa
