/-
  Tab0, Tab1, Tab2, Tab3: our texts of these names, laid into one.
-/
import Derived.Test.YtcngllcifcpbkaaCBaseL
/-
  A table's rows as plain data: where a name is, what Set makes of them.
-/
namespace Go.Proofs.Ytcngllcifcpbkaa
open Go.RowKit

def phasN (xs : List Pnam) (s : ByteArray) : Bool := xs.any (fun x => neq x.name s)
def pputN (xs : List Pnam) (s : ByteArray) (Q : List Pcol) : List Pnam := xs.filter (fun x => nlt x.name s) ++ ((if Q.isEmpty then [] else [⟨s, Q⟩]) ++ xs.filter (fun x => nlt s x.name))
def psetE (xs : List Pnam) (s : ByteArray) (R : List Pcol) : Int := if (pname s && pright R) = false then 1 else if (!R.isEmpty && !phasN xs s && decide (32 ≤ xs.length)) = true then 13 else 0
def psetN (xs : List Pnam) (s : ByteArray) (R : List Pcol) : List Pnam := if psetE xs s R = 0 then pputN xs s (R.map pcanonC) else xs

theorem nlt_total {a b : ByteArray} (h1 : nlt a b = false) (h2 : neq a b = false) : nlt b a = true := by
  have e1 := scmp_lt a b
  have e2 := scmp_eq a b
  rw [h1] at e1
  rw [h2] at e2
  unfold nlt neq at *
  rw [ByteArray.toList_eq, ByteArray.toList_eq] at *
  revert h1 h2
  generalize a.data.toList = s
  generalize b.data.toList = t
  intro h1 h2
  clear e1 e2
  induction s generalizing t with
  | nil => cases t with
    | nil => simp at h2
    | cons y t => simp [Op.bytesLess] at h1
  | cons x s ih => cases t with
    | nil => simp [Op.bytesLess]
    | cons y t =>
      unfold Op.bytesLess at h1 ⊢
      by_cases hxy : x < y
      · simp [hxy] at h1
      · by_cases hyx : y < x
        · simp [hyx]
        · have e : x = y := UInt8.le_antisymm (UInt8.not_lt.1 hyx) (UInt8.not_lt.1 hxy)
          subst e
          simp [hxy] at h1 ⊢
          exact ih t h1 (by simpa using h2)

theorem RiseN.tail {x : Pnam} {xs : List Pnam} (h : RiseN (x :: xs)) : RiseN xs := (List.pairwise_cons.1 h).2
theorem place_ex {xs : List Pnam} (h : RiseN xs) (s : ByteArray) : ∃ i, PlaceIs xs s i ∧ xs.filter (fun x => nlt x.name s) = xs.take i ∧ xs.filter (fun x => nlt s x.name) = (if hasAt xs s i then xs.drop (i + 1) else xs.drop i) ∧ phasN xs s = hasAt xs s i := by
  induction xs with
  | nil => exact ⟨0, ⟨by simp, by simp, by simp⟩, by simp, by simp [hasAt], by simp [phasN, hasAt]⟩
  | cons x xs ih =>
    have hall := (List.pairwise_cons.1 h).1
    cases hx : nlt x.name s with
    | true =>
      obtain ⟨i, hP, e1, e2, e3⟩ := ih h.tail
      have hs : hasAt (x :: xs) s (i + 1) = hasAt xs s i := by simp [hasAt]
      refine ⟨i + 1, ⟨by have := hP.le; simp; omega, ?_, ?_⟩, ?_, ?_, ?_⟩
      · intro k y hy hk
        match k, hy with
        | 0, hy => simp at hy; rw [← hy]; exact hx
        | k + 1, hy => exact hP.lo k y (by simpa using hy) (by omega)
      · intro k y hy hk
        match k, hy with
        | 0, hy => omega
        | k + 1, hy => exact hP.hi k y (by simpa using hy) (by omega)
      · simp [hx, e1]
      · simp [nlt_asymm hx, e2, hs]
      · rw [hs, ← e3]; simp [phasN, nlt_ne hx]
    | false =>
      have hlater : ∀ y ∈ xs, nlt y.name s = false ∧ nlt s y.name = true := by
        intro y hy
        have hxy := hall y hy
        have h1 : nlt s y.name = true := by
          cases hq : neq x.name s with
          | true => rw [← neq_iff.1 hq]; exact hxy
          | false => exact nlt_trans (nlt_total hx hq) hxy
        exact ⟨nlt_asymm h1, h1⟩
      have f1 : xs.filter (fun x => nlt x.name s) = [] := List.filter_eq_nil_iff.2 (fun y hy => by simp [(hlater y hy).1])
      have f2 : xs.filter (fun x => nlt s x.name) = xs := List.filter_eq_self.2 (fun y hy => (hlater y hy).2)
      have f3 : phasN xs s = false := by
        unfold phasN
        rw [List.any_eq_false]
        intro y hy
        simp [nlt_neq (hlater y hy).2]
      refine ⟨0, ⟨by simp, by intro k y _ hk; omega, ?_⟩, ?_, ?_, ?_⟩
      · intro k y hy _
        match k, hy with
        | 0, hy => simp at hy; rw [← hy]; exact hx
        | k + 1, hy => exact (hlater y (List.mem_of_getElem? (by simpa using hy))).1
      · simp [hx, f1]
      · cases hq : neq x.name s with
        | true =>
          have e := neq_iff.1 hq
          simp [f2, hasAt, e, nlt_self, neq_self]
        | false => simp [f2, hasAt, hq, nlt_total hx hq]
      · have e : phasN (x :: xs) s = (neq x.name s || phasN xs s) := by simp [phasN]
        rw [e, f3]
        simp [hasAt]
theorem place_one {xs : List Pnam} {s : ByteArray} {i j : Nat} (h1 : PlaceIs xs s i) (h2 : PlaceIs xs s j) : i = j := by
  rcases Nat.lt_trichotomy i j with h | h | h
  · have hi : i < xs.length := Nat.lt_of_lt_of_le h h2.le
    have e := h1.hi i _ (List.getElem?_eq_getElem hi) (Nat.le_refl _)
    rw [h2.lo i _ (List.getElem?_eq_getElem hi) h] at e
    simp at e
  · exact h
  · have hi : j < xs.length := Nat.lt_of_lt_of_le h h1.le
    have e := h2.hi j _ (List.getElem?_eq_getElem hi) (Nat.le_refl _)
    rw [h1.lo j _ (List.getElem?_eq_getElem hi) h] at e
    simp at e
theorem tplace_at (W w : World) (p : Nat) (a : Option Nat) (xs : List Pnam) (s : ByteArray) (i : Nat) (h : TabIs W w p a xs) (hr : RiseN xs) (hl : xs.length ≤ 1000000) (hi : PlaceIs xs s i) :
    Calls Try.prog 25 #[.pointer (some ⟨p, 0, none⟩), .string s] w fun e w' => e = .returned (.tuple #[.int .i64 (i : Int), .bool (hasAt xs s i)]) ∧ Moves [] w w' := by
  refine (tplace_w W w p a xs s h hr hl).mono ?_
  rintro _ w2 ⟨j, rfl, hP, m2⟩
  rw [place_one hi hP]
  exact ⟨rfl, m2⟩

/-- A list of one's own lies in a block of rows. -/
theorem GrowN.blk {W w : World} {v : Value} {xs : List Pnam} (h : GrowN W w v xs) {k : Nat} (hk : v.ownBlock = some k) : ∃ cur, w.heap[k]? = some (.cells cur 53 (0, 0)) := by
  obtain ⟨_, css, h1, h2⟩ := h
  rcases h1.2.2 with ⟨e, _⟩ | ⟨g, cap', cur, e, _, hg, k1, k2, k3, k4⟩
  · rw [e] at hk; simp [Value.ownBlock] at hk
  · rw [e] at hk
    simp [Value.ownBlock] at hk
    subst hk
    exact ⟨cur, hg⟩
theorem TabIs.apart {W w : World} {p : Nat} {a : Option Nat} {xs : List Pnam} (h : TabIs W w p a xs) : p ∉ a.toList := by
  obtain ⟨v, h1, rfl, h3⟩ := h
  intro hm
  obtain ⟨cur, hb⟩ := h3.blk (Option.mem_toList.1 hm)
  rw [h1] at hb
  simp at hb
/-- One row of a list of one's own turned. -/
theorem GrowN.set {W w : World} {g n cap : Nat} {xs : List Pnam} (h : GrowN W w (.slice (some ⟨g, 0, none⟩) n cap) xs) {i : Nat} {x : Pnam} (hx : xs[i]? = some x) {lv : Value} {Q : List Pcol} (hv : ColsAt w lv Q) :
    GrowN W (w.setCell ⟨g, i * 2 + 1, none⟩ lv) (.slice (some ⟨g, 0, none⟩) n cap) (xs.take i ++ ([⟨x.name, Q⟩] ++ xs.drop (i + 1))) ∧ (∃ v0, w.cell? ⟨g, i * 2 + 1, none⟩ = some v0) ∧ w.frozen? ⟨g, i * 2 + 1, none⟩ = false ∧ Moves [g] w (w.setCell ⟨g, i * 2 + 1, none⟩ lv) ∧ Stay (fun t => t ≠ 53) w (w.setCell ⟨g, i * 2 + 1, none⟩ lv) := by
  have hix := (List.getElem?_eq_some_iff.1 hx).1
  have hc0 : n = xs.length ∧ n ≤ cap := by
    obtain ⟨_, _, _, e0, hn, hc⟩ := h.open
    simp at e0
    have := hn.out
    omega
  obtain ⟨g', cur, css, e0, hWg, hg, hnx, hcap, hmax, hcs, hcur, h2, hlen, hall⟩ := h.own (by omega)
  simp at e0
  subst e0
  have hic : i < css.length := by omega
  have st : Stay (fun t => t ≠ 53) w (w.setCell ⟨g, i * 2 + 1, none⟩ lv) := Stay.set hg (by simp) _
  have hs := heap_set (i := i * 2 + 1) hg lv
  have hcl : ∃ v0, w.cell? ⟨g, i * 2 + 1, none⟩ = some v0 := ⟨cur[i * 2 + 1]'(by omega), by simp [World.cell?, hg]⟩
  refine ⟨?_, hcl, by simp [World.frozen?, hg], moves_set w g _ lv, st⟩
  have hsplit : css = css.take i ++ ([css[i]] ++ css.drop (i + 1)) := by simp
  have hAl : (css.take i).flatten.length = i * 2 := by rw [flatten_length (fun c hc => h2 c (List.mem_of_mem_take hc)), List.length_take]; congr 1; omega
  obtain ⟨lv0, hci, _⟩ : NamC w css[i] x := by
    obtain ⟨c, hc, hN⟩ := hall.get hx
    rw [List.getElem?_eq_getElem hic] at hc
    simp at hc
    rw [hc]
    exact hN
  refine GrowN.mk' (css := css.take i ++ ([[.string x.name, lv]] ++ css.drop (i + 1))) hs hWg ?_ hcap hmax (by simpa using hcs) ?_ ?_ ?_
  · simp only [List.length_append, List.length_take, List.length_drop, List.length_singleton, hlen]; omega
  · rw [Array.toList_setIfInBounds, List.take_set, hcur]
    conv => lhs; rw [hsplit]
    rw [List.flatten_append, List.flatten_append, List.flatten_append, List.flatten_append, hci]
    simp only [List.flatten_cons, List.flatten_nil, List.append_nil]
    rw [List.set_append_right _ _ (by omega), hAl]
    have : i * 2 + 1 - i * 2 = 1 := by omega
    rw [this]
    rfl
  · intro c hc
    rcases List.mem_append.1 hc with hc | hc
    · exact h2 c (List.mem_of_mem_take hc)
    · rcases List.mem_append.1 hc with hc | hc
      · simp at hc; rw [hc]; rfl
      · exact h2 c (List.mem_of_mem_drop hc)
  · have h3 := hall.mono (fun _ _ k => NamC.stay (w' := w.setCell ⟨g, i * 2 + 1, none⟩ lv) st (by decide) (by decide) (by decide) k)
    refine (h3.take i).append (All2.append ?_ (h3.drop (i + 1)))
    exact ⟨⟨_, rfl, hv.stayX st (by decide) (by decide) (by decide)⟩, trivial⟩
end Go.Proofs.Ytcngllcifcpbkaa
/-
  Set of a table.
-/
namespace Go.Proofs.Ytcngllcifcpbkaa
open Go.RowKit

/-- What Set leaves. -/
def SetTo (W w : World) (p : Nat) (a : Option Nat) (ys : List Pnam) (w' : World) : Prop :=
  ∃ a', TabTo W w p a w' a' ys ∧ Stay (fun t => t = 5 ∨ t = 79 ∨ t = 33) w w'
theorem Stay.trans {T : TypeId → Prop} {w w1 w2 : World} (h : Stay T w w1) (k : Stay T w1 w2) : Stay T w w2 := fun g c t fz hg ht => by
  obtain ⟨fz1, h1⟩ := h g c t fz hg ht
  exact k g c t fz1 h1 ht
theorem SetTo.same {W w w' : World} {p : Nat} {a : Option Nat} {xs : List Pnam} (h : TabIs W w p a xs) (m : Moves [] w w') : SetTo W w p a xs w' := ⟨a, ⟨h.moves0 m, m.mono (by simp), .inl rfl⟩, Stay.ofMoves m⟩
theorem SetTo.store {W w w1 w2 : World} {p : Nat} {v0 v1 : Value} {xs ys : List Pnam} (hp : w.heap[p]? = some (.cells #[v0] 65 (0, 0))) (h0 : GrowN W w v0 xs) (m1 : Moves [] w w1) (h : Inserted W w1 w2 v0 ys (.returned v1)) : SetTo W w p v0.ownBlock ys (w2.setCell ⟨p, 0, none⟩ v1) := by
  obtain ⟨ad, n, cap, e, hG, mv, st, hb⟩ := h
  simp at e
  subst e
  have hap : p ∉ v0.ownBlock.toList := TabIs.apart ⟨_, hp, rfl, h0⟩
  have hp2 := mv.at (m1.at hp (by simp)) hap
  have hlt := lt_of_block hp
  have ms := moves_set w2 p 0 (.slice ad n cap)
  have m12 : Moves v0.ownBlock.toList w w2 := (m1.mono (by simp)).then mv
  have hbk : ∀ k, (Value.slice ad n cap).ownBlock = some k → k ∉ [p] := by
    intro k hk hm
    simp at hm
    subst hm
    rcases hb with e | ⟨k', e, hk'⟩
    · rw [e] at hk; exact hap (by simp [hk])
    · rw [e] at hk
      simp at hk
      have := m1.size
      omega
  have stp : Stay (fun t => t = 5 ∨ t = 79 ∨ t = 33) w2 (w2.setCell ⟨p, 0, none⟩ (.slice ad n cap)) := Stay.set hp2 (by decide) _
  refine ⟨(Value.slice ad n cap).ownBlock, ⟨⟨_, set_one hp2 _, rfl, hG.moves ms hbk stp⟩, (m12.mono (by simp +contextual)).then (ms.mono (by simp)), ?_⟩, Stay.trans (Stay.trans (Stay.ofMoves m1) st) stp⟩
  rcases hb with e | ⟨k', e, hk'⟩
  · exact .inl e
  · exact .inr ⟨k', e, by have := m1.size; omega⟩

theorem psetE_bad {xs : List Pnam} {s : ByteArray} {R : List Pcol} (h : (pname s && pright R) = false) : psetE xs s R = 1 ∧ psetN xs s R = xs := by
  have e : psetE xs s R = 1 := by unfold psetE; rw [if_pos h]
  exact ⟨e, by unfold psetN; rw [e]; rfl⟩
theorem psetE_ok {xs : List Pnam} {s : ByteArray} {R : List Pcol} (h1 : pname s = true) (h2 : pright R = true) (h : (!R.isEmpty && !phasN xs s && decide (32 ≤ xs.length)) = false) : psetE xs s R = 0 ∧ psetN xs s R = pputN xs s (R.map pcanonC) := by
  have e : psetE xs s R = 0 := by unfold psetE; rw [if_neg (by simp [h1, h2]), if_neg (by simp [h])]
  exact ⟨e, by unfold psetN; rw [if_pos e]⟩
theorem psetE_full {xs : List Pnam} {s : ByteArray} {R : List Pcol} (h1 : pname s = true) (h2 : pright R = true) (h : (!R.isEmpty && !phasN xs s && decide (32 ≤ xs.length)) = true) : psetE xs s R = 13 ∧ psetN xs s R = xs := by
  have e : psetE xs s R = 13 := by unfold psetE; rw [if_neg (by simp [h1, h2]), if_pos h]
  exact ⟨e, by unfold psetN; rw [e]; rfl⟩

set_option maxRecDepth 100000 in
set_option maxHeartbeats 8000000 in
theorem tset_bad1 (W w : World) (p : Nat) (xs : List Pnam) (nm : ByteArray) (R : List Pcol) (ad : Option Addr) (n cap : Nat) (adr : Option Addr) (nr capr : Nat) (i : Nat) (hp : w.heap[p]? = some (.cells #[.slice ad n cap] 65 (0, 0))) (hG : GrowN W w (.slice ad n cap) xs) (hn : Hid (n = xs.length)) (hrise : RiseN xs) (hl : n ≤ 1000) (hr : RowAt w (.agg #[.slice adr nr capr]) R)
    (hP : PlaceIs xs nm i) (hnm : pname nm = false) :
    Calls Try.prog 8 #[.pointer (some ⟨p, 0, none⟩), .string nm, .agg #[.slice adr nr capr]] w fun e w' => e = .returned (.int .i64 1) ∧ SetTo W w p (Value.slice ad n cap).ownBlock xs w' := by
  have HT : Hid (TabIs W w p (Value.slice ad n cap).ownBlock xs) := ⟨_, hp, rfl, hG⟩
  have HG : Hid (GrowN W w (.slice ad n cap) xs) := hG
  have hlt := lt_of_block hp
  have hcn : n ≤ cap := by
    obtain ⟨_, _, _, e0, _, hc⟩ := hG.open
    simp at e0
    omega
  have hmb : Moves [] w (w.alloc (.cells #[.slice adr nr capr] 36)) := (Moves.refl [] w).alloc _
  have hl' : xs.length ≤ 1000000 := by have := hn.out; omega
  have hname := fun w => name_w nm w
  have hright := fun w1 (m1 : Moves [] w w1) => right_w w w1 _ R hr m1
  have hplace := fun w1 (m1 : Moves [] w w1) => tplace_at W w1 p _ xs nm i (HT.out.moves0 m1) hrise hl' hP
  rw [hnm] at hname
  clear hright hplace hr hG
  go_enter Try.func8, Try.ntmps8
  go_wp2_with (go_at_call 23; refine (hname _).mono ?_; rintro _ _ ⟨rfl, rfl⟩)
  go_ret
  exact ⟨rfl, SetTo.same HT.out hmb⟩

set_option maxRecDepth 100000 in
set_option maxHeartbeats 8000000 in
theorem tset_bad2 (W w : World) (p : Nat) (xs : List Pnam) (nm : ByteArray) (R : List Pcol) (ad : Option Addr) (n cap : Nat) (adr : Option Addr) (nr capr : Nat) (i : Nat) (hp : w.heap[p]? = some (.cells #[.slice ad n cap] 65 (0, 0))) (hG : GrowN W w (.slice ad n cap) xs) (hn : Hid (n = xs.length)) (hrise : RiseN xs) (hl : n ≤ 1000) (hr : RowAt w (.agg #[.slice adr nr capr]) R)
    (hP : PlaceIs xs nm i) (hnm : pname nm = true) (hR : pright R = false) :
    Calls Try.prog 8 #[.pointer (some ⟨p, 0, none⟩), .string nm, .agg #[.slice adr nr capr]] w fun e w' => e = .returned (.int .i64 1) ∧ SetTo W w p (Value.slice ad n cap).ownBlock xs w' := by
  have HT : Hid (TabIs W w p (Value.slice ad n cap).ownBlock xs) := ⟨_, hp, rfl, hG⟩
  have HG : Hid (GrowN W w (.slice ad n cap) xs) := hG
  have hlt := lt_of_block hp
  have hcn : n ≤ cap := by
    obtain ⟨_, _, _, e0, _, hc⟩ := hG.open
    simp at e0
    omega
  have hmb : Moves [] w (w.alloc (.cells #[.slice adr nr capr] 36)) := (Moves.refl [] w).alloc _
  have hl' : xs.length ≤ 1000000 := by have := hn.out; omega
  have hname := fun w => name_w nm w
  have hright := fun w1 (m1 : Moves [] w w1) => right_w w w1 _ R hr m1
  have hplace := fun w1 (m1 : Moves [] w w1) => tplace_at W w1 p _ xs nm i (HT.out.moves0 m1) hrise hl' hP
  rw [hnm] at hname
  simp only [hR] at hright
  clear hplace hr hG
  go_enter Try.func8, Try.ntmps8
  go_wp2_with (first | (go_at_call 23; refine (hname _).mono ?_; rintro _ _ ⟨rfl, rfl⟩) | (go_at_call 24; refine (hright _ hmb).mono ?_; rintro _ w2 ⟨rfl, m2⟩; obtain ⟨b1, m02⟩ := boxesW m2; obtain ⟨d1, d2⟩ := one_cell b1))
  go_ret
  exact ⟨rfl, SetTo.same HT.out m02⟩

set_option maxRecDepth 100000 in
set_option maxHeartbeats 8000000 in
theorem tset_none (W w : World) (p : Nat) (xs : List Pnam) (nm : ByteArray) (R : List Pcol) (ad : Option Addr) (n cap : Nat) (adr : Option Addr) (nr capr : Nat) (i : Nat) (hp : w.heap[p]? = some (.cells #[.slice ad n cap] 65 (0, 0))) (hG : GrowN W w (.slice ad n cap) xs) (hn : Hid (n = xs.length)) (hrise : RiseN xs) (hl : n ≤ 1000) (hr : RowAt w (.agg #[.slice adr nr capr]) R)
    (hP : PlaceIs xs nm i) (hnm : pname nm = true) (hR : pright R = true) (hhas : hasAt xs nm i = false) (h0 : nr = 0) :
    Calls Try.prog 8 #[.pointer (some ⟨p, 0, none⟩), .string nm, .agg #[.slice adr nr capr]] w fun e w' => e = .returned (.int .i64 0) ∧ SetTo W w p (Value.slice ad n cap).ownBlock xs w' := by
  have HT : Hid (TabIs W w p (Value.slice ad n cap).ownBlock xs) := ⟨_, hp, rfl, hG⟩
  have HG : Hid (GrowN W w (.slice ad n cap) xs) := hG
  have hlt := lt_of_block hp
  have hcn : n ≤ cap := by
    obtain ⟨_, _, _, e0, _, hc⟩ := hG.open
    simp at e0
    omega
  have hmb : Moves [] w (w.alloc (.cells #[.slice adr nr capr] 36)) := (Moves.refl [] w).alloc _
  have hl' : xs.length ≤ 1000000 := by have := hn.out; omega
  have hname := fun w => name_w nm w
  have hright := fun w1 (m1 : Moves [] w w1) => right_w w w1 _ R hr m1
  have hplace := fun w1 (m1 : Moves [] w w1) => tplace_at W w1 p _ xs nm i (HT.out.moves0 m1) hrise hl' hP
  rw [hnm] at hname
  simp only [hR] at hright
  simp only [hhas] at hplace
  subst h0
  clear hr hG
  go_enter Try.func8, Try.ntmps8
  go_wp2_with (first | (go_at_call 23; refine (hname _).mono ?_; rintro _ _ ⟨rfl, rfl⟩) | (go_at_call 24; refine (hright _ hmb).mono ?_; rintro _ w2 ⟨rfl, m2⟩; obtain ⟨b1, m02⟩ := boxesW m2; obtain ⟨d1, d2⟩ := one_cell b1) | (go_at_call 25; refine (hplace _ m02).mono ?_; rintro _ w3 ⟨rfl, m3⟩; have m03 := m02.then m3; have c3 := m03.at hp (by simp); have b3 := m3.at b1 (by simp); obtain ⟨x1, x2⟩ := one_cell c3; obtain ⟨y1, y2⟩ := one_cell b3))
  go_ret
  exact ⟨rfl, SetTo.same HT.out m03⟩

set_option maxRecDepth 100000 in
set_option maxHeartbeats 8000000 in
theorem tset_full (W w : World) (p : Nat) (xs : List Pnam) (nm : ByteArray) (R : List Pcol) (ad : Option Addr) (n cap : Nat) (adr : Option Addr) (nr capr : Nat) (i : Nat) (hp : w.heap[p]? = some (.cells #[.slice ad n cap] 65 (0, 0))) (hG : GrowN W w (.slice ad n cap) xs) (hn : Hid (n = xs.length)) (hrise : RiseN xs) (hl : n ≤ 1000) (hr : RowAt w (.agg #[.slice adr nr capr]) R)
    (hP : PlaceIs xs nm i) (hnm : pname nm = true) (hR : pright R = true) (hhas : hasAt xs nm i = false) (h0 : 0 < nr) (h32 : 32 ≤ n) :
    Calls Try.prog 8 #[.pointer (some ⟨p, 0, none⟩), .string nm, .agg #[.slice adr nr capr]] w fun e w' => e = .returned (.int .i64 13) ∧ SetTo W w p (Value.slice ad n cap).ownBlock xs w' := by
  have HT : Hid (TabIs W w p (Value.slice ad n cap).ownBlock xs) := ⟨_, hp, rfl, hG⟩
  have HG : Hid (GrowN W w (.slice ad n cap) xs) := hG
  have hlt := lt_of_block hp
  have hcn : n ≤ cap := by
    obtain ⟨_, _, _, e0, _, hc⟩ := hG.open
    simp at e0
    omega
  have hmb : Moves [] w (w.alloc (.cells #[.slice adr nr capr] 36)) := (Moves.refl [] w).alloc _
  have hl' : xs.length ≤ 1000000 := by have := hn.out; omega
  have hname := fun w => name_w nm w
  have hright := fun w1 (m1 : Moves [] w w1) => right_w w w1 _ R hr m1
  have hplace := fun w1 (m1 : Moves [] w w1) => tplace_at W w1 p _ xs nm i (HT.out.moves0 m1) hrise hl' hP
  rw [hnm] at hname
  simp only [hR] at hright
  simp only [hhas] at hplace
  have z1 : ¬ ((nr : Int) = 0) := by omega
  have z2 : (32 : Int) ≤ (n : Int) := by omega
  clear hr hG
  go_enter Try.func8, Try.ntmps8
  go_wp2_with (first | (go_at_call 23; refine (hname _).mono ?_; rintro _ _ ⟨rfl, rfl⟩) | (go_at_call 24; refine (hright _ hmb).mono ?_; rintro _ w2 ⟨rfl, m2⟩; obtain ⟨b1, m02⟩ := boxesW m2; obtain ⟨d1, d2⟩ := one_cell b1) | (go_at_call 25; refine (hplace _ m02).mono ?_; rintro _ w3 ⟨rfl, m3⟩; have m03 := m02.then m3; have c3 := m03.at hp (by simp); have b3 := m3.at b1 (by simp); obtain ⟨x1, x2⟩ := one_cell c3; obtain ⟨y1, y2⟩ := one_cell b3))
  go_ret
  exact ⟨rfl, SetTo.same HT.out m03⟩

set_option maxRecDepth 100000 in
set_option maxHeartbeats 8000000 in
theorem tset_del (W w : World) (p : Nat) (xs : List Pnam) (nm : ByteArray) (R : List Pcol) (ad : Option Addr) (n cap : Nat) (adr : Option Addr) (nr capr : Nat) (i : Nat) (hp : w.heap[p]? = some (.cells #[.slice ad n cap] 65 (0, 0))) (hG : GrowN W w (.slice ad n cap) xs) (hn : Hid (n = xs.length)) (hrise : RiseN xs) (hl : n ≤ 1000) (hr : RowAt w (.agg #[.slice adr nr capr]) R)
    (hP : PlaceIs xs nm i) (hnm : pname nm = true) (hR : pright R = true) (hhas : hasAt xs nm i = true) (h0 : nr = 0) :
    Calls Try.prog 8 #[.pointer (some ⟨p, 0, none⟩), .string nm, .agg #[.slice adr nr capr]] w fun e w' => e = .returned (.int .i64 0) ∧ SetTo W w p (Value.slice ad n cap).ownBlock (xs.take i ++ xs.drop (i + 1)) w' := by
  have HT : Hid (TabIs W w p (Value.slice ad n cap).ownBlock xs) := ⟨_, hp, rfl, hG⟩
  have HG : Hid (GrowN W w (.slice ad n cap) xs) := hG
  have hlt := lt_of_block hp
  have hcn : n ≤ cap := by
    obtain ⟨_, _, _, e0, _, hc⟩ := hG.open
    simp at e0
    omega
  have hmb : Moves [] w (w.alloc (.cells #[.slice adr nr capr] 36)) := (Moves.refl [] w).alloc _
  have hl' : xs.length ≤ 1000000 := by have := hn.out; omega
  have hname := fun w => name_w nm w
  have hright := fun w1 (m1 : Moves [] w w1) => right_w w w1 _ R hr m1
  have hplace := fun w1 (m1 : Moves [] w w1) => tplace_at W w1 p _ xs nm i (HT.out.moves0 m1) hrise hl' hP
  rw [hnm] at hname
  simp only [hR] at hright
  simp only [hhas] at hplace
  subst h0
  have hap : p ∉ (Value.slice ad n cap).ownBlock.toList := HT.out.apart
  obtain ⟨m, rfl⟩ : ∃ m, n = m + 1 := by
    unfold hasAt at hhas
    split at hhas
    · rename_i y hy
      have := (List.getElem?_eq_some_iff.1 hy).1
      exact ⟨n - 1, by have := hn.out; omega⟩
    · simp at hhas
  have hi : i ≤ m := by
    have h1 := hP.le
    unfold hasAt at hhas
    split at hhas
    · rename_i y hy
      have := (List.getElem?_eq_some_iff.1 hy).1
      have := hn.out
      omega
    · simp at hhas
  have hl1 : m ≤ 1000 := by omega
  have wi : IntKind.i64.wrap ((i : Int) + 1) = (i : Int) + 1 := by rw [IntWalk.i64_in _ (by omega)]
  clear hr hG
  go_enter Try.func8, Try.ntmps8
  go_wp2_with (first | (go_at_call 23; refine (hname _).mono ?_; rintro _ _ ⟨rfl, rfl⟩) | (go_at_call 24; refine (hright _ hmb).mono ?_; rintro _ w2 ⟨rfl, m2⟩; obtain ⟨b1, m02⟩ := boxesW m2; obtain ⟨d1, d2⟩ := one_cell b1) | (go_at_call 25; refine (hplace _ m02).mono ?_; rintro _ w3 ⟨rfl, m3⟩; have m03 := m02.then m3; have c3 := m03.at hp (by simp); have b3 := m3.at b1 (by simp); obtain ⟨x1, x2⟩ := one_cell c3; obtain ⟨y1, y2⟩ := one_cell b3) | (go_at_call 26; refine (delete_w W _ ad m cap xs i (HG.out.moves0 m03) hi hl1).mono ?_; intro e4 w4 hI; have hI' := hI; obtain ⟨ad4, n4, cap4, rfl, _, mv4, _, _⟩ := hI; have c4 := mv4.at c3 hap; obtain ⟨u1, u2⟩ := one_cell c4))
  go_ret
  exact ⟨rfl, SetTo.store hp HG.out m03 hI'⟩

set_option maxRecDepth 100000 in
set_option maxHeartbeats 8000000 in
theorem tset_put (W w : World) (p : Nat) (xs : List Pnam) (nm : ByteArray) (R : List Pcol) (ad : Option Addr) (n cap : Nat) (adr : Option Addr) (nr capr : Nat) (i : Nat) (hp : w.heap[p]? = some (.cells #[.slice ad n cap] 65 (0, 0))) (hG : GrowN W w (.slice ad n cap) xs) (hn : Hid (n = xs.length)) (hrise : RiseN xs) (hl : n ≤ 1000) (hr : RowAt w (.agg #[.slice adr nr capr]) R)
    (hP : PlaceIs xs nm i) (hnm : pname nm = true) (hR : pright R = true) (hhas : hasAt xs nm i = true) (h0 : 0 < nr) :
    Calls Try.prog 8 #[.pointer (some ⟨p, 0, none⟩), .string nm, .agg #[.slice adr nr capr]] w fun e w' => e = .returned (.int .i64 0) ∧ SetTo W w p (Value.slice ad n cap).ownBlock (xs.take i ++ ([⟨nm, R.map pcanonC⟩] ++ xs.drop (i + 1))) w' := by
  have HT : Hid (TabIs W w p (Value.slice ad n cap).ownBlock xs) := ⟨_, hp, rfl, hG⟩
  have HG : Hid (GrowN W w (.slice ad n cap) xs) := hG
  have hlt := lt_of_block hp
  have hcn : n ≤ cap := by
    obtain ⟨_, _, _, e0, _, hc⟩ := hG.open
    simp at e0
    omega
  have hmb : Moves [] w (w.alloc (.cells #[.slice adr nr capr] 36)) := (Moves.refl [] w).alloc _
  have hl' : xs.length ≤ 1000000 := by have := hn.out; omega
  have hname := fun w => name_w nm w
  have hright := fun w1 (m1 : Moves [] w w1) => right_w w w1 _ R hr m1
  have hplace := fun w1 (m1 : Moves [] w w1) => tplace_at W w1 p _ xs nm i (HT.out.moves0 m1) hrise hl' hP
  rw [hnm] at hname
  simp only [hR] at hright
  simp only [hhas] at hplace
  have z1 : ¬ ((nr : Int) = 0) := by omega
  obtain ⟨x, hx, hxn⟩ : ∃ x, xs[i]? = some x ∧ x.name = nm := by
    unfold hasAt at hhas
    split at hhas
    · rename_i y hy
      exact ⟨y, hy, neq_iff.1 hhas⟩
    · simp at hhas
  have hix : i < n := by have := (List.getElem?_eq_some_iff.1 hx).1; have := hn.out; omega
  obtain ⟨g, rfl⟩ : ∃ g, ad = some ⟨g, 0, none⟩ := by
    obtain ⟨g, _, _, e, _⟩ := hG.own (by omega)
    exact ⟨g, e⟩
  have HX : Hid (xs[i]? = some x) := hx
  have HR : Hid (RowAt w (.agg #[.slice adr nr capr]) R) := hr
  have hpc : pcopy R = R.map pcanonC := by unfold pcopy pasked; rw [if_pos hR]
  have q1 : (i : Int) < (n : Int) := by omega
  have hgl : g < w.heap.size := by
    obtain ⟨cur, hb⟩ := hG.blk (k := g) rfl
    exact lt_of_block hb
  have hpg : p ≠ g := by
    have := HT.out.apart
    simpa [Value.ownBlock] using this
  clear hr hG hx
  go_enter Try.func8, Try.ntmps8
  go_wp2_with (first | (go_at_call 23; refine (hname _).mono ?_; rintro _ _ ⟨rfl, rfl⟩) | (go_at_call 24; refine (hright _ hmb).mono ?_; rintro _ w2 ⟨rfl, m2⟩; obtain ⟨b1, m02⟩ := boxesW m2; obtain ⟨d1, d2⟩ := one_cell b1) | (go_at_call 25; refine (hplace _ m02).mono ?_; rintro _ w3 ⟨rfl, m3⟩; have m03 := m02.then m3; have c3 := m03.at hp (by simp); have b3 := m3.at b1 (by simp); obtain ⟨x1, x2⟩ := one_cell c3; obtain ⟨y1, y2⟩ := one_cell b3))
  refine wp_region_noPanic ?_
  refine wp_region_held_drew (S := (fun w' => w'.cell? ⟨p, 0, none⟩ = some (.slice (some ⟨g, 0, none⟩) n cap) ∧ w'.cell? ⟨w.heap.size, 0, none⟩ = some (.slice adr nr capr))) (by kernel_rfl) ?_ (fun hHeld => ?_)
  · first | (go_keep; done) | first | exact ⟨x1, y1⟩ | exact ⟨k1, k2⟩ | exact ⟨k3, k4⟩
  refine wpAnyH_take (i := 0) (oi := { dst := some 63, op := Op.move (Operand.tmp 0), type := 26, pos := "rows.go:52", after := #[], guard := none }) (v := ?_) rfl (by kernel_rfl) (by kernel_rfl) (by kernel_rfl) (fun _ _ _ h => h) (Or.inl ⟨by rfl, ?_⟩) (by assumption) ?_
  rotate_left
  · (intro w hSw; (try dsimp only at hSw); go_simp; try (with_reducible rfl))
  try simp only [Act.put, List.setIfInBounds_toArray, List.set_cons_zero, List.set_cons_succ]
  refine wpAnyH_take (i := 1) (oi := { dst := some 64, op := Op.nilCheck (Operand.tmp 63), type := 0, pos := "rows.go:52", after := #[{ on := 0, ground := Ground.data }], guard := none }) (v := ?_) rfl (by kernel_rfl) (by kernel_rfl) (by kernel_rfl) (fun _ _ _ h => h) (Or.inl ⟨by rfl, ?_⟩) (by assumption) ?_
  rotate_left
  · (intro w hSw; (try dsimp only at hSw); go_simp; try (with_reducible rfl))
  try simp only [Act.put, List.setIfInBounds_toArray, List.set_cons_zero, List.set_cons_succ]
  refine wpAnyH_take (i := 2) (oi := { dst := some 65, op := Op.fieldAddr 65 (Operand.tmp 64) 0, type := 0, pos := "rows.go:52", after := #[{ on := 1, ground := Ground.data }], guard := none }) (v := ?_) rfl (by kernel_rfl) (by kernel_rfl) (by kernel_rfl) (fun _ _ _ h => h) (Or.inl ⟨by rfl, ?_⟩) (by assumption) ?_
  rotate_left
  · (intro w hSw; (try dsimp only at hSw); go_simp; try (with_reducible rfl))
  try simp only [Act.put, List.setIfInBounds_toArray, List.set_cons_zero, List.set_cons_succ]
  refine wpAnyH_take (i := 3) (oi := { dst := some 66, op := Op.load 27 (Operand.tmp 65), type := 27, pos := "rows.go:52", after := #[{ on := 2, ground := Ground.data }], guard := none }) (v := ?_) rfl (by kernel_rfl) (by kernel_rfl) (by kernel_rfl) (fun _ _ _ h => h) (Or.inl ⟨by rfl, ?_⟩) (by assumption) ?_
  rotate_left
  · (intro w hSw; (try dsimp only at hSw); go_simp; try (with_reducible rfl))
  try simp only [Act.put, List.setIfInBounds_toArray, List.set_cons_zero, List.set_cons_succ]
  refine wpAnyH_take (i := 4) (oi := { dst := some 67, op := Op.move (Operand.tmp 7), type := 3, pos := "rows.go:52", after := #[], guard := none }) (v := ?_) rfl (by kernel_rfl) (by kernel_rfl) (by kernel_rfl) (fun _ _ _ h => h) (Or.inl ⟨by rfl, ?_⟩) (by assumption) ?_
  rotate_left
  · (intro w hSw; (try dsimp only at hSw); go_simp; try (with_reducible rfl))
  try simp only [Act.put, List.setIfInBounds_toArray, List.set_cons_zero, List.set_cons_succ]
  refine wpAnyH_take (i := 5) (oi := { dst := some 68, op := Op.load 36 (Operand.tmp 5), type := 36, pos := "rows.go:52", after := #[], guard := none }) (v := ?_) rfl (by kernel_rfl) (by kernel_rfl) (by kernel_rfl) (fun _ _ _ h => h) (Or.inl ⟨by rfl, ?_⟩) (by assumption) ?_
  rotate_left
  · (intro w hSw; (try dsimp only at hSw); go_simp; try (with_reducible rfl))
  try simp only [Act.put, List.setIfInBounds_toArray, List.set_cons_zero, List.set_cons_succ]
  refine wpAnyH_ready (rs := [6]) (by kernel_rfl) (by simp) ?_
  refine AllReadyH.cons (o := { dst := some 69, op := Op.call { callee := Callee.value (Operand.func 27), args := #[Operand.tmp 68], argTypes := #[36] }, type := 36, pos := "rows.go:52", after := #[{ on := 5, ground := Ground.data }], guard := none }) rfl (fun K hK => ?_) AllReadyH.nil
  go_simp
  (go_at_call 27; refine (copy_w w _ _ R HR.out m03.drew).mono ?_; rintro e5 w5 ⟨lv5, rfl, hC5, m5⟩)
  have m5' : Moves [] w3 w5 := (Moves.refl [] w3).drew.then m5
  obtain ⟨ad5, n5, cap5, rfl, hn5⟩ := hC5.open
  have k1 := m5'.cell x1
  have k2 := m5'.cell y1
  obtain ⟨G1, ⟨v9, G2⟩, G3, G4, G5⟩ := ((HG.out.moves0 (m03.then m5')).set HX.out hC5.at)
  refine hK.out _ _ ?_ (fun hHeld => ?_)
  · first | exact ⟨x1, y1⟩ | exact ⟨k1, k2⟩ | exact ⟨k3, k4⟩
  clear hK K
  try simp only [Act.put, List.setIfInBounds_toArray, List.set_cons_zero, List.set_cons_succ]
  refine wpAnyH_take (i := 7) (oi := { dst := some 70, op := Op.indexAddr 27 (Operand.tmp 66) (Operand.tmp 67), type := 0, pos := "rows.go:52", after := #[{ on := 3, ground := Ground.data }, { on := 4, ground := Ground.data }, { on := 0, ground := Ground.phase }, { on := 1, ground := Ground.phase }, { on := 2, ground := Ground.phase }, { on := 3, ground := Ground.phase }, { on := 4, ground := Ground.phase }, { on := 5, ground := Ground.phase }, { on := 6, ground := Ground.phase }], guard := none }) (v := ?_) rfl (by kernel_rfl) (by kernel_rfl) (by kernel_rfl) (fun _ _ _ h => h) (Or.inl ⟨by rfl, ?_⟩) (by assumption) ?_
  rotate_left
  · (intro w hSw; (try dsimp only at hSw); go_simp; try (with_reducible rfl))
  try simp only [Act.put, List.setIfInBounds_toArray, List.set_cons_zero, List.set_cons_succ]
  refine wpAnyH_take (i := 8) (oi := { dst := some 71, op := Op.fieldAddr 53 (Operand.tmp 70) 1, type := 0, pos := "rows.go:52", after := #[{ on := 7, ground := Ground.data }, { on := 0, ground := Ground.phase }, { on := 1, ground := Ground.phase }, { on := 2, ground := Ground.phase }, { on := 3, ground := Ground.phase }, { on := 4, ground := Ground.phase }, { on := 5, ground := Ground.phase }, { on := 6, ground := Ground.phase }], guard := none }) (v := ?_) rfl (by kernel_rfl) (by kernel_rfl) (by kernel_rfl) (fun _ _ _ h => h) (Or.inl ⟨by rfl, ?_⟩) (by assumption) ?_
  rotate_left
  · (intro w hSw; (try dsimp only at hSw); go_simp; try (with_reducible rfl))
  try simp only [Act.put, List.setIfInBounds_toArray, List.set_cons_zero, List.set_cons_succ]
  refine wpAnyH_ready (rs := [9]) (by kernel_rfl) (by simp) ?_
  refine AllReadyH.cons (o := { dst := none, op := Op.store 36 (Operand.tmp 71) (Operand.tmp 69), type := 0, pos := "rows.go:52", after := #[{ on := 8, ground := Ground.data }, { on := 6, ground := Ground.data }, { on := 6, ground := Ground.chain }, { on := 0, ground := Ground.phase }, { on := 1, ground := Ground.phase }, { on := 2, ground := Ground.phase }, { on := 3, ground := Ground.phase }, { on := 4, ground := Ground.phase }, { on := 5, ground := Ground.phase }, { on := 6, ground := Ground.phase }], guard := none }) rfl (fun K hK => ?_) AllReadyH.nil
  go_simp
  have k3 := G4.cellOf k1 (by simpa using hpg)
  have k4 := G4.cellOf k2 (by simp; omega)
  refine hK.out _ _ ?_ (fun hHeld => ?_)
  · first | exact ⟨x1, y1⟩ | exact ⟨k1, k2⟩ | exact ⟨k3, k4⟩
  clear hK K
  refine wpAnyH_done (by kernel_rfl) ?_ _
  refine NoPanic.normal ?_
  go_wp2_with fail
  go_ret
  rw [hpc, hxn] at G1
  exact ⟨rfl, _, ⟨⟨_, (G4.at ((m03.then m5').at hp (by simp)) (by simpa using hpg)), rfl, G1⟩, ((m03.then m5').mono (by simp)).then (G4.mono (by simp [Value.ownBlock])), .inl rfl⟩, Stay.trans (Stay.ofMoves (m03.then m5')) (G5.weak (fun t ht => by rcases ht with rfl | rfl | rfl <;> decide))⟩


set_option maxRecDepth 100000 in
set_option maxHeartbeats 8000000 in
theorem tset_ins (W w : World) (p : Nat) (xs : List Pnam) (nm : ByteArray) (R : List Pcol) (ad : Option Addr) (n cap : Nat) (adr : Option Addr) (nr capr : Nat) (i : Nat) (hp : w.heap[p]? = some (.cells #[.slice ad n cap] 65 (0, 0))) (hG : GrowN W w (.slice ad n cap) xs) (hn : Hid (n = xs.length)) (hrise : RiseN xs) (hl : n ≤ 1000) (hr : RowAt w (.agg #[.slice adr nr capr]) R)
    (hP : PlaceIs xs nm i) (hnm : pname nm = true) (hR : pright R = true) (hhas : hasAt xs nm i = false) (h0 : 0 < nr) (h32 : n < 32) (hW : W.heap.size ≤ w.heap.size) :
    Calls Try.prog 8 #[.pointer (some ⟨p, 0, none⟩), .string nm, .agg #[.slice adr nr capr]] w fun e w' => e = .returned (.int .i64 0) ∧ SetTo W w p (Value.slice ad n cap).ownBlock (xs.take i ++ [⟨nm, R.map pcanonC⟩] ++ xs.drop i) w' := by
  have HT : Hid (TabIs W w p (Value.slice ad n cap).ownBlock xs) := ⟨_, hp, rfl, hG⟩
  have HG : Hid (GrowN W w (.slice ad n cap) xs) := hG
  have hlt := lt_of_block hp
  have hcn : n ≤ cap := by
    obtain ⟨_, _, _, e0, _, hc⟩ := hG.open
    simp at e0
    omega
  have hmb : Moves [] w (w.alloc (.cells #[.slice adr nr capr] 36)) := (Moves.refl [] w).alloc _
  have hl' : xs.length ≤ 1000000 := by have := hn.out; omega
  have hname := fun w => name_w nm w
  have hright := fun w1 (m1 : Moves [] w w1) => right_w w w1 _ R hr m1
  have hplace := fun w1 (m1 : Moves [] w w1) => tplace_at W w1 p _ xs nm i (HT.out.moves0 m1) hrise hl' hP
  rw [hnm] at hname
  simp only [hR] at hright
  simp only [hhas] at hplace
  have z1 : ¬ ((nr : Int) = 0) := by omega
  have z2 : ¬ (32 : Int) ≤ (n : Int) := by omega
  have hile : i ≤ xs.length := hP.le
  have HR : Hid (RowAt w (.agg #[.slice adr nr capr]) R) := hr
  have hpc : pcopy R = R.map pcanonC := by unfold pcopy pasked; rw [if_pos hR]
  have hap : p ∉ (Value.slice ad n cap).ownBlock.toList := HT.out.apart
  have HAB : Hid (∀ k ∈ (Value.slice ad n cap).ownBlock.toList, k < w.heap.size) := fun k hk => by
    obtain ⟨cur, hb⟩ := hG.blk (Option.mem_toList.1 hk)
    exact lt_of_block hb
  clear hr hG
  go_enter Try.func8, Try.ntmps8
  go_wp2_with (first | (go_at_call 23; refine (hname _).mono ?_; rintro _ _ ⟨rfl, rfl⟩) | (go_at_call 24; refine (hright _ hmb).mono ?_; rintro _ w2 ⟨rfl, m2⟩; obtain ⟨b1, m02⟩ := boxesW m2; obtain ⟨d1, d2⟩ := one_cell b1) | (go_at_call 25; refine (hplace _ m02).mono ?_; rintro _ w3 ⟨rfl, m3⟩; have m03 := m02.then m3; have c3 := m03.at hp (by simp); have b3 := m3.at b1 (by simp); obtain ⟨x1, x2⟩ := one_cell c3; obtain ⟨y1, y2⟩ := one_cell b3))
  refine wp_region_noPanic ?_
  refine wp_region_held_drew (S := (fun w' => w'.cell? ⟨w.heap.size, 0, none⟩ = some (.slice adr nr capr))) (by kernel_rfl) ?_ (fun hHeld => ?_)
  · first | (go_keep; done) | first | exact y1 | exact k2 | exact k4 | exact k6 | exact k8
  refine wpAnyH_take (i := 0) (oi := { dst := some 23, op := Op.move (Operand.tmp 0), type := 26, pos := "rows.go:56", after := #[], guard := none }) (v := ?_) rfl (by kernel_rfl) (by kernel_rfl) (by kernel_rfl) (fun _ _ _ h => h) (Or.inl ⟨by rfl, ?_⟩) (by assumption) ?_
  rotate_left
  · (intro w hSw; (try dsimp only at hSw); go_simp; try (with_reducible rfl))
  try simp only [Act.put, List.setIfInBounds_toArray, List.set_cons_zero, List.set_cons_succ]
  refine wpAnyH_take (i := 1) (oi := { dst := some 24, op := Op.move (Operand.tmp 0), type := 26, pos := "rows.go:56", after := #[], guard := none }) (v := ?_) rfl (by kernel_rfl) (by kernel_rfl) (by kernel_rfl) (fun _ _ _ h => h) (Or.inl ⟨by rfl, ?_⟩) (by assumption) ?_
  rotate_left
  · (intro w hSw; (try dsimp only at hSw); go_simp; try (with_reducible rfl))
  try simp only [Act.put, List.setIfInBounds_toArray, List.set_cons_zero, List.set_cons_succ]
  refine wpAnyH_take (i := 2) (oi := { dst := some 25, op := Op.nilCheck (Operand.tmp 24), type := 0, pos := "rows.go:56", after := #[{ on := 1, ground := Ground.data }], guard := none }) (v := ?_) rfl (by kernel_rfl) (by kernel_rfl) (by kernel_rfl) (fun _ _ _ h => h) (Or.inl ⟨by rfl, ?_⟩) (by assumption) ?_
  rotate_left
  · (intro w hSw; (try dsimp only at hSw); go_simp; try (with_reducible rfl))
  try simp only [Act.put, List.setIfInBounds_toArray, List.set_cons_zero, List.set_cons_succ]
  refine wpAnyH_take (i := 3) (oi := { dst := some 26, op := Op.fieldAddr 65 (Operand.tmp 25) 0, type := 0, pos := "rows.go:56", after := #[{ on := 2, ground := Ground.data }], guard := none }) (v := ?_) rfl (by kernel_rfl) (by kernel_rfl) (by kernel_rfl) (fun _ _ _ h => h) (Or.inl ⟨by rfl, ?_⟩) (by assumption) ?_
  rotate_left
  · (intro w hSw; (try dsimp only at hSw); go_simp; try (with_reducible rfl))
  try simp only [Act.put, List.setIfInBounds_toArray, List.set_cons_zero, List.set_cons_succ]
  refine wpAnyH_take (i := 5) (oi := { dst := some 28, op := Op.move (Operand.tmp 7), type := 3, pos := "rows.go:56", after := #[], guard := none }) (v := ?_) rfl (by kernel_rfl) (by kernel_rfl) (by kernel_rfl) (fun _ _ _ h => h) (Or.inl ⟨by rfl, ?_⟩) (by assumption) ?_
  rotate_left
  · (intro w hSw; (try dsimp only at hSw); go_simp; try (with_reducible rfl))
  try simp only [Act.put, List.setIfInBounds_toArray, List.set_cons_zero, List.set_cons_succ]
  refine wpAnyH_take (i := 6) (oi := { dst := some 29, op := Op.move (Operand.tmp 1), type := 9, pos := "rows.go:56", after := #[], guard := none }) (v := ?_) rfl (by kernel_rfl) (by kernel_rfl) (by kernel_rfl) (fun _ _ _ h => h) (Or.inl ⟨by rfl, ?_⟩) (by assumption) ?_
  rotate_left
  · (intro w hSw; (try dsimp only at hSw); go_simp; try (with_reducible rfl))
  try simp only [Act.put, List.setIfInBounds_toArray, List.set_cons_zero, List.set_cons_succ]
  refine wpAnyH_take (i := 7) (oi := { dst := some 30, op := Op.load 36 (Operand.tmp 5), type := 36, pos := "rows.go:56", after := #[], guard := none }) (v := ?_) rfl (by kernel_rfl) (by kernel_rfl) (by kernel_rfl) (fun _ _ _ h => h) (Or.inl ⟨by rfl, ?_⟩) (by assumption) ?_
  rotate_left
  · (intro w hSw; (try dsimp only at hSw); go_simp; try (with_reducible rfl))
  try simp only [Act.put, List.setIfInBounds_toArray, List.set_cons_zero, List.set_cons_succ]
  refine wpAnyH_ready (rs := [4, 8]) (by kernel_rfl) (by simp) ?_
  refine AllReadyH.cons (o := { dst := some 27, op := Op.load 27 (Operand.tmp 26), type := 27, pos := "rows.go:56", after := #[{ on := 3, ground := Ground.data }], guard := none }) rfl (fun K hK => ?_) (AllReadyH.cons (o := { dst := some 31, op := Op.call { callee := Callee.value (Operand.func 27), args := #[Operand.tmp 30], argTypes := #[36] }, type := 36, pos := "rows.go:56", after := #[{ on := 7, ground := Ground.data }], guard := none }) rfl (fun K hK => ?_) AllReadyH.nil)
  · go_simp
    refine hK.out _ _ ?_ (fun hHeld => ?_)
    · first | exact y1 | exact k2 | exact k4 | exact k6 | exact k8
    clear hK K
    refine wpAnyH_ready (rs := [8]) (by kernel_rfl) (by simp) ?_
    refine AllReadyH.cons (o := { dst := some 31, op := Op.call { callee := Callee.value (Operand.func 27), args := #[Operand.tmp 30], argTypes := #[36] }, type := 36, pos := "rows.go:56", after := #[{ on := 7, ground := Ground.data }], guard := none }) rfl (fun K hK => ?_) AllReadyH.nil
    go_simp
    (go_at_call 27; refine (copy_w w _ _ R HR.out m03.drew).mono ?_; rintro e5 w5 ⟨lv5, rfl, hC5, m5⟩)
    have m5' : Moves [] w3 w5 := (Moves.refl [] w3).drew.then m5
    obtain ⟨ad5, n5, cap5, rfl, hn5⟩ := hC5.open
    have k1 := m5'.cell x1
    have k2 := m5'.cell y1
    refine hK.out _ _ ?_ (fun hHeld => ?_)
    · first | exact y1 | exact k2 | exact k4 | exact k6 | exact k8
    clear hK K
    try simp only [Act.put, List.setIfInBounds_toArray, List.set_cons_zero, List.set_cons_succ]
    refine wpAnyH_take (i := 9) (oi := { dst := some 32, op := Op.build 53 #[(0, Operand.tmp 29), (1, Operand.tmp 31)], type := 53, pos := "rows.go:56", after := #[{ on := 6, ground := Ground.data }, { on := 8, ground := Ground.data }], guard := none }) (v := ?_) rfl (by kernel_rfl) (by kernel_rfl) (by kernel_rfl) (fun _ _ _ h => h) (Or.inl ⟨by rfl, ?_⟩) (by assumption) ?_
    rotate_left
    · (intro w hSw; (try dsimp only at hSw); go_simp; try (with_reducible rfl))
    try simp only [Act.put, List.setIfInBounds_toArray, List.set_cons_zero, List.set_cons_succ]
    refine wpAnyH_ready (rs := [10]) (by kernel_rfl) (by simp) ?_
    refine AllReadyH.cons (o := { dst := some 33, op := Op.buildSlice 27 1 #[(0, Operand.tmp 32)], type := 27, pos := "rows.go:56", after := #[{ on := 9, ground := Ground.data }], guard := none }) rfl (fun K hK => ?_) AllReadyH.nil
    go_simp
    have m6 : Moves [] w5 (w5.alloc (.cells #[.string nm, .slice ad5 n5 cap5] 53)) := (Moves.refl [] w5).alloc _
    have b6 := (boxesW (Moves.refl [] (w5.alloc (.cells #[.string nm, .slice ad5 n5 cap5] 53)))).1
    have k3 := m6.cell k1
    have k4 := m6.cell k2
    have m06 := (m03.then m5').then m6
    refine hK.out _ _ ?_ (fun hHeld => ?_)
    · first | exact y1 | exact k2 | exact k4 | exact k6 | exact k8
    clear hK K
    try simp only [Act.put, List.setIfInBounds_toArray, List.set_cons_zero, List.set_cons_succ]
    refine wpAnyH_ready (rs := [11]) (by kernel_rfl) (by simp) ?_
    refine AllReadyH.cons (o := { dst := some 34, op := Op.call { callee := Callee.value (Operand.func 28), args := #[Operand.tmp 27, Operand.tmp 28, Operand.tmp 33], argTypes := #[27, 3, 27] }, type := 27, pos := "rows.go:56", after := #[{ on := 4, ground := Ground.data }, { on := 5, ground := Ground.data }, { on := 10, ground := Ground.data }, { on := 8, ground := Ground.chain }], guard := none }) rfl (fun K hK => ?_) AllReadyH.nil
    go_simp
    (go_at_call 28; refine (insert_w W _ ad n cap xs i ⟨nm, R.map pcanonC⟩ ad5 n5 cap5 w5.heap.size (HG.out.moves0 m06) hile hl b6 (by rw [← hpc]; exact hC5.at.moves m6) (by intro hm; have := HAB.out _ hm; have := (m03.then m5').size; omega) (by have := m06.size; omega)).mono ?_; intro e7 w7 hI; have hI' := hI; obtain ⟨ad7, n7, cap7, rfl, _, mv7, _, _⟩ := hI)
    have k5 := mv7.cellOf k3 hap
    have k6 := mv7.cellOf k4 (by intro hm; have := HAB.out _ hm; simp at this)
    have c7 := mv7.at (m06.at hp (by simp)) hap
    obtain ⟨u1, u2⟩ := one_cell c7
    refine hK.out _ _ ?_ (fun hHeld => ?_)
    · first | exact y1 | exact k2 | exact k4 | exact k6 | exact k8
    clear hK K
    try simp only [Act.put, List.setIfInBounds_toArray, List.set_cons_zero, List.set_cons_succ]
    refine wpAnyH_take (i := 12) (oi := { dst := some 35, op := Op.nilCheck (Operand.tmp 23), type := 0, pos := "rows.go:56", after := #[{ on := 0, ground := Ground.data }, { on := 0, ground := Ground.phase }, { on := 1, ground := Ground.phase }, { on := 2, ground := Ground.phase }, { on := 3, ground := Ground.phase }, { on := 4, ground := Ground.phase }, { on := 5, ground := Ground.phase }, { on := 6, ground := Ground.phase }, { on := 7, ground := Ground.phase }, { on := 8, ground := Ground.phase }, { on := 9, ground := Ground.phase }, { on := 10, ground := Ground.phase }, { on := 11, ground := Ground.phase }], guard := none }) (v := ?_) rfl (by kernel_rfl) (by kernel_rfl) (by kernel_rfl) (fun _ _ _ h => h) (Or.inl ⟨by rfl, ?_⟩) (by assumption) ?_
    rotate_left
    · (intro w hSw; (try dsimp only at hSw); go_simp; try (with_reducible rfl))
    try simp only [Act.put, List.setIfInBounds_toArray, List.set_cons_zero, List.set_cons_succ]
    refine wpAnyH_take (i := 13) (oi := { dst := some 36, op := Op.fieldAddr 65 (Operand.tmp 35) 0, type := 0, pos := "rows.go:56", after := #[{ on := 12, ground := Ground.data }, { on := 0, ground := Ground.phase }, { on := 1, ground := Ground.phase }, { on := 2, ground := Ground.phase }, { on := 3, ground := Ground.phase }, { on := 4, ground := Ground.phase }, { on := 5, ground := Ground.phase }, { on := 6, ground := Ground.phase }, { on := 7, ground := Ground.phase }, { on := 8, ground := Ground.phase }, { on := 9, ground := Ground.phase }, { on := 10, ground := Ground.phase }, { on := 11, ground := Ground.phase }], guard := none }) (v := ?_) rfl (by kernel_rfl) (by kernel_rfl) (by kernel_rfl) (fun _ _ _ h => h) (Or.inl ⟨by rfl, ?_⟩) (by assumption) ?_
    rotate_left
    · (intro w hSw; (try dsimp only at hSw); go_simp; try (with_reducible rfl))
    try simp only [Act.put, List.setIfInBounds_toArray, List.set_cons_zero, List.set_cons_succ]
    refine wpAnyH_ready (rs := [14]) (by kernel_rfl) (by simp) ?_
    refine AllReadyH.cons (o := { dst := none, op := Op.store 27 (Operand.tmp 36) (Operand.tmp 34), type := 0, pos := "rows.go:56", after := #[{ on := 13, ground := Ground.data }, { on := 11, ground := Ground.data }, { on := 11, ground := Ground.chain }, { on := 0, ground := Ground.phase }, { on := 1, ground := Ground.phase }, { on := 2, ground := Ground.phase }, { on := 3, ground := Ground.phase }, { on := 4, ground := Ground.phase }, { on := 5, ground := Ground.phase }, { on := 6, ground := Ground.phase }, { on := 7, ground := Ground.phase }, { on := 8, ground := Ground.phase }, { on := 9, ground := Ground.phase }, { on := 10, ground := Ground.phase }, { on := 11, ground := Ground.phase }], guard := none }) rfl (fun K hK => ?_) AllReadyH.nil
    go_simp
    have k8 := (Moves.refl [p] w7).setCell (p := ⟨p, 0, none⟩) (.inl (by simp)) (.slice ad7 n7 cap7)
    replace k8 := k8.cellOf k6 (by simp; omega)
    have HZ : Hid (SetTo W w p _ _ _) := SetTo.store hp HG.out m06 hI'
    refine hK.out _ _ ?_ (fun hHeld => ?_)
    · first | exact y1 | exact k2 | exact k4 | exact k6 | exact k8
    clear hK K
    refine wpAnyH_done (by kernel_rfl) ?_ _
    refine NoPanic.normal ?_
    go_wp
    go_ret
    exact ⟨rfl, HZ.out⟩
  · go_simp
    (go_at_call 27; refine (copy_w w _ _ R HR.out m03.drew).mono ?_; rintro e5 w5 ⟨lv5, rfl, hC5, m5⟩)
    have m5' : Moves [] w3 w5 := (Moves.refl [] w3).drew.then m5
    obtain ⟨ad5, n5, cap5, rfl, hn5⟩ := hC5.open
    have k1 := m5'.cell x1
    have k2 := m5'.cell y1
    refine hK.out _ _ ?_ (fun hHeld => ?_)
    · first | exact y1 | exact k2 | exact k4 | exact k6 | exact k8
    clear hK K
    try simp only [Act.put, List.setIfInBounds_toArray, List.set_cons_zero, List.set_cons_succ]
    refine wpAnyH_take (i := 9) (oi := { dst := some 32, op := Op.build 53 #[(0, Operand.tmp 29), (1, Operand.tmp 31)], type := 53, pos := "rows.go:56", after := #[{ on := 6, ground := Ground.data }, { on := 8, ground := Ground.data }], guard := none }) (v := ?_) rfl (by kernel_rfl) (by kernel_rfl) (by kernel_rfl) (fun _ _ _ h => h) (Or.inl ⟨by rfl, ?_⟩) (by assumption) ?_
    rotate_left
    · (intro w hSw; (try dsimp only at hSw); go_simp; try (with_reducible rfl))
    try simp only [Act.put, List.setIfInBounds_toArray, List.set_cons_zero, List.set_cons_succ]
    refine wpAnyH_ready (rs := [4, 10]) (by kernel_rfl) (by simp) ?_
    refine AllReadyH.cons (o := { dst := some 27, op := Op.load 27 (Operand.tmp 26), type := 27, pos := "rows.go:56", after := #[{ on := 3, ground := Ground.data }], guard := none }) rfl (fun K hK => ?_) (AllReadyH.cons (o := { dst := some 33, op := Op.buildSlice 27 1 #[(0, Operand.tmp 32)], type := 27, pos := "rows.go:56", after := #[{ on := 9, ground := Ground.data }], guard := none }) rfl (fun K hK => ?_) AllReadyH.nil)
    · go_simp
      refine hK.out _ _ ?_ (fun hHeld => ?_)
      · first | exact y1 | exact k2 | exact k4 | exact k6 | exact k8
      clear hK K
      refine wpAnyH_ready (rs := [10]) (by kernel_rfl) (by simp) ?_
      refine AllReadyH.cons (o := { dst := some 33, op := Op.buildSlice 27 1 #[(0, Operand.tmp 32)], type := 27, pos := "rows.go:56", after := #[{ on := 9, ground := Ground.data }], guard := none }) rfl (fun K hK => ?_) AllReadyH.nil
      go_simp
      have m6 : Moves [] w5 (w5.alloc (.cells #[.string nm, .slice ad5 n5 cap5] 53)) := (Moves.refl [] w5).alloc _
      have b6 := (boxesW (Moves.refl [] (w5.alloc (.cells #[.string nm, .slice ad5 n5 cap5] 53)))).1
      have k3 := m6.cell k1
      have k4 := m6.cell k2
      have m06 := (m03.then m5').then m6
      refine hK.out _ _ ?_ (fun hHeld => ?_)
      · first | exact y1 | exact k2 | exact k4 | exact k6 | exact k8
      clear hK K
      try simp only [Act.put, List.setIfInBounds_toArray, List.set_cons_zero, List.set_cons_succ]
      refine wpAnyH_ready (rs := [11]) (by kernel_rfl) (by simp) ?_
      refine AllReadyH.cons (o := { dst := some 34, op := Op.call { callee := Callee.value (Operand.func 28), args := #[Operand.tmp 27, Operand.tmp 28, Operand.tmp 33], argTypes := #[27, 3, 27] }, type := 27, pos := "rows.go:56", after := #[{ on := 4, ground := Ground.data }, { on := 5, ground := Ground.data }, { on := 10, ground := Ground.data }, { on := 8, ground := Ground.chain }], guard := none }) rfl (fun K hK => ?_) AllReadyH.nil
      go_simp
      (go_at_call 28; refine (insert_w W _ ad n cap xs i ⟨nm, R.map pcanonC⟩ ad5 n5 cap5 w5.heap.size (HG.out.moves0 m06) hile hl b6 (by rw [← hpc]; exact hC5.at.moves m6) (by intro hm; have := HAB.out _ hm; have := (m03.then m5').size; omega) (by have := m06.size; omega)).mono ?_; intro e7 w7 hI; have hI' := hI; obtain ⟨ad7, n7, cap7, rfl, _, mv7, _, _⟩ := hI)
      have k5 := mv7.cellOf k3 hap
      have k6 := mv7.cellOf k4 (by intro hm; have := HAB.out _ hm; simp at this)
      have c7 := mv7.at (m06.at hp (by simp)) hap
      obtain ⟨u1, u2⟩ := one_cell c7
      refine hK.out _ _ ?_ (fun hHeld => ?_)
      · first | exact y1 | exact k2 | exact k4 | exact k6 | exact k8
      clear hK K
      try simp only [Act.put, List.setIfInBounds_toArray, List.set_cons_zero, List.set_cons_succ]
      refine wpAnyH_take (i := 12) (oi := { dst := some 35, op := Op.nilCheck (Operand.tmp 23), type := 0, pos := "rows.go:56", after := #[{ on := 0, ground := Ground.data }, { on := 0, ground := Ground.phase }, { on := 1, ground := Ground.phase }, { on := 2, ground := Ground.phase }, { on := 3, ground := Ground.phase }, { on := 4, ground := Ground.phase }, { on := 5, ground := Ground.phase }, { on := 6, ground := Ground.phase }, { on := 7, ground := Ground.phase }, { on := 8, ground := Ground.phase }, { on := 9, ground := Ground.phase }, { on := 10, ground := Ground.phase }, { on := 11, ground := Ground.phase }], guard := none }) (v := ?_) rfl (by kernel_rfl) (by kernel_rfl) (by kernel_rfl) (fun _ _ _ h => h) (Or.inl ⟨by rfl, ?_⟩) (by assumption) ?_
      rotate_left
      · (intro w hSw; (try dsimp only at hSw); go_simp; try (with_reducible rfl))
      try simp only [Act.put, List.setIfInBounds_toArray, List.set_cons_zero, List.set_cons_succ]
      refine wpAnyH_take (i := 13) (oi := { dst := some 36, op := Op.fieldAddr 65 (Operand.tmp 35) 0, type := 0, pos := "rows.go:56", after := #[{ on := 12, ground := Ground.data }, { on := 0, ground := Ground.phase }, { on := 1, ground := Ground.phase }, { on := 2, ground := Ground.phase }, { on := 3, ground := Ground.phase }, { on := 4, ground := Ground.phase }, { on := 5, ground := Ground.phase }, { on := 6, ground := Ground.phase }, { on := 7, ground := Ground.phase }, { on := 8, ground := Ground.phase }, { on := 9, ground := Ground.phase }, { on := 10, ground := Ground.phase }, { on := 11, ground := Ground.phase }], guard := none }) (v := ?_) rfl (by kernel_rfl) (by kernel_rfl) (by kernel_rfl) (fun _ _ _ h => h) (Or.inl ⟨by rfl, ?_⟩) (by assumption) ?_
      rotate_left
      · (intro w hSw; (try dsimp only at hSw); go_simp; try (with_reducible rfl))
      try simp only [Act.put, List.setIfInBounds_toArray, List.set_cons_zero, List.set_cons_succ]
      refine wpAnyH_ready (rs := [14]) (by kernel_rfl) (by simp) ?_
      refine AllReadyH.cons (o := { dst := none, op := Op.store 27 (Operand.tmp 36) (Operand.tmp 34), type := 0, pos := "rows.go:56", after := #[{ on := 13, ground := Ground.data }, { on := 11, ground := Ground.data }, { on := 11, ground := Ground.chain }, { on := 0, ground := Ground.phase }, { on := 1, ground := Ground.phase }, { on := 2, ground := Ground.phase }, { on := 3, ground := Ground.phase }, { on := 4, ground := Ground.phase }, { on := 5, ground := Ground.phase }, { on := 6, ground := Ground.phase }, { on := 7, ground := Ground.phase }, { on := 8, ground := Ground.phase }, { on := 9, ground := Ground.phase }, { on := 10, ground := Ground.phase }, { on := 11, ground := Ground.phase }], guard := none }) rfl (fun K hK => ?_) AllReadyH.nil
      go_simp
      have k8 := (Moves.refl [p] w7).setCell (p := ⟨p, 0, none⟩) (.inl (by simp)) (.slice ad7 n7 cap7)
      replace k8 := k8.cellOf k6 (by simp; omega)
      have HZ : Hid (SetTo W w p _ _ _) := SetTo.store hp HG.out m06 hI'
      refine hK.out _ _ ?_ (fun hHeld => ?_)
      · first | exact y1 | exact k2 | exact k4 | exact k6 | exact k8
      clear hK K
      refine wpAnyH_done (by kernel_rfl) ?_ _
      refine NoPanic.normal ?_
      go_wp
      go_ret
      exact ⟨rfl, HZ.out⟩
    · go_simp
      have m6 : Moves [] w5 (w5.alloc (.cells #[.string nm, .slice ad5 n5 cap5] 53)) := (Moves.refl [] w5).alloc _
      have b6 := (boxesW (Moves.refl [] (w5.alloc (.cells #[.string nm, .slice ad5 n5 cap5] 53)))).1
      have k3 := m6.cell k1
      have k4 := m6.cell k2
      have m06 := (m03.then m5').then m6
      refine hK.out _ _ ?_ (fun hHeld => ?_)
      · first | exact y1 | exact k2 | exact k4 | exact k6 | exact k8
      clear hK K
      try simp only [Act.put, List.setIfInBounds_toArray, List.set_cons_zero, List.set_cons_succ]
      refine wpAnyH_ready (rs := [4]) (by kernel_rfl) (by simp) ?_
      refine AllReadyH.cons (o := { dst := some 27, op := Op.load 27 (Operand.tmp 26), type := 27, pos := "rows.go:56", after := #[{ on := 3, ground := Ground.data }], guard := none }) rfl (fun K hK => ?_) AllReadyH.nil
      go_simp
      refine hK.out _ _ ?_ (fun hHeld => ?_)
      · first | exact y1 | exact k2 | exact k4 | exact k6 | exact k8
      clear hK K
      refine wpAnyH_ready (rs := [11]) (by kernel_rfl) (by simp) ?_
      refine AllReadyH.cons (o := { dst := some 34, op := Op.call { callee := Callee.value (Operand.func 28), args := #[Operand.tmp 27, Operand.tmp 28, Operand.tmp 33], argTypes := #[27, 3, 27] }, type := 27, pos := "rows.go:56", after := #[{ on := 4, ground := Ground.data }, { on := 5, ground := Ground.data }, { on := 10, ground := Ground.data }, { on := 8, ground := Ground.chain }], guard := none }) rfl (fun K hK => ?_) AllReadyH.nil
      go_simp
      (go_at_call 28; refine (insert_w W _ ad n cap xs i ⟨nm, R.map pcanonC⟩ ad5 n5 cap5 w5.heap.size (HG.out.moves0 m06) hile hl b6 (by rw [← hpc]; exact hC5.at.moves m6) (by intro hm; have := HAB.out _ hm; have := (m03.then m5').size; omega) (by have := m06.size; omega)).mono ?_; intro e7 w7 hI; have hI' := hI; obtain ⟨ad7, n7, cap7, rfl, _, mv7, _, _⟩ := hI)
      have k5 := mv7.cellOf k3 hap
      have k6 := mv7.cellOf k4 (by intro hm; have := HAB.out _ hm; simp at this)
      have c7 := mv7.at (m06.at hp (by simp)) hap
      obtain ⟨u1, u2⟩ := one_cell c7
      refine hK.out _ _ ?_ (fun hHeld => ?_)
      · first | exact y1 | exact k2 | exact k4 | exact k6 | exact k8
      clear hK K
      try simp only [Act.put, List.setIfInBounds_toArray, List.set_cons_zero, List.set_cons_succ]
      refine wpAnyH_take (i := 12) (oi := { dst := some 35, op := Op.nilCheck (Operand.tmp 23), type := 0, pos := "rows.go:56", after := #[{ on := 0, ground := Ground.data }, { on := 0, ground := Ground.phase }, { on := 1, ground := Ground.phase }, { on := 2, ground := Ground.phase }, { on := 3, ground := Ground.phase }, { on := 4, ground := Ground.phase }, { on := 5, ground := Ground.phase }, { on := 6, ground := Ground.phase }, { on := 7, ground := Ground.phase }, { on := 8, ground := Ground.phase }, { on := 9, ground := Ground.phase }, { on := 10, ground := Ground.phase }, { on := 11, ground := Ground.phase }], guard := none }) (v := ?_) rfl (by kernel_rfl) (by kernel_rfl) (by kernel_rfl) (fun _ _ _ h => h) (Or.inl ⟨by rfl, ?_⟩) (by assumption) ?_
      rotate_left
      · (intro w hSw; (try dsimp only at hSw); go_simp; try (with_reducible rfl))
      try simp only [Act.put, List.setIfInBounds_toArray, List.set_cons_zero, List.set_cons_succ]
      refine wpAnyH_take (i := 13) (oi := { dst := some 36, op := Op.fieldAddr 65 (Operand.tmp 35) 0, type := 0, pos := "rows.go:56", after := #[{ on := 12, ground := Ground.data }, { on := 0, ground := Ground.phase }, { on := 1, ground := Ground.phase }, { on := 2, ground := Ground.phase }, { on := 3, ground := Ground.phase }, { on := 4, ground := Ground.phase }, { on := 5, ground := Ground.phase }, { on := 6, ground := Ground.phase }, { on := 7, ground := Ground.phase }, { on := 8, ground := Ground.phase }, { on := 9, ground := Ground.phase }, { on := 10, ground := Ground.phase }, { on := 11, ground := Ground.phase }], guard := none }) (v := ?_) rfl (by kernel_rfl) (by kernel_rfl) (by kernel_rfl) (fun _ _ _ h => h) (Or.inl ⟨by rfl, ?_⟩) (by assumption) ?_
      rotate_left
      · (intro w hSw; (try dsimp only at hSw); go_simp; try (with_reducible rfl))
      try simp only [Act.put, List.setIfInBounds_toArray, List.set_cons_zero, List.set_cons_succ]
      refine wpAnyH_ready (rs := [14]) (by kernel_rfl) (by simp) ?_
      refine AllReadyH.cons (o := { dst := none, op := Op.store 27 (Operand.tmp 36) (Operand.tmp 34), type := 0, pos := "rows.go:56", after := #[{ on := 13, ground := Ground.data }, { on := 11, ground := Ground.data }, { on := 11, ground := Ground.chain }, { on := 0, ground := Ground.phase }, { on := 1, ground := Ground.phase }, { on := 2, ground := Ground.phase }, { on := 3, ground := Ground.phase }, { on := 4, ground := Ground.phase }, { on := 5, ground := Ground.phase }, { on := 6, ground := Ground.phase }, { on := 7, ground := Ground.phase }, { on := 8, ground := Ground.phase }, { on := 9, ground := Ground.phase }, { on := 10, ground := Ground.phase }, { on := 11, ground := Ground.phase }], guard := none }) rfl (fun K hK => ?_) AllReadyH.nil
      go_simp
      have k8 := (Moves.refl [p] w7).setCell (p := ⟨p, 0, none⟩) (.inl (by simp)) (.slice ad7 n7 cap7)
      replace k8 := k8.cellOf k6 (by simp; omega)
      have HZ : Hid (SetTo W w p _ _ _) := SetTo.store hp HG.out m06 hI'
      refine hK.out _ _ ?_ (fun hHeld => ?_)
      · first | exact y1 | exact k2 | exact k4 | exact k6 | exact k8
      clear hK K
      refine wpAnyH_done (by kernel_rfl) ?_ _
      refine NoPanic.normal ?_
      go_wp
      go_ret
      exact ⟨rfl, HZ.out⟩


theorem tset_w (W w : World) (p : Nat) (a : Option Nat) (xs : List Pnam) (nm : ByteArray) (rv : Value) (R : List Pcol) (h : TabIs W w p a xs) (hrise : RiseN xs) (hl : xs.length ≤ 1000) (hr : RowAt w rv R) (hW : W.heap.size ≤ w.heap.size) :
    Calls Try.prog 8 #[.pointer (some ⟨p, 0, none⟩), .string nm, rv] w fun e w' => e = .returned (.int .i64 (psetE xs nm R)) ∧ SetTo W w p a (psetN xs nm R) w' := by
  obtain ⟨v, hp, rfl, hG⟩ := h
  obtain ⟨ad, n, cap, rfl, hn, hc⟩ := hG.open
  have hr0 := hr
  obtain ⟨lv, rfl, hcr⟩ := hr0
  obtain ⟨adr, capr, rfl, hcapr⟩ := hcr.slice
  obtain ⟨i, hP, e1, e2, e3⟩ := place_ex hrise nm
  have hn' := hn.out
  have hln : n ≤ 1000 := by omega
  cases hnm : pname nm with
  | false =>
    obtain ⟨k1, k2⟩ := psetE_bad (xs := xs) (s := nm) (R := R) (by rw [hnm]; rfl)
    rw [k1, k2]
    exact tset_bad1 W w p xs nm R ad n cap adr _ capr i hp hG hn hrise hln hr hP hnm
  | true =>
    cases hR : pright R with
    | false =>
      obtain ⟨k1, k2⟩ := psetE_bad (xs := xs) (s := nm) (R := R) (by rw [hR]; simp)
      rw [k1, k2]
      exact tset_bad2 W w p xs nm R ad n cap adr _ capr i hp hG hn hrise hln hr hP hnm hR
    | true =>
      cases R with
      | nil =>
        obtain ⟨k1, k2⟩ := psetE_ok (xs := xs) (s := nm) (R := []) hnm hR (by simp)
        rw [k1, k2]
        unfold pputN
        rw [e1, e2]
        cases hhas : hasAt xs nm i with
        | true =>
          simp only [List.map_nil, List.isEmpty_nil, if_true, List.nil_append]
          exact tset_del W w p xs nm [] ad n cap adr _ capr i hp hG hn hrise hln hr hP hnm hR hhas rfl
        | false =>
          simp only [List.map_nil, List.isEmpty_nil, if_true, List.nil_append, Bool.false_eq_true, if_false, List.take_append_drop]
          exact tset_none W w p xs nm [] ad n cap adr _ capr i hp hG hn hrise hln hr hP hnm hR hhas rfl
      | cons c R =>
        cases hhas : hasAt xs nm i with
        | true =>
          obtain ⟨k1, k2⟩ := psetE_ok (xs := xs) (s := nm) (R := c :: R) hnm hR (by rw [e3, hhas]; simp)
          rw [k1, k2]
          unfold pputN
          rw [e1, e2, hhas]
          simp only [List.map_cons, List.isEmpty_cons, Bool.false_eq_true, if_false, if_true]
          exact tset_put W w p xs nm (c :: R) ad n cap adr _ capr i hp hG hn hrise hln hr hP hnm hR hhas (by simp)
        | false =>
          rcases Nat.lt_or_ge n 32 with h32 | h32
          · obtain ⟨k1, k2⟩ := psetE_ok (xs := xs) (s := nm) (R := c :: R) hnm hR (by rw [← hn']; simp; omega)
            rw [k1, k2]
            unfold pputN
            rw [e1, e2, hhas]
            simp only [List.map_cons, List.isEmpty_cons, Bool.false_eq_true, if_false]
            have := tset_ins W w p xs nm (c :: R) ad n cap adr _ capr i hp hG hn hrise hln hr hP hnm hR hhas (by simp) h32 hW
            rw [List.append_assoc] at this
            exact this
          · obtain ⟨k1, k2⟩ := psetE_full (xs := xs) (s := nm) (R := c :: R) hnm hR (by rw [e3, hhas, ← hn']; simp; omega)
            rw [k1, k2]
            exact tset_full W w p xs nm (c :: R) ad n cap adr _ capr i hp hG hn hrise hln hr hP hnm hR hhas (by simp) h32

set_option maxRecDepth 100000 in
theorem tnew_w (w : World) : Calls Try.prog 15 #[] w fun e w' => e = .returned (.pointer (some ⟨w.heap.size, 0, none⟩)) ∧ TabIs w w' w.heap.size none [] ∧ Moves [] w w' := by
  go_enter Try.func15, Try.ntmps15
  go_wp
  go_ret
  have b := boxesW (Moves.refl [] (w.alloc (.cells #[.slice none 0 0] 65)))
  exact ⟨rfl, ⟨_, b.1, rfl, GrowN.nil w _⟩, b.2⟩
set_option maxRecDepth 100000 in
theorem tlen_w (W w : World) (p : Nat) (a : Option Nat) (xs : List Pnam) (h : TabIs W w p a xs) : Calls Try.prog 7 #[.pointer (some ⟨p, 0, none⟩)] w fun e w' => e = .returned (.int .i64 (xs.length : Int)) ∧ w = w' := by
  obtain ⟨v, hp, rfl, hG⟩ := h
  obtain ⟨ad, n, cap, rfl, hn, hc⟩ := hG.open
  rw [← hn.out]
  obtain ⟨x1, x2⟩ := one_cell hp
  clear hG
  go_enter Try.func7, Try.ntmps7
  go_wp
  go_ret
  exact ⟨rfl, rfl⟩
end Go.Proofs.Ytcngllcifcpbkaa
/-
  The rows of some lists, in memory of their own.
-/
namespace Go.Proofs.Ytcngllcifcpbkaa
open Go.RowKit

def pown (x : Pnam) : Pnam := ⟨x.name, pcopy x.r⟩
def pownX (xs : List Pnam) : List Pnam := xs.map pown
def pownL (LL : List (List Pnam)) : List Pnam := LL.flatten.map pown

set_option maxRecDepth 100000 in
set_option maxHeartbeats 4000000 in
theorem own_w (W w : World) (q : Nat) (vs : List Value) (LL : List (List Pnam)) (hq : w.heap[q]? = some (.cells vs.toArray 27 (0, 0))) (hA : All2 (NamsAt W) vs LL) (m : Moves [] W w) (hb : LL.flatten.length ≤ 1000) (nl : Nat) (hmm : Hid (nl = LL.length)) (hnl : nl ≤ 2) :
    Calls Try.prog 29 #[.slice (some ⟨q, 0, none⟩) nl nl] w fun e w' => ∃ ad n cap, e = .returned (.slice ad n cap) ∧ GrowN w w' (.slice ad n cap) (pownL LL) ∧ Moves [] w w' := by
  have MW : Hid (Moves [] W w) := m
  have HA : Hid (All2 (NamsAt W) vs LL) := hA
  have HB : Hid (LL.flatten.length ≤ 1000) := hb
  clear m hA hb
  go_enter Try.func29, Try.ntmps29
  go_wp2_with fail
  go_loopw [3, 10] (fun l i wr => ∃ j : Nat, j ≤ nl ∧ i = .int .i64 j ∧ Moves [] w wr ∧ GrowN w wr l (pownL (LL.take j))) (fun _ i _ => nl - (intOf i).toNat)
  case atStart => exact ⟨0, Nat.zero_le _, rfl, Moves.refl _ _, by simpa [pownL] using GrowN.nil _ _⟩
  case round =>
    obtain ⟨j, hj, rfl, mr, hG⟩ := hrel
    obtain ⟨ad3, n3, cap3, rfl, hn3, hc3⟩ := hG.open
    have HG : Hid (GrowN w wr (.slice ad3 n3 cap3) (pownL (LL.take j))) := hG
    clear hG
    obtain ⟨wo, hwo⟩ : ∃ wo, wo = wr := ⟨_, rfl⟩
    subst hwo
    by_cases hjt : j < nl
    · have hj3 : (j : Int) < nl := by omega
      obtain ⟨xs, hxs⟩ : ∃ xs, LL[j]? = some xs := ⟨_, List.getElem?_eq_getElem (by have := hmm.out; omega)⟩
      obtain ⟨v0, hv0, hN0⟩ := HA.out.get hxs
      obtain ⟨ad0, cap0, rfl, hc0⟩ := hN0.slice
      obtain ⟨n0, HN0⟩ : ∃ n0, Hid (n0 = xs.length) := ⟨_, rfl⟩
      rw [← HN0.out] at hN0 hv0 hc0
      have hcell : wo.cell? ⟨q, j, none⟩ = some (.slice ad0 n0 cap0) := mr.cell (by simp [World.cell?, hq, hv0])
      have HN : Hid (NamsAt W (.slice ad0 n0 cap0) xs) := hN0
      have hn0b : n0 ≤ 1000 := by
        have e2 : LL.flatten = (LL.take j).flatten ++ (LL.drop j).flatten := by rw [← List.flatten_append, List.take_append_drop]
        have e3 : LL.drop j = xs :: LL.drop (j + 1) := by
          obtain ⟨h1, h2⟩ := List.getElem?_eq_some_iff.1 hxs
          rw [← h2]
          exact List.drop_eq_getElem_cons h1
        have := HB.out
        rw [e2, e3, List.length_append, List.flatten_cons, List.length_append, ← HN0.out] at this
        omega
      have HX : Hid (LL[j]? = some xs) := hxs
      clear hN0 hv0 hxs
      go_wp2_with fail
      go_loopw [3, 16] (fun l i wq => ∃ k : Nat, k ≤ n0 ∧ i = .int .i64 k ∧ Moves [] w wq ∧ GrowN w wq l (pownL (LL.take j) ++ pownX (xs.take k))) (fun _ i _ => n0 - (intOf i).toNat)
      case atStart => exact ⟨0, Nat.zero_le _, rfl, mr, by simpa [pownX] using HG.out⟩
      case round =>
        obtain ⟨k, hk, rfl, mq, hGV⟩ := hrel
        obtain ⟨ad4, n4, cap4, rfl, hn4, hc4⟩ := hGV.open
        have HGV : Hid (GrowN w wr (.slice ad4 n4 cap4) (pownL (LL.take j) ++ pownX (xs.take k))) := hGV
        clear hGV
        have MR : Hid (Moves [] w wr) := mq
        by_cases hkt : k < n0
        · have hk3 : (k : Int) < n0 := by omega
          obtain ⟨x, hx⟩ : ∃ x, xs[k]? = some x := ⟨_, List.getElem?_eq_getElem (by have := HN0.out; omega)⟩
          obtain ⟨g5, off5, a5, n5, c5, rfl, y0, y1, en5, hC5⟩ := HN.out.at hx
          have z0 := (MW.out.then MR.out).cell y0
          have z1 := (MW.out.then MR.out).cell y1
          have HC5 : Hid (ColsAt W (.slice a5 n5 c5) x.r) := hC5
          have HX2 : Hid (xs[k]? = some x) := hx
          clear y0 y1 en5 hC5 hx
          go_wp2_with fail
          obtain ⟨wc, hwc⟩ : ∃ wc, wr.alloc (.cells #[.string x.name, .slice a5 n5 c5] 53) = wc := ⟨_, rfl⟩
          have mc : Moves [] wr wc := by rw [← hwc]; exact (Moves.refl _ _).alloc _
          have qc : wc.heap[wr.heap.size]? = some (.cells #[.string x.name, .slice a5 n5 c5] 53 (0, 0)) := by rw [← hwc]; exact heap_alloc_new _ _
          rw [hwc]
          obtain ⟨b0, b1⟩ := pair_cells qc
          clear hwc qc z0 z1
          have hnb : wr.heap.size ∉ (Value.slice ad4 n4 cap4).ownBlock.toList := by
            intro hm'
            obtain ⟨cur, hb'⟩ := HGV.out.blk (Option.mem_toList.1 hm')
            have := lt_of_block hb'
            omega
          have hbd : (pownL (LL.take j) ++ pownX (xs.take k)).length + [pown x].length ≤ 1048576 := by
            have e1 : (LL.take j).flatten.length + xs.length ≤ LL.flatten.length := by
              have e2 : LL.flatten = (LL.take j).flatten ++ (LL.drop j).flatten := by rw [← List.flatten_append, List.take_append_drop]
              have e3 : LL.drop j = xs :: LL.drop (j + 1) := by
                obtain ⟨h1, h2⟩ := List.getElem?_eq_some_iff.1 HX.out
                rw [← h2]
                exact List.drop_eq_getElem_cons h1
              rw [e2, e3]
              simp
            have := HB.out
            have := HN0.out
            have e4 : (pownL (LL.take j)).length = (LL.take j).flatten.length := by unfold pownL; rw [List.length_map]
            have e5 : (pownX (xs.take k)).length ≤ xs.length := by simp [pownX]; omega
            rw [List.length_append, e4]
            simp only [List.length_singleton]
            omega
          have MWc : Hid (Moves [] W wc) := (MW.out.then MR.out).then mc
          have HMr : Hid (w.heap.size ≤ wr.heap.size) := MR.out.size
          go_region_held3 (fun w' => w'.cell? ⟨wr.heap.size, 0, none⟩ = some (.string x.name) ∧ w'.cell? ⟨wr.heap.size, 1, none⟩ = some (.slice a5 n5 c5)) (first | exact ⟨m8.cellOf (m7.cell b0) hnb, m8.cellOf (m7.cell b1) hnb⟩ | exact ⟨(m5.alloc _).cell b0, (m5.alloc _).cell b1⟩ | exact ⟨m5.cell b0, m5.cell b1⟩ | exact ⟨b0, b1⟩) (first | (go_at_call 27; refine (copy_w W _ _ x.r ⟨_, rfl, HC5.out⟩ MWc.out.drew).mono ?_; rintro _ w5 ⟨lv5, rfl, hC6, m5'⟩; have m5 := ((Moves.refl [] wc).drew).then m5'; have hsl5 := hC6.open; obtain ⟨ad6, n6, c6, rfl, hn6⟩ := hsl5; have hvn := nams_new w5 (.string x.name) (.slice ad6 n6 c6) (pown x) ⟨_, rfl, hC6.at⟩; have m7 := m5.alloc (.cells #[.string x.name, .slice ad6 n6 c6] 53); have hG7 := HGV.out.moves0 (mc.then m7)) | (refine growN_step (.tmp 20) (.tmp 27) rfl _ _ (pownL (LL.take j) ++ pownX (xs.take k)) [pown x] rfl rfl (by rfl) hG7 hvn (Nat.le_trans HMr.out (mc.then m7).size) hbd ?_; intro v8 w8 hG8 m8 s8 l8))
          have e8 : pownL (LL.take j) ++ pownX (xs.take k) ++ [pown x] = pownL (LL.take j) ++ pownX (xs.take (k + 1)) := by rw [List.append_assoc]; unfold pownX; rw [take_map _ HX2.out]
          rw [e8] at hG8
          have M8 : Moves [] w w8 := (mq.then (mc.then m7)).trans m8 (fun b hb' => .inr (HGV.out.1 b (Option.mem_toList.1 hb')))
          go_wp2_with fail
          go_roundw
          case rel => exact ⟨k + 1, by omega, by go_num, M8, hG8⟩
          case measure => simp [intOf]; omega
        · have hk3 : ¬ (k : Int) < n0 := by omega
          obtain rfl : k = n0 := by omega
          have hGF := HGV.out
          have e9 : pownL (LL.take j) ++ pownX (xs.take k) = pownL (LL.take (j + 1)) := by
            rw [HN0.out, List.take_length, List.take_add_one, HX.out]
            simp [pownL, pownX]
          rw [e9] at hGF
          go_wp2_with fail
          go_roundw
          case rel => exact ⟨j + 1, by omega, by go_num, MR.out, hGF⟩
          case measure => simp [intOf]; omega
    · have hj3 : ¬ (j : Int) < nl := by omega
      obtain rfl : j = nl := by omega
      have hGF := HG.out
      rw [hmm.out, List.take_length] at hGF
      go_wp2_with fail
      go_ret
      exact ⟨_, _, _, rfl, hGF, mr⟩
end Go.Proofs.Ytcngllcifcpbkaa
/-
  Find and Range of a table.
-/
namespace Go.Proofs.Ytcngllcifcpbkaa
open Go.RowKit

theorem place_at {xs : List Pnam} (h : RiseN xs) {k : Nat} {x : Pnam} (hx : xs[k]? = some x) : PlaceIs xs x.name k ∧ hasAt xs x.name k = true := by
  refine ⟨⟨Nat.le_of_lt (List.getElem?_eq_some_iff.1 hx).1, fun j y hy hj => h.lt hy hx hj, fun j y hy hj => ?_⟩, by simp [hasAt, hx, neq_self]⟩
  rcases Nat.lt_or_ge k j with h1 | h1
  · exact nlt_asymm (h.lt hx hy h1)
  · obtain rfl : j = k := by omega
    rw [hx] at hy
    simp at hy
    rw [hy]
    exact nlt_self _
theorem filter_drop {α : Type} (p : α → Bool) : ∀ (ys : List α) (n : Nat), (∀ (k : Nat) y, ys[k]? = some y → (p y = true ↔ n ≤ k)) → ys.filter p = ys.drop n
  | [], n, _ => by simp
  | y :: ys, 0, h => by
    rw [List.drop_zero]
    exact List.filter_eq_self.2 (fun a ha => by
      obtain ⟨k, hk⟩ := List.getElem?_of_mem ha
      exact (h k a hk).2 (Nat.zero_le _))
  | y :: ys, n + 1, h => by
    have h0 : p y = false := by
      cases e : p y with
      | true => exact absurd ((h 0 y rfl).1 e) (by omega)
      | false => rfl
    rw [List.filter_cons, h0, List.drop_succ_cons]
    exact filter_drop p ys n (fun k a hk => by
      rw [h (k + 1) a (by simpa using hk)]
      omega)

def inR (lo hi : ByteArray) (x : Pnam) : Bool := !(nlt x.name lo || (!(hi.size == 0) && !nlt x.name hi))
def pfil (xs : List Pnam) (lo hi : ByteArray) : List Pnam := xs.filter (inR lo hi)
def pmost (most : Int) : Nat := min (max most 0).toNat 16
def pnext (F : List Pnam) (n : Nat) : ByteArray := match F[n]? with
  | some x => x.name
  | none => ByteArray.empty
theorem pfil_open {xs : List Pnam} {lo hi : ByteArray} {i : Nat} (hP : PlaceIs xs lo i) (h0 : hi.size = 0) : pfil xs lo hi = xs.drop i := by
  unfold pfil
  refine filter_drop _ xs i (fun k y hy => ?_)
  have e : inR lo hi y = !nlt y.name lo := by simp [inR, h0]
  rw [e]
  rcases Nat.lt_or_ge k i with h | h
  · rw [hP.lo k y hy h]; simp; omega
  · rw [hP.hi k y hy h]; simp [h]
theorem pfil_to {xs : List Pnam} {lo hi : ByteArray} {i j : Nat} (hP : PlaceIs xs lo i) (h0 : hi.size ≠ 0) (hf : xs.filter (fun x => nlt x.name hi) = xs.take j) : pfil xs lo hi = (xs.take (max i j)).drop i := by
  have e1 : pfil xs lo hi = (xs.take j).filter (fun x => !nlt x.name lo) := by
    rw [← hf, List.filter_filter]
    unfold pfil
    congr 1
    funext x
    have h1 : (hi.size == 0) = false := by simpa using h0
    simp [inR, h1]
  have e2 : (xs.take j).filter (fun x => !nlt x.name lo) = (xs.take j).drop i := by
    refine filter_drop _ _ i (fun k y hy => ?_)
    have hy' : xs[k]? = some y := by
      rw [List.getElem?_take] at hy
      split at hy
      · exact hy
      · simp at hy
    rcases Nat.lt_or_ge k i with h | h
    · rw [hP.lo k y hy' h]; simp; omega
    · rw [hP.hi k y hy' h]; simp [h]
  rw [e1, e2]
  rcases Nat.le_total i j with h | h
  · rw [Nat.max_eq_right h]
  · rw [Nat.max_eq_left h, List.drop_of_length_le (by rw [List.length_take]; omega), List.drop_of_length_le (by rw [List.length_take]; omega)]

set_option maxRecDepth 100000 in
set_option maxHeartbeats 4000000 in
theorem tfind_yes (W w : World) (p : Nat) (a : Option Nat) (xs : List Pnam) (k : Nat) (x : Pnam) (h : TabIs W w p a xs) (hrise : RiseN xs) (hl : xs.length ≤ 1000) (hx : xs[k]? = some x) :
    Calls Try.prog 21 #[.pointer (some ⟨p, 0, none⟩), .string x.name] w fun e w' => ∃ ad n cap, e = .returned (.tuple #[.agg #[.slice ad n cap], .bool true]) ∧ ColsAt w' (.slice ad n cap) (pcopy x.r) ∧ Moves [] w w' := by
  obtain ⟨hP, hh⟩ := place_at hrise hx
  have hplace := fun w1 (m1 : Moves [] w w1) => tplace_at W w1 p _ xs x.name k (h.moves0 m1) hrise (by omega) hP
  rw [hh] at hplace
  obtain ⟨v, hp, rfl, hG⟩ := h
  obtain ⟨ad, n, cap, rfl, hn, hc⟩ := hG.open
  obtain ⟨g, off, a2, n2, c2, rfl, y0, y1, en, hC⟩ := hG.at.at hx
  have hlt := lt_of_block hp
  have hkn : (k : Int) < (n : Int) := by have := (List.getElem?_eq_some_iff.1 hx).1; have := hn.out; omega
  have HC : Hid (ColsAt w (.slice a2 n2 c2) x.r) := hC
  clear hG hC en hx
  have hma : Moves [] w (w.alloc (.cells #[.slice none 0 0] 36)) := (Moves.refl _ _).alloc _
  go_enter Try.func21, Try.ntmps21
  go_wp2_with (first | (go_at_call 25; refine (hplace _ hma).mono ?_; rintro _ w3 ⟨rfl, m3⟩; obtain ⟨b1, m03⟩ := boxesW m3; have c3 := m03.at hp (by simp); obtain ⟨x1, x2⟩ := one_cell c3; have z0 := m03.cell y0; have z1 := m03.cell y1) | (go_at_call 27; refine (copy_w w _ _ x.r ⟨_, rfl, HC.out⟩ m03).mono ?_; rintro _ w5 ⟨lv5, rfl, hC6, m5⟩; have hsl5 := hC6.open; obtain ⟨ad6, n6, c6, rfl, hn6⟩ := hsl5; have b5 := m5.at b1 (by simp); obtain ⟨u1, u2⟩ := one_cell b5))
  try simp only [Exit.inBlock, Exit.then]
  refine bodyPost_ret (ret_row2 rfl _ _ _ _ rfl (set_one b5 _)) rfl ⟨_, _, _, rfl, ?_, (m03.then m5).setCell (.inr (Nat.le_refl _)) _⟩
  exact hC6.at.stayX (T := fun t => t ≠ 36) (Stay.set b5 (by simp) _) (by decide) (by decide) (by decide)
set_option maxRecDepth 100000 in
set_option maxHeartbeats 4000000 in
theorem tfind_no (W w : World) (p : Nat) (a : Option Nat) (xs : List Pnam) (s : ByteArray) (h : TabIs W w p a xs) (hrise : RiseN xs) (hl : xs.length ≤ 1000) (hx : phasN xs s = false) :
    Calls Try.prog 21 #[.pointer (some ⟨p, 0, none⟩), .string s] w fun e w' => e = .returned (.tuple #[.agg #[.slice none 0 0], .bool false]) ∧ Moves [] w w' := by
  obtain ⟨i, hP, _, _, hh⟩ := place_ex hrise s
  have hplace := fun w1 (m1 : Moves [] w w1) => tplace_at W w1 p _ xs s i (h.moves0 m1) hrise (by omega) hP
  rw [← hh, hx] at hplace
  have hlt := h.ltp
  have hma : Moves [] w (w.alloc (.cells #[.slice none 0 0] 36)) := (Moves.refl _ _).alloc _
  clear h hh
  go_enter Try.func21, Try.ntmps21
  go_wp2_with (go_at_call 25; refine (hplace _ hma).mono ?_; rintro _ w3 ⟨rfl, m3⟩; obtain ⟨b1, m03⟩ := boxesW m3; obtain ⟨u1, u2⟩ := one_cell b1)
  try simp only [Exit.inBlock, Exit.then]
  exact bodyPost_ret (ret_row2 rfl _ _ _ _ rfl (set_one b1 _)) rfl ⟨rfl, m03.setCell (.inr (Nat.le_refl _)) _⟩

theorem GrowN.addr {W w : World} {ad : Option Addr} {n cap : Nat} {xs : List Pnam} (h : GrowN W w (.slice ad n cap) xs) : ad = none ∨ ∃ g, ad = some ⟨g, 0, none⟩ := by
  obtain ⟨_, css, h1, h2⟩ := h
  rcases h1.2.2 with ⟨e, _⟩ | ⟨g, cap', cur, e, _⟩
  · simp at e; exact .inl e.1
  · simp at e
    exact .inr ⟨g, e.1⟩
set_option maxRecDepth 100000 in
set_option maxHeartbeats 4000000 in
theorem tbetween_all (W w : World) (p : Nat) (a : Option Nat) (xs : List Pnam) (lo hi : ByteArray) (h : TabIs W w p a xs) (hrise : RiseN xs) (hl : xs.length ≤ 1000) (h0 : hi.size = 0) :
    Calls Try.prog 37 #[.pointer (some ⟨p, 0, none⟩), .string lo, .string hi] w fun e w' => ∃ ad n cap, e = .returned (.slice ad n cap) ∧ NamsAt w' (.slice ad n cap) (pfil xs lo hi) ∧ Moves [] w w' := by
  obtain ⟨pl, hpl⟩ : ∃ pl : ByteArray → Nat, ∀ s, PlaceIs xs s (pl s) ∧ xs.filter (fun x => nlt x.name s) = xs.take (pl s) := by
    refine ⟨fun s => Classical.choose (place_ex hrise s), fun s => ?_⟩
    have := Classical.choose_spec (place_ex hrise s)
    exact ⟨this.1, this.2.1⟩
  have hplace := fun s w1 (m1 : Moves [] w w1) => tplace_at W w1 p _ xs s (pl s) (h.moves0 m1) hrise (by omega) (hpl s).1
  obtain ⟨v, hp, rfl, hG⟩ := h
  obtain ⟨ad, n, cap, rfl, hn, hc⟩ := hG.open
  obtain ⟨hP, _⟩ := hpl lo
  obtain ⟨hQ, hf⟩ := hpl hi
  obtain ⟨i, hi'⟩ : ∃ i, Hid (pl lo = i) := ⟨_, rfl⟩
  obtain ⟨j, hj'⟩ : ∃ j, Hid (pl hi = j) := ⟨_, rfl⟩
  rw [hi'.out] at hP
  rw [hj'.out] at hQ hf
  have hin : i ≤ n := by have := hP.le; have := hn.out; omega
  have hjn : j ≤ n := by have := hQ.le; have := hn.out; omega
  have hN := hG.at
  have hin3 : (i : Int) ≤ (n : Int) := by omega
  have hjn3 : (j : Int) ≤ (cap : Int) := by omega
  have hic3 : (i : Int) ≤ (cap : Int) := by omega
  have HD : Hid (NamsAt w (.slice (if cap = i then ad else ad.map (·.add (i * 2))) (n - i) (cap - i)) (pfil xs lo hi)) := by
    unfold Hid
    rw [pfil_open hP h0]
    exact hN.drop i (by have := hn.out; omega)
  obtain rfl : hi = ByteArray.empty := by
    cases hi with | mk d => simp [ByteArray.size] at h0; subst h0; rfl
  clear hQ hf hjn hjn3 hj'
  rcases hG.addr with rfl | ⟨g, rfl⟩
  · have HD' : NamsAt w (.slice none (n - i) (cap - i)) (pfil xs lo ByteArray.empty) := by
      have := HD.out
      simpa using this
    have HD2 : Hid (NamsAt w (.slice none (n - i) (cap - i)) (pfil xs lo ByteArray.empty)) := HD'
    clear hN hG HD HD'
    go_enter Try.func37, Try.ntmps37
    go_wp2_with (go_at_call 25; refine (hplace _ _ (by first | exact m3 | exact Moves.refl _ _)).mono ?_; rintro _ w4 ⟨rfl, m4⟩; (first | rw [hi'.out] | rw [hj'.out]); have m3 : Moves [] w w4 := (by first | exact m3.then m4 | exact m4); have c3 := m3.at hp (by simp); obtain ⟨z1, z2⟩ := one_cell c3)
    go_ret
    exact ⟨_, _, _, rfl, HD2.out.moves m3, m3⟩
  · clear hN hG
    by_cases hci : cap = i
    · have hz : cap - i = 0 := by omega
      rw [if_pos hci, hz] at HD
      go_enter Try.func37, Try.ntmps37
      go_wp2_with (go_at_call 25; refine (hplace _ _ (by first | exact m3 | exact Moves.refl _ _)).mono ?_; rintro _ w4 ⟨rfl, m4⟩; (first | rw [hi'.out] | rw [hj'.out]); have m3 : Moves [] w w4 := (by first | exact m3.then m4 | exact m4); have c3 := m3.at hp (by simp); obtain ⟨z1, z2⟩ := one_cell c3)
      go_ret
      exact ⟨_, _, _, rfl, HD.out.moves m3, m3⟩
    · rw [if_neg hci] at HD
      have ea : (⟨g, 0, none⟩ : Addr).add (i * 2) = ⟨g, i * 2, none⟩ := by unfold Addr.add; split <;> simp_all
      simp only [Option.map_some, ea] at HD
      go_enter Try.func37, Try.ntmps37
      go_wp2_with (go_at_call 25; refine (hplace _ _ (by first | exact m3 | exact Moves.refl _ _)).mono ?_; rintro _ w4 ⟨rfl, m4⟩; (first | rw [hi'.out] | rw [hj'.out]); have m3 : Moves [] w w4 := (by first | exact m3.then m4 | exact m4); have c3 := m3.at hp (by simp); obtain ⟨z1, z2⟩ := one_cell c3)
      go_ret
      exact ⟨_, _, _, rfl, HD.out.moves m3, m3⟩
set_option maxRecDepth 100000 in
set_option maxHeartbeats 4000000 in
theorem tbetween_to (W w : World) (p : Nat) (a : Option Nat) (xs : List Pnam) (lo hi : ByteArray) (h : TabIs W w p a xs) (hrise : RiseN xs) (hl : xs.length ≤ 1000) (h0 : hi.size ≠ 0) :
    Calls Try.prog 37 #[.pointer (some ⟨p, 0, none⟩), .string lo, .string hi] w fun e w' => ∃ ad n cap, e = .returned (.slice ad n cap) ∧ NamsAt w' (.slice ad n cap) (pfil xs lo hi) ∧ Moves [] w w' := by
  obtain ⟨pl, hpl⟩ : ∃ pl : ByteArray → Nat, ∀ s, PlaceIs xs s (pl s) ∧ xs.filter (fun x => nlt x.name s) = xs.take (pl s) := by
    refine ⟨fun s => Classical.choose (place_ex hrise s), fun s => ?_⟩
    have := Classical.choose_spec (place_ex hrise s)
    exact ⟨this.1, this.2.1⟩
  have hplace := fun s w1 (m1 : Moves [] w w1) => tplace_at W w1 p _ xs s (pl s) (h.moves0 m1) hrise (by omega) (hpl s).1
  obtain ⟨v, hp, rfl, hG⟩ := h
  obtain ⟨ad, n, cap, rfl, hn, hc⟩ := hG.open
  obtain ⟨hP, _⟩ := hpl lo
  obtain ⟨hQ, hf⟩ := hpl hi
  obtain ⟨i, hi'⟩ : ∃ i, Hid (pl lo = i) := ⟨_, rfl⟩
  obtain ⟨j, hj'⟩ : ∃ j, Hid (pl hi = j) := ⟨_, rfl⟩
  rw [hi'.out] at hP
  rw [hj'.out] at hQ hf
  have hin : i ≤ n := by have := hP.le; have := hn.out; omega
  have hjn : j ≤ n := by have := hQ.le; have := hn.out; omega
  have hN := hG.at
  have hin3 : (i : Int) ≤ (n : Int) := by omega
  have hjn3 : (j : Int) ≤ (cap : Int) := by omega
  have hic3 : (i : Int) ≤ (cap : Int) := by omega
  have HE : Hid (NamsAt w (.slice (if cap = i then ad else ad.map (·.add (i * 2))) (max i j - i) (cap - i)) (pfil xs lo hi)) := by
    unfold Hid
    rw [pfil_to hP h0 hf]
    exact (hN.take (max i j) (by have := hn.out; omega)).drop i (by rw [List.length_take]; have := hn.out; omega)
  have hne : hi.toList.isEmpty = false := by
    cases hi with | mk d => simp [ByteArray.size, ByteArray.toList_eq] at h0 ⊢; exact h0
  clear hf
  obtain ⟨k, hk⟩ : ∃ k, k = max i j := ⟨_, rfl⟩
  have hk2 : max (i : Int) (j : Int) = (k : Int) := by omega
  have hk3 : (k : Int) ≤ (cap : Int) := by omega
  have hk4 : (i : Int) ≤ (k : Int) := by omega
  rw [← hk] at HE
  have HK : Hid (k = max i j) := hk
  clear hk
  rcases hG.addr with rfl | ⟨g, rfl⟩
  · have HE2 : Hid (NamsAt w (.slice none (k - i) (cap - i)) (pfil xs lo hi)) := by
      have := HE.out
      unfold Hid
      simpa using this
    clear hN hG HE
    go_enter Try.func37, Try.ntmps37
    go_wp2_with (go_at_call 25; refine (hplace _ _ (by first | exact m3 | exact Moves.refl _ _)).mono ?_; rintro _ w4 ⟨rfl, m4⟩; (first | rw [hi'.out] | rw [hj'.out]); have m3 : Moves [] w w4 := (by first | exact m3.then m4 | exact m4); have c3 := m3.at hp (by simp); obtain ⟨z1, z2⟩ := one_cell c3)
    go_ret
    exact ⟨_, _, _, rfl, HE2.out.moves m3, m3⟩
  · clear hN hG
    by_cases hci : cap = i
    · have hz : cap - i = 0 := by omega
      rw [if_pos hci, hz] at HE
      go_enter Try.func37, Try.ntmps37
      go_wp2_with (go_at_call 25; refine (hplace _ _ (by first | exact m3 | exact Moves.refl _ _)).mono ?_; rintro _ w4 ⟨rfl, m4⟩; (first | rw [hi'.out] | rw [hj'.out]); have m3 : Moves [] w w4 := (by first | exact m3.then m4 | exact m4); have c3 := m3.at hp (by simp); obtain ⟨z1, z2⟩ := one_cell c3)
      go_ret
      exact ⟨_, _, _, rfl, HE.out.moves m3, m3⟩
    · rw [if_neg hci] at HE
      have ea : (⟨g, 0, none⟩ : Addr).add (i * 2) = ⟨g, i * 2, none⟩ := by unfold Addr.add; split <;> simp_all
      simp only [Option.map_some, ea] at HE
      go_enter Try.func37, Try.ntmps37
      go_wp2_with (go_at_call 25; refine (hplace _ _ (by first | exact m3 | exact Moves.refl _ _)).mono ?_; rintro _ w4 ⟨rfl, m4⟩; (first | rw [hi'.out] | rw [hj'.out]); have m3 : Moves [] w w4 := (by first | exact m3.then m4 | exact m4); have c3 := m3.at hp (by simp); obtain ⟨z1, z2⟩ := one_cell c3)
      go_ret
      exact ⟨_, _, _, rfl, HE.out.moves m3, m3⟩
theorem tbetween_w (W w : World) (p : Nat) (a : Option Nat) (xs : List Pnam) (lo hi : ByteArray) (h : TabIs W w p a xs) (hrise : RiseN xs) (hl : xs.length ≤ 1000) :
    Calls Try.prog 37 #[.pointer (some ⟨p, 0, none⟩), .string lo, .string hi] w fun e w' => ∃ ad n cap, e = .returned (.slice ad n cap) ∧ NamsAt w' (.slice ad n cap) (pfil xs lo hi) ∧ Moves [] w w' := by
  by_cases h0 : hi.size = 0
  · exact tbetween_all W w p a xs lo hi h hrise hl h0
  · exact tbetween_to W w p a xs lo hi h hrise hl h0

theorem pfil_len (xs : List Pnam) (lo hi : ByteArray) : (pfil xs lo hi).length ≤ xs.length := List.length_filter_le _ _
set_option maxRecDepth 100000 in
set_option maxHeartbeats 4000000 in
theorem trange_w (W w : World) (p : Nat) (a : Option Nat) (xs : List Pnam) (lo hi : ByteArray) (most : Int) (h : TabIs W w p a xs) (hrise : RiseN xs) (hl : xs.length ≤ 1000) :
    Calls Try.prog 14 #[.pointer (some ⟨p, 0, none⟩), .string lo, .string hi, .int .i64 most] w fun e w' => ∃ ad n cap, e = .returned (.tuple #[.slice ad n cap, .string (pnext (pfil xs lo hi) (pmost most))]) ∧ GrowN w w' (.slice ad n cap) (pownX ((pfil xs lo hi).take (pmost most))) ∧ Moves [] w w' := by
  have hB := tbetween_w W w p a xs lo hi h hrise hl
  have hF := pfil_len xs lo hi
  obtain ⟨F, HF⟩ : ∃ F, Hid (pfil xs lo hi = F) := ⟨_, rfl⟩
  rw [HF.out] at hB hF ⊢
  obtain ⟨n, HN⟩ : ∃ n, Hid (n = F.length) := ⟨_, rfl⟩
  obtain ⟨k, HK⟩ : ∃ k, Hid (k = pmost most) := ⟨_, rfl⟩
  rw [← HK.out]
  have hk : min (max most 0) 16 = (k : Int) := by rw [HK.out]; unfold pmost; omega
  obtain ⟨K, hK⟩ : ∃ K : Nat, max most 0 = (K : Int) := ⟨(max most 0).toNat, by omega⟩
  have hkK : k = min K 16 := by omega
  have f0 : F.length ≤ 1000 := by omega
  clear h hk HK
  by_cases hkn : n ≤ k
  · have e1 : pnext F k = ByteArray.empty := by unfold pnext; rw [List.getElem?_eq_none (by have := HN.out; omega)]
    have e2 : F.take k = F := List.take_of_length_le (by have := HN.out; omega)
    have q1 : ¬ (16 : Int) < (n : Int) := by omega
    have q2 : ¬ (K : Int) < (n : Int) := by omega
    have q3 : (n : Int) ≤ 16 := by omega
    have q4 : (n : Int) ≤ (K : Int) := by omega
    rw [e1, e2]
    go_enter Try.func14, Try.ntmps14
    go_wp2_with (go_at_call 37; refine hB.mono ?_; rintro _ w3 ⟨ad3, n3, cap3, rfl, hN3, m3⟩; have HN3 : Hid (NamsAt w3 (.slice ad3 n3 cap3) F) := hN3; obtain rfl : n3 = n := (by have e := HN.out; have e5 := hN3.slice; obtain ⟨_, _, e6, _⟩ := e5; simp at e6; omega); clear hN3)
    all_goals
      refine (own_w w3 _ w3.heap.size [.slice ad3 n3 cap3] [F] (boxesW (Moves.refl [] _)).1 ⟨HN3.out, trivial⟩ ((Moves.refl [] w3).alloc _) (by simp; omega) 1 rfl (by omega)).mono ?_
      rintro _ w5 ⟨ad5, n5, cap5, rfl, hG5, m5⟩
      have m35 := (boxesW m5).2
      have HG5 : GrowN w w5 (.slice ad5 n5 cap5) (pownX F) := by
        have hq := (hG5.elder (W := w) (Nat.le_trans m3.size ((Moves.refl [] w3).alloc _).size))
        simpa [pownL, pownX] using hq
      clear hG5
      go_wp2_with fail
      go_ret2
      exact ⟨_, _, _, rfl, HG5, m3.then m35⟩
  · by_cases hK16 : K ≤ 16
    · obtain rfl : k = K := by omega
      clear hkK
      have f9 : F.length ≤ 1000 := by omega
      have f8 : k ≤ F.length := by have := HN.out; omega
      have f7 : [F.take k].flatten.length ≤ 1000 := by simp; omega
      obtain ⟨x, hx⟩ : ∃ x, F[k]? = some x := ⟨_, List.getElem?_eq_getElem (by have := HN.out; omega)⟩
      have e1 : pnext F k = x.name := by unfold pnext; rw [hx]
      rw [e1]
      have HX : Hid (F[k]? = some x) := hx
      clear hx
      have q1 : ¬ (16 : Int) < (k : Int) := by omega
      have q2 : (k : Int) < (n : Int) := by omega
      have q3 : ¬ ((k : Int) = (n : Int)) := by omega
      have q4 : (k : Int) ≤ 16 := by omega
      have q5 : (k : Int) ≤ (n : Int) := by omega
      go_enter Try.func14, Try.ntmps14
      go_wp2_with (go_at_call 37; refine hB.mono ?_; rintro _ w3 ⟨ad3, n3, cap3, rfl, hN3, m3⟩; have HN3 : Hid (NamsAt w3 (.slice ad3 n3 cap3) F) := hN3; obtain rfl : n3 = n := (by have e := HN.out; have e5 := hN3.slice; obtain ⟨_, _, e6, _⟩ := e5; simp at e6; omega); clear hN3; obtain ⟨g, off, a2, n2, c2, rfl, y0, _, _, _⟩ := HN3.out.at HX.out; have q6 : (k : Int) ≤ (cap3 : Int) := (by have e5 := HN3.out.slice; obtain ⟨_, _, e6, e7⟩ := e5; simp at e6; have := HN.out; omega))
      refine wp_region_noPanic ?_
      refine wp_region_held_drew (S := (fun w' => w'.cell? ⟨g, off + k * 2, none⟩ = some (.string x.name))) (by kernel_rfl) ?_ (fun hHeld => ?_)
      · first | (go_keep; done) | first | exact k4 | exact k3 | exact y0
      refine wpAnyH_take (i := 0) (oi := { dst := some 28, op := Op.move (Operand.tmp 10), type := 27, pos := "rows.go:68", after := #[], guard := none }) (v := ?_) rfl (by kernel_rfl) (by kernel_rfl) (by kernel_rfl) (fun _ _ _ h => h) (Or.inl ⟨by rfl, ?_⟩) (by assumption) ?_
      rotate_left
      · (intro w hSw; (try dsimp only at hSw); go_simp; try (with_reducible rfl))
      try simp only [Act.put, List.setIfInBounds_toArray, List.set_cons_zero, List.set_cons_succ]
      refine wpAnyH_take (i := 1) (oi := { dst := some 29, op := Op.move (Operand.tmp 11), type := 3, pos := "rows.go:68", after := #[], guard := none }) (v := ?_) rfl (by kernel_rfl) (by kernel_rfl) (by kernel_rfl) (fun _ _ _ h => h) (Or.inl ⟨by rfl, ?_⟩) (by assumption) ?_
      rotate_left
      · (intro w hSw; (try dsimp only at hSw); go_simp; try (with_reducible rfl))
      try simp only [Act.put, List.setIfInBounds_toArray, List.set_cons_zero, List.set_cons_succ]
      refine wpAnyH_take (i := 2) (oi := { dst := some 30, op := Op.slice 27 (Operand.tmp 28) none (some (Operand.tmp 29)) none, type := 27, pos := "rows.go:68", after := #[{ on := 0, ground := Ground.data }, { on := 1, ground := Ground.data }], guard := none }) (v := ?_) rfl (by kernel_rfl) (by kernel_rfl) (by kernel_rfl) (fun _ _ _ h => h) (Or.inl ⟨by rfl, ?_⟩) (by assumption) ?_
      rotate_left
      · (intro w hSw; (try dsimp only at hSw); go_simp; try (with_reducible rfl))
      try simp only [Act.put, List.setIfInBounds_toArray, List.set_cons_zero, List.set_cons_succ]
      refine wpAnyH_take (i := 5) (oi := { dst := some 33, op := Op.move (Operand.tmp 10), type := 27, pos := "rows.go:68", after := #[{ on := 10, ground := Ground.gcOnly Departure.lateStores }], guard := none }) (v := ?_) rfl (by kernel_rfl) (by kernel_rfl) (by kernel_rfl) (fun _ _ _ h => h) (Or.inl ⟨by rfl, ?_⟩) (by assumption) ?_
      rotate_left
      · (intro w hSw; (try dsimp only at hSw); go_simp; try (with_reducible rfl))
      try simp only [Act.put, List.setIfInBounds_toArray, List.set_cons_zero, List.set_cons_succ]
      refine wpAnyH_take (i := 6) (oi := { dst := some 34, op := Op.move (Operand.tmp 11), type := 3, pos := "rows.go:68", after := #[{ on := 10, ground := Ground.gcOnly Departure.lateStores }], guard := none }) (v := ?_) rfl (by kernel_rfl) (by kernel_rfl) (by kernel_rfl) (fun _ _ _ h => h) (Or.inl ⟨by rfl, ?_⟩) (by assumption) ?_
      rotate_left
      · (intro w hSw; (try dsimp only at hSw); go_simp; try (with_reducible rfl))
      try simp only [Act.put, List.setIfInBounds_toArray, List.set_cons_zero, List.set_cons_succ]
      refine wpAnyH_take (i := 7) (oi := { dst := some 35, op := Op.indexAddr 27 (Operand.tmp 33) (Operand.tmp 34), type := 0, pos := "rows.go:68", after := #[{ on := 5, ground := Ground.data }, { on := 6, ground := Ground.data }, { on := 10, ground := Ground.gcOnly Departure.lateStores }], guard := none }) (v := ?_) rfl (by kernel_rfl) (by kernel_rfl) (by kernel_rfl) (fun _ _ _ h => h) (Or.inl ⟨by rfl, ?_⟩) (by assumption) ?_
      rotate_left
      · (intro w hSw; (try dsimp only at hSw); go_simp; try (with_reducible rfl))
      try simp only [Act.put, List.setIfInBounds_toArray, List.set_cons_zero, List.set_cons_succ]
      refine wpAnyH_take (i := 8) (oi := { dst := some 36, op := Op.fieldAddr 53 (Operand.tmp 35) 0, type := 0, pos := "rows.go:68", after := #[{ on := 7, ground := Ground.data }, { on := 10, ground := Ground.gcOnly Departure.lateStores }], guard := none }) (v := ?_) rfl (by kernel_rfl) (by kernel_rfl) (by kernel_rfl) (fun _ _ _ h => h) (Or.inl ⟨by rfl, ?_⟩) (by assumption) ?_
      rotate_left
      · (intro w hSw; (try dsimp only at hSw); go_simp; try (with_reducible rfl))
      try simp only [Act.put, List.setIfInBounds_toArray, List.set_cons_zero, List.set_cons_succ]
      refine wpAnyH_take (i := 9) (oi := { dst := some 37, op := Op.load 9 (Operand.tmp 36), type := 9, pos := "rows.go:68", after := #[{ on := 8, ground := Ground.data }, { on := 10, ground := Ground.gcOnly Departure.lateStores }], guard := none }) (v := ?_) rfl (by kernel_rfl) (by kernel_rfl) (by kernel_rfl) (fun _ _ _ h => h) (Or.inl ⟨by rfl, ?_⟩) (by assumption) ?_
      rotate_left
      · (intro w hSw; (try dsimp only at hSw); go_simp; try (with_reducible rfl))
      try simp only [Act.put, List.setIfInBounds_toArray, List.set_cons_zero, List.set_cons_succ]
      refine wpAnyH_ready (rs := [3]) (by kernel_rfl) (by simp) ?_
      refine AllReadyH.cons (o := { dst := some 31, op := Op.buildSlice 101 1 #[(0, Operand.tmp 30)], type := 101, pos := "rows.go:68", after := #[{ on := 2, ground := Ground.data }], guard := none }) rfl (fun K hK => ?_) AllReadyH.nil
      go_simp
      have m4 := (Moves.refl [] w3).drew.alloc (.cells #[.slice (some ⟨g, off, none⟩) k cap3] 27)
      have k3 := m4.cell y0
      refine hK.out _ _ ?_ (fun hHeld => ?_)
      · first | exact k4 | exact k3 | exact y0
      clear hK K
      try simp only [Act.put, List.setIfInBounds_toArray, List.set_cons_zero, List.set_cons_succ]
      refine wpAnyH_ready (rs := [4]) (by kernel_rfl) (by simp) ?_
      refine AllReadyH.cons (o := { dst := some 32, op := Op.call { callee := Callee.value (Operand.func 29), args := #[Operand.tmp 31], argTypes := #[101] }, type := 27, pos := "rows.go:68", after := #[{ on := 3, ground := Ground.data }], guard := none }) rfl (fun K hK => ?_) AllReadyH.nil
      go_simp
      (go_at_call 29; refine (own_w w3 _ w3.heap.size [.slice (some ⟨g, off, none⟩) k cap3] [F.take k] (heap_alloc_new w3.drew _) ⟨HN3.out.take k f8, trivial⟩ m4 f7 1 rfl (by decide)).mono ?_; rintro _ w5 ⟨ad5, n5, cap5, rfl, hG5, m5⟩)
      have m35 : Moves [] w3 w5 := m4.then m5
      have k4 := m35.cell y0
      have HG5 : Hid (GrowN w w5 (.slice ad5 n5 cap5) (pownX (F.take k))) := by
        have hq := (hG5.elder (W := w) (Nat.le_trans m3.size m4.size))
        unfold Hid
        simpa [pownL, pownX] using hq
      clear hG5
      refine hK.out _ _ ?_ (fun hHeld => ?_)
      · first | exact k4 | exact k3 | exact y0
      clear hK K
      try simp only [Act.put, List.setIfInBounds_toArray, List.set_cons_zero, List.set_cons_succ]
      refine wpAnyH_take (i := 10) (oi := { dst := some 8, op := Op.assign (Operand.tmp 32), type := 27, pos := "rows.go:68", after := #[{ on := 4, ground := Ground.data }, { on := 4, ground := Ground.chain }, { on := 0, ground := Ground.phase }, { on := 1, ground := Ground.phase }, { on := 2, ground := Ground.phase }, { on := 3, ground := Ground.phase }, { on := 4, ground := Ground.phase }, { on := 5, ground := Ground.textOnly Departure.lateStores }, { on := 6, ground := Ground.textOnly Departure.lateStores }, { on := 7, ground := Ground.textOnly Departure.lateStores }, { on := 8, ground := Ground.textOnly Departure.lateStores }, { on := 9, ground := Ground.textOnly Departure.lateStores }], guard := none }) (v := ?_) rfl (by kernel_rfl) (by kernel_rfl) (by kernel_rfl) (fun _ _ _ h => h) (Or.inl ⟨by rfl, ?_⟩) (by assumption) ?_
      rotate_left
      · (intro w hSw; (try dsimp only at hSw); go_simp; try (with_reducible rfl))
      try simp only [Act.put, List.setIfInBounds_toArray, List.set_cons_zero, List.set_cons_succ]
      refine wpAnyH_take (i := 11) (oi := { dst := some 9, op := Op.assign (Operand.tmp 37), type := 9, pos := "rows.go:68", after := #[{ on := 9, ground := Ground.data }, { on := 10, ground := Ground.chain }, { on := 0, ground := Ground.phase }, { on := 1, ground := Ground.phase }, { on := 2, ground := Ground.phase }, { on := 3, ground := Ground.phase }, { on := 4, ground := Ground.phase }, { on := 5, ground := Ground.phase }, { on := 6, ground := Ground.phase }, { on := 7, ground := Ground.phase }, { on := 8, ground := Ground.phase }, { on := 9, ground := Ground.phase }, { on := 10, ground := Ground.phase }], guard := none }) (v := ?_) rfl (by kernel_rfl) (by kernel_rfl) (by kernel_rfl) (fun _ _ _ h => h) (Or.inl ⟨by rfl, ?_⟩) (by assumption) ?_
      rotate_left
      · (intro w hSw; (try dsimp only at hSw); go_simp; try (with_reducible rfl))
      try simp only [Act.put, List.setIfInBounds_toArray, List.set_cons_zero, List.set_cons_succ]
      refine wpAnyH_done (by kernel_rfl) ?_ _
      refine NoPanic.normal ?_
      go_wp2_with fail
      go_ret2
      exact ⟨_, _, _, rfl, HG5.out, m3.then m35⟩
    · obtain rfl : k = 16 := by omega
      clear hkK
      have f9 : F.length ≤ 1000 := by omega
      have f8 : 16 ≤ F.length := by have := HN.out; omega
      have f7 : [F.take 16].flatten.length ≤ 1000 := by simp; omega
      obtain ⟨x, hx⟩ : ∃ x, F[16]? = some x := ⟨_, List.getElem?_eq_getElem (by have := HN.out; omega)⟩
      have e1 : pnext F 16 = x.name := by unfold pnext; rw [hx]
      rw [e1]
      have HX : Hid (F[16]? = some x) := hx
      clear hx
      have q1 : (16 : Int) < (K : Int) := by omega
      have q2 : (16 : Int) < (n : Int) := by omega
      have q3 : ¬ ((16 : Int) = (n : Int)) := by omega
      have q4 : ¬ (K : Int) ≤ 16 := by omega
      have q5 : (16 : Int) ≤ (n : Int) := by omega
      go_enter Try.func14, Try.ntmps14
      go_wp2_with (go_at_call 37; refine hB.mono ?_; rintro _ w3 ⟨ad3, n3, cap3, rfl, hN3, m3⟩; have HN3 : Hid (NamsAt w3 (.slice ad3 n3 cap3) F) := hN3; obtain rfl : n3 = n := (by have e := HN.out; have e5 := hN3.slice; obtain ⟨_, _, e6, _⟩ := e5; simp at e6; omega); clear hN3; obtain ⟨g, off, a2, n2, c2, rfl, y0, _, _, _⟩ := HN3.out.at HX.out; have q6 : (16 : Int) ≤ (cap3 : Int) := (by have e5 := HN3.out.slice; obtain ⟨_, _, e6, e7⟩ := e5; simp at e6; have := HN.out; omega))
      refine wp_region_noPanic ?_
      refine wp_region_held_drew (S := (fun w' => w'.cell? ⟨g, off + 16 * 2, none⟩ = some (.string x.name))) (by kernel_rfl) ?_ (fun hHeld => ?_)
      · first | (go_keep; done) | first | exact k4 | exact k3 | exact y0
      refine wpAnyH_take (i := 0) (oi := { dst := some 28, op := Op.move (Operand.tmp 10), type := 27, pos := "rows.go:68", after := #[], guard := none }) (v := ?_) rfl (by kernel_rfl) (by kernel_rfl) (by kernel_rfl) (fun _ _ _ h => h) (Or.inl ⟨by rfl, ?_⟩) (by assumption) ?_
      rotate_left
      · (intro w hSw; (try dsimp only at hSw); go_simp; try (with_reducible rfl))
      try simp only [Act.put, List.setIfInBounds_toArray, List.set_cons_zero, List.set_cons_succ]
      refine wpAnyH_take (i := 1) (oi := { dst := some 29, op := Op.move (Operand.tmp 11), type := 3, pos := "rows.go:68", after := #[], guard := none }) (v := ?_) rfl (by kernel_rfl) (by kernel_rfl) (by kernel_rfl) (fun _ _ _ h => h) (Or.inl ⟨by rfl, ?_⟩) (by assumption) ?_
      rotate_left
      · (intro w hSw; (try dsimp only at hSw); go_simp; try (with_reducible rfl))
      try simp only [Act.put, List.setIfInBounds_toArray, List.set_cons_zero, List.set_cons_succ]
      refine wpAnyH_take (i := 2) (oi := { dst := some 30, op := Op.slice 27 (Operand.tmp 28) none (some (Operand.tmp 29)) none, type := 27, pos := "rows.go:68", after := #[{ on := 0, ground := Ground.data }, { on := 1, ground := Ground.data }], guard := none }) (v := ?_) rfl (by kernel_rfl) (by kernel_rfl) (by kernel_rfl) (fun _ _ _ h => h) (Or.inl ⟨by rfl, ?_⟩) (by assumption) ?_
      rotate_left
      · (intro w hSw; (try dsimp only at hSw); go_simp; try (with_reducible rfl))
      try simp only [Act.put, List.setIfInBounds_toArray, List.set_cons_zero, List.set_cons_succ]
      refine wpAnyH_take (i := 5) (oi := { dst := some 33, op := Op.move (Operand.tmp 10), type := 27, pos := "rows.go:68", after := #[{ on := 10, ground := Ground.gcOnly Departure.lateStores }], guard := none }) (v := ?_) rfl (by kernel_rfl) (by kernel_rfl) (by kernel_rfl) (fun _ _ _ h => h) (Or.inl ⟨by rfl, ?_⟩) (by assumption) ?_
      rotate_left
      · (intro w hSw; (try dsimp only at hSw); go_simp; try (with_reducible rfl))
      try simp only [Act.put, List.setIfInBounds_toArray, List.set_cons_zero, List.set_cons_succ]
      refine wpAnyH_take (i := 6) (oi := { dst := some 34, op := Op.move (Operand.tmp 11), type := 3, pos := "rows.go:68", after := #[{ on := 10, ground := Ground.gcOnly Departure.lateStores }], guard := none }) (v := ?_) rfl (by kernel_rfl) (by kernel_rfl) (by kernel_rfl) (fun _ _ _ h => h) (Or.inl ⟨by rfl, ?_⟩) (by assumption) ?_
      rotate_left
      · (intro w hSw; (try dsimp only at hSw); go_simp; try (with_reducible rfl))
      try simp only [Act.put, List.setIfInBounds_toArray, List.set_cons_zero, List.set_cons_succ]
      refine wpAnyH_take (i := 7) (oi := { dst := some 35, op := Op.indexAddr 27 (Operand.tmp 33) (Operand.tmp 34), type := 0, pos := "rows.go:68", after := #[{ on := 5, ground := Ground.data }, { on := 6, ground := Ground.data }, { on := 10, ground := Ground.gcOnly Departure.lateStores }], guard := none }) (v := ?_) rfl (by kernel_rfl) (by kernel_rfl) (by kernel_rfl) (fun _ _ _ h => h) (Or.inl ⟨by rfl, ?_⟩) (by assumption) ?_
      rotate_left
      · (intro w hSw; (try dsimp only at hSw); go_simp; try (with_reducible rfl))
      try simp only [Act.put, List.setIfInBounds_toArray, List.set_cons_zero, List.set_cons_succ]
      refine wpAnyH_take (i := 8) (oi := { dst := some 36, op := Op.fieldAddr 53 (Operand.tmp 35) 0, type := 0, pos := "rows.go:68", after := #[{ on := 7, ground := Ground.data }, { on := 10, ground := Ground.gcOnly Departure.lateStores }], guard := none }) (v := ?_) rfl (by kernel_rfl) (by kernel_rfl) (by kernel_rfl) (fun _ _ _ h => h) (Or.inl ⟨by rfl, ?_⟩) (by assumption) ?_
      rotate_left
      · (intro w hSw; (try dsimp only at hSw); go_simp; try (with_reducible rfl))
      try simp only [Act.put, List.setIfInBounds_toArray, List.set_cons_zero, List.set_cons_succ]
      refine wpAnyH_take (i := 9) (oi := { dst := some 37, op := Op.load 9 (Operand.tmp 36), type := 9, pos := "rows.go:68", after := #[{ on := 8, ground := Ground.data }, { on := 10, ground := Ground.gcOnly Departure.lateStores }], guard := none }) (v := ?_) rfl (by kernel_rfl) (by kernel_rfl) (by kernel_rfl) (fun _ _ _ h => h) (Or.inl ⟨by rfl, ?_⟩) (by assumption) ?_
      rotate_left
      · (intro w hSw; (try dsimp only at hSw); go_simp; try (with_reducible rfl))
      try simp only [Act.put, List.setIfInBounds_toArray, List.set_cons_zero, List.set_cons_succ]
      refine wpAnyH_ready (rs := [3]) (by kernel_rfl) (by simp) ?_
      refine AllReadyH.cons (o := { dst := some 31, op := Op.buildSlice 101 1 #[(0, Operand.tmp 30)], type := 101, pos := "rows.go:68", after := #[{ on := 2, ground := Ground.data }], guard := none }) rfl (fun K hK => ?_) AllReadyH.nil
      go_simp
      have m4 := (Moves.refl [] w3).drew.alloc (.cells #[.slice (some ⟨g, off, none⟩) 16 cap3] 27)
      have k3 := m4.cell y0
      refine hK.out _ _ ?_ (fun hHeld => ?_)
      · first | exact k4 | exact k3 | exact y0
      clear hK K
      try simp only [Act.put, List.setIfInBounds_toArray, List.set_cons_zero, List.set_cons_succ]
      refine wpAnyH_ready (rs := [4]) (by kernel_rfl) (by simp) ?_
      refine AllReadyH.cons (o := { dst := some 32, op := Op.call { callee := Callee.value (Operand.func 29), args := #[Operand.tmp 31], argTypes := #[101] }, type := 27, pos := "rows.go:68", after := #[{ on := 3, ground := Ground.data }], guard := none }) rfl (fun K hK => ?_) AllReadyH.nil
      go_simp
      (go_at_call 29; refine (own_w w3 _ w3.heap.size [.slice (some ⟨g, off, none⟩) 16 cap3] [F.take 16] (heap_alloc_new w3.drew _) ⟨HN3.out.take 16 f8, trivial⟩ m4 f7 1 rfl (by decide)).mono ?_; rintro _ w5 ⟨ad5, n5, cap5, rfl, hG5, m5⟩)
      have m35 : Moves [] w3 w5 := m4.then m5
      have k4 := m35.cell y0
      have HG5 : Hid (GrowN w w5 (.slice ad5 n5 cap5) (pownX (F.take 16))) := by
        have hq := (hG5.elder (W := w) (Nat.le_trans m3.size m4.size))
        unfold Hid
        simpa [pownL, pownX] using hq
      clear hG5
      refine hK.out _ _ ?_ (fun hHeld => ?_)
      · first | exact k4 | exact k3 | exact y0
      clear hK K
      try simp only [Act.put, List.setIfInBounds_toArray, List.set_cons_zero, List.set_cons_succ]
      refine wpAnyH_take (i := 10) (oi := { dst := some 8, op := Op.assign (Operand.tmp 32), type := 27, pos := "rows.go:68", after := #[{ on := 4, ground := Ground.data }, { on := 4, ground := Ground.chain }, { on := 0, ground := Ground.phase }, { on := 1, ground := Ground.phase }, { on := 2, ground := Ground.phase }, { on := 3, ground := Ground.phase }, { on := 4, ground := Ground.phase }, { on := 5, ground := Ground.textOnly Departure.lateStores }, { on := 6, ground := Ground.textOnly Departure.lateStores }, { on := 7, ground := Ground.textOnly Departure.lateStores }, { on := 8, ground := Ground.textOnly Departure.lateStores }, { on := 9, ground := Ground.textOnly Departure.lateStores }], guard := none }) (v := ?_) rfl (by kernel_rfl) (by kernel_rfl) (by kernel_rfl) (fun _ _ _ h => h) (Or.inl ⟨by rfl, ?_⟩) (by assumption) ?_
      rotate_left
      · (intro w hSw; (try dsimp only at hSw); go_simp; try (with_reducible rfl))
      try simp only [Act.put, List.setIfInBounds_toArray, List.set_cons_zero, List.set_cons_succ]
      refine wpAnyH_take (i := 11) (oi := { dst := some 9, op := Op.assign (Operand.tmp 37), type := 9, pos := "rows.go:68", after := #[{ on := 9, ground := Ground.data }, { on := 10, ground := Ground.chain }, { on := 0, ground := Ground.phase }, { on := 1, ground := Ground.phase }, { on := 2, ground := Ground.phase }, { on := 3, ground := Ground.phase }, { on := 4, ground := Ground.phase }, { on := 5, ground := Ground.phase }, { on := 6, ground := Ground.phase }, { on := 7, ground := Ground.phase }, { on := 8, ground := Ground.phase }, { on := 9, ground := Ground.phase }, { on := 10, ground := Ground.phase }], guard := none }) (v := ?_) rfl (by kernel_rfl) (by kernel_rfl) (by kernel_rfl) (fun _ _ _ h => h) (Or.inl ⟨by rfl, ?_⟩) (by assumption) ?_
      rotate_left
      · (intro w hSw; (try dsimp only at hSw); go_simp; try (with_reducible rfl))
      try simp only [Act.put, List.setIfInBounds_toArray, List.set_cons_zero, List.set_cons_succ]
      refine wpAnyH_done (by kernel_rfl) ?_ _
      refine NoPanic.normal ?_
      go_wp2_with fail
      go_ret2
      exact ⟨_, _, _, rfl, HG5.out, m3.then m35⟩
end Go.Proofs.Ytcngllcifcpbkaa
