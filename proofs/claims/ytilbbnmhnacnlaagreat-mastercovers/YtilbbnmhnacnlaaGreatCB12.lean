/- ours -/
import Derived.Test.YtilbbnmhnacnlaaGreatCB11
import Derived.Deep.RegionHeld3
import Derived.Test.YtilbbnmhnacnlaaGreatCB04
import Derived.Test.YtilbbnmhnacnlaaGreatCB01
import Derived.Test.YtilbbnmhnacnlaaGreatCB03
import Derived.Lib.ConvBytes
import Derived.Test.YtilbbnmhnacnlaaGreatCB10
import Derived.Deep.Slices
import Derived.Deep.Fields
import Derived.BigQuiet
/-
  Lists of spans, as plain data and as they lie; Cover.
-/
namespace Go.Proofs.YtilbbnmhnacnlaaGreat
open Go.RowKit

def SpsAt (w : World) (ad : Option Addr) (xs : List Psp) : Prop := ∀ (k : Nat) s, xs[k]? = some s → ∃ g off, ad = some ⟨g, off, none⟩ ∧ w.cell? ⟨g, off + k * 2, none⟩ = some (.string s.lo) ∧ w.cell? ⟨g, off + k * 2 + 1, none⟩ = some (.string s.hi)
theorem drop_at {α : Type} {l : List α} {i : Nat} {s : α} (h : l[i]? = some s) : l.drop i = s :: l.drop (i + 1) := by
  obtain ⟨hi, rfl⟩ := List.getElem?_eq_some_iff.1 h
  exact List.drop_eq_getElem_cons hi
def spK (hi : ByteArray) : List Psp → Bool
  | [] => bz hi
  | s :: t => !bz hi && zeq hi s.lo && spR s && spK s.hi t
def spCov : List Psp → Bool
  | [] => false
  | s :: t => spR s && bz s.lo && spK s.hi t
def spW (a : Psp) : List Psp → Bool
  | [] => bz a.lo && bz a.hi
  | s :: t => spJ a s && spW ⟨a.lo, s.hi⟩ t
theorem spW_eq : ∀ (t : List Psp) (a : Psp), spW a t = (spR a && bz a.lo && spK a.hi t)
  | [], a => by
    unfold spW spK
    cases h1 : bz a.lo <;> cases h2 : bz a.hi
    case true.true =>
      have : a = Psp.zero := by cases a; simp only [bz_iff] at h1 h2; subst h1 h2; rfl
      rw [this, zero_R]; rfl
    all_goals simp
  | s :: t, a => by
    unfold spW spK
    rw [spW_eq t]
    cases h : spJ a s with
    | true =>
      rw [join_R h]
      obtain ⟨h1, h2, h3, h4⟩ := spJ_parts h
      rw [h1, h2, h3, zeq_iff.2 h4]
      simp
    | false =>
      unfold spJ at h
      cases h1 : spR a <;> cases h2 : spR s <;> cases h3 : bz a.hi <;> cases h4 : zeq a.hi s.lo <;> rw [h1, h2, h3, h4] at h <;> simp at h ⊢
theorem spCov_cons (s : Psp) (t : List Psp) : spCov (s :: t) = spW s t := by rw [spW_eq]; rfl

set_option maxRecDepth 100000 in
set_option maxHeartbeats 4000000 in
theorem spCover_w (w : World) (ad : Option Addr) (n cap : Nat) (xs : List Psp) (h : SpsAt w ad xs) (hn : n = xs.length) (hc : n ≤ cap) (hl : n ≤ 1000000) : Calls Tryz.prog 75 #[.slice ad n cap] w fun e w' => e = .returned (.bool (spCov xs)) ∧ Moves [] w w' := by
  have HN : Hid (n = xs.length) := hn
  have HS : Hid (SpsAt w ad xs) := h
  clear h
  cases xs with
  | nil =>
    simp at hn
    subst hn
    go_enter Tryz.func75, Tryz.ntmps75
    go_wp2_with fail
    go_ret
    exact ⟨rfl, Moves.refl _ _⟩
  | cons s0 t0 =>
    obtain ⟨g, off, rfl, y0, y1⟩ := HS.out 0 s0 (by simp)
    rw [Nat.zero_mul, Nat.add_zero] at y0 y1
    obtain ⟨m, rfl⟩ : ∃ m, n = m + 1 := ⟨t0.length, by simpa using hn⟩
    have HM : Hid (t0.length = m) := by simp at hn; exact hn.symm
    clear hn HN
    have hn0 : ((m : Int) + 1 == 0) = false := by simp; omega
    have hq0 : Hid (spCov (s0 :: t0) = spW s0 (t0.drop 0)) := spCov_cons _ _
    obtain ⟨q, hq⟩ : ∃ q, Hid (spCov (s0 :: t0) = q) := ⟨_, rfl⟩
    rw [hq.out]
    rw [hq.out] at hq0
    have b0 := heap_alloc_new w (.cells #[.string s0.lo, .string s0.hi] 37)
    have mb : Moves [] w (w.alloc (.cells #[.string s0.lo, .string s0.hi] 37)) := (Moves.refl _ _).alloc _
    obtain ⟨P, hP⟩ : ∃ P, w.heap.size = P := ⟨_, rfl⟩
    have hPP : w.heap.size ≤ P := by omega
    rw [hP] at b0
    by_cases hcap : cap = 1
    · obtain rfl : m = 0 := by omega
      subst hcap
      clear hc
      go_enter Tryz.func75, Tryz.ntmps75
      go_wp2_with fail
      go_loopw [17] (fun vi wr => ∃ (i : Nat) (hi : ByteArray), i ≤ 0 ∧ vi = .int .i64 (i : Nat) ∧ Moves [] w wr ∧ wr.heap[P]? = some (.cells #[.string s0.lo, .string hi] 37 (0, 0)) ∧ Hid (q = spW ⟨s0.lo, hi⟩ (t0.drop i))) (fun vi _ => 0 - (intOf vi).toNat)
      case atStart => exact ⟨0, s0.hi, by omega, rfl, mb, b0, hq0⟩
      case round =>
        obtain ⟨i, hi, him, rfl, mr, br, hw⟩ := hrel
        obtain rfl : i = 0 := by omega
        obtain ⟨c0, c1, _, _⟩ := sp_cells br
        cases k1 : s0.lo.toList.isEmpty <;> cases k2 : hi.toList.isEmpty
        all_goals go_wp2_with fail
        all_goals go_ret
        all_goals refine ⟨?_, mr⟩
        all_goals rw [hw.out, List.drop_eq_nil_of_le (by have := HM.out; omega)]
        all_goals show Ending.returned _ = Ending.returned (.bool (s0.lo.toList.isEmpty && hi.toList.isEmpty))
        all_goals rw [k1, k2]
        all_goals rfl
    · have hc1 : 1 < cap := by omega
      clear hc hcap
      go_enter Tryz.func75, Tryz.ntmps75
      go_wp2_with fail
      go_loopw [17] (fun vi wr => ∃ (i : Nat) (hi : ByteArray), i ≤ m ∧ vi = .int .i64 (i : Nat) ∧ Moves [] w wr ∧ wr.heap[P]? = some (.cells #[.string s0.lo, .string hi] 37 (0, 0)) ∧ Hid (q = spW ⟨s0.lo, hi⟩ (t0.drop i))) (fun vi _ => m - (intOf vi).toNat)
      case atStart => exact ⟨0, s0.hi, by omega, rfl, mb, b0, hq0⟩
      case round =>
        obtain ⟨i, hi, him, rfl, mr, br, hw⟩ := hrel
        by_cases hlt : i < m
        · have hk3 : (i : Int) < m := by omega
          obtain ⟨s, hs⟩ : ∃ s, t0[i]? = some s := ⟨_, List.getElem?_eq_getElem (by have := HM.out; omega)⟩
          obtain ⟨g', off', e1, z0, z1⟩ := HS.out (i + 1) s (by simpa using hs)
          simp only [Option.some.injEq, Addr.mk.injEq] at e1
          obtain ⟨rfl, rfl, _⟩ := e1
          have a0 : off + (i + 1) * 2 = off + 2 + i * 2 := by omega
          rw [a0] at z0 z1
          clear a0
          replace z0 := mr.cell z0
          replace z1 := mr.cell z1
          have br' := ((Moves.refl [] wr).alloc (.cells #[.string s.lo, .string s.hi] 37)).at br (by simp)
          have hlP := lt_of_block br
          obtain ⟨c0, c1, f0, f1⟩ := sp_cells br'
          have hd : t0.drop i = s :: t0.drop (i + 1) := drop_at hs
          rw [hd] at hw
          have hw' : Hid (q = (spJ ⟨s0.lo, hi⟩ s && spW ⟨s0.lo, s.hi⟩ (t0.drop (i + 1)))) := hw.out
          clear hd hs hw
          cases hj : spJ ⟨s0.lo, hi⟩ s with
          | false =>
            go_wp2_with (go_at_call 114; refine (spJoin_no _ _ _ _ _ hj).mono ?_; rintro _ w2 ⟨rfl, m2⟩)
            go_ret
            refine ⟨?_, (mr.alloc _).then m2 |>.alloc _⟩
            rw [hw'.out, hj]
            rfl
          | true =>
            go_wp2_with (go_at_call 114; refine (spJoin_yes _ _ _ _ _ hj).mono ?_; rintro _ w2 ⟨rfl, m2⟩; have b2 := ((Moves.refl [] w2).alloc (.cells #[.string s0.lo, .string s.hi] 37)).at (m2.at br' (by simp)) (by simp); clear c0 c1 f0 f1; obtain ⟨c0, c1, f0, f1⟩ := sp_cells b2)
            go_roundw
            case rel =>
              have st := spStored1 (a := .string s0.lo) (b := .string s.hi) b2
              refine ⟨i + 1, s.hi, by omega, by go_num, ((mr.then ((((Moves.refl [] wr).alloc _).then m2).alloc _)).trans st.2 (fun x hx => .inr (by simp at hx; omega))), st.1, ?_⟩
              have := hw'.out
              rw [hj, Bool.true_and] at this
              exact this
            case measure => simp [intOf]; omega
        · obtain rfl : i = m := by omega
          obtain ⟨c0, c1, _, _⟩ := sp_cells br
          cases k1 : s0.lo.toList.isEmpty <;> cases k2 : hi.toList.isEmpty
          all_goals go_wp2_with fail
          all_goals go_ret
          all_goals refine ⟨?_, mr⟩
          all_goals rw [hw.out, List.drop_eq_nil_of_le (by have := HM.out; omega)]
          all_goals show Ending.returned _ = Ending.returned (.bool (s0.lo.toList.isEmpty && hi.toList.isEmpty))
          all_goals rw [k1, k2]
          all_goals rfl
end Go.Proofs.YtilbbnmhnacnlaaGreat
/-
  The document's own Cover.
-/
namespace Go.Proofs.YtilbbnmhnacnlaaGreat
open Go.RowKit

def spG (lo : ByteArray) : List Psp → Bool
  | [] => true
  | s :: t => spR s && zeq s.lo lo && (bz s.hi == t.isEmpty) && spG s.hi t
theorem zeq_comm (a b : ByteArray) : zeq a b = zeq b a := by
  cases h : zeq a b with
  | true => rw [zeq_iff.1 h]; exact (zeq_iff.2 rfl).symm
  | false =>
    cases h2 : zeq b a with
    | false => rfl
    | true => rw [zeq_iff.1 h2, zeq_iff.2 rfl] at h; simp at h
theorem spK_eq : ∀ (t : List Psp) (hi : ByteArray), spK hi t = ((bz hi == t.isEmpty) && spG hi t)
  | [], hi => by unfold spK spG; simp
  | s :: t, hi => by
    unfold spK spG
    rw [spK_eq t, zeq_comm s.lo hi]
    cases bz hi <;> cases zeq hi s.lo <;> cases spR s <;> simp
theorem spG_cov {xs : List Psp} (h : xs ≠ []) : spCov xs = spG ⟨#[]⟩ xs := by
  cases xs with
  | nil => exact absurd rfl h
  | cons s t =>
    unfold spCov spG
    dsimp only
    rw [spK_eq]
    have : zeq s.lo ⟨#[]⟩ = bz s.lo := by
      cases hb : bz s.lo with
      | true => exact zeq_iff.2 (bz_iff.1 hb)
      | false =>
        cases hz : zeq s.lo ⟨#[]⟩ with
        | false => rfl
        | true => rw [bz_iff.2 (zeq_iff.1 hz)] at hb; simp at hb
    rw [this]
    simp [Bool.and_assoc]

set_option maxRecDepth 100000 in
set_option maxHeartbeats 4000000 in
theorem rfCover7_w (w : World) (ad : Option Addr) (n cap : Nat) (xs : List Psp) (h : SpsAt w ad xs) (hn : n = xs.length) (hl : n ≤ 1000000) : Calls Tryz.prog 12 #[.slice ad n cap] w fun e w' => e = .returned (.bool (spCov xs)) ∧ Moves [] w w' := by
  have HN : Hid (n = xs.length) := hn
  have HS : Hid (SpsAt w ad xs) := h
  obtain ⟨q, hq⟩ : ∃ q, Hid (spCov xs = q) := ⟨_, rfl⟩
  have hq0 : Hid (xs ≠ [] → q = spG ⟨#[]⟩ (xs.drop 0)) := fun hne => by rw [← hq.out]; exact spG_cov hne
  have hq1 : Hid (xs = [] → q = false) := fun e => by rw [← hq.out, e]; rfl
  rw [hq.out]
  clear h hn
  go_enter Tryz.func12, Tryz.ntmps12
  go_wp2_with fail
  go_loopw [3, 4] (fun vl vi wr => ∃ (i : Nat) (lo : ByteArray), i ≤ n ∧ vl = .string lo ∧ vi = .int .i64 (i : Nat) ∧ Moves [] w wr ∧ Hid (xs ≠ [] → q = spG lo (xs.drop i))) (fun _ vi _ => n - (intOf vi).toNat)
  case atStart => exact ⟨0, ⟨#[]⟩, by omega, rfl, rfl, Moves.refl _ _, hq0⟩
  case round =>
    obtain ⟨i, lo, hin, rfl, rfl, mr, hw⟩ := hrel
    by_cases hlt : i < n
    · have hk3 : (i : Int) < n := by omega
      obtain ⟨s, hs⟩ : ∃ s, xs[i]? = some s := ⟨_, List.getElem?_eq_getElem (by have := HN.out; omega)⟩
      obtain ⟨g, off, rfl, z0, z1⟩ := HS.out i s hs
      replace z0 := mr.cell z0
      replace z1 := mr.cell z1
      have hne : xs ≠ [] := fun e => by rw [e] at hs; simp at hs
      have hd : xs.drop i = s :: xs.drop (i + 1) := drop_at hs
      have hemp : (xs.drop (i + 1)).isEmpty = ((i : Int) + 1 == n) := by
        have := HN.out
        by_cases e : i + 1 = n
        · rw [beq_iff_eq.2 (by omega : (i : Int) + 1 = n), List.drop_eq_nil_of_le (by omega)]; rfl
        · rw [beq_eq_false_iff_ne.2 (by omega : (i : Int) + 1 ≠ n)]
          cases hdd : xs.drop (i + 1) with
          | cons _ _ => rfl
          | nil => have hle : xs.length ≤ i + 1 := by simpa using hdd
                   omega
      have hw' : Hid (q = (spR s && (s.lo.toList == lo.toList) && (s.hi.toList.isEmpty == ((i : Int) + 1 == n)) && spG s.hi (xs.drop (i + 1)))) := by
        have := hw.out hne
        rw [hd] at this
        unfold spG at this
        rw [hemp] at this
        exact this
      have HNE : Hid (xs ≠ []) := hne
      clear hs hne hd hemp hw
      have hsr : spR s = spR ⟨s.lo, s.hi⟩ := rfl
      cases h1 : spR ⟨s.lo, s.hi⟩ <;> cases h2 : (s.lo.toList == lo.toList) <;> cases h3 : s.hi.toList.isEmpty <;> cases h4 : ((i : Int) + 1 == n)
      all_goals rw [hsr, h1, h2, h3, h4] at hw'
      all_goals clear hsr
      all_goals go_wp2_with (go_at_call 40; refine (rfRight7_w _ _ _).mono ?_; rintro _ w2 ⟨rfl, m2⟩; simp only [h1]; replace z0 := m2.cell z0; replace z1 := m2.cell z1)
      all_goals (first | (go_ret; exact ⟨by rw [hw'.out]; simp, mr.then m2⟩) | skip)
      all_goals go_roundw
      all_goals first | (simp [intOf]; omega) | (refine ⟨i + 1, s.hi, by omega, rfl, by go_num, mr.then m2, fun _ => ?_⟩; have := hw'.out; simpa using this)
    · obtain rfl : i = n := by omega
      have hd : xs.drop i = [] := List.drop_eq_nil_of_le (by have := HN.out; omega)
      rw [hd] at hw
      by_cases h0 : 0 < i
      · have e : q = true := hw.out (fun e => by have := HN.out; rw [e] at this; simp at this; omega)
        subst e
        clear hd hw
        go_wp2_with fail
        go_ret
        exact ⟨rfl, mr⟩
      · have e : q = false := hq1.out (List.eq_nil_of_length_eq_zero (by have := HN.out; omega))
        subst e
        clear hd hw
        go_wp2_with fail
        go_ret
        exact ⟨rfl, mr⟩
end Go.Proofs.YtilbbnmhnacnlaaGreat
/-
  Apart of spans, the program's and the document's own.
-/
namespace Go.Proofs.YtilbbnmhnacnlaaGreat
open Go.RowKit

end Go.Proofs.YtilbbnmhnacnlaaGreat
/-
  The document's own Apart.
-/
namespace Go.Proofs.YtilbbnmhnacnlaaGreat
open Go.RowKit

end Go.Proofs.YtilbbnmhnacnlaaGreat
/-
  law7's known, made, two, lists: they return, two and lists and known true.
-/
namespace Go.Proofs.YtilbbnmhnacnlaaGreat
open Go.RowKit

def spS1 (s : Psp) (t : ByteArray) : Psp := if spC s t = true then ⟨s.lo, t⟩ else Psp.zero
def spS2 (s : Psp) (t : ByteArray) : Psp := if spC s t = true then ⟨t, s.hi⟩ else Psp.zero
def spJn (a b : Psp) : Psp := if spJ a b = true then ⟨a.lo, b.hi⟩ else Psp.zero
theorem rfSplit7_w (lo hi t : ByteArray) (w : World) : Calls Tryz.prog 48 #[.agg #[.string lo, .string hi], .string t] w fun e w' => e = .returned (.tuple #[.agg #[.string (spS1 ⟨lo, hi⟩ t).lo, .string (spS1 ⟨lo, hi⟩ t).hi], .agg #[.string (spS2 ⟨lo, hi⟩ t).lo, .string (spS2 ⟨lo, hi⟩ t).hi], .bool (spC ⟨lo, hi⟩ t)]) ∧ Moves [] w w' := by
  unfold spS1 spS2
  cases h : spC ⟨lo, hi⟩ t with
  | true => exact rfSplit7_yes lo hi t w h
  | false => exact rfSplit7_no lo hi t w h
theorem spJoin_w (la ha lb hb : ByteArray) (w : World) : Calls Tryz.prog 114 #[.agg #[.string la, .string ha], .agg #[.string lb, .string hb]] w fun e w' => e = .returned (.tuple #[.agg #[.string (spJn ⟨la, ha⟩ ⟨lb, hb⟩).lo, .string (spJn ⟨la, ha⟩ ⟨lb, hb⟩).hi], .bool (spJ ⟨la, ha⟩ ⟨lb, hb⟩)]) ∧ Moves [] w w' := by
  unfold spJn
  cases h : spJ ⟨la, ha⟩ ⟨lb, hb⟩ with
  | true => exact spJoin_yes la ha lb hb w h
  | false => exact spJoin_no la ha lb hb w h
def spCells : List Psp → List Value
  | [] => []
  | s :: t => .string s.lo :: .string s.hi :: spCells t
theorem spCells_at : ∀ (xs : List Psp) (k : Nat) (s : Psp), xs[k]? = some s → (spCells xs)[k * 2]? = some (.string s.lo) ∧ (spCells xs)[k * 2 + 1]? = some (.string s.hi)
  | [], k, s, h => by simp at h
  | x :: t, 0, s, h => by simp at h; subst h; simp [spCells]
  | x :: t, k + 1, s, h => by
    have := spCells_at t k s (by simpa using h)
    have e : (k + 1) * 2 = k * 2 + 1 + 1 := by omega
    rw [e]
    simpa [spCells] using this
theorem SpsAt.block {w : World} {g : Nat} {xs : List Psp} {t : TypeId} {fz : Nat × Nat} (hb : w.heap[g]? = some (.cells (spCells xs).toArray t fz)) : SpsAt w (some ⟨g, 0, none⟩) xs := by
  intro k s hs
  obtain ⟨h1, h2⟩ := spCells_at xs k s hs
  refine ⟨g, 0, rfl, ?_, ?_⟩
  · simp only [World.cell?, hb, Nat.zero_add]
    simpa using h1
  · simp only [World.cell?, hb, Nat.zero_add]
    simpa using h2

end Go.Proofs.YtilbbnmhnacnlaaGreat
/-
  law7's two and made.
-/
namespace Go.Proofs.YtilbbnmhnacnlaaGreat
open Go.RowKit

theorem ret_span {fn : Func} {p : Tmp} (h : fn.results = #[.cell p 37]) (tmps : Array Value) (w : World) (g : Nat) (x y : Value) (hp : tmps.getD p undef = .pointer (some ⟨g, 0, none⟩)) (hg : w.heap[g]? = some (.cells #[x, y] 37 (0, 0))) :
    (results fn tmps).run Tryz.prog w = .ok (.agg #[x, y]) w :=
  results_cell_row h tmps w g 37 _ (0, 0) _ hp hg Tryz.underlying37 rfl Tryz.size37

end Go.Proofs.YtilbbnmhnacnlaaGreat
/-
  Lists of spans that the call itself makes: they grow by append.
-/
namespace Go.Proofs.YtilbbnmhnacnlaaGreat
open Go.RowKit

def OwnS (w : World) (v : Value) (xs : List Psp) : Prop := w.ownsRow 0 37 2 v xs.length (spCells xs)
theorem spCells_append : ∀ (a b : List Psp), spCells (a ++ b) = spCells a ++ spCells b
  | [], b => rfl
  | x :: a, b => by simp [spCells, spCells_append a b]
theorem spCells_length : ∀ a : List Psp, (spCells a).length = a.length * 2
  | [] => rfl
  | x :: a => by simp [spCells, spCells_length a]; omega
theorem spCells_one : ∀ (a : List Psp), ∀ u ∈ spCells a, u.oneCell' = true
  | [], u, h => by simp [spCells] at h
  | x :: a, u, h => by
    simp only [spCells, List.mem_cons] at h
    rcases h with rfl | rfl | h
    · rfl
    · rfl
    · exact spCells_one a u h
theorem spCells_get : ∀ (xs : List Psp) (j : Nat) (u : Value), (spCells xs)[j]? = some u → ∃ (k : Nat) (s : Psp), xs[k]? = some s ∧ ((j = k * 2 ∧ u = .string s.lo) ∨ (j = k * 2 + 1 ∧ u = .string s.hi))
  | [], j, u, h => by simp [spCells] at h
  | x :: t, 0, u, h => by simp [spCells] at h; exact ⟨0, x, rfl, .inl ⟨rfl, h.symm⟩⟩
  | x :: t, 1, u, h => by simp [spCells] at h; exact ⟨0, x, rfl, .inr ⟨rfl, h.symm⟩⟩
  | x :: t, j + 2, u, h => by
    obtain ⟨k, s, h1, h2⟩ := spCells_get t j u (by simpa [spCells] using h)
    refine ⟨k + 1, s, by simpa using h1, ?_⟩
    rcases h2 with ⟨rfl, h2⟩ | ⟨rfl, h2⟩
    · exact .inl ⟨by omega, h2⟩
    · exact .inr ⟨by omega, h2⟩
theorem OwnS.nil (w : World) : OwnS w (.slice none 0 0) [] := by unfold OwnS; exact World.ownsRow_nil _ _ _ _
theorem OwnS.moves {w w' : World} {v : Value} {xs : List Psp} {S : List Nat} (h : OwnS w v xs) (m : Moves S w w') (hg : ∀ k, v.ownBlock = some k → k ∉ S) : OwnS w' v xs := by
  refine ⟨h.1, ?_⟩
  rcases h.2 with hn | ⟨g, cap, cur, rfl, hb, hgg, rest⟩
  · exact .inl hn
  · exact .inr ⟨g, cap, cur, rfl, hb, m.at hgg (hg g rfl), rest⟩
theorem OwnS.at {w : World} {v : Value} {xs : List Psp} (h : OwnS w v xs) : ∃ ad cap, v = .slice ad xs.length cap ∧ xs.length ≤ cap ∧ (ad = none → cap = 0) ∧ SpsAt w ad xs := by
  rcases h.2 with ⟨rfl, h0⟩ | ⟨g, cap, cur, rfl, hb, hgg, h1, h2, h3, h4⟩
  · have : xs = [] := List.eq_nil_of_length_eq_zero h0
    subst this
    exact ⟨none, 0, rfl, Nat.le_refl _, fun _ => rfl, fun k s hs => by simp at hs⟩
  · refine ⟨_, cap, rfl, h1, fun h => by simp at h, fun k s hs => ?_⟩
    have hlt := (List.getElem?_eq_some_iff.1 hs).1
    obtain ⟨e1, e2⟩ := spCells_at xs k s hs
    rw [← h4, List.getElem?_take, if_pos (by omega)] at e1 e2
    exact ⟨g, 0, rfl, by simp only [World.cell?, hgg, Nat.zero_add]; simpa using e1, by simp only [World.cell?, hgg, Nat.zero_add]; simpa using e2⟩
theorem OwnS.lt {w : World} {v : Value} {xs : List Psp} (h : OwnS w v xs) {k : Nat} (hk : v.ownBlock = some k) : k < w.heap.size := (World.ownsRow.lt h k hk).2

theorem Tryz.info37 : (Tryz.prog.info? 37).map (fun i => (i.zero, i.size, i.bytes)) = some (some (.agg #[.string ⟨#[]⟩, .string ⟨#[]⟩]), 2, 32) := by kernel_rfl

theorem spans_append {ops : Array Oper} {rest : List Oper} {o : Oper} {a : Act} {Q : Exit → Act → World → Prop} {w : World} (s x : Operand)
    (ho : o.op = .call { callee := .builtin .append, args := #[s, x], argTypes := #[50, 50] })
    (v : Value) (ad : Option Addr) (n cap : Nat) (xs ys : List Psp) (hs : a.eval s = v) (hx : a.eval x = .slice ad n cap) (hw : Region.wanted o (yielded ops a.tmps) = true)
    (hv : OwnS w v xs) (hc : SpsAt w ad ys) (hn : n = ys.length) (hnil : ad = none → cap = 0) (hb : xs.length + ys.length ≤ 1099511627776)
    (h : ∀ v' w', OwnS w' v' (xs ++ ys) → Moves v.ownBlock.toList w w' → Lain w v v' → wpList Tryz.prog ops Q rest (a.put o.dst v') w') :
    wpList Tryz.prog ops Q (o :: rest) a w := by
  refine wpList_wanted hw ?_
  obtain ⟨i0, hi, hz0, hz1, hz2⟩ := info_parts Tryz.info37
  have fin : ∀ v' w', w'.ownsRow 0 37 2 v' (xs.length + ys.length) (spCells xs ++ spCells ys) → w.grownBy w' v.ownBlock → Lain w v v' → wpList Tryz.prog ops Q rest (a.put o.dst v') w' := by
    intro v' w' h1 h2 h3
    refine h v' w' ?_ ?_ h3
    · unfold OwnS; rw [spCells_append, List.length_append]; exact h1
    · exact (Moves.refl _ _).grown h2 (fun k hk => .inl (by rw [hk]; simp))
  cases ad with
  | none =>
    have hys : ys = [] := by
      cases ys with
      | nil => rfl
      | cons y t => obtain ⟨_, _, h1, _⟩ := hc 0 y rfl; simp at h1
    subst hys
    obtain rfl : cap = 0 := hnil rfl
    simp at hn
    subst hn
    refine wpList_append_own_none rfl s x 50 ho 0 37 i0 2 Tryz.underlying50 hi v xs.length (spCells xs) hs hv hx ?_
    exact fin v w (by simpa [spCells, OwnS] using hv) (World.grownBy.refl _ _) (.inl rfl)
  | some y =>
    refine wpList_append_own_at _ rfl s x 50 ho 0 37 i0 (.agg #[.string ⟨#[]⟩, .string ⟨#[]⟩]) 2 32 Tryz.underlying50 hi hz0 hz1 hz2 rfl (by decide) v xs.length (spCells xs) hs hv y ys.length cap (spCells ys) (by rw [hx, hn]) (by rw [spCells_length]) ?_ (spCells_one ys) (by unfold maxLen; omega) (by omega) (by simp) ?_
    · intro j u hj
      obtain ⟨k, z, hk, hz⟩ := spCells_get ys j u hj
      obtain ⟨g, off, e1, e2, e3⟩ := hc k z hk
      simp only [Option.some.injEq] at e1
      subst e1
      rcases hz with ⟨rfl, rfl⟩ | ⟨rfl, rfl⟩
      · have e : (⟨g, off, none⟩ : Addr).add (k * 2) = ⟨g, off + k * 2, none⟩ := by unfold Addr.add; split <;> simp_all
        rw [e]; exact e2
      · have e : (⟨g, off, none⟩ : Addr).add (k * 2 + 1) = ⟨g, off + k * 2 + 1, none⟩ := by unfold Addr.add; split <;> simp_all [Nat.add_assoc]
        rw [e]; exact e3
    · intro v' w' h1 h2 _ h4
      exact fin v' w' h1 h2 h4
end Go.Proofs.YtilbbnmhnacnlaaGreat
/-
  Spans as bytes: what Write leaves, what Take takes of it.
-/
namespace Go.Proofs.YtilbbnmhnacnlaaGreat
open Go.RowKit

end Go.Proofs.YtilbbnmhnacnlaaGreat
/-
  What is split: plain facts; SpanSplits' walk.
-/
namespace Go.Proofs.YtilbbnmhnacnlaaGreat
open Go.RowKit

end Go.Proofs.YtilbbnmhnacnlaaGreat
/-
  What covers all: split, joined it covers all; each name is in just one; no two meet. Plain facts.
-/
namespace Go.Proofs.YtilbbnmhnacnlaaGreat
open Go.RowKit

theorem spK_split {s : Psp} {t : ByteArray} (h : spC s t = true) (post : List Psp) : ∀ (pre : List Psp) (hi : ByteArray), spK hi (pre ++ (⟨s.lo, t⟩ : Psp) :: ⟨t, s.hi⟩ :: post) = spK hi (pre ++ s :: post)
  | [], hi => by
    obtain ⟨h1, h2⟩ := split_R h
    obtain ⟨g1, _, _, _, g5⟩ := spC_split h
    simp only [List.nil_append, spK]
    rw [h1, h2, g1, g5, zeq_iff.2 rfl]
    simp
  | p :: pre, hi => by
    simp only [List.cons_append, spK]
    rw [spK_split h post pre]
theorem spCov_split {s : Psp} {t : ByteArray} (h : spC s t = true) (pre post : List Psp) : spCov (pre ++ (⟨s.lo, t⟩ : Psp) :: ⟨t, s.hi⟩ :: post) = spCov (pre ++ s :: post) := by
  cases pre with
  | nil =>
    obtain ⟨h1, h2⟩ := split_R h
    obtain ⟨g1, _, _, _, g5⟩ := spC_split h
    simp only [List.nil_append, spCov, spK]
    rw [h1, h2, g1, g5, zeq_iff.2 rfl]
    simp
  | cons p pre =>
    simp only [List.cons_append, spCov]
    rw [spK_split h post pre]
theorem spK_join {s1 s2 : Psp} (post : List Psp) : ∀ (pre : List Psp) (hi : ByteArray), spK hi (pre ++ s1 :: s2 :: post) = true → spJ s1 s2 = true ∧ spK hi (pre ++ (⟨s1.lo, s2.hi⟩ : Psp) :: post) = true
  | [], hi, h => by
    simp only [List.nil_append, spK, Bool.and_eq_true, Bool.not_eq_true'] at h
    obtain ⟨⟨⟨h1, h2⟩, h3⟩, ⟨⟨h4, h5⟩, h6⟩, h7⟩ := h
    have hj : spJ s1 s2 = true := by unfold spJ; rw [h3, h6, h4, h5]; rfl
    refine ⟨hj, ?_⟩
    simp only [List.nil_append, spK]
    rw [h1, h2, join_R hj, h7]
    rfl
  | p :: pre, hi, h => by
    simp only [List.cons_append, spK, Bool.and_eq_true] at h ⊢
    obtain ⟨h1, h2⟩ := spK_join post pre _ h.2
    exact ⟨h1, h.1, h2⟩
theorem spCov_join {s1 s2 : Psp} (pre post : List Psp) (h : spCov (pre ++ s1 :: s2 :: post) = true) : spJ s1 s2 = true ∧ spCov (pre ++ (⟨s1.lo, s2.hi⟩ : Psp) :: post) = true := by
  cases pre with
  | nil =>
    simp only [List.nil_append, spCov, spK, Bool.and_eq_true, Bool.not_eq_true'] at h
    obtain ⟨⟨h3, h1⟩, ⟨⟨h4, h5⟩, h6⟩, h7⟩ := h
    have hj : spJ s1 s2 = true := by unfold spJ; rw [h3, h6, h4, h5]; rfl
    refine ⟨hj, ?_⟩
    simp only [List.nil_append, spCov]
    rw [h1, join_R hj, h7]
    rfl
  | cons p pre =>
    simp only [List.cons_append, spCov, Bool.and_eq_true] at h ⊢
    obtain ⟨h1, h2⟩ := spK_join post pre _ h.2
    exact ⟨h1, h.1, h2⟩
end Go.Proofs.YtilbbnmhnacnlaaGreat
/-
  Lists of texts: as they are handed in, and of the call's own.
-/
namespace Go.Proofs.YtilbbnmhnacnlaaGreat
open Go.RowKit
open Go.ChangeShapes Go.WideShapes

end Go.Proofs.YtilbbnmhnacnlaaGreat
/-
  Arguments opened: a slice of bytes and a slice of things to be written or read, as the rows' reading finds them in memory.
-/
namespace Go.Proofs.YtilbbnmhnacnlaaGreat
open Go.RowKit
open Go.ChangeShapes Go.WideShapes

theorem float_of_trod {H : Type} {enc : TypeId × Value → H} {W : World} {base : Nat} {spare : Nat → Bool} {held : Bool} {fuel : Nat} {v : Value} {x : DataW H × List MemPlace}
    (h : DataW.trod enc Tryz.prog W base spare held fuel 28 [v] = some x) : ∃ b : Nat, Pl.Fits b ∧ v = .float .f64 b := by
  cases fuel with
  | zero => simp [DataW.trod] at h
  | succ n =>
    simp only [DataW.trod, Tryz.underlying28] at h
    cases v <;> simp at h
    rename_i k b
    obtain ⟨⟨rfl, hwf⟩, _⟩ := h
    exact ⟨b, Pl.fits_of_wf hwf, rfl⟩

end Go.Proofs.YtilbbnmhnacnlaaGreat
/-
  What the document's own reading does: each method takes the bytes that the document says and returns what they stand for, or marks itself as bad; no other memory is written.
-/
namespace Go.Proofs.YtilbbnmhnacnlaaGreat
open Go.RowKit

theorem isB_nil (w : World) (g : Nat) : IsB w g (.slice none 0 0) [] := ⟨_, _, _, rfl, rfl, Nat.le_refl _, fun _ => rfl, .inl rfl⟩

end Go.Proofs.YtilbbnmhnacnlaaGreat
/-
  What the document's own reading of a Text does, and what 'rest' does where nothing can be read: it marks the document's Reader as bad.
-/
namespace Go.Proofs.YtilbbnmhnacnlaaGreat
open Go.RowKit

end Go.Proofs.YtilbbnmhnacnlaaGreat
