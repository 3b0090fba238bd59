/-
  Package meta: inMetas: a list by fours, each in memory of its own: the library's Chunk, a range over its function.
-/
import Derived.RangeFuncNested
import Derived.RangeFuncBound
import Derived.RangeFuncCalls
import Derived.RangeFuncLeaves
import Derived.RangeFuncBox
import Derived.Shelf.Abstract
import Derived.Shelf.RegionOpen
import Derived.WalkKit
import Derived.OwnWalkIn
import Derived.TacticsInMore
import Derived.LoopNIn
import Derived.LoopIn
import Derived.Test.YtfhdodopjgfedaaGreatCMt1
namespace Go.Proofs.YtfhdodopjgfedaaGreat
open Go.RowKit Go.Shelf
attribute [local go_sem] Oper.semAt_some

set_option maxHeartbeats 1000000 in
theorem mtChunk_w (ad : Option Addr) (n cap : Nat) (w : World) :
    Calls Tryz.prog 79 #[.slice ad n cap, .int .i64 4] w fun e w' => e = .returned (.func (.func 116) #[] #[.pointer (some ⟨w.heap.size, 0, none⟩), .pointer (some ⟨w.heap.size + 1, 0, none⟩)]) ∧ w' = (w.alloc (.cells #[.slice ad n cap] 51)).alloc (.cells #[.int .i64 4] 3) := by
  go_enter Tryz.func79, Tryz.ntmps79
  go_wp2_with fail
  go_ret
  exact ⟨rfl, rfl⟩

/-- What a round keeps: what lay below n₀, but for block p. -/
def KpT (n₀ p : Nat) (A B : World) : Prop := A.heap.size ≤ B.heap.size ∧ ∀ k, k < n₀ → k ≠ p → B.heap[k]? = A.heap[k]?
theorem KpT.refl (n₀ p : Nat) (A : World) : KpT n₀ p A A := ⟨Nat.le_refl _, fun _ _ _ => rfl⟩
theorem KpT.trans {n₀ p : Nat} {A B C : World} (h : KpT n₀ p A B) (k : KpT n₀ p B C) : KpT n₀ p A C := ⟨Nat.le_trans h.1 k.1, fun i h1 h2 => (k.2 i h1 h2).trans (h.2 i h1 h2)⟩
theorem KpT.cell {n₀ p : Nat} {A B : World} (h : KpT n₀ p A B) {g off : Nat} (h1 : g < n₀) (h2 : g ≠ p) : B.cell? ⟨g, off, none⟩ = A.cell? ⟨g, off, none⟩ := World.cell?_of_block (h.2 g h1 h2)

/-- The k-th four of a list of that length. -/
abbrev Kth (len : Nat) := { k : Nat // k * 4 < len }
def kthV (b off len : Nat) (k : Kth len) : Value := .slice (some ⟨b, off + k.1 * 4 * 4, none⟩) (min 4 (len - k.1 * 4)) (min 4 (len - k.1 * 4))
def kths (len n : Nat) : List (Kth len) := (List.range n).filterMap fun k => if h : k * 4 < len then some ⟨k, h⟩ else none
theorem kths_succ {len n : Nat} (h : n * 4 < len) : kths len (n + 1) = kths len n ++ [⟨n, h⟩] := by
  unfold kths
  rw [List.range_succ, List.filterMap_append]
  simp [h]

set_option maxRecDepth 100000 in
set_option maxHeartbeats 4000000 in
theorem chunk1_in (F : Fence) (n : Nat) (hF : F.fn 116) (hro : F.round = none) (hn : 1 ≤ n) (l Bs Bn n₀ p b off len cap : Nat) (hlen : len ≤ 1000) (hcap : len ≤ cap) (J Jx : List (Kth len) → World → Prop) (hJ : ∀ s A, J s A → J s A.drew)
    (hY : ∀ pre x W, J pre W → pre.length < len → YieldAt F (n - 1) Tryz.prog l #[kthV b off len x] W fun e W' =>
      (e = .returned (.bool true) ∧ J (pre ++ [x]) W' ∧ KpT n₀ p W W') ∨ (e = .returned (.bool false) ∧ Jx (pre ++ [x]) W'))
    (W : World) (h1 : Bs < n₀) (h2 : Bn < n₀) (h3 : Bs ≠ p) (h4 : Bn ≠ p) (hBs : W.cell? ⟨Bs, 0, none⟩ = some (.slice (some ⟨b, off, none⟩) len cap)) (hBn : W.cell? ⟨Bn, 0, none⟩ = some (.int .i64 4)) (h0 : J [] W) :
    CallsIn F n Tryz.prog 116 #[.func (.yield l) #[] #[], .pointer (some ⟨Bs, 0, none⟩), .pointer (some ⟨Bn, 0, none⟩)] W fun e W' => (∃ v, e = .returned v) ∧
      ((∃ ys, ys = kths len ((len + 3) / 4) ∧ J ys W') ∨ (∃ pre, True ∧ Jx pre W')) := by
  refine callsIn_of_wp Tryz.func116 rfl hF ?_ hro
  simp only [Tryz.ntmps116, List.size_toArray, List.length_cons, List.length_nil, Nat.reduceAdd, Nat.reduceSub, Array.replicate_succ, Array.replicate_zero, List.push_toArray, List.append_toArray, List.nil_append, List.cons_append]
  gi_wp2
  gi_loopw [4] (fun vi wr => ∃ (k i : Nat), Hid (i = k * 4) ∧ k ≤ (len + 3) / 4 ∧ vi = .int .i64 (i : Int) ∧ J (kths len k) wr ∧ KpT n₀ p W wr ∧ Hid ((kths len k).length = k))
    (fun i _ => (len + 3) - (intOf i).toNat)
  case atStart => exact ⟨0, 0, rfl, Nat.zero_le _, rfl, h0, KpT.refl _ _ _, rfl⟩
  case round =>
    obtain ⟨k, i, hik, hk, rfl, hJs, hnx, hkl⟩ := hrel
    have hc1 := (hnx.cell (off := 0) h1 h3).trans hBs
    have hc2 := (hnx.cell (off := 0) h2 h4).trans hBn
    have hi3 : i < len + 4 := by have := hik.out; omega
    by_cases hlt : i < len
    · have hlt4 : k * 4 < len := by have := hik.out; omega
      obtain ⟨m, hm⟩ : ∃ m, Hid (min 4 (len - i) = m) := ⟨_, rfl⟩
      have ev : kthV b off len ⟨k, hlt4⟩ = .slice (some ⟨b, off + i * 4, none⟩) m m := by unfold kthV; rw [← hm.out, hik.out]
      obtain ⟨fn, tmps, assign, body, hy, hR⟩ := hY _ ⟨k, hlt4⟩ wr.drew (hJ _ _ hJs) (by have := hkl.out; omega)
      rw [ev] at hy
      have HK : Hid (k * 4 < len) := hlt4
      have hki : (i : Int) < len := by omega
      have hmx : Tryz.prog.follows .mixedOrders = true := by kernel_rfl
      have hm1 : min (4 : Int) ((len - i : Nat) : Int) = (m : Int) := by have := hm.out; omega
      have hml : i + m ≤ len := by have := hm.out; omega
      have hd1 : wr.drew.cell? ⟨Bs, 0, none⟩ = some (.slice (some ⟨b, off, none⟩) len cap) := hc1
      have hd2 : wr.drew.cell? ⟨Bn, 0, none⟩ = some (.int .i64 4) := hc2
      gi_wp2
      gi_region_with_o fail
      all_goals gi_wp2
      all_goals refine hR.mono ?_
      all_goals rintro e W3 (⟨rfl, hJ3, hk3⟩ | ⟨rfl, hJx3⟩)
      all_goals first
        | (have hq3 := (hk3.cell (off := 0) h2 h4).trans hd2
           gi_wp2
           go_roundw
           case rel => exact ⟨k + 1, i + 4, (by have := hik.out; unfold Hid; omega), by omega, by go_num, (by rw [kths_succ HK.out]; exact hJ3), hnx.trans hk3, (by unfold Hid; rw [kths_succ HK.out, List.length_append, hkl.out]; rfl)⟩
           case measure => simp [intOf]; omega)
        | (gi_wp2
           refine bodyPost_ret (results_none rfl _ _ _) rfl ?_
           exact ⟨⟨_, rfl⟩, .inr ⟨_, trivial, hJx3⟩⟩)
    · have hk2 : k = (len + 3) / 4 := by have := hik.out; omega
      have hni : ¬ (i : Int) < len := by omega
      gi_wp2
      go_end0
      exact ⟨⟨_, rfl⟩, .inl (by rw [← hk2]; exact hJs)⟩
end Go.Proofs.YtfhdodopjgfedaaGreat
