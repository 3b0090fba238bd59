/-
  Package meta: the library's stable sort, inARow, meetsOne, with, Put.
-/
import Derived.Test.YtfhdodopjgfedaaGreatCMt8
namespace Go.Proofs.YtfhdodopjgfedaaGreat
open Go.RowKit

set_option maxRecDepth 100000 in
set_option maxHeartbeats 1000000 in
theorem mtIns0_w (w : World) (v : Value) (n : Nat) (hl : n ≤ 1000) (f : Value) : Calls Tryz.prog 206 #[v, .int .i64 (n : Int), .int .i64 (n : Int), f] w fun e w' => (∃ v, e = .returned v) ∧ w = w' := by
  go_enter Tryz.func206, Tryz.ntmps206
  go_wp2_with fail
  go_loopw [8] (fun vi wr => vi = .int .i64 ((n + 1 : Nat) : Int) ∧ w = wr) (fun _ _ => 0)
  case atStart => exact ⟨by go_num, rfl⟩
  case round =>
    obtain ⟨rfl, rfl⟩ := hrel
    have hk3 : ¬ ((n + 1 : Nat) : Int) < n := by omega
    go_wp2_with fail
    go_end0
    exact ⟨⟨_, rfl⟩, rfl⟩

set_option maxRecDepth 100000 in
set_option maxHeartbeats 4000000 in
theorem mtStable_w (w : World) (g n cap : Nat) (xs : List Ptb) (hO : OwnT w (.slice (some ⟨g, 0, none⟩) n cap) xs) (hn : n = xs.length) (hl : n ≤ 20) :
    Calls Tryz.prog 188 #[.slice (some ⟨g, 0, none⟩) n cap, .int .i64 (n : Int), .func (.func 152) #[] #[]] w fun e w' => (∃ v, e = .returned v) ∧ ∃ ys, OwnT w' (.slice (some ⟨g, 0, none⟩) n cap) ys ∧ ys.Perm xs ∧ SortT ys ∧ Moves [g] w w' := by
  have hins := mtIns_w w g n cap xs hO hn (by omega)
  have H20 : ¬ (20 : Int) < n := by omega
  by_cases h20 : n = 20
  · subst h20
    clear hO hn
    go_enter Tryz.func188, Tryz.ntmps188
    go_wp2_with fail
    go_loopw [7, 8] (fun va vb wr => (va = .int .i64 0 ∧ vb = .int .i64 20 ∧ w = wr) ∨ (va = .int .i64 20 ∧ vb = .int .i64 40 ∧ Hid (∃ ys, OwnT wr (.slice (some ⟨g, 0, none⟩) 20 cap) ys ∧ ys.Perm xs ∧ SortT ys ∧ Moves [g] w wr))) (fun va _ _ => 20 - (intOf va).toNat)
    case atStart => exact .inl ⟨rfl, rfl, rfl⟩
    case round =>
      rcases hrel with ⟨rfl, rfl, rfl⟩ | ⟨rfl, rfl, hF⟩
      · go_wp2_with fail
        refine hins.mono ?_
        rintro _ w2 ⟨⟨v, rfl⟩, hF⟩
        have HF : Hid (∃ ys, OwnT w2 (.slice (some ⟨g, 0, none⟩) 20 cap) ys ∧ ys.Perm xs ∧ SortT ys ∧ Moves [g] w w2) := hF
        clear hF
        go_wp2_with fail
        go_roundw
        case rel => exact .inr ⟨rfl, rfl, HF.out⟩
        case measure => simp [intOf]
      · go_wp2_with fail
        refine (mtIns0_w wr _ 20 (by omega) _).mono ?_
        rintro _ _ ⟨⟨v, rfl⟩, rfl⟩
        go_wp2_with fail
        go_loopw [6] (fun vb w3 => vb = .int .i64 20 ∧ wr = w3) (fun _ _ => 0)
        case atStart => exact ⟨rfl, rfl⟩
        case round =>
          obtain ⟨rfl, rfl⟩ := hrel
          go_wp2_with fail
          go_end0
          exact ⟨⟨_, rfl⟩, hF.out⟩
  · have hlt : ¬ (20 : Int) ≤ n := by omega
    clear hO hn
    go_enter Tryz.func188, Tryz.ntmps188
    go_wp2_with fail
    go_loopw [7, 8] (fun va vb wr => va = .int .i64 0 ∧ vb = .int .i64 20 ∧ w = wr) (fun _ _ _ => 0)
    case atStart => exact ⟨rfl, rfl, rfl⟩
    case round =>
      obtain ⟨rfl, rfl, rfl⟩ := hrel
      go_wp2_with fail
      refine hins.mono ?_
      rintro _ w2 ⟨⟨v, rfl⟩, hF⟩
      have HF : Hid (∃ ys, OwnT w2 (.slice (some ⟨g, 0, none⟩) n cap) ys ∧ ys.Perm xs ∧ SortT ys ∧ Moves [g] w w2) := hF
      clear hF
      go_wp2_with fail
      go_loopw [6] (fun vb wr => vb = .int .i64 20 ∧ w2 = wr) (fun _ _ => 0)
      case atStart => exact ⟨rfl, rfl⟩
      case round =>
        obtain ⟨rfl, rfl⟩ := hrel
        go_wp2_with fail
        go_end0
        exact ⟨⟨_, rfl⟩, HF.out⟩

set_option maxRecDepth 100000 in
theorem mtSort_w (w : World) (g n cap : Nat) (xs : List Ptb) (hO : OwnT w (.slice (some ⟨g, 0, none⟩) n cap) xs) (hn : n = xs.length) (hl : n ≤ 20) :
    Calls Tryz.prog 151 #[.slice (some ⟨g, 0, none⟩) n cap, .func (.func 152) #[] #[]] w fun e w' => (∃ v, e = .returned v) ∧ ∃ ys, OwnT w' (.slice (some ⟨g, 0, none⟩) n cap) ys ∧ ys.Perm xs ∧ SortT ys ∧ Moves [g] w w' := by
  have hst := mtStable_w w g n cap xs hO hn hl
  clear hO hn
  go_enter Tryz.func151, Tryz.ntmps151
  go_wp2_with fail
  refine hst.mono ?_
  rintro _ w2 ⟨⟨v, rfl⟩, hF⟩
  have HF : Hid (∃ ys, OwnT w2 (.slice (some ⟨g, 0, none⟩) n cap) ys ∧ ys.Perm xs ∧ SortT ys ∧ Moves [g] w w2) := hF
  clear hF
  go_wp2_with fail
  go_end0
  exact ⟨⟨_, rfl⟩, HF.out⟩

def tbMeet (ys : List Ptb) (x : Ptb) : Bool := ys.any (fun y => spM x.sp y.sp)
set_option maxRecDepth 100000 in
set_option maxHeartbeats 1000000 in
theorem mtMeet1_w (x y : Ptb) (q : Nat) (w : World) (hq : w.heap[q]? = some (.cells #[.string x.lo, .string x.hi, .int .i64 x.g, .int .i64 x.n] 54 (0, 0))) : Calls Tryz.prog 186 #[.agg #[.string y.lo, .string y.hi, .int .i64 y.g, .int .i64 y.n], .pointer (some ⟨q, 0, none⟩)] w fun e w' => e = .returned (.bool (spM x.sp y.sp)) ∧ Moves [] w w' := by
  have mA : Moves [] w (w.alloc (.cells #[.string y.lo, .string y.hi, .int .i64 y.g, .int .i64 y.n] 54)) := (Moves.refl _ _).alloc _
  obtain ⟨a0, a1, a2, a3, _⟩ := four_cells (mA.at hq (by simp))
  clear hq
  go_enter Tryz.func186, Tryz.ntmps186
  go_wp2_with fail
  refine (spMeet_w _ _ _ _ _).mono ?_
  rintro _ w2 ⟨rfl, m2⟩
  go_wp2_with fail
  go_ret
  exact ⟨rfl, mA.then m2⟩
set_option maxRecDepth 100000 in
set_option maxHeartbeats 1000000 in
theorem mtMeets_w (w : World) (g : Nat) (v : Value) (ys : List Ptb) (h : TbL w g v ys) (hl : ys.length ≤ 1000) (x : Ptb) : Calls Tryz.prog 150 #[.agg #[.string x.lo, .string x.hi, .int .i64 x.g, .int .i64 x.n], v] w fun e w' => e = .returned (.bool (tbMeet ys x)) ∧ Moves [] w w' := by
  obtain ⟨ad, n, cap, rfl, hn, hc, HL⟩ := h.open
  have mA : Moves [] w (w.alloc (.cells #[.string x.lo, .string x.hi, .int .i64 x.g, .int .i64 x.n] 54)) := (Moves.refl _ _).alloc _
  have hA := heap_alloc_new w (.cells #[.string x.lo, .string x.hi, .int .i64 x.g, .int .i64 x.n] 54)
  have hcf : ∀ (args : Array Value) (w : World), (callFunc 186 args).run Tryz.prog w = .ok (.enter 186 args) w := fun _ _ => rfl
  have hct := mtContains1_w _ _ g ad n cap ys (HL.out.moves mA (by simp)) (Moves.refl _ _) hl 186 (.pointer (some ⟨w.heap.size, 0, none⟩)) (fun y => spM x.sp y.sp) hcf (fun y w1 m => mtMeet1_w x y w.heap.size w1 (m.at hA (by simp)))
  clear h hcf
  go_enter Tryz.func150, Tryz.ntmps150
  go_wp2_with fail
  refine hct.mono ?_
  rintro _ w2 ⟨rfl, m2⟩
  go_wp2_with fail
  go_ret
  exact ⟨rfl, mA.then m2⟩
end Go.Proofs.YtfhdodopjgfedaaGreat
