/- ours -/
import Derived.Test.YtilbbnmhnacnlaaGreatCB33
/-
  Package meta: insertion sort of tablets by their Los.
-/
namespace Go.Proofs.YtilbbnmhnacnlaaGreat
open Go.RowKit

def SortT (l : List Ptb) : Prop := l.Pairwise (fun a b => zlt b.lo a.lo = false)
theorem sort_put {P Q : List Ptb} {x : Ptb} (h : SortT (P ++ Q)) (hQ : ∀ q ∈ Q, zlt x.lo q.lo = true) (hP : P = [] ∨ ∃ P' y, P = P' ++ [y] ∧ zlt x.lo y.lo = false) : SortT (P ++ x :: Q) := by
  obtain ⟨h1, h2, h3⟩ := List.pairwise_append.1 h
  refine List.pairwise_append.2 ⟨h1, List.Pairwise.cons (fun q hq => zlt_asymm (hQ q hq)) h2, fun a ha b hb => ?_⟩
  rcases List.mem_cons.1 hb with rfl | hb
  · rcases hP with rfl | ⟨P', y, rfl, hy⟩
    · simp at ha
    · rcases List.mem_append.1 ha with ha | ha
      · have := (List.pairwise_append.1 h1).2.2 a ha y (by simp)
        exact zle_trans this hy
      · simp at ha; subst ha; exact hy
  · exact h3 a ha b hb
theorem swap_list {P' Q R : List Ptb} {x y : Ptb} : ((P' ++ [y] ++ x :: Q ++ R).set (P'.length + 1) y).set P'.length x = P' ++ x :: (y :: Q) ++ R := by
  have e : P' ++ [y] ++ x :: Q ++ R = P' ++ (y :: x :: (Q ++ R)) := by simp
  rw [e, List.set_append_right _ _ (by omega), Nat.add_sub_cancel_left, List.set_append_right _ _ (by omega), Nat.sub_self]
  simp
set_option maxRecDepth 100000 in
set_option maxHeartbeats 8000000 in
theorem mtIns_w (w : World) (g n cap : Nat) (xs : List Ptb) (hO : OwnT w (.slice (some ⟨g, 0, none⟩) n cap) xs) (hn : n = xs.length) (hl : n ≤ 1000) :
    Calls Tryz.prog 206 #[.slice (some ⟨g, 0, none⟩) n cap, .int .i64 0, .int .i64 (n : Int), .func (.func 152) #[] #[]] w fun e w' => (∃ v, e = .returned v) ∧ ∃ ys, OwnT w' (.slice (some ⟨g, 0, none⟩) n cap) ys ∧ ys.Perm xs ∧ SortT ys ∧ Moves [g] w w' := by
  have HO : Hid (OwnT w (.slice (some ⟨g, 0, none⟩) n cap) xs) := hO
  have HN : Hid (n = xs.length) := hn
  have hcf : ∀ (args : Array Value) (w : World), (callFunc 152 args).run Tryz.prog w = .ok (.enter 152 args) w := fun _ _ => rfl
  have hmx : Tryz.prog.follows .mixedOrders = true := by kernel_rfl
  clear hO hn
  go_enter Tryz.func206, Tryz.ntmps206
  go_wp2_with fail
  go_loopw [8] (fun vi wr => ∃ (i : Nat) (ys : List Ptb), i ≤ n + 1 ∧ 1 ≤ i ∧ vi = .int .i64 (i : Nat) ∧ Hid (OwnT wr (.slice (some ⟨g, 0, none⟩) n cap) ys ∧ ys.Perm xs ∧ SortT (ys.take i)) ∧ Moves [g] w wr) (fun vi _ => n + 1 - (intOf vi).toNat)
  case atStart => exact ⟨1, xs, by omega, by omega, rfl, ⟨HO.out, List.Perm.refl _, by unfold SortT; cases xs <;> simp⟩, Moves.refl _ _⟩
  case round =>
    obtain ⟨i, ys, hin, hi1, rfl, hI, mr⟩ := hrel
    obtain ⟨wo, hwo⟩ : ∃ wo, wr = wo := ⟨_, rfl⟩
    subst hwo
    by_cases hlt : i < n
    · have hk3 : (i : Int) < n := by omega
      have hys : ys.length = n := by rw [hI.out.2.1.length_eq]; exact HN.out.symm
      have HYS : Hid (ys.length = n) := hys
      clear hys
      go_wp2_with fail
      go_loopw [9] (fun vj wr => ∃ (j : Nat) (P Q R : List Ptb) (x : Ptb), j ≤ i ∧ vj = .int .i64 (j : Nat) ∧ Hid (P.length = j ∧ P.length + Q.length = i ∧ SortT (P ++ Q) ∧ (∀ q ∈ Q, zlt x.lo q.lo = true) ∧ OwnT wr (.slice (some ⟨g, 0, none⟩) n cap) (P ++ x :: Q ++ R) ∧ (P ++ x :: Q ++ R).Perm xs) ∧ Moves [g] w wr) (fun vj _ => (intOf vj).toNat)
      case atStart =>
        obtain ⟨q1, q2, q3⟩ := hI.out
        have hil : i < ys.length := by have := HYS.out; omega
        have e : ys.take i ++ ys[i] :: [] ++ ys.drop (i + 1) = ys := by simp
        refine ⟨i, ys.take i, [], ys.drop (i + 1), ys[i], Nat.le_refl _, rfl, ⟨by simp; omega, by simp; omega, by simpa using q3, by simp, by rw [e]; exact q1, by rw [e]; exact q2⟩, mr⟩
      case round =>
        obtain ⟨j, P, Q, R, x, hji, rfl, hJ, mj⟩ := hrel
        have hn1 : n ≤ 1000 := hl
        rcases List.eq_nil_or_concat P with hP | ⟨P', y, hP⟩
        · subst hP
          obtain ⟨j1, j2, j3, j4, j5, j6⟩ := hJ.out
          obtain rfl : 0 = j := j1
          have HZ : Hid (OwnT wr (.slice (some ⟨g, 0, none⟩) n cap) (x :: Q ++ R) ∧ (x :: Q ++ R).Perm xs ∧ SortT ((x :: Q ++ R).take (i + 1)) ∧ Moves [g] w wr) := by
            refine ⟨j5, j6, ?_, mj⟩
            have e : (x :: Q ++ R).take (i + 1) = [] ++ x :: Q := by
              have : (x :: Q).length = i + 1 := by simp at j2 ⊢; exact j2
              rw [List.take_append_of_le_length (by omega), List.take_of_length_le (by omega)]
              rfl
            rw [e]
            exact sort_put j3 j4 (.inl rfl)
          clear j2 j3 j4 j5 j6 hJ
          go_wp2_with fail
          go_region
          go_wp2_with fail
          go_roundw
          case rel =>
            obtain ⟨q1, q2, q3, q4⟩ := HZ.out
            exact ⟨i + 1, _, by omega, by omega, by go_num, ⟨q1.moves ((Moves.refl [] wr).drew) (by simp), q2, q3⟩, q4.drew⟩
          case measure => simp [intOf]; omega
        · rw [List.concat_eq_append] at hP
          subst hP
          obtain ⟨j1, j2, j3, j4, j5, j6⟩ := hJ.out
          simp only [List.length_append, List.length_cons, List.length_nil] at j1 j2
          obtain ⟨k, hk⟩ : ∃ k, P'.length = k := ⟨_, rfl⟩
          have hjk : j = k + 1 := by omega
          have HJK : Hid (j = k + 1) := hjk
          have gy : (P' ++ [y] ++ x :: Q ++ R)[k]? = some y := by
            rw [List.append_assoc, List.append_assoc, List.getElem?_append_right (by omega), hk, Nat.sub_self]; rfl
          have gx : (P' ++ [y] ++ x :: Q ++ R)[k + 1]? = some x := by
            rw [List.append_assoc, List.append_assoc, List.getElem?_append_right (by omega), hk, Nat.add_sub_cancel_left]; rfl
          have hlen : n = (P' ++ [y] ++ x :: Q ++ R).length := by rw [j6.length_eq]; exact HN.out
          have hkn : k + 1 < n := by rw [hlen]; exact (List.getElem?_eq_some_iff.1 gx).1
          obtain ⟨⟨y0, y1, y2, y3⟩, fy0, fy1, fy2, fy3⟩ := j5.cells gy
          obtain ⟨⟨x0, x1, x2, x3⟩, fx0, fx1, fx2, fx3⟩ := j5.cells gx
          rw [← hjk] at x0 x1 x2 x3 fx0 fx1 fx2 fx3
          have hwk : IntKind.i64.wrap ((j : Int) - 1) = (k : Int) := by rw [IntKind.wrap_i64]; omega
          have hj0 : (0 : Int) < j := by omega
          have hj00 : 0 < j := by omega
          have hjd : decide ((0 : Int) < (j : Int)) = true := decide_eq_true hj0
          have hjn : (j : Int) < n := by omega
          have hkI : (k : Int) < n := by omega
          have HJ : Hid (P'.length + Q.length + 1 = i ∧ SortT (P' ++ [y] ++ Q) ∧ (∀ q ∈ Q, zlt x.lo q.lo = true) ∧ OwnT wr (.slice (some ⟨g, 0, none⟩) n cap) (P' ++ [y] ++ x :: Q ++ R) ∧ (P' ++ [y] ++ x :: Q ++ R).Perm xs ∧ P'.length = k ∧ k + 1 < (P' ++ [y] ++ x :: Q ++ R).length) := ⟨by omega, j3, j4, j5, j6, hk, by omega⟩
          have hsl := tcmp_lt x.lo y.lo
          have hcmp := mtCmp_w x y wr.drew
          obtain ⟨sc, hsc⟩ : ∃ sc, tcmp x.lo y.lo = sc := ⟨_, rfl⟩
          rw [hsc] at hsl hcmp
          have HSL : Hid (decide (sc < 0) = zlt x.lo y.lo) := hsl
          clear j1 j2 j3 j4 j5 j6 hJ gy gx hlen hsl hsc hk hjk
          by_cases hs : sc < 0
          · go_wp2_with fail
            go_region_held3 (fun w' => Moves [] wr w' ∧ w'.cell? ⟨g, k * 4, none⟩ = some (.string y.lo) ∧ w'.cell? ⟨g, k * 4 + 1, none⟩ = some (.string y.hi) ∧ w'.cell? ⟨g, k * 4 + 2, none⟩ = some (.int .i64 y.g) ∧ w'.cell? ⟨g, k * 4 + 3, none⟩ = some (.int .i64 y.n) ∧ w'.cell? ⟨g, j * 4, none⟩ = some (.string x.lo) ∧ w'.cell? ⟨g, j * 4 + 1, none⟩ = some (.string x.hi) ∧ w'.cell? ⟨g, j * 4 + 2, none⟩ = some (.int .i64 x.g) ∧ w'.cell? ⟨g, j * 4 + 3, none⟩ = some (.int .i64 x.n)) (first | (go_keep; done) | exact ⟨(Moves.refl _ _).drew, y0, y1, y2, y3, x0, x1, x2, x3⟩ | exact ⟨(Moves.refl _ _).drew.then m2, m2.cell y0, m2.cell y1, m2.cell y2, m2.cell y3, m2.cell x0, m2.cell x1, m2.cell x2, m2.cell x3⟩) ((go_at_call 152; refine hcmp.mono ?_; rintro _ w2 ⟨rfl, m2⟩))
            have hO3 : Hid (OwnT w2.drew (.slice (some ⟨g, 0, none⟩) n cap) (P' ++ [y] ++ x :: Q ++ R)) := HJ.out.2.2.2.1.moves (((Moves.refl [] wr).drew.then m2).drew) (by simp)
            clear y0 y1 y2 y3 x0 x1 x2 x3 fy0 fy1 fy2 fy3 fx0 fx1 fx2 fx3
            obtain ⟨j1, j2, j3, j4, j5, j6, j7⟩ := HJ.out
            have gy : (P' ++ [y] ++ x :: Q ++ R)[k]? = some y := by
              rw [List.append_assoc, List.append_assoc, List.getElem?_append_right (by omega), j6, Nat.sub_self]; rfl
            have gx : (P' ++ [y] ++ x :: Q ++ R)[j]? = some x := by
              rw [HJK.out, List.append_assoc, List.append_assoc, List.getElem?_append_right (by omega), j6, Nat.add_sub_cancel_left]; rfl
            obtain ⟨⟨y0, y1, y2, y3⟩, fy0, fy1, fy2, fy3⟩ := hO3.out.cells gy
            obtain ⟨⟨x0, x1, x2, x3⟩, fx0, fx1, fx2, fx3⟩ := hO3.out.cells gx
            have MM : Moves [g] w w2.drew := (mj.then ((Moves.refl [] wr).drew.then m2 |>.mono (by simp))).drew
            clear j1 j2 j3 j4 j5 j6 j7
            have hkj : ¬ k = j := by have := HJK.out; omega
            have hjk2 : ¬ j = k := by omega
            have hkj4 : ¬ k * 4 = j * 4 := by omega
            have hjk4 : ¬ j * 4 = k * 4 := by omega
            have hy0 : w2.frozen? ⟨g, k * 4, none⟩ = false := fy0
            have ey0 : w2.cell? ⟨g, k * 4, none⟩ = some (.string y.lo) := y0
            have hy1 : w2.frozen? ⟨g, k * 4 + 1, none⟩ = false := fy1
            have ey1 : w2.cell? ⟨g, k * 4 + 1, none⟩ = some (.string y.hi) := y1
            have hy2 : w2.frozen? ⟨g, k * 4 + 2, none⟩ = false := fy2
            have ey2 : w2.cell? ⟨g, k * 4 + 2, none⟩ = some (.int .i64 y.g) := y2
            have hy3 : w2.frozen? ⟨g, k * 4 + 3, none⟩ = false := fy3
            have ey3 : w2.cell? ⟨g, k * 4 + 3, none⟩ = some (.int .i64 y.n) := y3
            have hx0 : w2.frozen? ⟨g, j * 4, none⟩ = false := fx0
            have ex0 : w2.cell? ⟨g, j * 4, none⟩ = some (.string x.lo) := x0
            have hx1 : w2.frozen? ⟨g, j * 4 + 1, none⟩ = false := fx1
            have ex1 : w2.cell? ⟨g, j * 4 + 1, none⟩ = some (.string x.hi) := x1
            have hx2 : w2.frozen? ⟨g, j * 4 + 2, none⟩ = false := fx2
            have ex2 : w2.cell? ⟨g, j * 4 + 2, none⟩ = some (.int .i64 x.g) := x2
            have hx3 : w2.frozen? ⟨g, j * 4 + 3, none⟩ = false := fx3
            have ex3 : w2.cell? ⟨g, j * 4 + 3, none⟩ = some (.int .i64 x.n) := x3
            have key : Hid (OwnT (World.set4 (World.set4 w2 g j y) g k x).drew (.slice (some ⟨g, 0, none⟩) n cap) (P' ++ x :: (y :: Q) ++ R) ∧ Moves [g] w (World.set4 (World.set4 w2 g j y) g k x).drew) := by
              have hO2 : OwnT w2 (.slice (some ⟨g, 0, none⟩) n cap) (P' ++ [y] ++ x :: Q ++ R) := HJ.out.2.2.2.1.moves ((Moves.refl [] wr).drew.then m2) (by simp)
              have hk6 := HJ.out.2.2.2.2.2
              obtain ⟨o1, n1⟩ := hO2.set (i := j) (by rw [HJK.out]; exact hk6.2) y
              obtain ⟨o2, n2⟩ := o1.set (i := k) (by rw [List.length_set]; omega) x
              have e : ((P' ++ [y] ++ x :: Q ++ R).set j y).set k x = P' ++ x :: (y :: Q) ++ R := by
                rw [HJK.out, ← hk6.1]; exact swap_list
              rw [e] at o2
              have M2 : Moves [g] w w2 := mj.then (((Moves.refl [] wr).drew.then m2).mono (by simp))
              exact ⟨o2.moves ((Moves.refl [] _).drew) (by simp), ((M2.then n1).then n2).drew⟩
            clear y0 y1 y2 y3 x0 x1 x2 x3 fy0 fy1 fy2 fy3 fx0 fx1 fx2 fx3
            obtain ⟨⟨y0, y1, y2, y3⟩, fy0, fy1, fy2, fy3⟩ := hO3.out.cells gy
            obtain ⟨⟨x0, x1, x2, x3⟩, fx0, fx1, fx2, fx3⟩ := hO3.out.cells gx
            clear gx gy
            go_wp2_with fail
            go_region
            clear hx0 hx1 hx2 hx3 hy0 hy1 hy2 hy3 ex0 ex1 ex2 ex3 ey0 ey1 ey2 ey3 y0 y1 y2 y3 x0 x1 x2 x3 fy0 fy1 fy2 fy3 fx0 fx1 fx2 fx3
            go_wp2_with fail
            go_roundw
            case rel =>
              obtain ⟨j1, j2, j3, j4, j5, j6, j7⟩ := HJ.out
              refine ⟨k, P', y :: Q, R, x, by have := HJK.out; omega, rfl, ⟨j6, by simp; omega, by simpa using j2, ?_, key.out.1, ?_⟩, key.out.2⟩
              · intro q hq
                rcases List.mem_cons.1 hq with rfl | hq
                · rw [← HSL.out]; exact decide_eq_true hs
                · exact j3 q hq
              · refine List.Perm.trans ?_ j5
                refine List.Perm.append_right R ?_
                rw [List.append_assoc]
                exact List.Perm.append_left P' (List.Perm.swap y x Q)
            case measure => simp [intOf]; have := HJK.out; omega
          · have hs2 : Hid (zlt x.lo y.lo = false) := by unfold Hid; rw [← HSL.out]; exact decide_eq_false hs
            go_wp2_with fail
            go_region_held3 (fun w' => Moves [] wr w' ∧ w'.cell? ⟨g, k * 4, none⟩ = some (.string y.lo) ∧ w'.cell? ⟨g, k * 4 + 1, none⟩ = some (.string y.hi) ∧ w'.cell? ⟨g, k * 4 + 2, none⟩ = some (.int .i64 y.g) ∧ w'.cell? ⟨g, k * 4 + 3, none⟩ = some (.int .i64 y.n) ∧ w'.cell? ⟨g, j * 4, none⟩ = some (.string x.lo) ∧ w'.cell? ⟨g, j * 4 + 1, none⟩ = some (.string x.hi) ∧ w'.cell? ⟨g, j * 4 + 2, none⟩ = some (.int .i64 x.g) ∧ w'.cell? ⟨g, j * 4 + 3, none⟩ = some (.int .i64 x.n)) (first | (go_keep; done) | exact ⟨(Moves.refl _ _).drew, y0, y1, y2, y3, x0, x1, x2, x3⟩ | exact ⟨(Moves.refl _ _).drew.then m2, m2.cell y0, m2.cell y1, m2.cell y2, m2.cell y3, m2.cell x0, m2.cell x1, m2.cell x2, m2.cell x3⟩) ((go_at_call 152; refine hcmp.mono ?_; rintro _ w2 ⟨rfl, m2⟩))
            have hO2 : Hid (OwnT w2 (.slice (some ⟨g, 0, none⟩) n cap) (P' ++ [y] ++ x :: Q ++ R)) := HJ.out.2.2.2.1.moves ((Moves.refl [] wr).drew.then m2) (by simp)
            have M2 : Moves [g] w w2 := mj.then (((Moves.refl [] wr).drew.then m2).mono (by simp))
            clear y0 y1 y2 y3 x0 x1 x2 x3 fy0 fy1 fy2 fy3 fx0 fx1 fx2 fx3
            go_wp2_with fail
            go_roundw
            case rel =>
              obtain ⟨j1, j2, j3, j4, j5, j6, j7⟩ := HJ.out
              refine ⟨i + 1, _, by omega, by omega, by go_num, ⟨hO2.out, j5, ?_⟩, M2⟩
              have e : (P' ++ [y] ++ x :: Q ++ R).take (i + 1) = (P' ++ [y]) ++ x :: Q := by
                have : (P' ++ [y] ++ x :: Q).length = i + 1 := by simp; omega
                rw [List.take_append_of_le_length (by omega), List.take_of_length_le (by omega)]
              rw [e]
              exact sort_put j2 j3 (.inr ⟨P', y, rfl, hs2.out⟩)
            case measure => simp [intOf]; omega
    · have hk3 : ¬ (i : Int) < n := by omega
      obtain ⟨q1, q2, q3⟩ := hI.out
      have e : ys.take i = ys := List.take_of_length_le (by have := q2.length_eq; have := HN.out; omega)
      rw [e] at q3
      have HQ : Hid (OwnT wr (.slice (some ⟨g, 0, none⟩) n cap) ys ∧ ys.Perm xs ∧ SortT ys ∧ Moves [g] w wr) := ⟨q1, q2, q3, mr⟩
      clear q1 q2 q3 e hI
      go_wp2_with fail
      go_end0
      exact ⟨⟨_, rfl⟩, ys, HQ.out.1, HQ.out.2.1, HQ.out.2.2.1, HQ.out.2.2.2⟩
end Go.Proofs.YtilbbnmhnacnlaaGreat
/-
  Package meta: the library's stable sort, inARow, meetsOne, with, Put.
-/
namespace Go.Proofs.YtilbbnmhnacnlaaGreat
open Go.RowKit

set_option maxRecDepth 100000 in
set_option maxHeartbeats 1000000 in
theorem mtIns0_w (w : World) (v : Value) (n : Nat) (hl : n ≤ 1000) (f : Value) : Calls Tryz.prog 206 #[v, .int .i64 (n : Int), .int .i64 (n : Int), f] w fun e w' => (∃ v, e = .returned v) ∧ w = w' := by
  go_enter Tryz.func206, Tryz.ntmps206
  go_wp2_with fail
  go_loopw [8] (fun vi wr => vi = .int .i64 ((n + 1 : Nat) : Int) ∧ w = wr) (fun _ _ => 0)
  case atStart => exact ⟨by go_num, rfl⟩
  case round =>
    obtain ⟨rfl, rfl⟩ := hrel
    have hk3 : ¬ ((n + 1 : Nat) : Int) < n := by omega
    go_wp2_with fail
    go_end0
    exact ⟨⟨_, rfl⟩, rfl⟩

set_option maxRecDepth 100000 in
set_option maxHeartbeats 4000000 in
theorem mtStable_w (w : World) (g n cap : Nat) (xs : List Ptb) (hO : OwnT w (.slice (some ⟨g, 0, none⟩) n cap) xs) (hn : n = xs.length) (hl : n ≤ 20) :
    Calls Tryz.prog 188 #[.slice (some ⟨g, 0, none⟩) n cap, .int .i64 (n : Int), .func (.func 152) #[] #[]] w fun e w' => (∃ v, e = .returned v) ∧ ∃ ys, OwnT w' (.slice (some ⟨g, 0, none⟩) n cap) ys ∧ ys.Perm xs ∧ SortT ys ∧ Moves [g] w w' := by
  have hins := mtIns_w w g n cap xs hO hn (by omega)
  have H20 : ¬ (20 : Int) < n := by omega
  by_cases h20 : n = 20
  · subst h20
    clear hO hn
    go_enter Tryz.func188, Tryz.ntmps188
    go_wp2_with fail
    go_loopw [7, 8] (fun va vb wr => (va = .int .i64 0 ∧ vb = .int .i64 20 ∧ w = wr) ∨ (va = .int .i64 20 ∧ vb = .int .i64 40 ∧ Hid (∃ ys, OwnT wr (.slice (some ⟨g, 0, none⟩) 20 cap) ys ∧ ys.Perm xs ∧ SortT ys ∧ Moves [g] w wr))) (fun va _ _ => 20 - (intOf va).toNat)
    case atStart => exact .inl ⟨rfl, rfl, rfl⟩
    case round =>
      rcases hrel with ⟨rfl, rfl, rfl⟩ | ⟨rfl, rfl, hF⟩
      · go_wp2_with fail
        refine hins.mono ?_
        rintro _ w2 ⟨⟨v, rfl⟩, hF⟩
        have HF : Hid (∃ ys, OwnT w2 (.slice (some ⟨g, 0, none⟩) 20 cap) ys ∧ ys.Perm xs ∧ SortT ys ∧ Moves [g] w w2) := hF
        clear hF
        go_wp2_with fail
        go_roundw
        case rel => exact .inr ⟨rfl, rfl, HF.out⟩
        case measure => simp [intOf]
      · go_wp2_with fail
        refine (mtIns0_w wr _ 20 (by omega) _).mono ?_
        rintro _ _ ⟨⟨v, rfl⟩, rfl⟩
        go_wp2_with fail
        go_loopw [6] (fun vb w3 => vb = .int .i64 20 ∧ wr = w3) (fun _ _ => 0)
        case atStart => exact ⟨rfl, rfl⟩
        case round =>
          obtain ⟨rfl, rfl⟩ := hrel
          go_wp2_with fail
          go_end0
          exact ⟨⟨_, rfl⟩, hF.out⟩
  · have hlt : ¬ (20 : Int) ≤ n := by omega
    clear hO hn
    go_enter Tryz.func188, Tryz.ntmps188
    go_wp2_with fail
    go_loopw [7, 8] (fun va vb wr => va = .int .i64 0 ∧ vb = .int .i64 20 ∧ w = wr) (fun _ _ _ => 0)
    case atStart => exact ⟨rfl, rfl, rfl⟩
    case round =>
      obtain ⟨rfl, rfl, rfl⟩ := hrel
      go_wp2_with fail
      refine hins.mono ?_
      rintro _ w2 ⟨⟨v, rfl⟩, hF⟩
      have HF : Hid (∃ ys, OwnT w2 (.slice (some ⟨g, 0, none⟩) n cap) ys ∧ ys.Perm xs ∧ SortT ys ∧ Moves [g] w w2) := hF
      clear hF
      go_wp2_with fail
      go_loopw [6] (fun vb wr => vb = .int .i64 20 ∧ w2 = wr) (fun _ _ => 0)
      case atStart => exact ⟨rfl, rfl⟩
      case round =>
        obtain ⟨rfl, rfl⟩ := hrel
        go_wp2_with fail
        go_end0
        exact ⟨⟨_, rfl⟩, HF.out⟩

set_option maxRecDepth 100000 in
theorem mtSort_w (w : World) (g n cap : Nat) (xs : List Ptb) (hO : OwnT w (.slice (some ⟨g, 0, none⟩) n cap) xs) (hn : n = xs.length) (hl : n ≤ 20) :
    Calls Tryz.prog 151 #[.slice (some ⟨g, 0, none⟩) n cap, .func (.func 152) #[] #[]] w fun e w' => (∃ v, e = .returned v) ∧ ∃ ys, OwnT w' (.slice (some ⟨g, 0, none⟩) n cap) ys ∧ ys.Perm xs ∧ SortT ys ∧ Moves [g] w w' := by
  have hst := mtStable_w w g n cap xs hO hn hl
  clear hO hn
  go_enter Tryz.func151, Tryz.ntmps151
  go_wp2_with fail
  refine hst.mono ?_
  rintro _ w2 ⟨⟨v, rfl⟩, hF⟩
  have HF : Hid (∃ ys, OwnT w2 (.slice (some ⟨g, 0, none⟩) n cap) ys ∧ ys.Perm xs ∧ SortT ys ∧ Moves [g] w w2) := hF
  clear hF
  go_wp2_with fail
  go_end0
  exact ⟨⟨_, rfl⟩, HF.out⟩

def tbMeet (ys : List Ptb) (x : Ptb) : Bool := ys.any (fun y => spM x.sp y.sp)
set_option maxRecDepth 100000 in
set_option maxHeartbeats 1000000 in
theorem mtMeet1_w (x y : Ptb) (q : Nat) (w : World) (hq : w.heap[q]? = some (.cells #[.string x.lo, .string x.hi, .int .i64 x.g, .int .i64 x.n] 54 (0, 0))) : Calls Tryz.prog 186 #[.agg #[.string y.lo, .string y.hi, .int .i64 y.g, .int .i64 y.n], .pointer (some ⟨q, 0, none⟩)] w fun e w' => e = .returned (.bool (spM x.sp y.sp)) ∧ Moves [] w w' := by
  have mA : Moves [] w (w.alloc (.cells #[.string y.lo, .string y.hi, .int .i64 y.g, .int .i64 y.n] 54)) := (Moves.refl _ _).alloc _
  obtain ⟨a0, a1, a2, a3, _⟩ := four_cells (mA.at hq (by simp))
  clear hq
  go_enter Tryz.func186, Tryz.ntmps186
  go_wp2_with fail
  refine (spMeet_w _ _ _ _ _).mono ?_
  rintro _ w2 ⟨rfl, m2⟩
  go_wp2_with fail
  go_ret
  exact ⟨rfl, mA.then m2⟩
set_option maxRecDepth 100000 in
set_option maxHeartbeats 1000000 in
theorem mtMeets_w (w : World) (g : Nat) (v : Value) (ys : List Ptb) (h : TbL w g v ys) (hl : ys.length ≤ 1000) (x : Ptb) : Calls Tryz.prog 150 #[.agg #[.string x.lo, .string x.hi, .int .i64 x.g, .int .i64 x.n], v] w fun e w' => e = .returned (.bool (tbMeet ys x)) ∧ Moves [] w w' := by
  obtain ⟨ad, n, cap, rfl, hn, hc, HL⟩ := h.open
  have mA : Moves [] w (w.alloc (.cells #[.string x.lo, .string x.hi, .int .i64 x.g, .int .i64 x.n] 54)) := (Moves.refl _ _).alloc _
  have hA := heap_alloc_new w (.cells #[.string x.lo, .string x.hi, .int .i64 x.g, .int .i64 x.n] 54)
  have hcf : ∀ (args : Array Value) (w : World), (callFunc 186 args).run Tryz.prog w = .ok (.enter 186 args) w := fun _ _ => rfl
  have hct := mtContains1_w _ _ g ad n cap ys (HL.out.moves mA (by simp)) (Moves.refl _ _) hl 186 (.pointer (some ⟨w.heap.size, 0, none⟩)) (fun y => spM x.sp y.sp) hcf (fun y w1 m => mtMeet1_w x y w.heap.size w1 (m.at hA (by simp)))
  clear h hcf
  go_enter Tryz.func150, Tryz.ntmps150
  go_wp2_with fail
  refine hct.mono ?_
  rintro _ w2 ⟨rfl, m2⟩
  go_wp2_with fail
  go_ret
  exact ⟨rfl, mA.then m2⟩
end Go.Proofs.YtilbbnmhnacnlaaGreat
