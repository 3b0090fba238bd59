/-
  Split and Join of tables.
-/
import Derived.Test.YtcngllcifcpbkaaGreatCTab4
import Derived.Test.YtcngllcifcpbkaaGreatCBaseH
import Derived.Test.YtcngllcifcpbkaaGreatCSlF
import Derived.Deep.RegionHeld3
namespace Go.Proofs.YtcngllcifcpbkaaGreat
open Go.RowKit

theorem TabIs.elder {W W' w : World} {p : Nat} {a : Option Nat} {xs : List Pnam} (h : TabIs W' w p a xs) (hle : W.heap.size ≤ W'.heap.size) : TabIs W w p a xs := by
  obtain ⟨v, h1, h2, h3⟩ := h
  exact ⟨v, h1, h2, h3.elder hle⟩
theorem pown_one {W W' w : World} {v : Value} {xs : List Pnam} (h : GrowN W' w v (pownL [xs])) (hle : W.heap.size ≤ W'.heap.size) : GrowN W w v (pownX xs) := by
  have e : pownL [xs] = pownX xs := by unfold pownL pownX; simp
  rw [e] at h
  exact h.elder hle

set_option maxRecDepth 100000 in
set_option maxHeartbeats 4000000 in
theorem tsplit_w (W w : World) (p : Nat) (a : Option Nat) (xs : List Pnam) (s : ByteArray) (i : Nat) (h : TabIs W w p a xs) (hr : RiseN xs) (hl : xs.length ≤ 1000) (hi : PlaceIs xs s i) :
    Calls Tryz.prog 7 #[.pointer (some ⟨p, 0, none⟩), .string s] w fun e w' => ∃ q1 q2, e = .returned (.tuple #[.pointer (some ⟨q1, 0, none⟩), .pointer (some ⟨q2, 0, none⟩)]) ∧ (∃ b1, TabIs w w' q1 b1 (pownX (xs.take i))) ∧ (∃ b2, TabIs w w' q2 b2 (pownX (xs.drop i))) ∧ w.heap.size ≤ q1 ∧ w.heap.size ≤ q2 ∧ Moves [] w w' := by
  have hpl := tplace_at W w p a xs s i h hr (by omega) hi
  obtain ⟨v, hp, rfl, hG⟩ := h
  obtain ⟨ad, n, cap, rfl, hn, hc⟩ := hG.open
  have hin : i ≤ n := by have := hi.le; have := hn.out; omega
  have HN1 : Hid (NamsAt w (.slice ad i cap) (xs.take i)) := hG.at.take i hi.le
  have HN2 : Hid (NamsAt w (.slice (if cap = i then ad else ad.map (·.add (i * 2))) (n - i) (cap - i)) (xs.drop i)) := hG.at.drop i hi.le
  have HL1 : Hid ([xs.take i].flatten.length ≤ 1000) := by show _ ≤ _; simp; omega
  have HL2 : Hid ([xs.drop i].flatten.length ≤ 1000) := by show _ ≤ _; simp; omega
  obtain ⟨x0, _⟩ := one_cell hp
  have hiI : (i : Int) ≤ n := by omega
  have hic : (i : Int) ≤ cap := by omega
  clear hG hl hr hi hn hp
  go_enter Tryz.func7, Tryz.ntmps7
  go_wp2_with (go_at_call 26; refine hpl.mono ?_; rintro _ w1 ⟨rfl, m1⟩; have x1 := m1.cell x0; replace HN1 : Hid (NamsAt w1 (.slice ad i cap) (xs.take i)) := HN1.out.moves m1; replace HN2 : Hid (NamsAt w1 (.slice (if cap = i then ad else ad.map (·.add (i * 2))) (n - i) (cap - i)) (xs.drop i)) := HN2.out.moves m1; clear hpl x0)
  refine region_ssaQ (by kernel_rfl) (fun ix => if ix = 20 then 4 else if ix = 21 then 5 else ix + 14) [4, 5, 14, 15, 16, 17, 18, 19, 20, 21, 22, 23, 24, 25, 26, 27, 28, 29, 30, 31, 32, 33] (fun ix (w : World) (v : Value) => match ix with | 0 => v = .pointer (some ⟨p, 0, none⟩) | 1 => v = .pointer (some ⟨p, 0, none⟩) | 2 => v = .pointer (some ⟨p, 0, none⟩) | 3 => v = .slice ad n cap | 4 => v = .int .i64 i | 5 => v = .slice ad i cap | 6 => ∃ q, v = .slice (some ⟨q, 0, none⟩) 1 1 ∧ w.heap[q]? = some (.cells #[.slice ad i cap] 24 (0, 0)) ∧ w1.heap.size ≤ q | 7 => ∃ ad n cap, v = .slice ad n cap ∧ GrowN w1 w (.slice ad n cap) (pownX (xs.take i)) | 8 => ∃ ad n cap, v = .agg #[.slice ad n cap] ∧ GrowN w1 w (.slice ad n cap) (pownX (xs.take i)) | 9 => ∃ q b, v = .pointer (some ⟨q, 0, none⟩) ∧ TabIs w1 w q b (pownX (xs.take i)) ∧ w1.heap.size ≤ q | 10 => v = .pointer (some ⟨p, 0, none⟩) | 11 => v = .pointer (some ⟨p, 0, none⟩) | 12 => v = .pointer (some ⟨p, 0, none⟩) | 13 => v = .slice ad n cap | 14 => v = .int .i64 i | 15 => v = .slice (if cap = i then ad else ad.map (·.add (i * 2))) (n - i) (cap - i) | 16 => ∃ q, v = .slice (some ⟨q, 0, none⟩) 1 1 ∧ w.heap[q]? = some (.cells #[.slice (if cap = i then ad else ad.map (·.add (i * 2))) (n - i) (cap - i)] 24 (0, 0)) ∧ w1.heap.size ≤ q | 17 => ∃ ad n cap, v = .slice ad n cap ∧ GrowN w1 w (.slice ad n cap) (pownX (xs.drop i)) | 18 => ∃ ad n cap, v = .agg #[.slice ad n cap] ∧ GrowN w1 w (.slice ad n cap) (pownX (xs.drop i)) | 19 => ∃ q b, v = .pointer (some ⟨q, 0, none⟩) ∧ TabIs w1 w q b (pownX (xs.drop i)) ∧ w1.heap.size ≤ q | 20 => ∃ q b, v = .pointer (some ⟨q, 0, none⟩) ∧ TabIs w1 w q b (pownX (xs.take i)) ∧ w1.heap.size ≤ q | 21 => ∃ q b, v = .pointer (some ⟨q, 0, none⟩) ∧ TabIs w1 w q b (pownX (xs.drop i)) ∧ w1.heap.size ≤ q | _ => True) (Moves []) (by kernel_rfl) ?_ ?_ ?_ ((Moves.refl _ _).drew) (fun _ _ _ => Moves.then) (fun ix u u' v h m => ?_) ?_ ?_
  · intro ix hix
    have hix : ix < 22 := hix
    show _ < 34
    try dsimp only
    repeat (first | omega | split)
  · intro ix jx hix hjx hne
    have hix : ix < 22 := hix
    have hjx : jx < 22 := hjx
    try dsimp only
    repeat (first | omega | split)
  · intro ix hix
    have hix : ix < 22 := hix
    match ix, hix with
    | 0, _ => decide
    | 1, _ => decide
    | 2, _ => decide
    | 3, _ => decide
    | 4, _ => decide
    | 5, _ => decide
    | 6, _ => decide
    | 7, _ => decide
    | 8, _ => decide
    | 9, _ => decide
    | 10, _ => decide
    | 11, _ => decide
    | 12, _ => decide
    | 13, _ => decide
    | 14, _ => decide
    | 15, _ => decide
    | 16, _ => decide
    | 17, _ => decide
    | 18, _ => decide
    | 19, _ => decide
    | 20, _ => decide
    | 21, _ => decide
    | m + 22, h => exact absurd h (by omega)
  · match ix with
    | 0 => exact h
    | 1 => exact h
    | 2 => exact h
    | 3 => exact h
    | 4 => exact h
    | 5 => exact h
    | 6 => exact (by obtain ⟨q, e, hq, hle⟩ := h; exact ⟨q, e, m.at hq (by simp), hle⟩)
    | 7 => exact (by obtain ⟨ad, n, cap, e, hG⟩ := h; exact ⟨ad, n, cap, e, hG.moves0 m⟩)
    | 8 => exact (by obtain ⟨ad, n, cap, e, hG⟩ := h; exact ⟨ad, n, cap, e, hG.moves0 m⟩)
    | 9 => exact (by obtain ⟨q, b, e, hT, hle⟩ := h; exact ⟨q, b, e, hT.moves0 m, hle⟩)
    | 10 => exact h
    | 11 => exact h
    | 12 => exact h
    | 13 => exact h
    | 14 => exact h
    | 15 => exact h
    | 16 => exact (by obtain ⟨q, e, hq, hle⟩ := h; exact ⟨q, e, m.at hq (by simp), hle⟩)
    | 17 => exact (by obtain ⟨ad, n, cap, e, hG⟩ := h; exact ⟨ad, n, cap, e, hG.moves0 m⟩)
    | 18 => exact (by obtain ⟨ad, n, cap, e, hG⟩ := h; exact ⟨ad, n, cap, e, hG.moves0 m⟩)
    | 19 => exact (by obtain ⟨q, b, e, hT, hle⟩ := h; exact ⟨q, b, e, hT.moves0 m, hle⟩)
    | 20 => exact (by obtain ⟨q, b, e, hT, hle⟩ := h; exact ⟨q, b, e, hT.moves0 m, hle⟩)
    | 21 => exact (by obtain ⟨q, b, e, hT, hle⟩ := h; exact ⟨q, b, e, hT.moves0 m, hle⟩)
    | m + 22 => trivial
  · intro ix hix a u hR hsz hold hF K hK
    have hix : ix < 22 := hix
    have c_x1 := (hR).cell x1
    match ix, hix with
    | 0, _ =>
      have e0 : a.tmps.getD 0 undef = .pointer (some ⟨p, 0, none⟩) := hold 0 (by intro kk hkk; have hkk : kk < 22 := hkk; (try dsimp only); (repeat (first | omega | split)))
      refine wpOp_val (v := .pointer (some ⟨p, 0, none⟩)) rfl rfl ?_ (hK _ _ rfl (Moves.refl _ _))
      go_simp
      try rfl
    | 1, _ =>
      have e14 : a.tmps.getD 14 undef = .pointer (some ⟨p, 0, none⟩) := hF 0 (by decide) (by kernel_rfl)
      refine wpOp_val (v := .pointer (some ⟨p, 0, none⟩)) rfl rfl ?_ (hK _ _ rfl (Moves.refl _ _))
      go_simp
      try rfl
    | 2, _ =>
      have e15 : a.tmps.getD 15 undef = .pointer (some ⟨p, 0, none⟩) := hF 1 (by decide) (by kernel_rfl)
      refine wpOp_val (v := .pointer (some ⟨p, 0, none⟩)) rfl rfl ?_ (hK _ _ rfl (Moves.refl _ _))
      go_simp
      try rfl
    | 3, _ =>
      have e16 : a.tmps.getD 16 undef = .pointer (some ⟨p, 0, none⟩) := hF 2 (by decide) (by kernel_rfl)
      refine wpOp_val (v := .slice ad n cap) rfl rfl ?_ (hK _ _ rfl (Moves.refl _ _))
      go_simp
      try rfl
    | 4, _ =>
      have e6 : a.tmps.getD 6 undef = .int .i64 i := hold 6 (by intro kk hkk; have hkk : kk < 22 := hkk; (try dsimp only); (repeat (first | omega | split)))
      refine wpOp_val (v := .int .i64 i) rfl rfl ?_ (hK _ _ rfl (Moves.refl _ _))
      go_simp
      try rfl
    | 5, _ =>
      have e17 : a.tmps.getD 17 undef = .slice ad n cap := hF 3 (by decide) (by kernel_rfl)
      have e18 : a.tmps.getD 18 undef = .int .i64 i := hF 4 (by decide) (by kernel_rfl)
      refine wpOp_val (v := .slice ad i cap) rfl rfl ?_ (hK _ _ rfl (Moves.refl _ _))
      go_simp
      try rfl
    | 6, _ =>
      have e19 : a.tmps.getD 19 undef = .slice ad i cap := hF 5 (by decide) (by kernel_rfl)
      exact wpOp_of_wp rfl rfl (wp_buildSlice' 120 24 1 _ rfl [(0, .slice ad i cap)] #[.slice ad i cap] (.slice none 0 0) 1 24 nams_info Tryz.underlying120 (by omega) (by omega) (by simpa [Act.eval] using e19) (by kernel_rfl) (hK _ _ ⟨u.heap.size, rfl, heap_alloc_new _ _, hR.size⟩ ((Moves.refl _ _).alloc _)))
    | 7, _ =>
      have f20 := hF 6 (by decide) (by kernel_rfl)
      obtain ⟨q, hv, hq, hle⟩ := f20
      have e20 : a.tmps.getD 20 undef = .slice (some ⟨q, 0, none⟩) 1 1 := hv
      clear hv
      refine wpOp_of_wp rfl rfl ?_
      go_simp
      go_at_call 27
      refine (own_w u u q _ [xs.take i] hq ⟨HN1.out.moves hR, trivial⟩ (Moves.refl _ _) HL1.out 1 rfl (by omega)).mono ?_
      rintro _ u2 ⟨ad2, n2, cap2, rfl, hG, m2⟩
      exact hK _ _ ⟨ad2, n2, cap2, rfl, pown_one hG hR.size⟩ m2
    | 8, _ =>
      have f21 := hF 7 (by decide) (by kernel_rfl)
      obtain ⟨ad2, n2, cap2, hv, hG⟩ := f21
      have e21 : a.tmps.getD 21 undef = .slice ad2 n2 cap2 := hv
      exact wpOp_of_wp rfl rfl (wp_build' 66 _ rfl [(0, .slice ad2 n2 cap2)] #[.slice ad2 n2 cap2] (by simpa [Act.eval] using e21) (by kernel_rfl) (hK _ _ ⟨ad2, n2, cap2, rfl, hG⟩ (Moves.refl _ _)))
    | 9, _ =>
      have f22 := hF 8 (by decide) (by kernel_rfl)
      obtain ⟨ad2, n2, cap2, hv, hG⟩ := f22
      have e22 : a.tmps.getD 22 undef = .agg #[.slice ad2 n2 cap2] := hv
      exact wpOp_of_wp rfl rfl (wp_box1 _ 22 rfl _ e22 (hK _ _ ⟨u.heap.size, _, rfl, ⟨_, heap_alloc_new _ _, rfl, hG.moves0 ((Moves.refl _ _).alloc _)⟩, hR.size⟩ ((Moves.refl _ _).alloc _)))
    | 10, _ =>
      have e0 : a.tmps.getD 0 undef = .pointer (some ⟨p, 0, none⟩) := hold 0 (by intro kk hkk; have hkk : kk < 22 := hkk; (try dsimp only); (repeat (first | omega | split)))
      refine wpOp_val (v := .pointer (some ⟨p, 0, none⟩)) rfl rfl ?_ (hK _ _ rfl (Moves.refl _ _))
      go_simp
      try rfl
    | 11, _ =>
      have e24 : a.tmps.getD 24 undef = .pointer (some ⟨p, 0, none⟩) := hF 10 (by decide) (by kernel_rfl)
      refine wpOp_val (v := .pointer (some ⟨p, 0, none⟩)) rfl rfl ?_ (hK _ _ rfl (Moves.refl _ _))
      go_simp
      try rfl
    | 12, _ =>
      have e25 : a.tmps.getD 25 undef = .pointer (some ⟨p, 0, none⟩) := hF 11 (by decide) (by kernel_rfl)
      refine wpOp_val (v := .pointer (some ⟨p, 0, none⟩)) rfl rfl ?_ (hK _ _ rfl (Moves.refl _ _))
      go_simp
      try rfl
    | 13, _ =>
      have e26 : a.tmps.getD 26 undef = .pointer (some ⟨p, 0, none⟩) := hF 12 (by decide) (by kernel_rfl)
      refine wpOp_val (v := .slice ad n cap) rfl rfl ?_ (hK _ _ rfl (Moves.refl _ _))
      go_simp
      try rfl
    | 14, _ =>
      have e6 : a.tmps.getD 6 undef = .int .i64 i := hold 6 (by intro kk hkk; have hkk : kk < 22 := hkk; (try dsimp only); (repeat (first | omega | split)))
      refine wpOp_val (v := .int .i64 i) rfl rfl ?_ (hK _ _ rfl (Moves.refl _ _))
      go_simp
      try rfl
    | 15, _ =>
      have e27 : a.tmps.getD 27 undef = .slice ad n cap := hF 13 (by decide) (by kernel_rfl)
      have e28 : a.tmps.getD 28 undef = .int .i64 i := hF 14 (by decide) (by kernel_rfl)
      exact wpOp_val (v := .slice (if cap = i then ad else ad.map (·.add (i * 2))) (n - i) (cap - i)) rfl rfl (slice_from 27 28 rfl e27 e28 hin hc) (hK _ _ rfl (Moves.refl _ _))
    | 16, _ =>
      have f29 := hF 15 (by decide) (by kernel_rfl)
      have e29 : a.tmps.getD 29 undef = .slice (if cap = i then ad else ad.map (·.add (i * 2))) (n - i) (cap - i) := f29
      exact wpOp_of_wp rfl rfl (wp_buildSlice' 120 24 1 _ rfl [(0, .slice (if cap = i then ad else ad.map (·.add (i * 2))) (n - i) (cap - i))] #[.slice (if cap = i then ad else ad.map (·.add (i * 2))) (n - i) (cap - i)] (.slice none 0 0) 1 24 nams_info Tryz.underlying120 (by omega) (by omega) (by simpa [Act.eval] using e29) (by kernel_rfl) (hK _ _ ⟨u.heap.size, rfl, heap_alloc_new _ _, hR.size⟩ ((Moves.refl _ _).alloc _)))
    | 17, _ =>
      have f30 := hF 16 (by decide) (by kernel_rfl)
      obtain ⟨q, hv, hq, hle⟩ := f30
      have e30 : a.tmps.getD 30 undef = .slice (some ⟨q, 0, none⟩) 1 1 := hv
      clear hv
      refine wpOp_of_wp rfl rfl ?_
      go_simp
      go_at_call 27
      refine (own_w u u q _ [xs.drop i] hq ⟨HN2.out.moves hR, trivial⟩ (Moves.refl _ _) HL2.out 1 rfl (by omega)).mono ?_
      rintro _ u2 ⟨ad2, n2, cap2, rfl, hG, m2⟩
      exact hK _ _ ⟨ad2, n2, cap2, rfl, pown_one hG hR.size⟩ m2
    | 18, _ =>
      have f31 := hF 17 (by decide) (by kernel_rfl)
      obtain ⟨ad2, n2, cap2, hv, hG⟩ := f31
      have e31 : a.tmps.getD 31 undef = .slice ad2 n2 cap2 := hv
      exact wpOp_of_wp rfl rfl (wp_build' 66 _ rfl [(0, .slice ad2 n2 cap2)] #[.slice ad2 n2 cap2] (by simpa [Act.eval] using e31) (by kernel_rfl) (hK _ _ ⟨ad2, n2, cap2, rfl, hG⟩ (Moves.refl _ _)))
    | 19, _ =>
      have f32 := hF 18 (by decide) (by kernel_rfl)
      obtain ⟨ad2, n2, cap2, hv, hG⟩ := f32
      have e32 : a.tmps.getD 32 undef = .agg #[.slice ad2 n2 cap2] := hv
      exact wpOp_of_wp rfl rfl (wp_box1 _ 32 rfl _ e32 (hK _ _ ⟨u.heap.size, _, rfl, ⟨_, heap_alloc_new _ _, rfl, hG.moves0 ((Moves.refl _ _).alloc _)⟩, hR.size⟩ ((Moves.refl _ _).alloc _)))
    | 20, _ =>
      have f23 := hF 9 (by decide) (by kernel_rfl)
      obtain ⟨q, b, hv, hT, hle⟩ := f23
      have e23 : a.tmps.getD 23 undef = .pointer (some ⟨q, 0, none⟩) := hv
      exact wpOp_of_wp rfl rfl (wp_assign1 23 rfl _ e23 (hK _ _ ⟨q, b, rfl, hT, hle⟩ (Moves.refl _ _)))
    | 21, _ =>
      have f33 := hF 19 (by decide) (by kernel_rfl)
      obtain ⟨q, b, hv, hT, hle⟩ := f33
      have e33 : a.tmps.getD 33 undef = .pointer (some ⟨q, 0, none⟩) := hv
      exact wpOp_of_wp rfl rfl (wp_assign1 33 rfl _ e33 (hK _ _ ⟨q, b, rfl, hT, hle⟩ (Moves.refl _ _)))
    | m + 22, h => exact absurd h (by omega)
  intro v u hall hR
  obtain ⟨q1, b1, e4, hT1, hq1⟩ := hall 20 (by decide)
  obtain ⟨q2, b2, e5, hT2, hq2⟩ := hall 21 (by decide)
  have e4 : v 4 = .pointer (some ⟨q1, 0, none⟩) := e4
  have e5 : v 5 = .pointer (some ⟨q2, 0, none⟩) := e5
  simp only [List.foldl_cons, List.foldl_nil, List.setIfInBounds_toArray, List.set_cons_zero, List.set_cons_succ, e4, e5]
  clear e4 e5 hall
  generalize v 14 = u14
  generalize v 15 = u15
  generalize v 16 = u16
  generalize v 17 = u17
  generalize v 18 = u18
  generalize v 19 = u19
  generalize v 20 = u20
  generalize v 21 = u21
  generalize v 22 = u22
  generalize v 23 = u23
  generalize v 24 = u24
  generalize v 25 = u25
  generalize v 26 = u26
  generalize v 27 = u27
  generalize v 28 = u28
  generalize v 29 = u29
  generalize v 30 = u30
  generalize v 31 = u31
  generalize v 32 = u32
  generalize v 33 = u33
  go_wp2_with fail
  go_ret2
  exact ⟨q1, q2, rfl, ⟨b1, hT1.elder m1.size⟩, ⟨b2, hT2.elder m1.size⟩, Nat.le_trans m1.size hq1, Nat.le_trans m1.size hq2, m1.then hR⟩
def pbelow (xs ys : List Pnam) : Bool := match xs.getLast?, ys.head? with
  | some x, some y => nlt x.name y.name
  | _, _ => true

set_option maxRecDepth 100000 in
set_option maxHeartbeats 4000000 in
theorem tbelow_1 (W W' w : World) (p q : Nat) (a b : Option Nat) (xs ys : List Pnam) (h : TabIs W w p a xs) (h' : TabIs W' w q b ys) (h0 : xs = []) :
    Calls Tryz.prog 33 #[.pointer (some ⟨p, 0, none⟩), .pointer (some ⟨q, 0, none⟩)] w fun e w' => e = .returned (.bool true) ∧ Moves [] w w' := by
  obtain ⟨v, hp, _, hG⟩ := h
  obtain ⟨v', hq, _, hG'⟩ := h'
  obtain ⟨ad, n, cap, rfl, hn, hc⟩ := hG.open
  obtain ⟨ad', n', cap', rfl, hn', hc'⟩ := hG'.open
  obtain ⟨x1, _⟩ := one_cell hp
  obtain ⟨y1, _⟩ := one_cell hq
  obtain rfl : n = 0 := by have := hn.out; rw [h0] at this; simpa using this
  clear hG hG' hn hn' hc hc' hp hq h0
  go_enter Tryz.func33, Tryz.ntmps33
  go_wp2_with fail
  refine wp_region_noPanic ?_
  refine wp_region_held_drew (S := (fun w' => w'.cell? ⟨p, 0, none⟩ = some (.slice ad 0 cap) ∧ w'.cell? ⟨q, 0, none⟩ = some (.slice ad' n' cap'))) (by kernel_rfl) ?_ (fun hHeld => ?_)
  · first | (go_keep; done) | exact ⟨x1, y1⟩
  refine wpT 0 ⟨some 11, .move (.tmp 5), 3, "rows.go:118", #[], none⟩ ?_
  try simp only [Act.put, List.setIfInBounds_toArray, List.set_cons_zero, List.set_cons_succ]
  refine wpT 1 ⟨some 12, .binOp .eql 3 (.tmp 11) (.const (.int .i64 0)) 3, 4, "rows.go:118", #[⟨0, .data⟩], none⟩ ?_
  try simp only [Act.put, List.setIfInBounds_toArray, List.set_cons_zero, List.set_cons_succ]
  refine wpT 2 ⟨some 13, .move (.tmp 12), 4, "rows.go:118", #[⟨1, .data⟩], none⟩ ?_
  try simp only [Act.put, List.setIfInBounds_toArray, List.set_cons_zero, List.set_cons_succ]
  refine wpAnyH_take (i := 3) (oi := ⟨some 14, .move (.tmp 1), 23, "rows.go:118", #[⟨2, .guard⟩], some (2, false)⟩) rfl (by kernel_rfl) (by kernel_rfl) (by kernel_rfl) (fun _ _ _ h => h) (Or.inr ⟨by rfl, rfl⟩) (by assumption) ?_
  try simp only [Act.put, List.setIfInBounds_toArray, List.set_cons_zero, List.set_cons_succ]
  refine wpAnyH_take (i := 4) (oi := ⟨some 15, .nilCheck (.tmp 14), 0, "rows.go:118", #[⟨3, .data⟩, ⟨2, .guard⟩], some (2, false)⟩) rfl (by kernel_rfl) (by kernel_rfl) (by kernel_rfl) (fun _ _ _ h => h) (Or.inr ⟨by rfl, rfl⟩) (by assumption) ?_
  try simp only [Act.put, List.setIfInBounds_toArray, List.set_cons_zero, List.set_cons_succ]
  refine wpAnyH_take (i := 5) (oi := ⟨some 16, .fieldAddr 66 (.tmp 15) 0, 0, "rows.go:118", #[⟨4, .data⟩, ⟨2, .guard⟩], some (2, false)⟩) rfl (by kernel_rfl) (by kernel_rfl) (by kernel_rfl) (fun _ _ _ h => h) (Or.inr ⟨by rfl, rfl⟩) (by assumption) ?_
  try simp only [Act.put, List.setIfInBounds_toArray, List.set_cons_zero, List.set_cons_succ]
  refine wpAnyH_take (i := 6) (oi := ⟨some 17, .load 24 (.tmp 16), 24, "rows.go:118", #[⟨5, .data⟩, ⟨2, .guard⟩], some (2, false)⟩) rfl (by kernel_rfl) (by kernel_rfl) (by kernel_rfl) (fun _ _ _ h => h) (Or.inr ⟨by rfl, rfl⟩) (by assumption) ?_
  try simp only [Act.put, List.setIfInBounds_toArray, List.set_cons_zero, List.set_cons_succ]
  refine wpAnyH_take (i := 7) (oi := ⟨some 18, .call ⟨.builtin .len, #[.tmp 17], #[24]⟩, 3, "rows.go:118", #[⟨6, .data⟩, ⟨2, .guard⟩], some (2, false)⟩) rfl (by kernel_rfl) (by kernel_rfl) (by kernel_rfl) (fun _ _ _ h => h) (Or.inr ⟨by rfl, rfl⟩) (by assumption) ?_
  try simp only [Act.put, List.setIfInBounds_toArray, List.set_cons_zero, List.set_cons_succ]
  refine wpAnyH_take (i := 8) (oi := ⟨some 19, .binOp .eql 3 (.tmp 18) (.const (.int .i64 0)) 3, 4, "rows.go:118", #[⟨7, .data⟩, ⟨2, .guard⟩], some (2, false)⟩) rfl (by kernel_rfl) (by kernel_rfl) (by kernel_rfl) (fun _ _ _ h => h) (Or.inr ⟨by rfl, rfl⟩) (by assumption) ?_
  try simp only [Act.put, List.setIfInBounds_toArray, List.set_cons_zero, List.set_cons_succ]
  refine wpT 9 ⟨some 20, .pick (.tmp 13) (.const (.bool true)) (.tmp 19), 4, "rows.go:118", #[⟨2, .data⟩, ⟨8, .data⟩], none⟩ ?_
  try simp only [Act.put, List.setIfInBounds_toArray, List.set_cons_zero, List.set_cons_succ]
  refine wpT 10 ⟨some 21, .move (.tmp 20), 4, "rows.go:118", #[⟨9, .data⟩, ⟨2, .chain⟩], none⟩ ?_
  try simp only [Act.put, List.setIfInBounds_toArray, List.set_cons_zero, List.set_cons_succ]
  refine wpAnyH_take (i := 11) (oi := ⟨some 22, .move (.tmp 0), 23, "rows.go:118", #[⟨10, .guard⟩], some (10, false)⟩) rfl (by kernel_rfl) (by kernel_rfl) (by kernel_rfl) (fun _ _ _ h => h) (Or.inr ⟨by rfl, rfl⟩) (by assumption) ?_
  try simp only [Act.put, List.setIfInBounds_toArray, List.set_cons_zero, List.set_cons_succ]
  refine wpAnyH_take (i := 12) (oi := ⟨some 23, .nilCheck (.tmp 22), 0, "rows.go:118", #[⟨11, .data⟩, ⟨10, .guard⟩], some (10, false)⟩) rfl (by kernel_rfl) (by kernel_rfl) (by kernel_rfl) (fun _ _ _ h => h) (Or.inr ⟨by rfl, rfl⟩) (by assumption) ?_
  try simp only [Act.put, List.setIfInBounds_toArray, List.set_cons_zero, List.set_cons_succ]
  refine wpAnyH_take (i := 13) (oi := ⟨some 24, .fieldAddr 66 (.tmp 23) 0, 0, "rows.go:118", #[⟨12, .data⟩, ⟨10, .guard⟩], some (10, false)⟩) rfl (by kernel_rfl) (by kernel_rfl) (by kernel_rfl) (fun _ _ _ h => h) (Or.inr ⟨by rfl, rfl⟩) (by assumption) ?_
  try simp only [Act.put, List.setIfInBounds_toArray, List.set_cons_zero, List.set_cons_succ]
  refine wpAnyH_take (i := 14) (oi := ⟨some 25, .load 24 (.tmp 24), 24, "rows.go:118", #[⟨13, .data⟩, ⟨10, .guard⟩], some (10, false)⟩) rfl (by kernel_rfl) (by kernel_rfl) (by kernel_rfl) (fun _ _ _ h => h) (Or.inr ⟨by rfl, rfl⟩) (by assumption) ?_
  try simp only [Act.put, List.setIfInBounds_toArray, List.set_cons_zero, List.set_cons_succ]
  refine wpAnyH_take (i := 15) (oi := ⟨some 26, .move (.tmp 5), 3, "rows.go:118", #[⟨10, .guard⟩], some (10, false)⟩) rfl (by kernel_rfl) (by kernel_rfl) (by kernel_rfl) (fun _ _ _ h => h) (Or.inr ⟨by rfl, rfl⟩) (by assumption) ?_
  try simp only [Act.put, List.setIfInBounds_toArray, List.set_cons_zero, List.set_cons_succ]
  refine wpAnyH_take (i := 16) (oi := ⟨some 27, .binOp .sub 3 (.tmp 26) (.const (.int .i64 1)) 3, 3, "rows.go:118", #[⟨15, .data⟩, ⟨10, .guard⟩], some (10, false)⟩) rfl (by kernel_rfl) (by kernel_rfl) (by kernel_rfl) (fun _ _ _ h => h) (Or.inr ⟨by rfl, rfl⟩) (by assumption) ?_
  try simp only [Act.put, List.setIfInBounds_toArray, List.set_cons_zero, List.set_cons_succ]
  refine wpAnyH_take (i := 17) (oi := ⟨some 28, .indexAddr 24 (.tmp 25) (.tmp 27), 0, "rows.go:118", #[⟨14, .data⟩, ⟨16, .data⟩, ⟨10, .guard⟩], some (10, false)⟩) rfl (by kernel_rfl) (by kernel_rfl) (by kernel_rfl) (fun _ _ _ h => h) (Or.inr ⟨by rfl, rfl⟩) (by assumption) ?_
  try simp only [Act.put, List.setIfInBounds_toArray, List.set_cons_zero, List.set_cons_succ]
  refine wpAnyH_take (i := 18) (oi := ⟨some 29, .fieldAddr 68 (.tmp 28) 0, 0, "rows.go:118", #[⟨17, .data⟩, ⟨10, .guard⟩], some (10, false)⟩) rfl (by kernel_rfl) (by kernel_rfl) (by kernel_rfl) (fun _ _ _ h => h) (Or.inr ⟨by rfl, rfl⟩) (by assumption) ?_
  try simp only [Act.put, List.setIfInBounds_toArray, List.set_cons_zero, List.set_cons_succ]
  refine wpAnyH_take (i := 19) (oi := ⟨some 30, .load 9 (.tmp 29), 9, "rows.go:118", #[⟨18, .data⟩, ⟨10, .guard⟩], some (10, false)⟩) rfl (by kernel_rfl) (by kernel_rfl) (by kernel_rfl) (fun _ _ _ h => h) (Or.inr ⟨by rfl, rfl⟩) (by assumption) ?_
  try simp only [Act.put, List.setIfInBounds_toArray, List.set_cons_zero, List.set_cons_succ]
  refine wpAnyH_take (i := 20) (oi := ⟨some 31, .move (.tmp 1), 23, "rows.go:118", #[⟨10, .guard⟩], some (10, false)⟩) rfl (by kernel_rfl) (by kernel_rfl) (by kernel_rfl) (fun _ _ _ h => h) (Or.inr ⟨by rfl, rfl⟩) (by assumption) ?_
  try simp only [Act.put, List.setIfInBounds_toArray, List.set_cons_zero, List.set_cons_succ]
  refine wpAnyH_take (i := 21) (oi := ⟨some 32, .nilCheck (.tmp 31), 0, "rows.go:118", #[⟨20, .data⟩, ⟨10, .guard⟩], some (10, false)⟩) rfl (by kernel_rfl) (by kernel_rfl) (by kernel_rfl) (fun _ _ _ h => h) (Or.inr ⟨by rfl, rfl⟩) (by assumption) ?_
  try simp only [Act.put, List.setIfInBounds_toArray, List.set_cons_zero, List.set_cons_succ]
  refine wpAnyH_take (i := 22) (oi := ⟨some 33, .fieldAddr 66 (.tmp 32) 0, 0, "rows.go:118", #[⟨21, .data⟩, ⟨10, .guard⟩], some (10, false)⟩) rfl (by kernel_rfl) (by kernel_rfl) (by kernel_rfl) (fun _ _ _ h => h) (Or.inr ⟨by rfl, rfl⟩) (by assumption) ?_
  try simp only [Act.put, List.setIfInBounds_toArray, List.set_cons_zero, List.set_cons_succ]
  refine wpAnyH_take (i := 23) (oi := ⟨some 34, .load 24 (.tmp 33), 24, "rows.go:118", #[⟨22, .data⟩, ⟨10, .guard⟩], some (10, false)⟩) rfl (by kernel_rfl) (by kernel_rfl) (by kernel_rfl) (fun _ _ _ h => h) (Or.inr ⟨by rfl, rfl⟩) (by assumption) ?_
  try simp only [Act.put, List.setIfInBounds_toArray, List.set_cons_zero, List.set_cons_succ]
  refine wpAnyH_take (i := 24) (oi := ⟨some 35, .indexAddr 24 (.tmp 34) (.const (.int .i64 0)), 0, "rows.go:118", #[⟨23, .data⟩, ⟨10, .guard⟩], some (10, false)⟩) rfl (by kernel_rfl) (by kernel_rfl) (by kernel_rfl) (fun _ _ _ h => h) (Or.inr ⟨by rfl, rfl⟩) (by assumption) ?_
  try simp only [Act.put, List.setIfInBounds_toArray, List.set_cons_zero, List.set_cons_succ]
  refine wpAnyH_take (i := 25) (oi := ⟨some 36, .fieldAddr 68 (.tmp 35) 0, 0, "rows.go:118", #[⟨24, .data⟩, ⟨10, .guard⟩], some (10, false)⟩) rfl (by kernel_rfl) (by kernel_rfl) (by kernel_rfl) (fun _ _ _ h => h) (Or.inr ⟨by rfl, rfl⟩) (by assumption) ?_
  try simp only [Act.put, List.setIfInBounds_toArray, List.set_cons_zero, List.set_cons_succ]
  refine wpAnyH_take (i := 26) (oi := ⟨some 37, .load 9 (.tmp 36), 9, "rows.go:118", #[⟨25, .data⟩, ⟨10, .guard⟩], some (10, false)⟩) rfl (by kernel_rfl) (by kernel_rfl) (by kernel_rfl) (fun _ _ _ h => h) (Or.inr ⟨by rfl, rfl⟩) (by assumption) ?_
  try simp only [Act.put, List.setIfInBounds_toArray, List.set_cons_zero, List.set_cons_succ]
  refine wpAnyH_take (i := 27) (oi := ⟨some 38, .binOp .lss 9 (.tmp 30) (.tmp 37) 9, 4, "rows.go:118", #[⟨19, .data⟩, ⟨26, .data⟩, ⟨10, .guard⟩], some (10, false)⟩) rfl (by kernel_rfl) (by kernel_rfl) (by kernel_rfl) (fun _ _ _ h => h) (Or.inr ⟨by rfl, rfl⟩) (by assumption) ?_
  try simp only [Act.put, List.setIfInBounds_toArray, List.set_cons_zero, List.set_cons_succ]
  refine wpT 28 ⟨some 39, .pick (.tmp 21) (.const (.bool true)) (.tmp 38), 4, "rows.go:118", #[⟨10, .data⟩, ⟨27, .data⟩], none⟩ ?_
  try simp only [Act.put, List.setIfInBounds_toArray, List.set_cons_zero, List.set_cons_succ]
  refine wpT 29 ⟨some 4, .assign (.tmp 39), 4, "rows.go:118", #[⟨28, .data⟩, ⟨10, .chain⟩, ⟨0, .phase⟩, ⟨1, .phase⟩, ⟨2, .phase⟩, ⟨3, .phase⟩, ⟨4, .phase⟩, ⟨5, .phase⟩, ⟨6, .phase⟩, ⟨7, .phase⟩, ⟨8, .phase⟩, ⟨9, .phase⟩, ⟨10, .phase⟩, ⟨11, .phase⟩, ⟨12, .phase⟩, ⟨13, .phase⟩, ⟨14, .phase⟩, ⟨15, .phase⟩, ⟨16, .phase⟩, ⟨17, .phase⟩, ⟨18, .phase⟩, ⟨19, .phase⟩, ⟨20, .phase⟩, ⟨21, .phase⟩, ⟨22, .phase⟩, ⟨23, .phase⟩, ⟨24, .phase⟩, ⟨25, .phase⟩, ⟨26, .phase⟩, ⟨27, .phase⟩, ⟨28, .phase⟩], none⟩ ?_
  try simp only [Act.put, List.setIfInBounds_toArray, List.set_cons_zero, List.set_cons_succ]
  refine wpAnyH_done (by kernel_rfl) ?_ _
  refine NoPanic.normal ?_
  go_wp2_with fail
  go_ret
  exact ⟨rfl, (Moves.refl [] _).drew⟩

set_option maxRecDepth 100000 in
set_option maxHeartbeats 4000000 in
theorem tbelow_2 (W W' w : World) (p q : Nat) (a b : Option Nat) (xs ys : List Pnam) (h : TabIs W w p a xs) (h' : TabIs W' w q b ys) (h0 : xs ≠ []) (h1 : ys = []) :
    Calls Tryz.prog 33 #[.pointer (some ⟨p, 0, none⟩), .pointer (some ⟨q, 0, none⟩)] w fun e w' => e = .returned (.bool true) ∧ Moves [] w w' := by
  obtain ⟨v, hp, _, hG⟩ := h
  obtain ⟨v', hq, _, hG'⟩ := h'
  obtain ⟨ad, n, cap, rfl, hn, hc⟩ := hG.open
  obtain ⟨ad', n', cap', rfl, hn', hc'⟩ := hG'.open
  obtain ⟨x1, _⟩ := one_cell hp
  obtain ⟨y1, _⟩ := one_cell hq
  obtain rfl : n' = 0 := by have := hn'.out; rw [h1] at this; simpa using this
  have hpos : 0 < n := by have := hn.out; have := List.length_pos_iff.2 h0; omega
  have hne : ((n : Int) == 0) = false := by simp; omega
  clear hG hG' hn hn' hc hc' hp hq h0 h1
  go_enter Tryz.func33, Tryz.ntmps33
  go_wp2_with fail
  refine wp_region_noPanic ?_
  refine wp_region_held_drew (S := (fun w' => w'.cell? ⟨p, 0, none⟩ = some (.slice ad n cap) ∧ w'.cell? ⟨q, 0, none⟩ = some (.slice ad' 0 cap'))) (by kernel_rfl) ?_ (fun hHeld => ?_)
  · first | (go_keep; done) | exact ⟨x1, y1⟩
  refine wpT 0 ⟨some 11, .move (.tmp 5), 3, "rows.go:118", #[], none⟩ ?_
  try simp only [Act.put, List.setIfInBounds_toArray, List.set_cons_zero, List.set_cons_succ]
  refine wpT 1 ⟨some 12, .binOp .eql 3 (.tmp 11) (.const (.int .i64 0)) 3, 4, "rows.go:118", #[⟨0, .data⟩], none⟩ ?_
  try simp only [Act.put, List.setIfInBounds_toArray, List.set_cons_zero, List.set_cons_succ]
  refine wpT 2 ⟨some 13, .move (.tmp 12), 4, "rows.go:118", #[⟨1, .data⟩], none⟩ ?_
  try simp only [Act.put, List.setIfInBounds_toArray, List.set_cons_zero, List.set_cons_succ]
  refine wpT 3 ⟨some 14, .move (.tmp 1), 23, "rows.go:118", #[⟨2, .guard⟩], some (2, false)⟩ ?_
  try simp only [Act.put, List.setIfInBounds_toArray, List.set_cons_zero, List.set_cons_succ]
  refine wpT 4 ⟨some 15, .nilCheck (.tmp 14), 0, "rows.go:118", #[⟨3, .data⟩, ⟨2, .guard⟩], some (2, false)⟩ ?_
  try simp only [Act.put, List.setIfInBounds_toArray, List.set_cons_zero, List.set_cons_succ]
  refine wpT 5 ⟨some 16, .fieldAddr 66 (.tmp 15) 0, 0, "rows.go:118", #[⟨4, .data⟩, ⟨2, .guard⟩], some (2, false)⟩ ?_
  try simp only [Act.put, List.setIfInBounds_toArray, List.set_cons_zero, List.set_cons_succ]
  refine wpT 6 ⟨some 17, .load 24 (.tmp 16), 24, "rows.go:118", #[⟨5, .data⟩, ⟨2, .guard⟩], some (2, false)⟩ ?_
  try simp only [Act.put, List.setIfInBounds_toArray, List.set_cons_zero, List.set_cons_succ]
  refine wpT 7 ⟨some 18, .call ⟨.builtin .len, #[.tmp 17], #[24]⟩, 3, "rows.go:118", #[⟨6, .data⟩, ⟨2, .guard⟩], some (2, false)⟩ ?_
  try simp only [Act.put, List.setIfInBounds_toArray, List.set_cons_zero, List.set_cons_succ]
  refine wpT 8 ⟨some 19, .binOp .eql 3 (.tmp 18) (.const (.int .i64 0)) 3, 4, "rows.go:118", #[⟨7, .data⟩, ⟨2, .guard⟩], some (2, false)⟩ ?_
  try simp only [Act.put, List.setIfInBounds_toArray, List.set_cons_zero, List.set_cons_succ]
  refine wpT 9 ⟨some 20, .pick (.tmp 13) (.const (.bool true)) (.tmp 19), 4, "rows.go:118", #[⟨2, .data⟩, ⟨8, .data⟩], none⟩ ?_
  try simp only [Act.put, List.setIfInBounds_toArray, List.set_cons_zero, List.set_cons_succ]
  refine wpT 10 ⟨some 21, .move (.tmp 20), 4, "rows.go:118", #[⟨9, .data⟩, ⟨2, .chain⟩], none⟩ ?_
  try simp only [Act.put, List.setIfInBounds_toArray, List.set_cons_zero, List.set_cons_succ]
  refine wpAnyH_take (i := 11) (oi := ⟨some 22, .move (.tmp 0), 23, "rows.go:118", #[⟨10, .guard⟩], some (10, false)⟩) rfl (by kernel_rfl) (by kernel_rfl) (by kernel_rfl) (fun _ _ _ h => h) (Or.inr ⟨by rfl, rfl⟩) (by assumption) ?_
  try simp only [Act.put, List.setIfInBounds_toArray, List.set_cons_zero, List.set_cons_succ]
  refine wpAnyH_take (i := 12) (oi := ⟨some 23, .nilCheck (.tmp 22), 0, "rows.go:118", #[⟨11, .data⟩, ⟨10, .guard⟩], some (10, false)⟩) rfl (by kernel_rfl) (by kernel_rfl) (by kernel_rfl) (fun _ _ _ h => h) (Or.inr ⟨by rfl, rfl⟩) (by assumption) ?_
  try simp only [Act.put, List.setIfInBounds_toArray, List.set_cons_zero, List.set_cons_succ]
  refine wpAnyH_take (i := 13) (oi := ⟨some 24, .fieldAddr 66 (.tmp 23) 0, 0, "rows.go:118", #[⟨12, .data⟩, ⟨10, .guard⟩], some (10, false)⟩) rfl (by kernel_rfl) (by kernel_rfl) (by kernel_rfl) (fun _ _ _ h => h) (Or.inr ⟨by rfl, rfl⟩) (by assumption) ?_
  try simp only [Act.put, List.setIfInBounds_toArray, List.set_cons_zero, List.set_cons_succ]
  refine wpAnyH_take (i := 14) (oi := ⟨some 25, .load 24 (.tmp 24), 24, "rows.go:118", #[⟨13, .data⟩, ⟨10, .guard⟩], some (10, false)⟩) rfl (by kernel_rfl) (by kernel_rfl) (by kernel_rfl) (fun _ _ _ h => h) (Or.inr ⟨by rfl, rfl⟩) (by assumption) ?_
  try simp only [Act.put, List.setIfInBounds_toArray, List.set_cons_zero, List.set_cons_succ]
  refine wpAnyH_take (i := 15) (oi := ⟨some 26, .move (.tmp 5), 3, "rows.go:118", #[⟨10, .guard⟩], some (10, false)⟩) rfl (by kernel_rfl) (by kernel_rfl) (by kernel_rfl) (fun _ _ _ h => h) (Or.inr ⟨by rfl, rfl⟩) (by assumption) ?_
  try simp only [Act.put, List.setIfInBounds_toArray, List.set_cons_zero, List.set_cons_succ]
  refine wpAnyH_take (i := 16) (oi := ⟨some 27, .binOp .sub 3 (.tmp 26) (.const (.int .i64 1)) 3, 3, "rows.go:118", #[⟨15, .data⟩, ⟨10, .guard⟩], some (10, false)⟩) rfl (by kernel_rfl) (by kernel_rfl) (by kernel_rfl) (fun _ _ _ h => h) (Or.inr ⟨by rfl, rfl⟩) (by assumption) ?_
  try simp only [Act.put, List.setIfInBounds_toArray, List.set_cons_zero, List.set_cons_succ]
  refine wpAnyH_take (i := 17) (oi := ⟨some 28, .indexAddr 24 (.tmp 25) (.tmp 27), 0, "rows.go:118", #[⟨14, .data⟩, ⟨16, .data⟩, ⟨10, .guard⟩], some (10, false)⟩) rfl (by kernel_rfl) (by kernel_rfl) (by kernel_rfl) (fun _ _ _ h => h) (Or.inr ⟨by rfl, rfl⟩) (by assumption) ?_
  try simp only [Act.put, List.setIfInBounds_toArray, List.set_cons_zero, List.set_cons_succ]
  refine wpAnyH_take (i := 18) (oi := ⟨some 29, .fieldAddr 68 (.tmp 28) 0, 0, "rows.go:118", #[⟨17, .data⟩, ⟨10, .guard⟩], some (10, false)⟩) rfl (by kernel_rfl) (by kernel_rfl) (by kernel_rfl) (fun _ _ _ h => h) (Or.inr ⟨by rfl, rfl⟩) (by assumption) ?_
  try simp only [Act.put, List.setIfInBounds_toArray, List.set_cons_zero, List.set_cons_succ]
  refine wpAnyH_take (i := 19) (oi := ⟨some 30, .load 9 (.tmp 29), 9, "rows.go:118", #[⟨18, .data⟩, ⟨10, .guard⟩], some (10, false)⟩) rfl (by kernel_rfl) (by kernel_rfl) (by kernel_rfl) (fun _ _ _ h => h) (Or.inr ⟨by rfl, rfl⟩) (by assumption) ?_
  try simp only [Act.put, List.setIfInBounds_toArray, List.set_cons_zero, List.set_cons_succ]
  refine wpAnyH_take (i := 20) (oi := ⟨some 31, .move (.tmp 1), 23, "rows.go:118", #[⟨10, .guard⟩], some (10, false)⟩) rfl (by kernel_rfl) (by kernel_rfl) (by kernel_rfl) (fun _ _ _ h => h) (Or.inr ⟨by rfl, rfl⟩) (by assumption) ?_
  try simp only [Act.put, List.setIfInBounds_toArray, List.set_cons_zero, List.set_cons_succ]
  refine wpAnyH_take (i := 21) (oi := ⟨some 32, .nilCheck (.tmp 31), 0, "rows.go:118", #[⟨20, .data⟩, ⟨10, .guard⟩], some (10, false)⟩) rfl (by kernel_rfl) (by kernel_rfl) (by kernel_rfl) (fun _ _ _ h => h) (Or.inr ⟨by rfl, rfl⟩) (by assumption) ?_
  try simp only [Act.put, List.setIfInBounds_toArray, List.set_cons_zero, List.set_cons_succ]
  refine wpAnyH_take (i := 22) (oi := ⟨some 33, .fieldAddr 66 (.tmp 32) 0, 0, "rows.go:118", #[⟨21, .data⟩, ⟨10, .guard⟩], some (10, false)⟩) rfl (by kernel_rfl) (by kernel_rfl) (by kernel_rfl) (fun _ _ _ h => h) (Or.inr ⟨by rfl, rfl⟩) (by assumption) ?_
  try simp only [Act.put, List.setIfInBounds_toArray, List.set_cons_zero, List.set_cons_succ]
  refine wpAnyH_take (i := 23) (oi := ⟨some 34, .load 24 (.tmp 33), 24, "rows.go:118", #[⟨22, .data⟩, ⟨10, .guard⟩], some (10, false)⟩) rfl (by kernel_rfl) (by kernel_rfl) (by kernel_rfl) (fun _ _ _ h => h) (Or.inr ⟨by rfl, rfl⟩) (by assumption) ?_
  try simp only [Act.put, List.setIfInBounds_toArray, List.set_cons_zero, List.set_cons_succ]
  refine wpAnyH_take (i := 24) (oi := ⟨some 35, .indexAddr 24 (.tmp 34) (.const (.int .i64 0)), 0, "rows.go:118", #[⟨23, .data⟩, ⟨10, .guard⟩], some (10, false)⟩) rfl (by kernel_rfl) (by kernel_rfl) (by kernel_rfl) (fun _ _ _ h => h) (Or.inr ⟨by rfl, rfl⟩) (by assumption) ?_
  try simp only [Act.put, List.setIfInBounds_toArray, List.set_cons_zero, List.set_cons_succ]
  refine wpAnyH_take (i := 25) (oi := ⟨some 36, .fieldAddr 68 (.tmp 35) 0, 0, "rows.go:118", #[⟨24, .data⟩, ⟨10, .guard⟩], some (10, false)⟩) rfl (by kernel_rfl) (by kernel_rfl) (by kernel_rfl) (fun _ _ _ h => h) (Or.inr ⟨by rfl, rfl⟩) (by assumption) ?_
  try simp only [Act.put, List.setIfInBounds_toArray, List.set_cons_zero, List.set_cons_succ]
  refine wpAnyH_take (i := 26) (oi := ⟨some 37, .load 9 (.tmp 36), 9, "rows.go:118", #[⟨25, .data⟩, ⟨10, .guard⟩], some (10, false)⟩) rfl (by kernel_rfl) (by kernel_rfl) (by kernel_rfl) (fun _ _ _ h => h) (Or.inr ⟨by rfl, rfl⟩) (by assumption) ?_
  try simp only [Act.put, List.setIfInBounds_toArray, List.set_cons_zero, List.set_cons_succ]
  refine wpAnyH_take (i := 27) (oi := ⟨some 38, .binOp .lss 9 (.tmp 30) (.tmp 37) 9, 4, "rows.go:118", #[⟨19, .data⟩, ⟨26, .data⟩, ⟨10, .guard⟩], some (10, false)⟩) rfl (by kernel_rfl) (by kernel_rfl) (by kernel_rfl) (fun _ _ _ h => h) (Or.inr ⟨by rfl, rfl⟩) (by assumption) ?_
  try simp only [Act.put, List.setIfInBounds_toArray, List.set_cons_zero, List.set_cons_succ]
  refine wpT 28 ⟨some 39, .pick (.tmp 21) (.const (.bool true)) (.tmp 38), 4, "rows.go:118", #[⟨10, .data⟩, ⟨27, .data⟩], none⟩ ?_
  try simp only [Act.put, List.setIfInBounds_toArray, List.set_cons_zero, List.set_cons_succ]
  refine wpT 29 ⟨some 4, .assign (.tmp 39), 4, "rows.go:118", #[⟨28, .data⟩, ⟨10, .chain⟩, ⟨0, .phase⟩, ⟨1, .phase⟩, ⟨2, .phase⟩, ⟨3, .phase⟩, ⟨4, .phase⟩, ⟨5, .phase⟩, ⟨6, .phase⟩, ⟨7, .phase⟩, ⟨8, .phase⟩, ⟨9, .phase⟩, ⟨10, .phase⟩, ⟨11, .phase⟩, ⟨12, .phase⟩, ⟨13, .phase⟩, ⟨14, .phase⟩, ⟨15, .phase⟩, ⟨16, .phase⟩, ⟨17, .phase⟩, ⟨18, .phase⟩, ⟨19, .phase⟩, ⟨20, .phase⟩, ⟨21, .phase⟩, ⟨22, .phase⟩, ⟨23, .phase⟩, ⟨24, .phase⟩, ⟨25, .phase⟩, ⟨26, .phase⟩, ⟨27, .phase⟩, ⟨28, .phase⟩], none⟩ ?_
  try simp only [Act.put, List.setIfInBounds_toArray, List.set_cons_zero, List.set_cons_succ]
  refine wpAnyH_done (by kernel_rfl) ?_ _
  refine NoPanic.normal ?_
  go_wp2_with fail
  go_ret
  exact ⟨rfl, (Moves.refl [] _).drew⟩

set_option maxRecDepth 100000 in
set_option maxHeartbeats 4000000 in
theorem tbelow_3 (W W' w : World) (p q : Nat) (a b : Option Nat) (xs ys : List Pnam) (h : TabIs W w p a xs) (h' : TabIs W' w q b ys) (k : Nat) (x y : Pnam) (hx : xs[k]? = some x) (hk : xs.length = k + 1) (hy : ys[0]? = some y) (hl : xs.length ≤ 1000) (hl' : ys.length ≤ 1000) :
    Calls Tryz.prog 33 #[.pointer (some ⟨p, 0, none⟩), .pointer (some ⟨q, 0, none⟩)] w fun e w' => e = .returned (.bool (nlt x.name y.name)) ∧ Moves [] w w' := by
  obtain ⟨v, hp, _, hG⟩ := h
  obtain ⟨v', hq, _, hG'⟩ := h'
  obtain ⟨ad, n, cap, rfl, hn, hc⟩ := hG.open
  obtain ⟨ad', n', cap', rfl, hn', hc'⟩ := hG'.open
  obtain ⟨x1, _⟩ := one_cell hp
  obtain ⟨y1, _⟩ := one_cell hq
  obtain ⟨g, off, a2, n2, c2, rfl, z1, _, _, _⟩ := hG.at.at hx
  obtain ⟨g', off', a2', n2', c2', rfl, z2, _, _, _⟩ := hG'.at.at hy
  simp only [Nat.zero_mul, Nat.add_zero] at z2
  have hpos' : 0 < n' := by have := hn'.out; have := (List.getElem?_eq_some_iff.1 hy).1; omega
  have hkn : n = k + 1 := by have := hn.out; omega
  have hn1 : n ≤ 1000 := by have := hn.out; omega
  have hn2 : n' ≤ 1000 := by have := hn'.out; omega
  have hne : ((n : Int) == 0) = false := by simp; omega
  have hne' : ((n' : Int) == 0) = false := by simp; omega
  have hlt0 : (0 : Int) < n' := by omega
  have hkI : (k : Int) < n := by omega
  have hsub : IntKind.i64.wrap ((n : Int) - 1) = (k : Int) := by rw [IntKind.wrap_i64]; omega
  clear hG hG' hn hn' hc hc' hp hq hx hy hk hkn
  go_enter Tryz.func33, Tryz.ntmps33
  go_wp2_with fail
  refine wp_region_noPanic ?_
  refine wp_region_held_drew (S := (fun w' => w'.cell? ⟨p, 0, none⟩ = some (.slice (some ⟨g, off, none⟩) n cap) ∧ w'.cell? ⟨q, 0, none⟩ = some (.slice (some ⟨g', off', none⟩) n' cap') ∧ w'.cell? ⟨g, off + k * 2, none⟩ = some (.string x.name) ∧ w'.cell? ⟨g', off', none⟩ = some (.string y.name))) (by kernel_rfl) ?_ (fun hHeld => ?_)
  · first | (go_keep; done) | exact ⟨x1, y1, z1, z2⟩
  refine wpT 0 ⟨some 11, .move (.tmp 5), 3, "rows.go:118", #[], none⟩ ?_
  try simp only [Act.put, List.setIfInBounds_toArray, List.set_cons_zero, List.set_cons_succ]
  refine wpT 1 ⟨some 12, .binOp .eql 3 (.tmp 11) (.const (.int .i64 0)) 3, 4, "rows.go:118", #[⟨0, .data⟩], none⟩ ?_
  try simp only [Act.put, List.setIfInBounds_toArray, List.set_cons_zero, List.set_cons_succ]
  refine wpT 2 ⟨some 13, .move (.tmp 12), 4, "rows.go:118", #[⟨1, .data⟩], none⟩ ?_
  try simp only [Act.put, List.setIfInBounds_toArray, List.set_cons_zero, List.set_cons_succ]
  refine wpT 3 ⟨some 14, .move (.tmp 1), 23, "rows.go:118", #[⟨2, .guard⟩], some (2, false)⟩ ?_
  try simp only [Act.put, List.setIfInBounds_toArray, List.set_cons_zero, List.set_cons_succ]
  refine wpT 4 ⟨some 15, .nilCheck (.tmp 14), 0, "rows.go:118", #[⟨3, .data⟩, ⟨2, .guard⟩], some (2, false)⟩ ?_
  try simp only [Act.put, List.setIfInBounds_toArray, List.set_cons_zero, List.set_cons_succ]
  refine wpT 5 ⟨some 16, .fieldAddr 66 (.tmp 15) 0, 0, "rows.go:118", #[⟨4, .data⟩, ⟨2, .guard⟩], some (2, false)⟩ ?_
  try simp only [Act.put, List.setIfInBounds_toArray, List.set_cons_zero, List.set_cons_succ]
  refine wpT 6 ⟨some 17, .load 24 (.tmp 16), 24, "rows.go:118", #[⟨5, .data⟩, ⟨2, .guard⟩], some (2, false)⟩ ?_
  try simp only [Act.put, List.setIfInBounds_toArray, List.set_cons_zero, List.set_cons_succ]
  refine wpT 7 ⟨some 18, .call ⟨.builtin .len, #[.tmp 17], #[24]⟩, 3, "rows.go:118", #[⟨6, .data⟩, ⟨2, .guard⟩], some (2, false)⟩ ?_
  try simp only [Act.put, List.setIfInBounds_toArray, List.set_cons_zero, List.set_cons_succ]
  refine wpT 8 ⟨some 19, .binOp .eql 3 (.tmp 18) (.const (.int .i64 0)) 3, 4, "rows.go:118", #[⟨7, .data⟩, ⟨2, .guard⟩], some (2, false)⟩ ?_
  try simp only [Act.put, List.setIfInBounds_toArray, List.set_cons_zero, List.set_cons_succ]
  refine wpT 9 ⟨some 20, .pick (.tmp 13) (.const (.bool true)) (.tmp 19), 4, "rows.go:118", #[⟨2, .data⟩, ⟨8, .data⟩], none⟩ ?_
  try simp only [Act.put, List.setIfInBounds_toArray, List.set_cons_zero, List.set_cons_succ]
  refine wpT 10 ⟨some 21, .move (.tmp 20), 4, "rows.go:118", #[⟨9, .data⟩, ⟨2, .chain⟩], none⟩ ?_
  try simp only [Act.put, List.setIfInBounds_toArray, List.set_cons_zero, List.set_cons_succ]
  refine wpT 11 ⟨some 22, .move (.tmp 0), 23, "rows.go:118", #[⟨10, .guard⟩], some (10, false)⟩ ?_
  try simp only [Act.put, List.setIfInBounds_toArray, List.set_cons_zero, List.set_cons_succ]
  refine wpT 12 ⟨some 23, .nilCheck (.tmp 22), 0, "rows.go:118", #[⟨11, .data⟩, ⟨10, .guard⟩], some (10, false)⟩ ?_
  try simp only [Act.put, List.setIfInBounds_toArray, List.set_cons_zero, List.set_cons_succ]
  refine wpT 13 ⟨some 24, .fieldAddr 66 (.tmp 23) 0, 0, "rows.go:118", #[⟨12, .data⟩, ⟨10, .guard⟩], some (10, false)⟩ ?_
  try simp only [Act.put, List.setIfInBounds_toArray, List.set_cons_zero, List.set_cons_succ]
  refine wpT 14 ⟨some 25, .load 24 (.tmp 24), 24, "rows.go:118", #[⟨13, .data⟩, ⟨10, .guard⟩], some (10, false)⟩ ?_
  try simp only [Act.put, List.setIfInBounds_toArray, List.set_cons_zero, List.set_cons_succ]
  refine wpT 15 ⟨some 26, .move (.tmp 5), 3, "rows.go:118", #[⟨10, .guard⟩], some (10, false)⟩ ?_
  try simp only [Act.put, List.setIfInBounds_toArray, List.set_cons_zero, List.set_cons_succ]
  refine wpT 16 ⟨some 27, .binOp .sub 3 (.tmp 26) (.const (.int .i64 1)) 3, 3, "rows.go:118", #[⟨15, .data⟩, ⟨10, .guard⟩], some (10, false)⟩ ?_
  try simp only [Act.put, List.setIfInBounds_toArray, List.set_cons_zero, List.set_cons_succ]
  refine wpT 17 ⟨some 28, .indexAddr 24 (.tmp 25) (.tmp 27), 0, "rows.go:118", #[⟨14, .data⟩, ⟨16, .data⟩, ⟨10, .guard⟩], some (10, false)⟩ ?_
  try simp only [Act.put, List.setIfInBounds_toArray, List.set_cons_zero, List.set_cons_succ]
  refine wpT 18 ⟨some 29, .fieldAddr 68 (.tmp 28) 0, 0, "rows.go:118", #[⟨17, .data⟩, ⟨10, .guard⟩], some (10, false)⟩ ?_
  try simp only [Act.put, List.setIfInBounds_toArray, List.set_cons_zero, List.set_cons_succ]
  refine wpT 19 ⟨some 30, .load 9 (.tmp 29), 9, "rows.go:118", #[⟨18, .data⟩, ⟨10, .guard⟩], some (10, false)⟩ ?_
  try simp only [Act.put, List.setIfInBounds_toArray, List.set_cons_zero, List.set_cons_succ]
  refine wpT 20 ⟨some 31, .move (.tmp 1), 23, "rows.go:118", #[⟨10, .guard⟩], some (10, false)⟩ ?_
  try simp only [Act.put, List.setIfInBounds_toArray, List.set_cons_zero, List.set_cons_succ]
  refine wpT 21 ⟨some 32, .nilCheck (.tmp 31), 0, "rows.go:118", #[⟨20, .data⟩, ⟨10, .guard⟩], some (10, false)⟩ ?_
  try simp only [Act.put, List.setIfInBounds_toArray, List.set_cons_zero, List.set_cons_succ]
  refine wpT 22 ⟨some 33, .fieldAddr 66 (.tmp 32) 0, 0, "rows.go:118", #[⟨21, .data⟩, ⟨10, .guard⟩], some (10, false)⟩ ?_
  try simp only [Act.put, List.setIfInBounds_toArray, List.set_cons_zero, List.set_cons_succ]
  refine wpT 23 ⟨some 34, .load 24 (.tmp 33), 24, "rows.go:118", #[⟨22, .data⟩, ⟨10, .guard⟩], some (10, false)⟩ ?_
  try simp only [Act.put, List.setIfInBounds_toArray, List.set_cons_zero, List.set_cons_succ]
  refine wpT 24 ⟨some 35, .indexAddr 24 (.tmp 34) (.const (.int .i64 0)), 0, "rows.go:118", #[⟨23, .data⟩, ⟨10, .guard⟩], some (10, false)⟩ ?_
  try simp only [Act.put, List.setIfInBounds_toArray, List.set_cons_zero, List.set_cons_succ]
  refine wpT 25 ⟨some 36, .fieldAddr 68 (.tmp 35) 0, 0, "rows.go:118", #[⟨24, .data⟩, ⟨10, .guard⟩], some (10, false)⟩ ?_
  try simp only [Act.put, List.setIfInBounds_toArray, List.set_cons_zero, List.set_cons_succ]
  refine wpT 26 ⟨some 37, .load 9 (.tmp 36), 9, "rows.go:118", #[⟨25, .data⟩, ⟨10, .guard⟩], some (10, false)⟩ ?_
  try simp only [Act.put, List.setIfInBounds_toArray, List.set_cons_zero, List.set_cons_succ]
  refine wpT 27 ⟨some 38, .binOp .lss 9 (.tmp 30) (.tmp 37) 9, 4, "rows.go:118", #[⟨19, .data⟩, ⟨26, .data⟩, ⟨10, .guard⟩], some (10, false)⟩ ?_
  try simp only [Act.put, List.setIfInBounds_toArray, List.set_cons_zero, List.set_cons_succ]
  refine wpT 28 ⟨some 39, .pick (.tmp 21) (.const (.bool true)) (.tmp 38), 4, "rows.go:118", #[⟨10, .data⟩, ⟨27, .data⟩], none⟩ ?_
  try simp only [Act.put, List.setIfInBounds_toArray, List.set_cons_zero, List.set_cons_succ]
  refine wpT 29 ⟨some 4, .assign (.tmp 39), 4, "rows.go:118", #[⟨28, .data⟩, ⟨10, .chain⟩, ⟨0, .phase⟩, ⟨1, .phase⟩, ⟨2, .phase⟩, ⟨3, .phase⟩, ⟨4, .phase⟩, ⟨5, .phase⟩, ⟨6, .phase⟩, ⟨7, .phase⟩, ⟨8, .phase⟩, ⟨9, .phase⟩, ⟨10, .phase⟩, ⟨11, .phase⟩, ⟨12, .phase⟩, ⟨13, .phase⟩, ⟨14, .phase⟩, ⟨15, .phase⟩, ⟨16, .phase⟩, ⟨17, .phase⟩, ⟨18, .phase⟩, ⟨19, .phase⟩, ⟨20, .phase⟩, ⟨21, .phase⟩, ⟨22, .phase⟩, ⟨23, .phase⟩, ⟨24, .phase⟩, ⟨25, .phase⟩, ⟨26, .phase⟩, ⟨27, .phase⟩, ⟨28, .phase⟩], none⟩ ?_
  try simp only [Act.put, List.setIfInBounds_toArray, List.set_cons_zero, List.set_cons_succ]
  refine wpAnyH_done (by kernel_rfl) ?_ _
  refine NoPanic.normal ?_
  go_wp2_with fail
  go_ret
  exact ⟨rfl, (Moves.refl [] _).drew⟩

theorem tbelow_w (W W' w : World) (p q : Nat) (a b : Option Nat) (xs ys : List Pnam) (h : TabIs W w p a xs) (h' : TabIs W' w q b ys) (hl : xs.length ≤ 1000) (hl' : ys.length ≤ 1000) :
    Calls Tryz.prog 33 #[.pointer (some ⟨p, 0, none⟩), .pointer (some ⟨q, 0, none⟩)] w fun e w' => e = .returned (.bool (pbelow xs ys)) ∧ Moves [] w w' := by
  cases hx : xs.getLast? with
  | none =>
    have e : xs = [] := List.getLast?_eq_none_iff.1 hx
    have e2 : pbelow xs ys = true := by unfold pbelow; rw [hx]
    rw [e2]
    exact tbelow_1 W W' w p q a b xs ys h h' e
  | some x =>
    have hne : xs ≠ [] := fun e => by rw [e] at hx; simp at hx
    cases hy : ys.head? with
    | none =>
      have e : ys = [] := List.head?_eq_none_iff.1 hy
      have e2 : pbelow xs ys = true := by unfold pbelow; rw [hx, hy]
      rw [e2]
      exact tbelow_2 W W' w p q a b xs ys h h' hne e
    | some y =>
      have e2 : pbelow xs ys = nlt x.name y.name := by unfold pbelow; rw [hx, hy]
      rw [e2]
      have hpos := List.length_pos_iff.2 hne
      rw [List.getLast?_eq_getElem?] at hx
      rw [List.head?_eq_getElem?] at hy
      exact tbelow_3 W W' w p q a b xs ys h h' (xs.length - 1) x y hx (by omega) hy hl hl'

set_option maxRecDepth 100000 in
set_option maxHeartbeats 4000000 in
theorem tjoin_no (W W' w : World) (p q : Nat) (a b : Option Nat) (xs ys : List Pnam) (h : TabIs W w p a xs) (h' : TabIs W' w q b ys) (hl : xs.length ≤ 1000) (hl' : ys.length ≤ 1000) (hb : pbelow xs ys = false) :
    Calls Tryz.prog 11 #[.pointer (some ⟨p, 0, none⟩), .pointer (some ⟨q, 0, none⟩)] w fun e w' => e = .returned (.tuple #[.pointer none, .int .i64 1]) ∧ Moves [] w w' := by
  have hbl := tbelow_w W W' w p q a b xs ys h h' hl hl'
  rw [hb] at hbl
  clear h h' hl hl' hb
  go_enter Tryz.func11, Tryz.ntmps11
  go_wp2_with (go_at_call 33; refine hbl.mono ?_; rintro _ w1 ⟨rfl, m1⟩)
  go_ret2
  exact ⟨rfl, m1⟩
theorem tjoin_nil (w : World) (v : Value) :
    Calls Tryz.prog 11 #[.pointer none, v] w fun e w' => e = .returned (.tuple #[.pointer none, .int .i64 1]) ∧ w = w' := by
  go_enter Tryz.func11, Tryz.ntmps11
  go_wp2_with fail
  go_ret2
  exact ⟨rfl, rfl⟩

set_option maxRecDepth 100000 in
set_option maxHeartbeats 4000000 in
theorem tjoin_yes (W W' w : World) (p q : Nat) (a b : Option Nat) (xs ys : List Pnam) (h : TabIs W w p a xs) (h' : TabIs W' w q b ys) (hl : xs.length + ys.length ≤ 32) (hb : pbelow xs ys = true) :
    Calls Tryz.prog 11 #[.pointer (some ⟨p, 0, none⟩), .pointer (some ⟨q, 0, none⟩)] w fun e w' => ∃ z, e = .returned (.tuple #[.pointer (some ⟨z, 0, none⟩), .int .i64 0]) ∧ (∃ c, TabIs w w' z c (pownL [xs, ys])) ∧ w.heap.size ≤ z ∧ Moves [] w w' := by
  have hbl := tbelow_w W W' w p q a b xs ys h h' (by omega) (by omega)
  rw [hb] at hbl
  obtain ⟨v, hp, _, hG⟩ := h
  obtain ⟨v', hq, _, hG'⟩ := h'
  obtain ⟨ad, n, cap, rfl, hn, hc⟩ := hG.open
  obtain ⟨ad', n', cap', rfl, hn', hc'⟩ := hG'.open
  obtain ⟨x1, _⟩ := one_cell hp
  obtain ⟨y1, _⟩ := one_cell hq
  have HN1 : Hid (NamsAt w (.slice ad n cap) xs) := hG.at
  have HN2 : Hid (NamsAt w (.slice ad' n' cap') ys) := hG'.at
  have HL : Hid ([xs, ys].flatten.length ≤ 1000) := by show _ ≤ _; simp; omega
  obtain ⟨nn, hnn⟩ : ∃ nn : Nat, n + n' = nn := ⟨_, rfl⟩
  have hnn32 : nn ≤ 32 := by have := hn.out; have := hn'.out; omega
  have hadd : IntKind.i64.wrap ((n : Int) + (n' : Int)) = (nn : Int) := by rw [IntKind.wrap_i64]; omega
  have hgt : decide ((32 : Int) < (nn : Int)) = false := by simp; omega
  clear hG hG' hn hn' hc hc' hp hq hl hb hnn
  go_enter Tryz.func11, Tryz.ntmps11
  go_wp2_with (go_at_call 33; refine hbl.mono ?_; rintro _ w1 ⟨rfl, m1⟩; have x2 := m1.cell x1; have y2 := m1.cell y1)
  refine wp_region_noPanic ?_
  refine wp_region_held_drew (S := (fun w' => w'.cell? ⟨p, 0, none⟩ = some (.slice ad n cap) ∧ w'.cell? ⟨q, 0, none⟩ = some (.slice ad' n' cap'))) (by kernel_rfl) ?_ (fun hHeld => ?_)
  · first | (go_keep; done) | exact ⟨x2, y2⟩
  refine wpT 0 ⟨some 20, .move (.tmp 0), 23, "rows.go:109", #[], none⟩ ?_
  try simp only [Act.put, List.setIfInBounds_toArray, List.set_cons_zero, List.set_cons_succ]
  refine wpT 1 ⟨some 21, .nilCheck (.tmp 20), 0, "rows.go:109", #[⟨0, .data⟩], none⟩ ?_
  try simp only [Act.put, List.setIfInBounds_toArray, List.set_cons_zero, List.set_cons_succ]
  refine wpT 2 ⟨some 22, .fieldAddr 66 (.tmp 21) 0, 0, "rows.go:109", #[⟨1, .data⟩], none⟩ ?_
  try simp only [Act.put, List.setIfInBounds_toArray, List.set_cons_zero, List.set_cons_succ]
  refine wpT 3 ⟨some 23, .load 24 (.tmp 22), 24, "rows.go:109", #[⟨2, .data⟩], none⟩ ?_
  try simp only [Act.put, List.setIfInBounds_toArray, List.set_cons_zero, List.set_cons_succ]
  refine wpT 4 ⟨some 24, .call ⟨.builtin .len, #[.tmp 23], #[24]⟩, 3, "rows.go:109", #[⟨3, .data⟩], none⟩ ?_
  try simp only [Act.put, List.setIfInBounds_toArray, List.set_cons_zero, List.set_cons_succ]
  refine wpT 5 ⟨some 25, .move (.tmp 1), 23, "rows.go:109", #[], none⟩ ?_
  try simp only [Act.put, List.setIfInBounds_toArray, List.set_cons_zero, List.set_cons_succ]
  refine wpT 6 ⟨some 26, .nilCheck (.tmp 25), 0, "rows.go:109", #[⟨5, .data⟩], none⟩ ?_
  try simp only [Act.put, List.setIfInBounds_toArray, List.set_cons_zero, List.set_cons_succ]
  refine wpT 7 ⟨some 27, .fieldAddr 66 (.tmp 26) 0, 0, "rows.go:109", #[⟨6, .data⟩], none⟩ ?_
  try simp only [Act.put, List.setIfInBounds_toArray, List.set_cons_zero, List.set_cons_succ]
  refine wpT 8 ⟨some 28, .load 24 (.tmp 27), 24, "rows.go:109", #[⟨7, .data⟩], none⟩ ?_
  try simp only [Act.put, List.setIfInBounds_toArray, List.set_cons_zero, List.set_cons_succ]
  refine wpT 9 ⟨some 29, .call ⟨.builtin .len, #[.tmp 28], #[24]⟩, 3, "rows.go:109", #[⟨8, .data⟩], none⟩ ?_
  try simp only [Act.put, List.setIfInBounds_toArray, List.set_cons_zero, List.set_cons_succ]
  refine wpT 10 ⟨some 30, .binOp .add 3 (.tmp 24) (.tmp 29) 3, 3, "rows.go:109", #[⟨4, .data⟩, ⟨9, .data⟩], none⟩ ?_
  try simp only [Act.put, List.setIfInBounds_toArray, List.set_cons_zero, List.set_cons_succ]
  refine wpT 11 ⟨some 31, .binOp .gtr 3 (.tmp 30) (.const (.int .i64 32)) 3, 4, "rows.go:109", #[⟨10, .data⟩], none⟩ ?_
  try simp only [Act.put, List.setIfInBounds_toArray, List.set_cons_zero, List.set_cons_succ]
  refine wpT 12 ⟨some 19, .assign (.tmp 31), 4, "rows.go:109", #[⟨11, .data⟩], none⟩ ?_
  try simp only [Act.put, List.setIfInBounds_toArray, List.set_cons_zero, List.set_cons_succ]
  refine wpAnyH_done (by kernel_rfl) ?_ _
  refine NoPanic.normal ?_
  go_wp2_with fail
  obtain ⟨w2, hw2⟩ : ∃ w2, w1.drew = w2 := ⟨_, rfl⟩
  have m2 : Moves [] w w2 := by rw [← hw2]; exact m1.drew
  rw [hw2]
  clear x2 y2 hw2
  have x2 := m2.cell x1
  have y2 := m2.cell y1
  replace HN1 : Hid (NamsAt w2 (.slice ad n cap) xs) := HN1.out.moves m2
  replace HN2 : Hid (NamsAt w2 (.slice ad' n' cap') ys) := HN2.out.moves m2
  refine region_ssaQ (by kernel_rfl) (fun ix => if ix = 12 then 4 else if ix = 13 then 5 else ix + 32) [4, 5, 32, 33, 34, 35, 36, 37, 38, 39, 40, 41, 42, 43] (fun ix (w : World) (v : Value) => match ix with | 0 => v = .pointer (some ⟨p, 0, none⟩) | 1 => v = .pointer (some ⟨p, 0, none⟩) | 2 => v = .pointer (some ⟨p, 0, none⟩) | 3 => v = .slice ad n cap | 4 => v = .pointer (some ⟨q, 0, none⟩) | 5 => v = .pointer (some ⟨q, 0, none⟩) | 6 => v = .pointer (some ⟨q, 0, none⟩) | 7 => v = .slice ad' n' cap' | 8 => ∃ z, v = .slice (some ⟨z, 0, none⟩) 2 2 ∧ w.heap[z]? = some (.cells #[.slice ad n cap, .slice ad' n' cap'] 24 (0, 0)) ∧ w2.heap.size ≤ z | 9 => ∃ ad n cap, v = .slice ad n cap ∧ GrowN w2 w (.slice ad n cap) (pownL [xs, ys]) | 10 => ∃ ad n cap, v = .agg #[.slice ad n cap] ∧ GrowN w2 w (.slice ad n cap) (pownL [xs, ys]) | 11 => ∃ z b, v = .pointer (some ⟨z, 0, none⟩) ∧ TabIs w2 w z b (pownL [xs, ys]) ∧ w2.heap.size ≤ z | 12 => ∃ z b, v = .pointer (some ⟨z, 0, none⟩) ∧ TabIs w2 w z b (pownL [xs, ys]) ∧ w2.heap.size ≤ z | 13 => v = .int .i64 0 | _ => True) (Moves []) (by kernel_rfl) ?_ ?_ ?_ ((Moves.refl _ _).drew) (fun _ _ _ => Moves.then) (fun ix u u' v h m => ?_) ?_ ?_
  · intro ix hix
    have hix : ix < 14 := hix
    show _ < 44
    try dsimp only
    repeat (first | omega | split)
  · intro ix jx hix hjx hne
    have hix : ix < 14 := hix
    have hjx : jx < 14 := hjx
    try dsimp only
    repeat (first | omega | split)
  · intro ix hix
    have hix : ix < 14 := hix
    match ix, hix with
    | 0, _ => decide
    | 1, _ => decide
    | 2, _ => decide
    | 3, _ => decide
    | 4, _ => decide
    | 5, _ => decide
    | 6, _ => decide
    | 7, _ => decide
    | 8, _ => decide
    | 9, _ => decide
    | 10, _ => decide
    | 11, _ => decide
    | 12, _ => decide
    | 13, _ => decide
    | m + 14, h => exact absurd h (by omega)
  · match ix with
    | 0 => exact h
    | 1 => exact h
    | 2 => exact h
    | 3 => exact h
    | 4 => exact h
    | 5 => exact h
    | 6 => exact h
    | 7 => exact h
    | 8 => exact (by obtain ⟨q, e, hq, hle⟩ := h; exact ⟨q, e, m.at hq (by simp), hle⟩)
    | 9 => exact (by obtain ⟨ad, n, cap, e, hG⟩ := h; exact ⟨ad, n, cap, e, hG.moves0 m⟩)
    | 10 => exact (by obtain ⟨ad, n, cap, e, hG⟩ := h; exact ⟨ad, n, cap, e, hG.moves0 m⟩)
    | 11 => exact (by obtain ⟨q, b, e, hT, hle⟩ := h; exact ⟨q, b, e, hT.moves0 m, hle⟩)
    | 12 => exact (by obtain ⟨q, b, e, hT, hle⟩ := h; exact ⟨q, b, e, hT.moves0 m, hle⟩)
    | 13 => exact h
    | m + 14 => trivial
  · intro ix hix a u hR hsz hold hF K hK
    have hix : ix < 14 := hix
    have c_x2 := (hR).cell x2
    have c_y2 := (hR).cell y2
    match ix, hix with
    | 0, _ =>
      have e0 : a.tmps.getD 0 undef = .pointer (some ⟨p, 0, none⟩) := hold 0 (by intro kk hkk; have hkk : kk < 14 := hkk; (try dsimp only); (repeat (first | omega | split)))
      refine wpOp_val (v := .pointer (some ⟨p, 0, none⟩)) rfl rfl ?_ (hK _ _ rfl (Moves.refl _ _))
      go_simp
      try rfl
    | 1, _ =>
      have e32 : a.tmps.getD 32 undef = .pointer (some ⟨p, 0, none⟩) := hF 0 (by decide) (by kernel_rfl)
      refine wpOp_val (v := .pointer (some ⟨p, 0, none⟩)) rfl rfl ?_ (hK _ _ rfl (Moves.refl _ _))
      go_simp
      try rfl
    | 2, _ =>
      have e33 : a.tmps.getD 33 undef = .pointer (some ⟨p, 0, none⟩) := hF 1 (by decide) (by kernel_rfl)
      refine wpOp_val (v := .pointer (some ⟨p, 0, none⟩)) rfl rfl ?_ (hK _ _ rfl (Moves.refl _ _))
      go_simp
      try rfl
    | 3, _ =>
      have e34 : a.tmps.getD 34 undef = .pointer (some ⟨p, 0, none⟩) := hF 2 (by decide) (by kernel_rfl)
      refine wpOp_val (v := .slice ad n cap) rfl rfl ?_ (hK _ _ rfl (Moves.refl _ _))
      go_simp
      try rfl
    | 4, _ =>
      have e1 : a.tmps.getD 1 undef = .pointer (some ⟨q, 0, none⟩) := hold 1 (by intro kk hkk; have hkk : kk < 14 := hkk; (try dsimp only); (repeat (first | omega | split)))
      refine wpOp_val (v := .pointer (some ⟨q, 0, none⟩)) rfl rfl ?_ (hK _ _ rfl (Moves.refl _ _))
      go_simp
      try rfl
    | 5, _ =>
      have e36 : a.tmps.getD 36 undef = .pointer (some ⟨q, 0, none⟩) := hF 4 (by decide) (by kernel_rfl)
      refine wpOp_val (v := .pointer (some ⟨q, 0, none⟩)) rfl rfl ?_ (hK _ _ rfl (Moves.refl _ _))
      go_simp
      try rfl
    | 6, _ =>
      have e37 : a.tmps.getD 37 undef = .pointer (some ⟨q, 0, none⟩) := hF 5 (by decide) (by kernel_rfl)
      refine wpOp_val (v := .pointer (some ⟨q, 0, none⟩)) rfl rfl ?_ (hK _ _ rfl (Moves.refl _ _))
      go_simp
      try rfl
    | 7, _ =>
      have e38 : a.tmps.getD 38 undef = .pointer (some ⟨q, 0, none⟩) := hF 6 (by decide) (by kernel_rfl)
      refine wpOp_val (v := .slice ad' n' cap') rfl rfl ?_ (hK _ _ rfl (Moves.refl _ _))
      go_simp
      try rfl
    | 8, _ =>
      have e35 : a.tmps.getD 35 undef = .slice ad n cap := hF 3 (by decide) (by kernel_rfl)
      have e39 : a.tmps.getD 39 undef = .slice ad' n' cap' := hF 7 (by decide) (by kernel_rfl)
      exact wpOp_of_wp rfl rfl (wp_buildSlice' 120 24 2 _ rfl [(0, .slice ad n cap), (1, .slice ad' n' cap')] #[.slice ad n cap, .slice ad' n' cap'] (.slice none 0 0) 1 24 nams_info Tryz.underlying120 (by omega) (by omega) (by have := e35; have := e39; simp_all [Act.eval]) (by kernel_rfl) (hK _ _ ⟨u.heap.size, rfl, heap_alloc_new _ _, hR.size⟩ ((Moves.refl _ _).alloc _)))
    | 9, _ =>
      have f40 := hF 8 (by decide) (by kernel_rfl)
      obtain ⟨z, hv, hq, hle⟩ := f40
      have e40 : a.tmps.getD 40 undef = .slice (some ⟨z, 0, none⟩) 2 2 := hv
      clear hv
      refine wpOp_of_wp rfl rfl ?_
      go_simp
      go_at_call 27
      refine (own_w u u z [.slice ad n cap, .slice ad' n' cap'] [xs, ys] hq ⟨HN1.out.moves hR, HN2.out.moves hR, trivial⟩ (Moves.refl _ _) HL.out 2 rfl (by omega)).mono ?_
      rintro _ u2 ⟨ad2, n2, cap2, rfl, hG, m2⟩
      exact hK _ _ ⟨ad2, n2, cap2, rfl, hG.elder hR.size⟩ m2
    | 10, _ =>
      have f41 := hF 9 (by decide) (by kernel_rfl)
      obtain ⟨ad2, n2, cap2, hv, hG⟩ := f41
      have e41 : a.tmps.getD 41 undef = .slice ad2 n2 cap2 := hv
      exact wpOp_of_wp rfl rfl (wp_build' 66 _ rfl [(0, .slice ad2 n2 cap2)] #[.slice ad2 n2 cap2] (by simpa [Act.eval] using e41) (by kernel_rfl) (hK _ _ ⟨ad2, n2, cap2, rfl, hG⟩ (Moves.refl _ _)))
    | 11, _ =>
      have f42 := hF 10 (by decide) (by kernel_rfl)
      obtain ⟨ad2, n2, cap2, hv, hG⟩ := f42
      have e42 : a.tmps.getD 42 undef = .agg #[.slice ad2 n2 cap2] := hv
      exact wpOp_of_wp rfl rfl (wp_box1 _ 42 rfl _ e42 (hK _ _ ⟨u.heap.size, _, rfl, ⟨_, heap_alloc_new _ _, rfl, hG.moves0 ((Moves.refl _ _).alloc _)⟩, hR.size⟩ ((Moves.refl _ _).alloc _)))
    | 12, _ =>
      have f43 := hF 11 (by decide) (by kernel_rfl)
      obtain ⟨z, b, hv, hT, hle⟩ := f43
      have e43 : a.tmps.getD 43 undef = .pointer (some ⟨z, 0, none⟩) := hv
      exact wpOp_of_wp rfl rfl (wp_assign1 43 rfl _ e43 (hK _ _ ⟨z, b, rfl, hT, hle⟩ (Moves.refl _ _)))
    | 13, _ =>
      refine wpOp_val (v := .int .i64 0) rfl rfl ?_ (hK _ _ rfl (Moves.refl _ _))
      go_simp
      try rfl
    | m + 14, h => exact absurd h (by omega)
  intro v u hall hR
  obtain ⟨z, c, e4, hT, hz⟩ := hall 12 (by decide)
  have e5 : v 5 = .int .i64 0 := hall 13 (by decide)
  have e4 : v 4 = .pointer (some ⟨z, 0, none⟩) := e4
  simp only [List.foldl_cons, List.foldl_nil, List.setIfInBounds_toArray, List.set_cons_zero, List.set_cons_succ, e4, e5]
  clear e4 e5 hall
  generalize v 32 = u32
  generalize v 33 = u33
  generalize v 34 = u34
  generalize v 35 = u35
  generalize v 36 = u36
  generalize v 37 = u37
  generalize v 38 = u38
  generalize v 39 = u39
  generalize v 40 = u40
  generalize v 41 = u41
  generalize v 42 = u42
  generalize v 43 = u43
  go_wp2_with fail
  go_ret2
  exact ⟨z, rfl, ⟨c, hT.elder m2.size⟩, Nat.le_trans m2.size hz, m2.then hR⟩
end Go.Proofs.YtcngllcifcpbkaaGreat
