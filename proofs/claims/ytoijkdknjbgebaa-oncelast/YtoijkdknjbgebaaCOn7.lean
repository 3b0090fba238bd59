/-
  OnceLast: of each client the last number that was kept is told again, lower ones are old, greater ones fresh, whatever other clients do. No condition.
-/
import Derived.Test.YtoijkdknjbgebaaCOn6
import Derived.Test.YtoijkdknjbgebaaRows
import Derived.ProofKit
import Derived.OpenShut
import Derived.ChangeOld
namespace Go.Proofs.Ytoijkdknjbgebaa
open Go.RowKit

/-- What the law knows of its cache. -/
structure LastIs (w wr : World) (P Q : Nat) (a : Option Nat) (xs : List Pt) (L : List Int) (k : Nat) : Prop where
  ca : CaIs w wr P a xs
  rise : RiseT xs
  few : xs.length ≤ k
  row : wr.heap[Q]? = some (.cells (L.map fun z => Value.int .i64 z).toArray 55 (0, 0))
  len : L.length = 4
  mv : Moves [] w wr
  at' : ∀ j : Nat, j < 4 → L[j]? = some (ofT xs (j : Int)).s
  say : ∀ j : Nat, j < 4 → (ofT xs (j : Int)).s = 0 ∨ ∃ s : Nat, 1 ≤ s ∧ s ≤ 30 ∧ (ofT xs (j : Int)).s = (s : Int) ∧ (ofT xs (j : Int)).a = strOf [s]
theorem LastIs.cell {w wr : World} {P Q : Nat} {a : Option Nat} {xs : List Pt} {L : List Int} {k : Nat} (h : LastIs w wr P Q a xs L k) {j : Nat} (hj : j < 4) : wr.cell? ⟨Q, j, none⟩ = some (.int .i64 (ofT xs (j : Int)).s) ∧ wr.frozen? ⟨Q, j, none⟩ = false := by
  have e := h.at' j hj
  constructor
  · simp [World.cell?, h.row, e]
  · simp [World.frozen?, h.row]
theorem LastIs.apart {w wr : World} {P Q : Nat} {a : Option Nat} {xs : List Pt} {L : List Int} {k : Nat} (h : LastIs w wr P Q a xs L k) (hPQ : P ≠ Q) : Q ∉ P :: a.toList := by
  intro hm
  rcases List.mem_cons.1 hm with e | e
  · exact hPQ e.symm
  · obtain ⟨v, h1, rfl, h3⟩ := h.ca
    obtain ⟨cur, hc⟩ := h3.blk (Option.mem_toList.1 e)
    rw [h.row] at hc
    simp at hc
theorem LastIs.moves {w wr w' : World} {P Q : Nat} {a : Option Nat} {xs : List Pt} {L : List Int} {k : Nat} (h : LastIs w wr P Q a xs L k) (m : Moves [] wr w') : LastIs w w' P Q a xs L k :=
  ⟨h.ca.moves0 m, h.rise, h.few, m.at h.row (by simp), h.len, h.mv.then m, h.at', h.say⟩
theorem LastIs.step {w wr w2 w3 : World} {P Q : Nat} {a a2 : Option Nat} {xs : List Pt} {L : List Int} {k : Nat} (h : LastIs w wr P Q a xs L k) (hP : w.heap.size ≤ P) (hQ : w.heap.size ≤ Q) (hPQ : P ≠ Q) {r s : Nat} (hr : r < 4) (hs1 : 1 ≤ s) (hs2 : s ≤ 30) (m1 : Moves [] wr w2) (hT : CaTo w w2 P a w3 a2 (keepT xs ⟨(r : Int), (s : Int), strOf [s]⟩)) {z : Int} (hz : z = max (ofT xs (r : Int)).s (s : Int)) :
    LastIs w (w3.setCell ⟨Q, r, none⟩ (.int .i64 z)) P Q a2 (keepT xs ⟨(r : Int), (s : Int), strOf [s]⟩) (L.set r z) (k + 1) := by
  have hQa : Q ∉ P :: a.toList := by
    intro hm
    rcases List.mem_cons.1 hm with e | e
    · exact hPQ e.symm
    · obtain ⟨v, h1, rfl, h3⟩ := h.ca
      obtain ⟨cur, hc⟩ := h3.blk (Option.mem_toList.1 e)
      rw [h.row] at hc
      simp at hc
  have hrow3 := hT.2.1.at (m1.at h.row (by simp)) hQa
  have hne : ∀ c, a2 = some c → c ∉ [Q] := by
    intro c hc hm
    simp at hm
    subst hm
    obtain ⟨v, h1, hv, h3⟩ := hT.1
    obtain ⟨cur, hc2⟩ := h3.blk (hv.trans hc)
    rw [hrow3] at hc2
    simp at hc2
  have ms := moves_set w3 Q r (.int .i64 z)
  have hset := heap_set (i := r) hrow3 (.int .i64 z)
  refine ⟨hT.1.moves ms (by simpa using hPQ) hne, keepT_rise h.rise _, ?_, ?_, by rw [List.length_set]; exact h.len, ?_, ?_, ?_⟩
  · have := keepT_length xs ⟨(r : Int), (s : Int), strOf [s]⟩
    have := h.few
    omega
  · rw [hset]
    congr 2
    simp [List.map_set]
  · exact (ca_moves (h.ca.moves0 m1) hP (Nat.le_refl _) (h.mv.then m1) hT).trans ms (fun x hx => .inr (by simp at hx; omega))
  · intro j hj
    rw [ofT_keep h.rise]
    rw [List.getElem?_set, h.at' j hj]
    by_cases e : r = j
    · subst e
      rw [if_pos rfl, if_pos (by have := h.len; omega), hz]
      by_cases hlt : (ofT xs (r : Int)).s < (s : Int)
      · rw [if_pos ⟨rfl, hlt⟩]
        have : max (ofT xs (r : Int)).s (s : Int) = (s : Int) := by omega
        rw [this]
      · rw [if_neg (fun k => hlt k.2)]
        have : max (ofT xs (r : Int)).s (s : Int) = (ofT xs (r : Int)).s := by omega
        rw [this]
    · rw [if_neg e, if_neg (fun k => e (by have : (r : Int) = (j : Int) := k.1; omega))]
  · intro j hj
    rw [ofT_keep h.rise]
    split
    · exact .inr ⟨s, hs1, hs2, rfl, rfl⟩
    · exact h.say j hj

theorem zbs_str {bs : List Nat} (h : ∀ b ∈ bs, b < 256) : zbs (strOf bs) = bs := by
  unfold zbs strOf
  simp only [List.map_map]
  conv => rhs; rw [← List.map_id bs]
  exact List.map_congr_left fun b hb => UInt8.toNat_ofNat_of_lt (h b hb)
theorem look_own {x : Pt} {s : Nat} (h1 : 1 ≤ s) (hx : x.s = (s : Int)) : lookT x (s : Int) = 2 ∧ lookT x ((s : Int) - 1) = 3 ∧ lookT x ((s : Int) + 1) = 1 := by
  unfold lookT
  rw [hx]
  refine ⟨?_, ?_, ?_⟩
  · rw [if_neg (by omega), if_pos rfl]
  · rw [if_pos (by omega)]
  · rw [if_neg (by omega), if_neg (by omega)]
/-- One byte, as a slice that has it. -/
theorem isB_one {w : World} {g : Nat} {v : Value} {b : Nat} (h : IsB w g v [b]) : ∃ off cap, v = .slice (some ⟨g, off, none⟩) 1 cap ∧ w.cell? ⟨g, off, none⟩ = some (.int .u8 (b : Int)) ∧ 1 ≤ cap := by
  obtain ⟨ad, n, cap, rfl, hn, hc, _, hh⟩ := h
  rcases hh with h0 | ⟨off, rfl, hcell⟩
  · simp at h0
  · simp at hn
    subst hn
    exact ⟨off, cap, rfl, by simpa using hcell 0 b rfl, hc⟩

set_option maxRecDepth 100000 in
set_option maxHeartbeats 16000000 in
theorem onceLast_w (lv : Value) (w : World) (hl : OArgs w lv) : Calls Try.prog 7 #[lv] w fun e w' => e = .returned (.bool true) ∧ Moves [] w w' := by
  obtain ⟨ad, len, cap, rfl, hcap, hargs⟩ := hl
  have HA : Hid (∀ k, k < len → ∃ b off z0 z1 z2 a3 l3 c3 g bs, ad = some ⟨b, off, none⟩ ∧ w.cell? ⟨b, off + k * 4, none⟩ = some (.int .i64 z0) ∧ w.cell? ⟨b, off + k * 4 + 1, none⟩ = some (.int .i64 z1) ∧ w.cell? ⟨b, off + k * 4 + 2, none⟩ = some (.int .i64 z2) ∧ w.cell? ⟨b, off + k * 4 + 3, none⟩ = some (.slice a3 l3 c3) ∧ IsB w g (.slice a3 l3 c3) bs ∧ ∀ z ∈ bs, z < 256) := hargs
  clear hargs
  go_enter Try.func7, Try.ntmps7
  go_wp2_with fail
  refine (onew_w w).mono ?_
  rintro _ w1 ⟨rfl, h1, m1⟩
  obtain ⟨P, hP⟩ : ∃ P, w.heap.size = P := ⟨_, rfl⟩
  rw [hP] at h1 ⊢
  have hb2 := heap_alloc_new w1 (.cells #[.int .i64 0, .int .i64 0, .int .i64 0, .int .i64 0] 55)
  have m2 : Moves [] w1 (w1.alloc (.cells #[.int .i64 0, .int .i64 0, .int .i64 0, .int .i64 0] 55)) := (Moves.refl _ _).alloc _
  obtain ⟨Q, hQ⟩ : ∃ Q, w1.heap.size = Q := ⟨_, rfl⟩
  rw [hQ] at hb2
  have hPQ : P ≠ Q := by have := h1.ltp; omega
  have hQ0 : w.heap.size ≤ Q := by have := m1.size; omega
  have HI : Hid (LastIs w (w1.alloc (.cells #[.int .i64 0, .int .i64 0, .int .i64 0, .int .i64 0] 55)) P Q none [] [0, 0, 0, 0] 0) := ⟨h1.moves0 m2, List.Pairwise.nil, by simp, hb2, rfl, m1.then m2, fun j hj => by
      match j, hj with
      | 0, _ => rfl
      | 1, _ => rfl
      | 2, _ => rfl
      | 3, _ => rfl, fun j hj => .inl rfl⟩
  clear h1 hb2 m2
  go_wp2_with fail
  go_loopw [5] (fun iv wr => ∃ (k : Nat) (a : Option Nat) (xs : List Pt) (L : List Int), k ≤ len ∧ k ≤ 40 ∧ iv = .int .i64 (k : Int) ∧ LastIs w wr P Q a xs L k) (fun iv _ => (40 - intOf iv).toNat)
  case atStart => exact ⟨0, none, [], _, Nat.zero_le _, by omega, rfl, HI.out⟩
  case round =>
    obtain ⟨k, a, xs, L, hk1, hk2, rfl, hI⟩ := hrel
    have HI2 : Hid (LastIs w wr P Q a xs L k) := hI
    clear HI hI
    by_cases hkl : k < len
    · have hkl' : (k : Int) < (len : Int) := by omega
      by_cases hk40 : k < 40
      · have hk40' : (k : Int) < 40 := by omega
        obtain ⟨b, off, z0, z1, z2, a3, l3, c3, g, bs, rfl, -, y1, y2, -, -, -⟩ := HA.out k hkl
        have c1 := HI2.out.mv.cell y1
        have c2 := HI2.out.mv.cell y2
        clear y1 y2
        go_wp2_with fail
        refine (withinA_w z1 0 3 (by omega) (by omega) (by omega) _).mono ?_
        rintro _ _ ⟨r, hr, rfl, rfl⟩
        obtain ⟨r, rfl⟩ : ∃ q : Nat, r = (q : Int) := ⟨r.toNat, by omega⟩
        go_wp2_with fail
        refine (withinA_w z2 1 30 (by omega) (by omega) (by omega) _).mono ?_
        rintro _ _ ⟨s, hs, rfl, rfl⟩
        obtain ⟨s, rfl⟩ : ∃ q : Nat, s = (q : Int) := ⟨s.toNat, by omega⟩
        have hr4 : r < 4 := by omega
        have hr4' : (r : Int) < 4 := by omega
        have hs1 : 1 ≤ s := by omega
        have hs30 : s ≤ 30 := by omega
        obtain ⟨cr, fr⟩ := HI2.out.cell hr4
        obtain ⟨y, hy⟩ : ∃ y, (ofT xs (r : Int)).s = y := ⟨_, rfl⟩
        rw [hy] at cr
        have HY : Hid ((ofT xs (r : Int)).s = y) := hy
        have hu : IntKind.u8.wrap (s : Int) = (s : Int) := by rw [wrap_u8]; omega
        have hlt := HI2.out.ca.ltp
        have HQA : Hid (Q ∉ P :: a.toList) := HI2.out.apart hPQ
        clear hy c1 c2
        go_wp2_with fail
        refine wp_region_noPanic ?_
        refine wp_region_held_drew (S := (fun w' => w'.cell? ⟨Q, r, none⟩ = some (.int .i64 y))) (by kernel_rfl) ?_ (fun hHeld => ?_)
        · first | (go_keep; done) | first | exact cr | exact d1 | exact d2
        refine wpAnyH_take (i := 0) (oi := { dst := some 40, op := Op.move (Operand.tmp 3), type := 22, pos := "law.go:153", after := #[], guard := none }) (v := ?_) rfl (by kernel_rfl) (by kernel_rfl) (by kernel_rfl) (fun _ _ _ h => h) (Or.inl ⟨by rfl, ?_⟩) (by assumption) ?_
        rotate_left
        · (intro w hSw; (try dsimp only at hSw); go_simp; try (with_reducible rfl))
        try simp only [Act.put, List.setIfInBounds_toArray, List.set_cons_zero, List.set_cons_succ]
        refine wpAnyH_take (i := 1) (oi := { dst := some 41, op := Op.move (Operand.tmp 6), type := 3, pos := "law.go:153", after := #[], guard := none }) (v := ?_) rfl (by kernel_rfl) (by kernel_rfl) (by kernel_rfl) (fun _ _ _ h => h) (Or.inl ⟨by rfl, ?_⟩) (by assumption) ?_
        rotate_left
        · (intro w hSw; (try dsimp only at hSw); go_simp; try (with_reducible rfl))
        try simp only [Act.put, List.setIfInBounds_toArray, List.set_cons_zero, List.set_cons_succ]
        refine wpAnyH_take (i := 2) (oi := { dst := some 42, op := Op.move (Operand.tmp 7), type := 3, pos := "law.go:153", after := #[], guard := none }) (v := ?_) rfl (by kernel_rfl) (by kernel_rfl) (by kernel_rfl) (fun _ _ _ h => h) (Or.inl ⟨by rfl, ?_⟩) (by assumption) ?_
        rotate_left
        · (intro w hSw; (try dsimp only at hSw); go_simp; try (with_reducible rfl))
        try simp only [Act.put, List.setIfInBounds_toArray, List.set_cons_zero, List.set_cons_succ]
        refine wpAnyH_take (i := 3) (oi := { dst := some 43, op := Op.move (Operand.tmp 7), type := 3, pos := "law.go:153", after := #[], guard := none }) (v := ?_) rfl (by kernel_rfl) (by kernel_rfl) (by kernel_rfl) (fun _ _ _ h => h) (Or.inl ⟨by rfl, ?_⟩) (by assumption) ?_
        rotate_left
        · (intro w hSw; (try dsimp only at hSw); go_simp; try (with_reducible rfl))
        try simp only [Act.put, List.setIfInBounds_toArray, List.set_cons_zero, List.set_cons_succ]
        refine wpAnyH_take (i := 4) (oi := { dst := some 44, op := Op.convert 3 5 (Operand.tmp 43), type := 5, pos := "law.go:153", after := #[{ on := 3, ground := Ground.data }], guard := none }) (v := ?_) rfl (by kernel_rfl) (by kernel_rfl) (by kernel_rfl) (fun _ _ _ h => h) (Or.inl ⟨by rfl, ?_⟩) (by assumption) ?_
        rotate_left
        · (intro w hSw; (try dsimp only at hSw); go_simp; try (with_reducible rfl))
        try simp only [Act.put, List.setIfInBounds_toArray, List.set_cons_zero, List.set_cons_succ]
        refine wpAnyH_take (i := 7) (oi := { dst := some 47, op := Op.move (Operand.tmp 7), type := 3, pos := "law.go:153", after := #[], guard := none }) (v := ?_) rfl (by kernel_rfl) (by kernel_rfl) (by kernel_rfl) (fun _ _ _ h => h) (Or.inl ⟨by rfl, ?_⟩) (by assumption) ?_
        rotate_left
        · (intro w hSw; (try dsimp only at hSw); go_simp; try (with_reducible rfl))
        try simp only [Act.put, List.setIfInBounds_toArray, List.set_cons_zero, List.set_cons_succ]
        refine wpAnyH_take (i := 8) (oi := { dst := some 48, op := Op.move (Operand.tmp 6), type := 3, pos := "law.go:153", after := #[], guard := none }) (v := ?_) rfl (by kernel_rfl) (by kernel_rfl) (by kernel_rfl) (fun _ _ _ h => h) (Or.inl ⟨by rfl, ?_⟩) (by assumption) ?_
        rotate_left
        · (intro w hSw; (try dsimp only at hSw); go_simp; try (with_reducible rfl))
        try simp only [Act.put, List.setIfInBounds_toArray, List.set_cons_zero, List.set_cons_succ]
        refine wpAnyH_take (i := 9) (oi := { dst := some 49, op := Op.indexAddr 55 (Operand.tmp 4) (Operand.tmp 48), type := 0, pos := "law.go:153", after := #[{ on := 8, ground := Ground.data }], guard := none }) (v := ?_) rfl (by kernel_rfl) (by kernel_rfl) (by kernel_rfl) (fun _ _ _ h => h) (Or.inl ⟨by rfl, ?_⟩) (by assumption) ?_
        rotate_left
        · (intro w hSw; (try dsimp only at hSw); go_simp; try (with_reducible rfl))
        try simp only [Act.put, List.setIfInBounds_toArray, List.set_cons_zero, List.set_cons_succ]
        refine wpAnyH_take (i := 10) (oi := { dst := some 50, op := Op.load 3 (Operand.tmp 49), type := 3, pos := "law.go:153", after := #[{ on := 9, ground := Ground.data }], guard := none }) (v := ?_) rfl (by kernel_rfl) (by kernel_rfl) (by kernel_rfl) (fun _ _ _ h => h) (Or.inl ⟨by rfl, ?_⟩) (by assumption) ?_
        rotate_left
        · (intro w hSw; (try dsimp only at hSw); go_simp; try (with_reducible rfl))
        try simp only [Act.put, List.setIfInBounds_toArray, List.set_cons_zero, List.set_cons_succ]
        refine wpAnyH_take (i := 11) (oi := { dst := some 51, op := Op.binOp BinOp.gtr 3 (Operand.tmp 47) (Operand.tmp 50) 3, type := 4, pos := "law.go:153", after := #[{ on := 7, ground := Ground.data }, { on := 10, ground := Ground.data }], guard := none }) (v := ?_) rfl (by kernel_rfl) (by kernel_rfl) (by kernel_rfl) (fun _ _ _ h => h) (Or.inl ⟨by rfl, ?_⟩) (by assumption) ?_
        rotate_left
        · (intro w hSw; (try dsimp only at hSw); go_simp; try (with_reducible rfl))
        try simp only [Act.put, List.setIfInBounds_toArray, List.set_cons_zero, List.set_cons_succ]
        refine wpAnyH_ready (rs := [5]) (by kernel_rfl) (by simp) ?_
        refine AllReadyH.cons (o := { dst := some 45, op := Op.buildSlice 26 1 #[(0, Operand.tmp 44)], type := 26, pos := "law.go:153", after := #[{ on := 4, ground := Ground.data }], guard := none }) rfl (fun K hK => ?_) AllReadyH.nil
        go_simp
        have m5 : Moves [] wr (wr.alloc (.cells #[.int .u8 (s : Int)] 5)).drew := ((Moves.refl [] wr).alloc _).drew
        have d1 := m5.cell cr
        have hN : IsB (wr.alloc (.cells #[.int .u8 (s : Int)] 5)).drew wr.heap.size (.slice (some ⟨wr.heap.size, 0, none⟩) 1 1) [s] := (has_new wr s).moves ((Moves.refl [] _).drew) (by simp)
        refine hK.out _ _ ?_ (fun hHeld => ?_)
        · first | exact cr | exact d1 | exact d2
        clear hK K
        try simp only [Act.put, List.setIfInBounds_toArray, List.set_cons_zero, List.set_cons_succ]
        refine wpAnyH_ready (rs := [6]) (by kernel_rfl) (by simp) ?_
        refine AllReadyH.cons (o := { dst := some 46, op := Op.call { callee := Callee.value (Operand.func 9), args := #[Operand.tmp 40, Operand.tmp 41, Operand.tmp 42, Operand.tmp 45], argTypes := #[22, 3, 3, 26] }, type := 4, pos := "law.go:153", after := #[{ on := 0, ground := Ground.data }, { on := 1, ground := Ground.data }, { on := 2, ground := Ground.data }, { on := 5, ground := Ground.data }], guard := none }) rfl (fun K hK => ?_) AllReadyH.nil
        go_simp
        (go_at_call 9; refine (okeep_w w _ P a xs (r : Int) (s : Int) _ wr.heap.size [s] (HI2.out.ca.moves0 m5) HI2.out.rise (by have := HI2.out.few; omega) hN (by simp; omega) (by have := HI2.out.mv.size; have := m5.size; omega)).mono ?_; rintro _ w6 ⟨rfl, a6, hT6⟩)
        have hmay : mayK (r : Int) (s : Int) [s].length = true := mayK_iff.2 ⟨by omega, by omega, by omega, by omega, by simp⟩
        rw [hmay, HY.out, Bool.true_and]
        rw [hmay, if_pos rfl] at hT6
        have hQa : Q ∉ P :: a.toList := HQA.out
        have d2 := hT6.2.1.cellOf d1 hQa
        have d3 := hT6.2.1.frozenOf d1 hQa (m5.frozenOf cr (by simp) fr)
        refine hK.out _ _ ?_ (fun hHeld => ?_)
        · first | exact cr | exact d1 | exact d2
        clear hK K
        try simp only [Act.put, List.setIfInBounds_toArray, List.set_cons_zero, List.set_cons_succ]
        refine wpAnyH_take (i := 12) (oi := { dst := some 52, op := Op.binOp BinOp.neq 4 (Operand.tmp 46) (Operand.tmp 51) 4, type := 4, pos := "law.go:153", after := #[{ on := 6, ground := Ground.data }, { on := 11, ground := Ground.data }], guard := none }) (v := ?_) rfl (by kernel_rfl) (by kernel_rfl) (by kernel_rfl) (fun _ _ _ h => h) (Or.inl ⟨by rfl, ?_⟩) (by assumption) ?_
        rotate_left
        · (intro w hSw; (try dsimp only at hSw); go_simp; try (with_reducible rfl))
        try simp only [Act.put, List.setIfInBounds_toArray, List.set_cons_zero, List.set_cons_succ]
        refine wpAnyH_done (by kernel_rfl) ?_ _
        refine NoPanic.normal ?_
        go_wp2_with fail
        obtain ⟨wi, hwi⟩ : ∃ wi, w6.setCell ⟨Q, r, none⟩ (.int .i64 (max y (s : Int))) = wi := ⟨_, rfl⟩
        obtain ⟨ys, hys⟩ : ∃ ys, keepT xs ⟨(r : Int), (s : Int), strOf [s]⟩ = ys := ⟨_, rfl⟩
        have HS : Hid (∃ L', LastIs w wi P Q a6 ys L' (k + 1)) := by
          refine ⟨L.set r (max y (s : Int)), ?_⟩
          rw [← hwi, ← hys]
          exact HI2.out.step (by omega) hQ0 hPQ hr4 hs1 hs30 m5 hT6 (by rw [HY.out])
        rw [hwi]
        obtain ⟨L', hS'⟩ := HS.out
        have HS2 : Hid (LastIs w wi P Q a6 ys L' (k + 1)) := hS'
        have hk41 : k + 1 ≤ 1000000 := by omega
        clear hwi hys HS hS' HI2 HY hT6 d1 d2 d3 cr fr hN m5 HQA hu hmay hQa HA
        go_loopw [8] (fun jv wj => ∃ j : Nat, j ≤ 4 ∧ jv = .int .i64 (j : Int) ∧ Moves [] wi wj) (fun jv _ => (4 - intOf jv).toNat)
        case atStart => exact ⟨0, by omega, rfl, Moves.refl _ _⟩
        case round =>
          obtain ⟨j, hj4, rfl, mj⟩ := hrel
          by_cases hj : j < 4
          · have hj' : (j : Int) < 4 := by omega
            have HJ : Hid (LastIs w wr P Q a6 ys L' (k + 1)) := HS2.out.moves mj
            obtain ⟨cj, -⟩ := HJ.out.cell hj
            rcases HJ.out.say j hj with h0 | ⟨t, ht1, ht30, hts, hta⟩
            · rw [h0] at cj
              go_wp2_with fail
              go_roundw
              case rel => exact ⟨j + 1, by omega, by go_num, mj⟩
              case measure => simp [intOf]; omega
            · rw [hts] at cj
              obtain ⟨e1, e2, e3⟩ := look_own (x := ofT ys (j : Int)) ht1 hts
              have es : sayT (ofT ys (j : Int)) (t : Int) = [t] := by
                unfold sayT
                rw [e1, hta, if_pos rfl]
                exact zbs_str (by simp; omega)
              have hfew : ys.length ≤ 1000000 := by have := HJ.out.few; omega
              have hl1 := fun w' (m : Moves [] wr w') => olook_w w w' P a6 ys (j : Int) (t : Int) (HJ.out.ca.moves0 m) HJ.out.rise hfew
              have hl2 := fun w' (m : Moves [] wr w') => olook_w w w' P a6 ys (j : Int) ((t : Int) - 1) (HJ.out.ca.moves0 m) HJ.out.rise hfew
              have hl3 := fun w' (m : Moves [] wr w') => olook_w w w' P a6 ys (j : Int) ((t : Int) + 1) (HJ.out.ca.moves0 m) HJ.out.rise hfew
              rw [e1, es] at hl1
              rw [e2] at hl2
              rw [e3] at hl3
              have ht1' : (1 : Int) ≤ (t : Int) := by omega
              have ht30' : (t : Int) ≤ 30 := by omega
              have ht0 : ¬ (t : Int) = 0 := by omega
              have hwt : IntKind.i64.wrap (t : Int) = (t : Int) := by rw [IntWalk.i64_in _ (by omega)]
              clear e1 e2 e3 es hta
              go_wp2_with fail
              refine (hl1 _ (Moves.refl _ _)).mono ?_
              rintro _ w7 ⟨v7, g9, rfl, hB7, m7, -⟩
              have cj7 := m7.cell cj
              go_wp2_with fail
              refine (hl2 _ m7).mono ?_
              rintro _ w8 ⟨v8, g8, rfl, -, m8, -⟩
              have cj8 := m8.cell cj7
              go_wp2_with fail
              refine (hl3 _ (m7.then m8)).mono ?_
              rintro _ w9 ⟨v9, g9', rfl, -, m9, -⟩
              have c9 := m9.cell cj8
              obtain ⟨off9, cap9, rfl, v9c, hc9⟩ := isB_one (hB7.moves (m8.then m9) (by simp))
              clear hl1 hl2 hl3 cj cj7 cj8
              go_wp2_with fail
              refine wp_region_noPanic ?_
              refine wp_region_held_drew (S := (fun w' => w'.cell? ⟨g9, off9, none⟩ = some (.int .u8 (t : Int)) ∧ w'.cell? ⟨Q, j, none⟩ = some (.int .i64 (t : Int)))) (by kernel_rfl) ?_ (fun hHeld => ?_)
              · first | (go_keep; done) | exact ⟨v9c, c9⟩
              refine wpAnyH_take (i := 0) (oi := { dst := some 97, op := Op.move (Operand.tmp 10), type := 3, pos := "law.go:164", after := #[], guard := none }) (v := ?_) rfl (by kernel_rfl) (by kernel_rfl) (by kernel_rfl) (fun _ _ _ h => h) (Or.inl ⟨by rfl, ?_⟩) (by assumption) ?_
              rotate_left
              · (intro w hSw; (try dsimp only at hSw); go_simp; try (with_reducible rfl))
              try simp only [Act.put, List.setIfInBounds_toArray, List.set_cons_zero, List.set_cons_succ]
              refine wpAnyH_take (i := 1) (oi := { dst := some 98, op := Op.binOp BinOp.neq 3 (Operand.tmp 97) (Operand.const (Value.int IntKind.i64 2)) 3, type := 4, pos := "law.go:164", after := #[{ on := 0, ground := Ground.data }], guard := none }) (v := ?_) rfl (by kernel_rfl) (by kernel_rfl) (by kernel_rfl) (fun _ _ _ h => h) (Or.inl ⟨by rfl, ?_⟩) (by assumption) ?_
              rotate_left
              · (intro w hSw; (try dsimp only at hSw); go_simp; try (with_reducible rfl))
              try simp only [Act.put, List.setIfInBounds_toArray, List.set_cons_zero, List.set_cons_succ]
              refine wpAnyH_take (i := 2) (oi := { dst := some 99, op := Op.move (Operand.tmp 98), type := 4, pos := "law.go:164", after := #[{ on := 1, ground := Ground.data }], guard := none }) (v := ?_) rfl (by kernel_rfl) (by kernel_rfl) (by kernel_rfl) (fun _ _ _ h => h) (Or.inl ⟨by rfl, ?_⟩) (by assumption) ?_
              rotate_left
              · (intro w hSw; (try dsimp only at hSw); go_simp; try (with_reducible rfl))
              try simp only [Act.put, List.setIfInBounds_toArray, List.set_cons_zero, List.set_cons_succ]
              refine wpAnyH_take (i := 3) (oi := { dst := some 100, op := Op.move (Operand.tmp 9), type := 26, pos := "law.go:164", after := #[{ on := 2, ground := Ground.guard }], guard := some (2, false) }) (v := ?_) rfl (by kernel_rfl) (by kernel_rfl) (by kernel_rfl) (fun _ _ _ h => h) (Or.inl ⟨by rfl, ?_⟩) (by assumption) ?_
              rotate_left
              · (intro w hSw; (try dsimp only at hSw); go_simp; try (with_reducible rfl))
              try simp only [Act.put, List.setIfInBounds_toArray, List.set_cons_zero, List.set_cons_succ]
              refine wpAnyH_take (i := 4) (oi := { dst := some 101, op := Op.call { callee := Callee.builtin Builtin.len, args := #[Operand.tmp 100], argTypes := #[26] }, type := 3, pos := "law.go:164", after := #[{ on := 3, ground := Ground.data }, { on := 2, ground := Ground.guard }], guard := some (2, false) }) (v := ?_) rfl (by kernel_rfl) (by kernel_rfl) (by kernel_rfl) (fun _ _ _ h => h) (Or.inl ⟨by rfl, ?_⟩) (by assumption) ?_
              rotate_left
              · (intro w hSw; (try dsimp only at hSw); go_simp; try (with_reducible rfl))
              try simp only [Act.put, List.setIfInBounds_toArray, List.set_cons_zero, List.set_cons_succ]
              refine wpAnyH_take (i := 5) (oi := { dst := some 102, op := Op.binOp BinOp.neq 3 (Operand.tmp 101) (Operand.const (Value.int IntKind.i64 1)) 3, type := 4, pos := "law.go:164", after := #[{ on := 4, ground := Ground.data }, { on := 2, ground := Ground.guard }], guard := some (2, false) }) (v := ?_) rfl (by kernel_rfl) (by kernel_rfl) (by kernel_rfl) (fun _ _ _ h => h) (Or.inl ⟨by rfl, ?_⟩) (by assumption) ?_
              rotate_left
              · (intro w hSw; (try dsimp only at hSw); go_simp; try (with_reducible rfl))
              try simp only [Act.put, List.setIfInBounds_toArray, List.set_cons_zero, List.set_cons_succ]
              refine wpAnyH_take (i := 6) (oi := { dst := some 103, op := Op.pick (Operand.tmp 99) (Operand.const (Value.bool true)) (Operand.tmp 102), type := 4, pos := "law.go:164", after := #[{ on := 2, ground := Ground.data }, { on := 5, ground := Ground.data }], guard := none }) (v := ?_) rfl (by kernel_rfl) (by kernel_rfl) (by kernel_rfl) (fun _ _ _ h => h) (Or.inl ⟨by rfl, ?_⟩) (by assumption) ?_
              rotate_left
              · (intro w hSw; (try dsimp only at hSw); go_simp; try (with_reducible rfl))
              try simp only [Act.put, List.setIfInBounds_toArray, List.set_cons_zero, List.set_cons_succ]
              refine wpAnyH_take (i := 7) (oi := { dst := some 104, op := Op.move (Operand.tmp 103), type := 4, pos := "law.go:164", after := #[{ on := 6, ground := Ground.data }, { on := 2, ground := Ground.chain }], guard := none }) (v := ?_) rfl (by kernel_rfl) (by kernel_rfl) (by kernel_rfl) (fun _ _ _ h => h) (Or.inl ⟨by rfl, ?_⟩) (by assumption) ?_
              rotate_left
              · (intro w hSw; (try dsimp only at hSw); go_simp; try (with_reducible rfl))
              try simp only [Act.put, List.setIfInBounds_toArray, List.set_cons_zero, List.set_cons_succ]
              refine wpAnyH_take (i := 8) (oi := { dst := some 105, op := Op.move (Operand.tmp 9), type := 26, pos := "law.go:164", after := #[{ on := 7, ground := Ground.guard }], guard := some (7, false) }) (v := ?_) rfl (by kernel_rfl) (by kernel_rfl) (by kernel_rfl) (fun _ _ _ h => h) (Or.inl ⟨by rfl, ?_⟩) (by assumption) ?_
              rotate_left
              · (intro w hSw; (try dsimp only at hSw); go_simp; try (with_reducible rfl))
              try simp only [Act.put, List.setIfInBounds_toArray, List.set_cons_zero, List.set_cons_succ]
              refine wpAnyH_take (i := 9) (oi := { dst := some 106, op := Op.indexAddr 26 (Operand.tmp 105) (Operand.const (Value.int IntKind.i64 0)), type := 0, pos := "law.go:164", after := #[{ on := 8, ground := Ground.data }, { on := 7, ground := Ground.guard }], guard := some (7, false) }) (v := ?_) rfl (by kernel_rfl) (by kernel_rfl) (by kernel_rfl) (fun _ _ _ h => h) (Or.inl ⟨by rfl, ?_⟩) (by assumption) ?_
              rotate_left
              · (intro w hSw; (try dsimp only at hSw); go_simp; try (with_reducible rfl))
              try simp only [Act.put, List.setIfInBounds_toArray, List.set_cons_zero, List.set_cons_succ]
              refine wpAnyH_take (i := 10) (oi := { dst := some 107, op := Op.load 5 (Operand.tmp 106), type := 5, pos := "law.go:164", after := #[{ on := 9, ground := Ground.data }, { on := 7, ground := Ground.guard }], guard := some (7, false) }) (v := ?_) rfl (by kernel_rfl) (by kernel_rfl) (by kernel_rfl) (fun _ _ _ h => h) (Or.inl ⟨by rfl, ?_⟩) (by assumption) ?_
              rotate_left
              · (intro w hSw; (try dsimp only at hSw); go_simp; try (with_reducible rfl))
              try simp only [Act.put, List.setIfInBounds_toArray, List.set_cons_zero, List.set_cons_succ]
              refine wpAnyH_take (i := 11) (oi := { dst := some 108, op := Op.convert 5 3 (Operand.tmp 107), type := 3, pos := "law.go:164", after := #[{ on := 10, ground := Ground.data }, { on := 7, ground := Ground.guard }], guard := some (7, false) }) (v := ?_) rfl (by kernel_rfl) (by kernel_rfl) (by kernel_rfl) (fun _ _ _ h => h) (Or.inl ⟨by rfl, ?_⟩) (by assumption) ?_
              rotate_left
              · (intro w hSw; (try dsimp only at hSw); go_simp; try (with_reducible rfl))
              try simp only [Act.put, List.setIfInBounds_toArray, List.set_cons_zero, List.set_cons_succ]
              refine wpAnyH_take (i := 12) (oi := { dst := some 109, op := Op.move (Operand.tmp 8), type := 3, pos := "law.go:164", after := #[{ on := 7, ground := Ground.guard }], guard := some (7, false) }) (v := ?_) rfl (by kernel_rfl) (by kernel_rfl) (by kernel_rfl) (fun _ _ _ h => h) (Or.inl ⟨by rfl, ?_⟩) (by assumption) ?_
              rotate_left
              · (intro w hSw; (try dsimp only at hSw); go_simp; try (with_reducible rfl))
              try simp only [Act.put, List.setIfInBounds_toArray, List.set_cons_zero, List.set_cons_succ]
              refine wpAnyH_take (i := 13) (oi := { dst := some 110, op := Op.indexAddr 55 (Operand.tmp 4) (Operand.tmp 109), type := 0, pos := "law.go:164", after := #[{ on := 12, ground := Ground.data }, { on := 7, ground := Ground.guard }], guard := some (7, false) }) (v := ?_) rfl (by kernel_rfl) (by kernel_rfl) (by kernel_rfl) (fun _ _ _ h => h) (Or.inl ⟨by rfl, ?_⟩) (by assumption) ?_
              rotate_left
              · (intro w hSw; (try dsimp only at hSw); go_simp; try (with_reducible rfl))
              try simp only [Act.put, List.setIfInBounds_toArray, List.set_cons_zero, List.set_cons_succ]
              refine wpAnyH_take (i := 14) (oi := { dst := some 111, op := Op.load 3 (Operand.tmp 110), type := 3, pos := "law.go:164", after := #[{ on := 13, ground := Ground.data }, { on := 7, ground := Ground.guard }], guard := some (7, false) }) (v := ?_) rfl (by kernel_rfl) (by kernel_rfl) (by kernel_rfl) (fun _ _ _ h => h) (Or.inl ⟨by rfl, ?_⟩) (by assumption) ?_
              rotate_left
              · (intro w hSw; (try dsimp only at hSw); go_simp; try (with_reducible rfl))
              try simp only [Act.put, List.setIfInBounds_toArray, List.set_cons_zero, List.set_cons_succ]
              refine wpAnyH_take (i := 15) (oi := { dst := some 112, op := Op.binOp BinOp.neq 3 (Operand.tmp 108) (Operand.tmp 111) 3, type := 4, pos := "law.go:164", after := #[{ on := 11, ground := Ground.data }, { on := 14, ground := Ground.data }, { on := 7, ground := Ground.guard }], guard := some (7, false) }) (v := ?_) rfl (by kernel_rfl) (by kernel_rfl) (by kernel_rfl) (fun _ _ _ h => h) (Or.inl ⟨by rfl, ?_⟩) (by assumption) ?_
              rotate_left
              · (intro w hSw; (try dsimp only at hSw); go_simp; try (with_reducible rfl))
              try simp only [Act.put, List.setIfInBounds_toArray, List.set_cons_zero, List.set_cons_succ]
              refine wpAnyH_take (i := 16) (oi := { dst := some 113, op := Op.pick (Operand.tmp 104) (Operand.const (Value.bool true)) (Operand.tmp 112), type := 4, pos := "law.go:164", after := #[{ on := 7, ground := Ground.data }, { on := 15, ground := Ground.data }], guard := none }) (v := ?_) rfl (by kernel_rfl) (by kernel_rfl) (by kernel_rfl) (fun _ _ _ h => h) (Or.inl ⟨by rfl, ?_⟩) (by assumption) ?_
              rotate_left
              · (intro w hSw; (try dsimp only at hSw); go_simp; try (with_reducible rfl))
              try simp only [Act.put, List.setIfInBounds_toArray, List.set_cons_zero, List.set_cons_succ]
              refine wpAnyH_take (i := 17) (oi := { dst := some 114, op := Op.move (Operand.tmp 113), type := 4, pos := "law.go:164", after := #[{ on := 16, ground := Ground.data }, { on := 7, ground := Ground.chain }], guard := none }) (v := ?_) rfl (by kernel_rfl) (by kernel_rfl) (by kernel_rfl) (fun _ _ _ h => h) (Or.inl ⟨by rfl, ?_⟩) (by assumption) ?_
              rotate_left
              · (intro w hSw; (try dsimp only at hSw); go_simp; try (with_reducible rfl))
              try simp only [Act.put, List.setIfInBounds_toArray, List.set_cons_zero, List.set_cons_succ]
              refine wpAnyH_take (i := 18) (oi := { dst := some 115, op := Op.move (Operand.tmp 12), type := 3, pos := "law.go:164", after := #[{ on := 17, ground := Ground.guard }], guard := some (17, false) }) (v := ?_) rfl (by kernel_rfl) (by kernel_rfl) (by kernel_rfl) (fun _ _ _ h => h) (Or.inl ⟨by rfl, ?_⟩) (by assumption) ?_
              rotate_left
              · (intro w hSw; (try dsimp only at hSw); go_simp; try (with_reducible rfl))
              try simp only [Act.put, List.setIfInBounds_toArray, List.set_cons_zero, List.set_cons_succ]
              refine wpAnyH_take (i := 19) (oi := { dst := some 116, op := Op.binOp BinOp.neq 3 (Operand.tmp 115) (Operand.const (Value.int IntKind.i64 3)) 3, type := 4, pos := "law.go:164", after := #[{ on := 18, ground := Ground.data }, { on := 17, ground := Ground.guard }], guard := some (17, false) }) (v := ?_) rfl (by kernel_rfl) (by kernel_rfl) (by kernel_rfl) (fun _ _ _ h => h) (Or.inl ⟨by rfl, ?_⟩) (by assumption) ?_
              rotate_left
              · (intro w hSw; (try dsimp only at hSw); go_simp; try (with_reducible rfl))
              try simp only [Act.put, List.setIfInBounds_toArray, List.set_cons_zero, List.set_cons_succ]
              refine wpAnyH_take (i := 20) (oi := { dst := some 117, op := Op.pick (Operand.tmp 114) (Operand.const (Value.bool true)) (Operand.tmp 116), type := 4, pos := "law.go:164", after := #[{ on := 17, ground := Ground.data }, { on := 19, ground := Ground.data }], guard := none }) (v := ?_) rfl (by kernel_rfl) (by kernel_rfl) (by kernel_rfl) (fun _ _ _ h => h) (Or.inl ⟨by rfl, ?_⟩) (by assumption) ?_
              rotate_left
              · (intro w hSw; (try dsimp only at hSw); go_simp; try (with_reducible rfl))
              try simp only [Act.put, List.setIfInBounds_toArray, List.set_cons_zero, List.set_cons_succ]
              refine wpAnyH_take (i := 21) (oi := { dst := some 118, op := Op.move (Operand.tmp 117), type := 4, pos := "law.go:164", after := #[{ on := 20, ground := Ground.data }, { on := 17, ground := Ground.chain }], guard := none }) (v := ?_) rfl (by kernel_rfl) (by kernel_rfl) (by kernel_rfl) (fun _ _ _ h => h) (Or.inl ⟨by rfl, ?_⟩) (by assumption) ?_
              rotate_left
              · (intro w hSw; (try dsimp only at hSw); go_simp; try (with_reducible rfl))
              try simp only [Act.put, List.setIfInBounds_toArray, List.set_cons_zero, List.set_cons_succ]
              refine wpAnyH_take (i := 22) (oi := { dst := some 119, op := Op.move (Operand.tmp 14), type := 3, pos := "law.go:164", after := #[{ on := 21, ground := Ground.guard }], guard := some (21, false) }) (v := ?_) rfl (by kernel_rfl) (by kernel_rfl) (by kernel_rfl) (fun _ _ _ h => h) (Or.inl ⟨by rfl, ?_⟩) (by assumption) ?_
              rotate_left
              · (intro w hSw; (try dsimp only at hSw); go_simp; try (with_reducible rfl))
              try simp only [Act.put, List.setIfInBounds_toArray, List.set_cons_zero, List.set_cons_succ]
              refine wpAnyH_take (i := 23) (oi := { dst := some 120, op := Op.binOp BinOp.neq 3 (Operand.tmp 119) (Operand.const (Value.int IntKind.i64 1)) 3, type := 4, pos := "law.go:164", after := #[{ on := 22, ground := Ground.data }, { on := 21, ground := Ground.guard }], guard := some (21, false) }) (v := ?_) rfl (by kernel_rfl) (by kernel_rfl) (by kernel_rfl) (fun _ _ _ h => h) (Or.inl ⟨by rfl, ?_⟩) (by assumption) ?_
              rotate_left
              · (intro w hSw; (try dsimp only at hSw); go_simp; try (with_reducible rfl))
              try simp only [Act.put, List.setIfInBounds_toArray, List.set_cons_zero, List.set_cons_succ]
              refine wpAnyH_take (i := 24) (oi := { dst := some 121, op := Op.pick (Operand.tmp 118) (Operand.const (Value.bool true)) (Operand.tmp 120), type := 4, pos := "law.go:164", after := #[{ on := 21, ground := Ground.data }, { on := 23, ground := Ground.data }], guard := none }) (v := ?_) rfl (by kernel_rfl) (by kernel_rfl) (by kernel_rfl) (fun _ _ _ h => h) (Or.inl ⟨by rfl, ?_⟩) (by assumption) ?_
              rotate_left
              · (intro w hSw; (try dsimp only at hSw); go_simp; try (with_reducible rfl))
              try simp only [Act.put, List.setIfInBounds_toArray, List.set_cons_zero, List.set_cons_succ]
              refine wpAnyH_done (by kernel_rfl) ?_ _
              refine NoPanic.normal ?_
              go_wp2_with fail
              go_roundw
              case rel => exact ⟨j + 1, by omega, by go_num, (((mj.then m7).then m8).then m9).drew⟩
              case measure => simp [intOf]; omega
          · have hj' : ¬ (j : Int) < 4 := by omega
            go_wp2_with fail
            go_roundw
            case rel => exact ⟨k + 1, a6, ys, L', by omega, by omega, by go_num, HS2.out.moves mj⟩
            case measure => simp [intOf]; omega
      · have hk40' : ¬ (k : Int) < 40 := by omega
        go_wp2_with (go_at_call 21; refine (known9_w _).mono ?_; rintro _ w5 ⟨rfl, m5⟩)
        go_ret
        exact ⟨rfl, HI2.out.mv.then m5⟩
    · have hkl' : ¬ (k : Int) < (len : Int) := by omega
      go_wp2_with (go_at_call 21; refine (known9_w _).mono ?_; rintro _ w5 ⟨rfl, m5⟩)
      go_ret
      exact ⟨rfl, HI2.out.mv.then m5⟩

open Go.ChangeShapes Go.WideShapes Go.ChangeAt
set_option linter.unusedVariables false
theorem ol_own : ownKnob Try.prog.godebug = none := by kernel_rfl
theorem ol_laidOut : laidOutB Try.prog = true := by kernel_rfl

set_option maxRecDepth 100000 in
theorem ol_lifted (os : Os) (started : os.Started) (H : Type) (enc : TypeId × Value → H) :
    ReturnsInHanded {} Try.checked os 7 .any (Rows.onceLastSpec.pre6 enc Try.prog Try.f7 Rows.onceLastRow.domain false) (Rows.onceLastSpec.post enc Try.prog Try.f7 false true false false) := by
  refine returnsInHanded_of_change (C := Try.checked) ol_own started (by kernel_rfl) Try.func7
    (ChangeSpec.witness6 (enc := enc) (C := Try.checked) false ⟨#[], #[.slice none 0 0], []⟩ 8 (by kernel_rfl) (by kernel_rfl) (by kernel_rfl) (by kernel_rfl)) ?_
  intro W base args ds gs before hval0 hW hcnd _
  have hval : ∀ (j : Nat) t v, Try.f7.params[j]? = some t → args[j]? = some v → Value.okWide Try.prog W .any base t v := hval0
  have hW' := hW
  obtain ⟨p, q, hA0, hV, rfl, hfz, hnd⟩ := hW
  have hA : DataW.TrodAll enc Try.prog W 0 (fun _ => true) true Try.f7.params.toList args.toList ds p := hA0
  rw [Try.params7] at hA hval
  obtain ⟨v0, vs0, d0, ds0, p0, q0, hargs, rfl, rfl, h0, r0⟩ := trodAll_cons hA
  obtain ⟨rfl, rfl, rfl⟩ := trodAll_nil r0
  obtain rfl : args = #[v0] := by cases args; simp_all
  obtain ⟨rfl, rfl⟩ := trodVars_none hV
  have k0 := h0
  have lt0 : ∀ x ∈ p0, x.block < W.heap.size := by obtain ⟨m, hm⟩ := k0; exact DataW.trod_lt m _ _ _ hm
  have w0 := oargs_of_trod (hval 0 42 v0 rfl rfl) h0
  clear hA0 hval0
  refine (onceLast_w v0 W w0).mono fun e W' ⟨he, mv⟩ => ?_
  subst he
  have bel : Below W.heap.size W W' := mv.below (by simp) (Nat.le_refl _)
  exact ⟨_, rfl, _, _, _, [], _, [], hW', trodAll_mk1 (shut_bool Try.underlying4 _), (trodAll_cons_mk (Below.trod ol_laidOut (by kernel_rfl) (of_decide_eq_true (by kernel_rfl)) k0 bel lt0) trodAll_mk0), rfl, bel.frame _, fun h => by cases h⟩

theorem OnceLast_holds : Rows.OnceLastSaid :=
  OpenClaim.holds_of_wide 7 Try.f7 rfl rfl rfl rfl rfl rfl rfl ⟨rfl, rfl, rfl, rfl, rfl⟩ rfl rfl rfl rfl rfl (by kernel_rfl) Try.func7 (by kernel_rfl)
    (of_decide_eq_true (by kernel_rfl)) (by unfold Func.isWrapper; first | (rw [if_pos (by decide +kernel)]; kernel_rfl) | (rw [if_neg (by decide +kernel)]; exact ⟨rfl, rfl⟩))
    (fun os started H enc _ => ol_lifted os started H enc)

#print axioms OnceLast_holds
end Go.Proofs.Ytoijkdknjbgebaa
