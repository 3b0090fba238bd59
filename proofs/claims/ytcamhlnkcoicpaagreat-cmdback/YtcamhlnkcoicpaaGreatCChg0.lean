/-
  Package change: changes as plain data; Right of a change, of a list, as the program and as the document have it.
-/
import Derived.Test.YtcamhlnkcoicpaaGreatCB15
namespace Go.Proofs.YtcamhlnkcoicpaaGreat
open Go.RowKit

/-- A change, as plain data. -/
structure Pchg where
  kind : Int
  col : ByteArray
  t : Int
  v : Pv
def ChgsAt (w : World) (ad : Option Addr) (cs : List Pchg) : Prop := ∀ (k : Nat) c, cs[k]? = some c → ∃ g off a n cap, ad = some ⟨g, off, none⟩ ∧ w.cell? ⟨g, off + k * 6, none⟩ = some (.int .i64 c.kind) ∧ w.cell? ⟨g, off + k * 6 + 1, none⟩ = some (.string c.col) ∧ w.cell? ⟨g, off + k * 6 + 2, none⟩ = some (.int .i64 c.t) ∧ w.cell? ⟨g, off + k * 6 + 3, none⟩ = some (.int .i64 c.v.kind) ∧ w.cell? ⟨g, off + k * 6 + 4, none⟩ = some (.slice a n cap) ∧ w.cell? ⟨g, off + k * 6 + 5, none⟩ = some (.float .f64 c.v.n) ∧ VA w [.int .i64 c.v.kind, .slice a n cap, .float .f64 c.v.n] c.v
theorem ChgsAt.moves {w w' : World} {ad : Option Addr} {cs : List Pchg} (h : ChgsAt w ad cs) (m : Moves [] w w') : ChgsAt w' ad cs := by
  intro k c hc
  obtain ⟨g, off, a, n, cap, h1, h2, h3, h4, h5, h6, h7, h8⟩ := h k c hc
  exact ⟨g, off, a, n, cap, h1, m.cell h2, m.cell h3, m.cell h4, m.cell h5, m.cell h6, m.cell h7, h8.moves m⟩
theorem six_cells {w : World} {p : Nat} {x0 x1 x2 x3 x4 x5 : Value} {t : TypeId} (h : w.heap[p]? = some (.cells #[x0, x1, x2, x3, x4, x5] t (0, 0))) : w.cell? ⟨p, 0, none⟩ = some x0 ∧ w.cell? ⟨p, 1, none⟩ = some x1 ∧ w.cell? ⟨p, 2, none⟩ = some x2 ∧ w.cell? ⟨p, 3, none⟩ = some x3 ∧ w.cell? ⟨p, 4, none⟩ = some x4 ∧ w.cell? ⟨p, 5, none⟩ = some x5 := by
  simp [World.cell?, h]

/-- Why a change can't be applied to any row. -/
def cRight (c : Pchg) : Int := if ¬ (1 ≤ c.kind ∧ c.kind ≤ 5) then 24 else if c.kind = 4 then 0 else if pname c.col = false then 1 else if c.kind = 3 then 0 else if ptime c.t = false then 1 else if c.kind = 2 then 0 else if pvr c.v = false then 1 else if c.kind = 5 ∧ c.v.kind ≠ 2 then 24 else 0

theorem Tryz.size189 : (Tryz.prog.info? 189).map (·.size) = some 3 := by kernel_rfl
theorem ret_parts2 {fn : Func} {p u : Tmp} (h : fn.results = #[.cell p 189, .tmp u]) (tmps : Array Value) (w : World) (g : Nat) (x y z : Value) (hp : tmps.getD p undef = .pointer (some ⟨g, 0, none⟩)) (hg : w.heap[g]? = some (.cells #[x, y, z] 189 (0, 0))) :
    (results fn tmps).run Tryz.prog w = .ok (.tuple #[.agg #[x, y, z], tmps.getD u undef]) w := by
  have hl := run_loadVar_row (P := Tryz.prog) w g 189 189 _ (0, 0) _ hg Tryz.underlying189 rfl Tryz.size189
  rw [results_cell_tmp h, hp]
  simp only [asAddr, Sem.run_pure, Result.andThen, hl]
set_option maxRecDepth 100000 in
theorem crightTime_w (t : Int) (w : World) : Calls Tryz.prog 148 #[.int .i64 t] w fun e w' => e = .returned (.bool (ptime t)) ∧ w = w' := by
  unfold ptime
  go_enter Tryz.func148, Tryz.ntmps148
  go_wp2
  · rename_i h
    have h1 : decide (0 ≤ t) = true := decide_eq_true (by omega)
    go_ret
    exact ⟨by rw [h1, Bool.true_and]; rfl, rfl⟩
  · rename_i h
    have h1 : decide (0 ≤ t) = false := decide_eq_false (by omega)
    go_ret
    exact ⟨by rw [h1, Bool.false_and]; rfl, rfl⟩
set_option maxRecDepth 100000 in
set_option maxHeartbeats 1000000 in
theorem asks_w (k : Int) (x y z ok : Bool) (w : World) (h : (k = 4 ∧ x = false ∧ y = false ∧ z = false ∧ ok = true) ∨ (k = 3 ∧ x = true ∧ y = false ∧ z = false ∧ ok = true) ∨ (k = 2 ∧ x = true ∧ y = true ∧ z = false ∧ ok = true) ∨ (k = 1 ∧ x = true ∧ y = true ∧ z = true ∧ ok = true) ∨ (k = 5 ∧ x = true ∧ y = true ∧ z = true ∧ ok = true) ∨ (¬ (1 ≤ k ∧ k ≤ 5) ∧ x = false ∧ y = false ∧ z = false ∧ ok = false)) :
    Calls Tryz.prog 147 #[.int .i64 k] w fun e w' => e = .returned (.tuple #[.agg #[.bool x, .bool y, .bool z], .bool ok]) ∧ Moves [] w w' := by
  have s1 := heap_alloc_new w (.cells #[.bool x, .bool y, .bool z] 189)
  have s2 : Moves [] w (w.alloc (.cells #[.bool x, .bool y, .bool z] 189)) := (Moves.refl _ _).alloc _
  rcases h with ⟨rfl, rfl, rfl, rfl, rfl⟩ | ⟨rfl, rfl, rfl, rfl, rfl⟩ | ⟨rfl, rfl, rfl, rfl, rfl⟩ | ⟨rfl, rfl, rfl, rfl, rfl⟩ | ⟨rfl, rfl, rfl, rfl, rfl⟩ | ⟨hk, rfl, rfl, rfl, rfl⟩
  case inr.inr.inr.inr.inr =>
    have k1 : ¬ k = 1 := by omega
    have k2 : ¬ k = 2 := by omega
    have k3 : ¬ k = 3 := by omega
    have k4 : ¬ k = 4 := by omega
    have k5 : ¬ k = 5 := by omega
    clear hk
    go_enter Tryz.func147, Tryz.ntmps147
    go_wp2_with fail
    try simp only [Exit.inBlock, Exit.then]
    exact bodyPost_ret (ret_parts2 rfl _ _ _ _ _ _ rfl s1) rfl ⟨rfl, s2⟩
  all_goals go_enter Tryz.func147, Tryz.ntmps147
  all_goals go_wp2_with fail
  all_goals try simp only [Exit.inBlock, Exit.then]
  all_goals exact bodyPost_ret (ret_parts2 rfl _ _ _ _ _ _ rfl s1) rfl ⟨rfl, s2⟩

/-- The ways of Right. -/
inductive CWay (c : Pchg) : Int → Prop
  | bad (h : ¬ (1 ≤ c.kind ∧ c.kind ≤ 5)) : CWay c 24
  | row (h : c.kind = 4) : CWay c 0
  | name (h : c.kind = 1 ∨ c.kind = 2 ∨ c.kind = 3 ∨ c.kind = 5) (h1 : pname c.col = false) : CWay c 1
  | col (h : c.kind = 3) (h1 : pname c.col = true) : CWay c 0
  | time (h : c.kind = 1 ∨ c.kind = 2 ∨ c.kind = 5) (h1 : pname c.col = true) (h2 : ptime c.t = false) : CWay c 1
  | drop (h : c.kind = 2) (h1 : pname c.col = true) (h2 : ptime c.t = true) : CWay c 0
  | value (h : c.kind = 1 ∨ c.kind = 5) (h1 : pname c.col = true) (h2 : ptime c.t = true) (h3 : pvr c.v = false) : CWay c 1
  | put (h : c.kind = 1) (h1 : pname c.col = true) (h2 : ptime c.t = true) (h3 : pvr c.v = true) : CWay c 0
  | kind (h : c.kind = 5) (h1 : pname c.col = true) (h2 : ptime c.t = true) (h3 : pvr c.v = true) (h4 : ¬ c.v.kind = 2) : CWay c 24
  | add (h : c.kind = 5) (h1 : pname c.col = true) (h2 : ptime c.t = true) (h3 : pvr c.v = true) (h4 : c.v.kind = 2) : CWay c 0
theorem cway (c : Pchg) : CWay c (cRight c) := by
  unfold cRight
  by_cases h : ¬ (1 ≤ c.kind ∧ c.kind ≤ 5)
  · rw [if_pos h]; exact .bad h
  · rw [if_neg h]
    by_cases k4 : c.kind = 4
    · rw [if_pos k4]; exact .row k4
    · rw [if_neg k4]
      cases h1 : pname c.col with
      | false => rw [if_pos rfl]; exact .name (by omega) h1
      | true =>
        rw [if_neg (by simp)]
        by_cases k3 : c.kind = 3
        · rw [if_pos k3]; exact .col k3 h1
        · rw [if_neg k3]
          cases h2 : ptime c.t with
          | false => rw [if_pos rfl]; exact .time (by omega) h1 h2
          | true =>
            rw [if_neg (by simp)]
            by_cases k2 : c.kind = 2
            · rw [if_pos k2]; exact .drop k2 h1 h2
            · rw [if_neg k2]
              cases h3 : pvr c.v with
              | false => rw [if_pos rfl]; exact .value (by omega) h1 h2 h3
              | true =>
                rw [if_neg (by simp)]
                by_cases k5 : c.kind = 5
                · by_cases hv : c.v.kind = 2
                  · rw [if_neg (by simp [hv])]; exact .add k5 h1 h2 h3 hv
                  · rw [if_pos ⟨k5, hv⟩]; exact .kind k5 h1 h2 h3 hv
                · rw [if_neg (by simp [k5])]; exact .put (by omega) h1 h2 h3

set_option maxRecDepth 100000 in
set_option maxHeartbeats 8000000 in
theorem cRight_w (W w : World) (c : Pchg) (a : Option Addr) (n cap : Nat) (hv : VA W [.int .i64 c.v.kind, .slice a n cap, .float .f64 c.v.n] c.v) (m : Moves [] W w) :
    Calls Tryz.prog 119 #[.agg #[.int .i64 c.kind, .string c.col, .int .i64 c.t, .int .i64 c.v.kind, .slice a n cap, .float .f64 c.v.n]] w fun e w' => e = .returned (.int .i64 (cRight c)) ∧ Moves [] w w' := by
  have hA := heap_alloc_new w (.cells #[.int .i64 c.kind, .string c.col, .int .i64 c.t, .int .i64 c.v.kind, .slice a n cap, .float .f64 c.v.n] 27)
  have mb : Moves [] w (w.alloc (.cells #[.int .i64 c.kind, .string c.col, .int .i64 c.t, .int .i64 c.v.kind, .slice a n cap, .float .f64 c.v.n] 27)) := (Moves.refl _ _).alloc _
  obtain ⟨b0, b1, b2, b3, b4, b5⟩ := six_cells hA
  have hm := m.then mb
  have hw := cway c
  revert hw
  generalize cRight c = E
  intro hw
  cases hw with
  | bad h =>
    have HK : Hid (¬ (1 ≤ c.kind ∧ c.kind ≤ 5)) := h
    clear h
    have hQ := fun w1 => asks_w c.kind false false false false w1 (.inr (.inr (.inr (.inr (.inr ⟨HK.out, rfl, rfl, rfl, rfl⟩)))))
    have HVA : Hid (VA W [.int .i64 c.v.kind, .slice a n cap, .float .f64 c.v.n] c.v) := hv
    clear hv
    go_enter Tryz.func119, Tryz.ntmps119
    go_wp2_with (go_at_call 147; refine (hQ _).mono ?_; rintro _ w2 ⟨rfl, m2⟩; have mp : Moves [] w2 (w2.alloc (.cells #[.bool false, .bool false, .bool false] 189)) := (Moves.refl _ _).alloc _; obtain ⟨p0, p1, p2, _⟩ := three_cells (heap_alloc_new w2 (.cells #[.bool false, .bool false, .bool false] 189)); have M2 := m2.then mp; have z0 := M2.cell b0; have z1 := M2.cell b1; have z2 := M2.cell b2; have z3 := M2.cell b3; have z4 := M2.cell b4; have z5 := M2.cell b5)
    go_ret
    exact ⟨rfl, mb.then M2⟩
  | row h =>
    have HK : Hid (c.kind = 4) := h
    rw [HK.out] at b0 b1 b2 b3 b4 b5 mb hm ⊢
    clear h
    have hQ := fun w1 => asks_w 4 false false false true w1 (.inl ⟨rfl, rfl, rfl, rfl, rfl⟩)
    have HVA : Hid (VA W [.int .i64 c.v.kind, .slice a n cap, .float .f64 c.v.n] c.v) := hv
    clear hv
    go_enter Tryz.func119, Tryz.ntmps119
    go_wp2_with (go_at_call 147; refine (hQ _).mono ?_; rintro _ w2 ⟨rfl, m2⟩; have mp : Moves [] w2 (w2.alloc (.cells #[.bool false, .bool false, .bool false] 189)) := (Moves.refl _ _).alloc _; obtain ⟨p0, p1, p2, _⟩ := three_cells (heap_alloc_new w2 (.cells #[.bool false, .bool false, .bool false] 189)); have M2 := m2.then mp; have z0 := M2.cell b0; have z1 := M2.cell b1; have z2 := M2.cell b2; have z3 := M2.cell b3; have z4 := M2.cell b4; have z5 := M2.cell b5)
    go_ret
    exact ⟨rfl, mb.then M2⟩
  | name h h1 =>
    rcases h with h | h | h | h
    · have HK : Hid (c.kind = 1) := h
      rw [HK.out] at b0 b1 b2 b3 b4 b5 mb hm ⊢
      clear h
      have hQ := fun w1 => asks_w 1 true true true true w1 (.inr (.inr (.inr (.inl ⟨rfl, rfl, rfl, rfl, rfl⟩))))
      have HN : Hid (pname c.col = false) := h1
      clear h1
      have HVA : Hid (VA W [.int .i64 c.v.kind, .slice a n cap, .float .f64 c.v.n] c.v) := hv
      clear hv
      go_enter Tryz.func119, Tryz.ntmps119
      go_wp2_with (first | (go_at_call 147; refine (hQ _).mono ?_; rintro _ w2 ⟨rfl, m2⟩; have mp : Moves [] w2 (w2.alloc (.cells #[.bool true, .bool true, .bool true] 189)) := (Moves.refl _ _).alloc _; obtain ⟨p0, p1, p2, _⟩ := three_cells (heap_alloc_new w2 (.cells #[.bool true, .bool true, .bool true] 189)); have M2 := m2.then mp; have z0 := M2.cell b0; have z1 := M2.cell b1; have z2 := M2.cell b2; have z3 := M2.cell b3; have z4 := M2.cell b4; have z5 := M2.cell b5) | (go_at_call 67; refine (name_w _ _).mono ?_; rintro _ _ ⟨rfl, rfl⟩; rw [HN.out]))
      go_ret
      exact ⟨rfl, mb.then M2⟩
    · have HK : Hid (c.kind = 2) := h
      rw [HK.out] at b0 b1 b2 b3 b4 b5 mb hm ⊢
      clear h
      have hQ := fun w1 => asks_w 2 true true false true w1 (.inr (.inr (.inl ⟨rfl, rfl, rfl, rfl, rfl⟩)))
      have HN : Hid (pname c.col = false) := h1
      clear h1
      have HVA : Hid (VA W [.int .i64 c.v.kind, .slice a n cap, .float .f64 c.v.n] c.v) := hv
      clear hv
      go_enter Tryz.func119, Tryz.ntmps119
      go_wp2_with (first | (go_at_call 147; refine (hQ _).mono ?_; rintro _ w2 ⟨rfl, m2⟩; have mp : Moves [] w2 (w2.alloc (.cells #[.bool true, .bool true, .bool false] 189)) := (Moves.refl _ _).alloc _; obtain ⟨p0, p1, p2, _⟩ := three_cells (heap_alloc_new w2 (.cells #[.bool true, .bool true, .bool false] 189)); have M2 := m2.then mp; have z0 := M2.cell b0; have z1 := M2.cell b1; have z2 := M2.cell b2; have z3 := M2.cell b3; have z4 := M2.cell b4; have z5 := M2.cell b5) | (go_at_call 67; refine (name_w _ _).mono ?_; rintro _ _ ⟨rfl, rfl⟩; rw [HN.out]))
      go_ret
      exact ⟨rfl, mb.then M2⟩
    · have HK : Hid (c.kind = 3) := h
      rw [HK.out] at b0 b1 b2 b3 b4 b5 mb hm ⊢
      clear h
      have hQ := fun w1 => asks_w 3 true false false true w1 (.inr (.inl ⟨rfl, rfl, rfl, rfl, rfl⟩))
      have HN : Hid (pname c.col = false) := h1
      clear h1
      have HVA : Hid (VA W [.int .i64 c.v.kind, .slice a n cap, .float .f64 c.v.n] c.v) := hv
      clear hv
      go_enter Tryz.func119, Tryz.ntmps119
      go_wp2_with (first | (go_at_call 147; refine (hQ _).mono ?_; rintro _ w2 ⟨rfl, m2⟩; have mp : Moves [] w2 (w2.alloc (.cells #[.bool true, .bool false, .bool false] 189)) := (Moves.refl _ _).alloc _; obtain ⟨p0, p1, p2, _⟩ := three_cells (heap_alloc_new w2 (.cells #[.bool true, .bool false, .bool false] 189)); have M2 := m2.then mp; have z0 := M2.cell b0; have z1 := M2.cell b1; have z2 := M2.cell b2; have z3 := M2.cell b3; have z4 := M2.cell b4; have z5 := M2.cell b5) | (go_at_call 67; refine (name_w _ _).mono ?_; rintro _ _ ⟨rfl, rfl⟩; rw [HN.out]))
      go_ret
      exact ⟨rfl, mb.then M2⟩
    · have HK : Hid (c.kind = 5) := h
      rw [HK.out] at b0 b1 b2 b3 b4 b5 mb hm ⊢
      clear h
      have hQ := fun w1 => asks_w 5 true true true true w1 (.inr (.inr (.inr (.inr (.inl ⟨rfl, rfl, rfl, rfl, rfl⟩)))))
      have HN : Hid (pname c.col = false) := h1
      clear h1
      have HVA : Hid (VA W [.int .i64 c.v.kind, .slice a n cap, .float .f64 c.v.n] c.v) := hv
      clear hv
      go_enter Tryz.func119, Tryz.ntmps119
      go_wp2_with (first | (go_at_call 147; refine (hQ _).mono ?_; rintro _ w2 ⟨rfl, m2⟩; have mp : Moves [] w2 (w2.alloc (.cells #[.bool true, .bool true, .bool true] 189)) := (Moves.refl _ _).alloc _; obtain ⟨p0, p1, p2, _⟩ := three_cells (heap_alloc_new w2 (.cells #[.bool true, .bool true, .bool true] 189)); have M2 := m2.then mp; have z0 := M2.cell b0; have z1 := M2.cell b1; have z2 := M2.cell b2; have z3 := M2.cell b3; have z4 := M2.cell b4; have z5 := M2.cell b5) | (go_at_call 67; refine (name_w _ _).mono ?_; rintro _ _ ⟨rfl, rfl⟩; rw [HN.out]))
      go_ret
      exact ⟨rfl, mb.then M2⟩
  | col h h1 =>
    have HK : Hid (c.kind = 3) := h
    rw [HK.out] at b0 b1 b2 b3 b4 b5 mb hm ⊢
    clear h
    have hQ := fun w1 => asks_w 3 true false false true w1 (.inr (.inl ⟨rfl, rfl, rfl, rfl, rfl⟩))
    have HN : Hid (pname c.col = true) := h1
    clear h1
    have HVA : Hid (VA W [.int .i64 c.v.kind, .slice a n cap, .float .f64 c.v.n] c.v) := hv
    clear hv
    go_enter Tryz.func119, Tryz.ntmps119
    go_wp2_with (first | (go_at_call 147; refine (hQ _).mono ?_; rintro _ w2 ⟨rfl, m2⟩; have mp : Moves [] w2 (w2.alloc (.cells #[.bool true, .bool false, .bool false] 189)) := (Moves.refl _ _).alloc _; obtain ⟨p0, p1, p2, _⟩ := three_cells (heap_alloc_new w2 (.cells #[.bool true, .bool false, .bool false] 189)); have M2 := m2.then mp; have z0 := M2.cell b0; have z1 := M2.cell b1; have z2 := M2.cell b2; have z3 := M2.cell b3; have z4 := M2.cell b4; have z5 := M2.cell b5) | (go_at_call 67; refine (name_w _ _).mono ?_; rintro _ _ ⟨rfl, rfl⟩; rw [HN.out]))
    go_ret
    exact ⟨rfl, mb.then M2⟩
  | time h h1 h2 =>
    rcases h with h | h | h
    · have HK : Hid (c.kind = 1) := h
      rw [HK.out] at b0 b1 b2 b3 b4 b5 mb hm ⊢
      clear h
      have hQ := fun w1 => asks_w 1 true true true true w1 (.inr (.inr (.inr (.inl ⟨rfl, rfl, rfl, rfl, rfl⟩))))
      have HN : Hid (pname c.col = true) := h1
      clear h1
      have HT : Hid (ptime c.t = false) := h2
      clear h2
      have HVA : Hid (VA W [.int .i64 c.v.kind, .slice a n cap, .float .f64 c.v.n] c.v) := hv
      clear hv
      go_enter Tryz.func119, Tryz.ntmps119
      go_wp2_with (first | (go_at_call 147; refine (hQ _).mono ?_; rintro _ w2 ⟨rfl, m2⟩; have mp : Moves [] w2 (w2.alloc (.cells #[.bool true, .bool true, .bool true] 189)) := (Moves.refl _ _).alloc _; obtain ⟨p0, p1, p2, _⟩ := three_cells (heap_alloc_new w2 (.cells #[.bool true, .bool true, .bool true] 189)); have M2 := m2.then mp; have z0 := M2.cell b0; have z1 := M2.cell b1; have z2 := M2.cell b2; have z3 := M2.cell b3; have z4 := M2.cell b4; have z5 := M2.cell b5) | (go_at_call 67; refine (name_w _ _).mono ?_; rintro _ _ ⟨rfl, rfl⟩; rw [HN.out]) | (go_at_call 148; refine (crightTime_w _ _).mono ?_; rintro _ _ ⟨rfl, rfl⟩; rw [HT.out]))
      go_ret
      exact ⟨rfl, mb.then M2⟩
    · have HK : Hid (c.kind = 2) := h
      rw [HK.out] at b0 b1 b2 b3 b4 b5 mb hm ⊢
      clear h
      have hQ := fun w1 => asks_w 2 true true false true w1 (.inr (.inr (.inl ⟨rfl, rfl, rfl, rfl, rfl⟩)))
      have HN : Hid (pname c.col = true) := h1
      clear h1
      have HT : Hid (ptime c.t = false) := h2
      clear h2
      have HVA : Hid (VA W [.int .i64 c.v.kind, .slice a n cap, .float .f64 c.v.n] c.v) := hv
      clear hv
      go_enter Tryz.func119, Tryz.ntmps119
      go_wp2_with (first | (go_at_call 147; refine (hQ _).mono ?_; rintro _ w2 ⟨rfl, m2⟩; have mp : Moves [] w2 (w2.alloc (.cells #[.bool true, .bool true, .bool false] 189)) := (Moves.refl _ _).alloc _; obtain ⟨p0, p1, p2, _⟩ := three_cells (heap_alloc_new w2 (.cells #[.bool true, .bool true, .bool false] 189)); have M2 := m2.then mp; have z0 := M2.cell b0; have z1 := M2.cell b1; have z2 := M2.cell b2; have z3 := M2.cell b3; have z4 := M2.cell b4; have z5 := M2.cell b5) | (go_at_call 67; refine (name_w _ _).mono ?_; rintro _ _ ⟨rfl, rfl⟩; rw [HN.out]) | (go_at_call 148; refine (crightTime_w _ _).mono ?_; rintro _ _ ⟨rfl, rfl⟩; rw [HT.out]))
      go_ret
      exact ⟨rfl, mb.then M2⟩
    · have HK : Hid (c.kind = 5) := h
      rw [HK.out] at b0 b1 b2 b3 b4 b5 mb hm ⊢
      clear h
      have hQ := fun w1 => asks_w 5 true true true true w1 (.inr (.inr (.inr (.inr (.inl ⟨rfl, rfl, rfl, rfl, rfl⟩)))))
      have HN : Hid (pname c.col = true) := h1
      clear h1
      have HT : Hid (ptime c.t = false) := h2
      clear h2
      have HVA : Hid (VA W [.int .i64 c.v.kind, .slice a n cap, .float .f64 c.v.n] c.v) := hv
      clear hv
      go_enter Tryz.func119, Tryz.ntmps119
      go_wp2_with (first | (go_at_call 147; refine (hQ _).mono ?_; rintro _ w2 ⟨rfl, m2⟩; have mp : Moves [] w2 (w2.alloc (.cells #[.bool true, .bool true, .bool true] 189)) := (Moves.refl _ _).alloc _; obtain ⟨p0, p1, p2, _⟩ := three_cells (heap_alloc_new w2 (.cells #[.bool true, .bool true, .bool true] 189)); have M2 := m2.then mp; have z0 := M2.cell b0; have z1 := M2.cell b1; have z2 := M2.cell b2; have z3 := M2.cell b3; have z4 := M2.cell b4; have z5 := M2.cell b5) | (go_at_call 67; refine (name_w _ _).mono ?_; rintro _ _ ⟨rfl, rfl⟩; rw [HN.out]) | (go_at_call 148; refine (crightTime_w _ _).mono ?_; rintro _ _ ⟨rfl, rfl⟩; rw [HT.out]))
      go_ret
      exact ⟨rfl, mb.then M2⟩
  | drop h h1 h2 =>
    have HK : Hid (c.kind = 2) := h
    rw [HK.out] at b0 b1 b2 b3 b4 b5 mb hm ⊢
    clear h
    have hQ := fun w1 => asks_w 2 true true false true w1 (.inr (.inr (.inl ⟨rfl, rfl, rfl, rfl, rfl⟩)))
    have HN : Hid (pname c.col = true) := h1
    clear h1
    have HT : Hid (ptime c.t = true) := h2
    clear h2
    have HVA : Hid (VA W [.int .i64 c.v.kind, .slice a n cap, .float .f64 c.v.n] c.v) := hv
    clear hv
    go_enter Tryz.func119, Tryz.ntmps119
    go_wp2_with (first | (go_at_call 147; refine (hQ _).mono ?_; rintro _ w2 ⟨rfl, m2⟩; have mp : Moves [] w2 (w2.alloc (.cells #[.bool true, .bool true, .bool false] 189)) := (Moves.refl _ _).alloc _; obtain ⟨p0, p1, p2, _⟩ := three_cells (heap_alloc_new w2 (.cells #[.bool true, .bool true, .bool false] 189)); have M2 := m2.then mp; have z0 := M2.cell b0; have z1 := M2.cell b1; have z2 := M2.cell b2; have z3 := M2.cell b3; have z4 := M2.cell b4; have z5 := M2.cell b5) | (go_at_call 67; refine (name_w _ _).mono ?_; rintro _ _ ⟨rfl, rfl⟩; rw [HN.out]) | (go_at_call 148; refine (crightTime_w _ _).mono ?_; rintro _ _ ⟨rfl, rfl⟩; rw [HT.out]))
    go_ret
    exact ⟨rfl, mb.then M2⟩
  | value h h1 h2 h3 =>
    rcases h with h | h
    · have HK : Hid (c.kind = 1) := h
      rw [HK.out] at b0 b1 b2 b3 b4 b5 mb hm ⊢
      clear h
      have hQ := fun w1 => asks_w 1 true true true true w1 (.inr (.inr (.inr (.inl ⟨rfl, rfl, rfl, rfl, rfl⟩))))
      have HN : Hid (pname c.col = true) := h1
      clear h1
      have HT : Hid (ptime c.t = true) := h2
      clear h2
      have HV : Hid (pvr c.v = false) := h3
      clear h3
      have HVA : Hid (VA W [.int .i64 c.v.kind, .slice a n cap, .float .f64 c.v.n] c.v) := hv
      clear hv
      go_enter Tryz.func119, Tryz.ntmps119
      go_wp2_with (first | (go_at_call 147; refine (hQ _).mono ?_; rintro _ w2 ⟨rfl, m2⟩; have mp : Moves [] w2 (w2.alloc (.cells #[.bool true, .bool true, .bool true] 189)) := (Moves.refl _ _).alloc _; obtain ⟨p0, p1, p2, _⟩ := three_cells (heap_alloc_new w2 (.cells #[.bool true, .bool true, .bool true] 189)); have M2 := m2.then mp; have z0 := M2.cell b0; have z1 := M2.cell b1; have z2 := M2.cell b2; have z3 := M2.cell b3; have z4 := M2.cell b4; have z5 := M2.cell b5) | (go_at_call 67; refine (name_w _ _).mono ?_; rintro _ _ ⟨rfl, rfl⟩; rw [HN.out]) | (go_at_call 148; refine (crightTime_w _ _).mono ?_; rintro _ _ ⟨rfl, rfl⟩; rw [HT.out]) | (go_at_call 118; refine (right4_w _ _ _ _ _ _ _ _ (HVA.out.moves (hm.then M2)) (Moves.refl _ _)).mono ?_; rintro _ w3 ⟨rfl, m3⟩; rw [HV.out]; have y0 := m3.cell z0; have y3 := m3.cell z3))
      go_ret
      exact ⟨rfl, mb.then (M2.then m3)⟩
    · have HK : Hid (c.kind = 5) := h
      rw [HK.out] at b0 b1 b2 b3 b4 b5 mb hm ⊢
      clear h
      have hQ := fun w1 => asks_w 5 true true true true w1 (.inr (.inr (.inr (.inr (.inl ⟨rfl, rfl, rfl, rfl, rfl⟩)))))
      have HN : Hid (pname c.col = true) := h1
      clear h1
      have HT : Hid (ptime c.t = true) := h2
      clear h2
      have HV : Hid (pvr c.v = false) := h3
      clear h3
      have HVA : Hid (VA W [.int .i64 c.v.kind, .slice a n cap, .float .f64 c.v.n] c.v) := hv
      clear hv
      go_enter Tryz.func119, Tryz.ntmps119
      go_wp2_with (first | (go_at_call 147; refine (hQ _).mono ?_; rintro _ w2 ⟨rfl, m2⟩; have mp : Moves [] w2 (w2.alloc (.cells #[.bool true, .bool true, .bool true] 189)) := (Moves.refl _ _).alloc _; obtain ⟨p0, p1, p2, _⟩ := three_cells (heap_alloc_new w2 (.cells #[.bool true, .bool true, .bool true] 189)); have M2 := m2.then mp; have z0 := M2.cell b0; have z1 := M2.cell b1; have z2 := M2.cell b2; have z3 := M2.cell b3; have z4 := M2.cell b4; have z5 := M2.cell b5) | (go_at_call 67; refine (name_w _ _).mono ?_; rintro _ _ ⟨rfl, rfl⟩; rw [HN.out]) | (go_at_call 148; refine (crightTime_w _ _).mono ?_; rintro _ _ ⟨rfl, rfl⟩; rw [HT.out]) | (go_at_call 118; refine (right4_w _ _ _ _ _ _ _ _ (HVA.out.moves (hm.then M2)) (Moves.refl _ _)).mono ?_; rintro _ w3 ⟨rfl, m3⟩; rw [HV.out]; have y0 := m3.cell z0; have y3 := m3.cell z3))
      go_ret
      exact ⟨rfl, mb.then (M2.then m3)⟩
  | put h h1 h2 h3 =>
    have HK : Hid (c.kind = 1) := h
    rw [HK.out] at b0 b1 b2 b3 b4 b5 mb hm ⊢
    clear h
    have hQ := fun w1 => asks_w 1 true true true true w1 (.inr (.inr (.inr (.inl ⟨rfl, rfl, rfl, rfl, rfl⟩))))
    have HN : Hid (pname c.col = true) := h1
    clear h1
    have HT : Hid (ptime c.t = true) := h2
    clear h2
    have HV : Hid (pvr c.v = true) := h3
    clear h3
    have HVA : Hid (VA W [.int .i64 c.v.kind, .slice a n cap, .float .f64 c.v.n] c.v) := hv
    clear hv
    go_enter Tryz.func119, Tryz.ntmps119
    go_wp2_with (first | (go_at_call 147; refine (hQ _).mono ?_; rintro _ w2 ⟨rfl, m2⟩; have mp : Moves [] w2 (w2.alloc (.cells #[.bool true, .bool true, .bool true] 189)) := (Moves.refl _ _).alloc _; obtain ⟨p0, p1, p2, _⟩ := three_cells (heap_alloc_new w2 (.cells #[.bool true, .bool true, .bool true] 189)); have M2 := m2.then mp; have z0 := M2.cell b0; have z1 := M2.cell b1; have z2 := M2.cell b2; have z3 := M2.cell b3; have z4 := M2.cell b4; have z5 := M2.cell b5) | (go_at_call 67; refine (name_w _ _).mono ?_; rintro _ _ ⟨rfl, rfl⟩; rw [HN.out]) | (go_at_call 148; refine (crightTime_w _ _).mono ?_; rintro _ _ ⟨rfl, rfl⟩; rw [HT.out]) | (go_at_call 118; refine (right4_w _ _ _ _ _ _ _ _ (HVA.out.moves (hm.then M2)) (Moves.refl _ _)).mono ?_; rintro _ w3 ⟨rfl, m3⟩; rw [HV.out]; have y0 := m3.cell z0; have y3 := m3.cell z3))
    go_ret
    exact ⟨rfl, mb.then (M2.then m3)⟩
  | kind h h1 h2 h3 h4 =>
    have HK : Hid (c.kind = 5) := h
    rw [HK.out] at b0 b1 b2 b3 b4 b5 mb hm ⊢
    clear h
    have hQ := fun w1 => asks_w 5 true true true true w1 (.inr (.inr (.inr (.inr (.inl ⟨rfl, rfl, rfl, rfl, rfl⟩)))))
    have HN : Hid (pname c.col = true) := h1
    clear h1
    have HT : Hid (ptime c.t = true) := h2
    clear h2
    have HV : Hid (pvr c.v = true) := h3
    clear h3
    have HVA : Hid (VA W [.int .i64 c.v.kind, .slice a n cap, .float .f64 c.v.n] c.v) := hv
    clear hv
    go_enter Tryz.func119, Tryz.ntmps119
    go_wp2_with (first | (go_at_call 147; refine (hQ _).mono ?_; rintro _ w2 ⟨rfl, m2⟩; have mp : Moves [] w2 (w2.alloc (.cells #[.bool true, .bool true, .bool true] 189)) := (Moves.refl _ _).alloc _; obtain ⟨p0, p1, p2, _⟩ := three_cells (heap_alloc_new w2 (.cells #[.bool true, .bool true, .bool true] 189)); have M2 := m2.then mp; have z0 := M2.cell b0; have z1 := M2.cell b1; have z2 := M2.cell b2; have z3 := M2.cell b3; have z4 := M2.cell b4; have z5 := M2.cell b5) | (go_at_call 67; refine (name_w _ _).mono ?_; rintro _ _ ⟨rfl, rfl⟩; rw [HN.out]) | (go_at_call 148; refine (crightTime_w _ _).mono ?_; rintro _ _ ⟨rfl, rfl⟩; rw [HT.out]) | (go_at_call 118; refine (right4_w _ _ _ _ _ _ _ _ (HVA.out.moves (hm.then M2)) (Moves.refl _ _)).mono ?_; rintro _ w3 ⟨rfl, m3⟩; rw [HV.out]; have y0 := m3.cell z0; have y3 := m3.cell z3))
    go_ret
    exact ⟨rfl, mb.then (M2.then m3)⟩
  | add h h1 h2 h3 h4 =>
    have HK : Hid (c.kind = 5) := h
    rw [HK.out] at b0 b1 b2 b3 b4 b5 mb hm ⊢
    clear h
    have hQ := fun w1 => asks_w 5 true true true true w1 (.inr (.inr (.inr (.inr (.inl ⟨rfl, rfl, rfl, rfl, rfl⟩)))))
    have HN : Hid (pname c.col = true) := h1
    clear h1
    have HT : Hid (ptime c.t = true) := h2
    clear h2
    have HV : Hid (pvr c.v = true) := h3
    clear h3
    rw [h4] at b0 b1 b2 b3 b4 b5 mb hm ⊢
    have HVA : Hid (VA W [.int .i64 2, .slice a n cap, .float .f64 c.v.n] c.v) := by have := hv; rw [h4] at this; exact this
    clear h4
    clear hv
    go_enter Tryz.func119, Tryz.ntmps119
    go_wp2_with (first | (go_at_call 147; refine (hQ _).mono ?_; rintro _ w2 ⟨rfl, m2⟩; have mp : Moves [] w2 (w2.alloc (.cells #[.bool true, .bool true, .bool true] 189)) := (Moves.refl _ _).alloc _; obtain ⟨p0, p1, p2, _⟩ := three_cells (heap_alloc_new w2 (.cells #[.bool true, .bool true, .bool true] 189)); have M2 := m2.then mp; have z0 := M2.cell b0; have z1 := M2.cell b1; have z2 := M2.cell b2; have z3 := M2.cell b3; have z4 := M2.cell b4; have z5 := M2.cell b5) | (go_at_call 67; refine (name_w _ _).mono ?_; rintro _ _ ⟨rfl, rfl⟩; rw [HN.out]) | (go_at_call 148; refine (crightTime_w _ _).mono ?_; rintro _ _ ⟨rfl, rfl⟩; rw [HT.out]) | (go_at_call 118; refine (right4_w _ _ _ _ _ _ _ _ (HVA.out.moves (hm.then M2)) (Moves.refl _ _)).mono ?_; rintro _ w3 ⟨rfl, m3⟩; rw [HV.out]; have y0 := m3.cell z0; have y3 := m3.cell z3))
    go_ret
    exact ⟨rfl, mb.then (M2.then m3)⟩

end Go.Proofs.YtcamhlnkcoicpaaGreat
