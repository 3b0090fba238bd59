/- ours -/
import Derived.Test.YtcngllcifcpbkaaGreatCBaseW
namespace Go.Proofs.YtcngllcifcpbkaaGreat
open Go.RowKit

structure Pchg where
 kind : Int
 col : ByteArray
 t : Int
 v : Pv
def ChgsAt (w : World) (ad : Option Addr) (cs : List Pchg) : Prop := ∀ (k : Nat) c, cs[k]? = some c → ∃ g off a n cap, ad = some ⟨g, off, none⟩ ∧ w.cell? ⟨g, off + k * 6, none⟩ = some (.int .i64 c.kind) ∧ w.cell? ⟨g, off + k * 6 + 1, none⟩ = some (.string c.col) ∧ w.cell? ⟨g, off + k * 6 + 2, none⟩ = some (.int .i64 c.t) ∧ w.cell? ⟨g, off + k * 6 + 3, none⟩ = some (.int .i64 c.v.kind) ∧ w.cell? ⟨g, off + k * 6 + 4, none⟩ = some (.slice a n cap) ∧ w.cell? ⟨g, off + k * 6 + 5, none⟩ = some (.float .f64 c.v.n) ∧ VA w [.int .i64 c.v.kind, .slice a n cap, .float .f64 c.v.n] c.v
theorem ChgsAt.moves {w w' : World} {ad : Option Addr} {cs : List Pchg} (h : ChgsAt w ad cs) (m : Moves [] w w') : ChgsAt w' ad cs := by
 intro k c hc
 obtain ⟨g, off, a, n, cap, h1, h2, h3, h4, h5, h6, h7, h8⟩ := h k c hc
 exact ⟨g, off, a, n, cap, h1, m.cell h2, m.cell h3, m.cell h4, m.cell h5, m.cell h6, m.cell h7, h8.moves m⟩
theorem six_cells {w : World} {p : Nat} {x0 x1 x2 x3 x4 x5 : Value} {t : TypeId} (h : w.heap[p]? = some (.cells #[x0, x1, x2, x3, x4, x5] t (0, 0))) : w.cell? ⟨p, 0, none⟩ = some x0 ∧ w.cell? ⟨p, 1, none⟩ = some x1 ∧ w.cell? ⟨p, 2, none⟩ = some x2 ∧ w.cell? ⟨p, 3, none⟩ = some x3 ∧ w.cell? ⟨p, 4, none⟩ = some x4 ∧ w.cell? ⟨p, 5, none⟩ = some x5 := by
 simp [World.cell?, h]

def cRight (c : Pchg) : Int := if ¬ (1 ≤ c.kind ∧ c.kind ≤ 5) then 24 else if c.kind = 4 then 0 else if pname c.col = false then 1 else if c.kind = 3 then 0 else if ptime c.t = false then 1 else if c.kind = 2 then 0 else if pvr c.v = false then 1 else if c.kind = 5 ∧ c.v.kind ≠ 2 then 24 else 0

inductive CWay (c : Pchg) : Int → Prop
 | bad (h : ¬ (1 ≤ c.kind ∧ c.kind ≤ 5)) : CWay c 24
 | row (h : c.kind = 4) : CWay c 0
 | name (h : c.kind = 1 ∨ c.kind = 2 ∨ c.kind = 3 ∨ c.kind = 5) (h1 : pname c.col = false) : CWay c 1
 | col (h : c.kind = 3) (h1 : pname c.col = true) : CWay c 0
 | time (h : c.kind = 1 ∨ c.kind = 2 ∨ c.kind = 5) (h1 : pname c.col = true) (h2 : ptime c.t = false) : CWay c 1
 | drop (h : c.kind = 2) (h1 : pname c.col = true) (h2 : ptime c.t = true) : CWay c 0
 | value (h : c.kind = 1 ∨ c.kind = 5) (h1 : pname c.col = true) (h2 : ptime c.t = true) (h3 : pvr c.v = false) : CWay c 1
 | put (h : c.kind = 1) (h1 : pname c.col = true) (h2 : ptime c.t = true) (h3 : pvr c.v = true) : CWay c 0
 | kind (h : c.kind = 5) (h1 : pname c.col = true) (h2 : ptime c.t = true) (h3 : pvr c.v = true) (h4 : ¬ c.v.kind = 2) : CWay c 24
 | add (h : c.kind = 5) (h1 : pname c.col = true) (h2 : ptime c.t = true) (h3 : pvr c.v = true) (h4 : c.v.kind = 2) : CWay c 0
theorem cway (c : Pchg) : CWay c (cRight c) := by
 unfold cRight
 by_cases h : ¬ (1 ≤ c.kind ∧ c.kind ≤ 5)
 ·rw [if_pos h]; exact .bad h
 ·rw [if_neg h]
  by_cases k4 : c.kind = 4
  ·rw [if_pos k4]; exact .row k4
  ·rw [if_neg k4]
   cases h1 : pname c.col with
   | false => rw [if_pos rfl]; exact .name (by omega) h1
   | true =>
    rw [if_neg (by simp)]
    by_cases k3 : c.kind = 3
    ·rw [if_pos k3]; exact .col k3 h1
    ·rw [if_neg k3]
     cases h2 : ptime c.t with
     | false => rw [if_pos rfl]; exact .time (by omega) h1 h2
     | true =>
      rw [if_neg (by simp)]
      by_cases k2 : c.kind = 2
      ·rw [if_pos k2]; exact .drop k2 h1 h2
      ·rw [if_neg k2]
       cases h3 : pvr c.v with
       | false => rw [if_pos rfl]; exact .value (by omega) h1 h2 h3
       | true =>
        rw [if_neg (by simp)]
        by_cases k5 : c.kind = 5
        ·by_cases hv : c.v.kind = 2
         ·rw [if_neg (by simp [hv])]; exact .add k5 h1 h2 h3 hv
         ·rw [if_pos ⟨k5, hv⟩]; exact .kind k5 h1 h2 h3 hv
        ·rw [if_neg (by simp [k5])]; exact .put (by omega) h1 h2 h3

set_option maxRecDepth 100000 in
set_option maxHeartbeats 8000000 in
theorem rfRight5_w (W w : World) (c : Pchg) (a : Option Addr) (n cap : Nat) (hv : VA W [.int .i64 c.v.kind, .slice a n cap, .float .f64 c.v.n] c.v) (m : Moves [] W w) :
  Calls Tryz.prog 87 #[.agg #[.int .i64 c.kind, .string c.col, .int .i64 c.t, .int .i64 c.v.kind, .slice a n cap, .float .f64 c.v.n]] w fun e w' => e = .returned (.int .i64 (cRight c)) ∧ Moves [] w w' := by
 have hA := heap_alloc_new w (.cells #[.int .i64 c.kind, .string c.col, .int .i64 c.t, .int .i64 c.v.kind, .slice a n cap, .float .f64 c.v.n] 101)
 have mb : Moves [] w (w.alloc (.cells #[.int .i64 c.kind, .string c.col, .int .i64 c.t, .int .i64 c.v.kind, .slice a n cap, .float .f64 c.v.n] 101)) := (Moves.refl _ _).alloc _
 obtain ⟨b0, b1, b2, b3, b4, b5⟩ := six_cells hA
 have hm := m.then mb
 have hw := cway c
 revert hw
 generalize cRight c = E
 intro hw
 cases hw with
 | bad h =>
  have HVA : Hid (VA W [.int .i64 c.v.kind, .slice a n cap, .float .f64 c.v.n] c.v) := hv
  clear hv
  have hb : c.kind < 1 ∨ (¬ c.kind < 1 ∧ 5 < c.kind) := by omega
  clear h
  rcases hb with g1 | ⟨g1, g2⟩
  ·go_enter Tryz.func87, Tryz.ntmps87
   go_wp2_with fail
   go_ret
   exact ⟨rfl, mb⟩
  ·go_enter Tryz.func87, Tryz.ntmps87
   go_wp2_with fail
   go_ret
   exact ⟨rfl, mb⟩
 | row h =>
  have HK : Hid (c.kind = 4) := h
  rw [HK.out] at b0 b1 b2 b3 b4 b5 mb hm ⊢
  clear h
  have HVA : Hid (VA W [.int .i64 c.v.kind, .slice a n cap, .float .f64 c.v.n] c.v) := hv
  clear hv
  go_enter Tryz.func87, Tryz.ntmps87
  go_wp2_with fail
  go_ret
  exact ⟨rfl, mb⟩
 | name h h1 =>
  rcases h with h | h | h | h
  ·have HK : Hid (c.kind = 1) := h
   rw [HK.out] at b0 b1 b2 b3 b4 b5 mb hm ⊢
   clear h
   have HN : Hid (pname c.col = false) := h1
   clear h1
   have HVA : Hid (VA W [.int .i64 c.v.kind, .slice a n cap, .float .f64 c.v.n] c.v) := hv
   clear hv
   go_enter Tryz.func87, Tryz.ntmps87
   go_wp2_with (go_at_call 57; refine (refName_w _ _).mono ?_; rintro _ _ ⟨rfl, rfl⟩; rw [HN.out])
   go_ret
   exact ⟨rfl, mb⟩
  ·have HK : Hid (c.kind = 2) := h
   rw [HK.out] at b0 b1 b2 b3 b4 b5 mb hm ⊢
   clear h
   have HN : Hid (pname c.col = false) := h1
   clear h1
   have HVA : Hid (VA W [.int .i64 c.v.kind, .slice a n cap, .float .f64 c.v.n] c.v) := hv
   clear hv
   go_enter Tryz.func87, Tryz.ntmps87
   go_wp2_with (go_at_call 57; refine (refName_w _ _).mono ?_; rintro _ _ ⟨rfl, rfl⟩; rw [HN.out])
   go_ret
   exact ⟨rfl, mb⟩
  ·have HK : Hid (c.kind = 3) := h
   rw [HK.out] at b0 b1 b2 b3 b4 b5 mb hm ⊢
   clear h
   have HN : Hid (pname c.col = false) := h1
   clear h1
   have HVA : Hid (VA W [.int .i64 c.v.kind, .slice a n cap, .float .f64 c.v.n] c.v) := hv
   clear hv
   go_enter Tryz.func87, Tryz.ntmps87
   go_wp2_with (go_at_call 57; refine (refName_w _ _).mono ?_; rintro _ _ ⟨rfl, rfl⟩; rw [HN.out])
   go_ret
   exact ⟨rfl, mb⟩
  ·have HK : Hid (c.kind = 5) := h
   rw [HK.out] at b0 b1 b2 b3 b4 b5 mb hm ⊢
   clear h
   have HN : Hid (pname c.col = false) := h1
   clear h1
   have HVA : Hid (VA W [.int .i64 c.v.kind, .slice a n cap, .float .f64 c.v.n] c.v) := hv
   clear hv
   go_enter Tryz.func87, Tryz.ntmps87
   go_wp2_with (go_at_call 57; refine (refName_w _ _).mono ?_; rintro _ _ ⟨rfl, rfl⟩; rw [HN.out])
   go_ret
   exact ⟨rfl, mb⟩
 | col h h1 =>
  have HK : Hid (c.kind = 3) := h
  rw [HK.out] at b0 b1 b2 b3 b4 b5 mb hm ⊢
  clear h
  have HN : Hid (pname c.col = true) := h1
  clear h1
  have HVA : Hid (VA W [.int .i64 c.v.kind, .slice a n cap, .float .f64 c.v.n] c.v) := hv
  clear hv
  go_enter Tryz.func87, Tryz.ntmps87
  go_wp2_with (go_at_call 57; refine (refName_w _ _).mono ?_; rintro _ _ ⟨rfl, rfl⟩; rw [HN.out])
  go_ret
  exact ⟨rfl, mb⟩
 | time h h1 h2 =>
  rcases h with h | h | h
  ·have HK : Hid (c.kind = 1) := h
   rw [HK.out] at b0 b1 b2 b3 b4 b5 mb hm ⊢
   clear h
   have HN : Hid (pname c.col = true) := h1
   clear h1
   have HVA : Hid (VA W [.int .i64 c.v.kind, .slice a n cap, .float .f64 c.v.n] c.v) := hv
   clear hv
   have hb : c.t < 0 ∨ (¬ c.t < 0 ∧ 1099511627776 < c.t) := by unfold ptime at h2; simp at h2; omega
   clear h2
   rcases hb with g1 | ⟨g1, g2⟩
   ·go_enter Tryz.func87, Tryz.ntmps87
    go_wp2_with (go_at_call 57; refine (refName_w _ _).mono ?_; rintro _ _ ⟨rfl, rfl⟩; rw [HN.out])
    go_ret
    exact ⟨rfl, mb⟩
   ·go_enter Tryz.func87, Tryz.ntmps87
    go_wp2_with (go_at_call 57; refine (refName_w _ _).mono ?_; rintro _ _ ⟨rfl, rfl⟩; rw [HN.out])
    go_ret
    exact ⟨rfl, mb⟩
  ·have HK : Hid (c.kind = 2) := h
   rw [HK.out] at b0 b1 b2 b3 b4 b5 mb hm ⊢
   clear h
   have HN : Hid (pname c.col = true) := h1
   clear h1
   have HVA : Hid (VA W [.int .i64 c.v.kind, .slice a n cap, .float .f64 c.v.n] c.v) := hv
   clear hv
   have hb : c.t < 0 ∨ (¬ c.t < 0 ∧ 1099511627776 < c.t) := by unfold ptime at h2; simp at h2; omega
   clear h2
   rcases hb with g1 | ⟨g1, g2⟩
   ·go_enter Tryz.func87, Tryz.ntmps87
    go_wp2_with (go_at_call 57; refine (refName_w _ _).mono ?_; rintro _ _ ⟨rfl, rfl⟩; rw [HN.out])
    go_ret
    exact ⟨rfl, mb⟩
   ·go_enter Tryz.func87, Tryz.ntmps87
    go_wp2_with (go_at_call 57; refine (refName_w _ _).mono ?_; rintro _ _ ⟨rfl, rfl⟩; rw [HN.out])
    go_ret
    exact ⟨rfl, mb⟩
  ·have HK : Hid (c.kind = 5) := h
   rw [HK.out] at b0 b1 b2 b3 b4 b5 mb hm ⊢
   clear h
   have HN : Hid (pname c.col = true) := h1
   clear h1
   have HVA : Hid (VA W [.int .i64 c.v.kind, .slice a n cap, .float .f64 c.v.n] c.v) := hv
   clear hv
   have hb : c.t < 0 ∨ (¬ c.t < 0 ∧ 1099511627776 < c.t) := by unfold ptime at h2; simp at h2; omega
   clear h2
   rcases hb with g1 | ⟨g1, g2⟩
   ·go_enter Tryz.func87, Tryz.ntmps87
    go_wp2_with (go_at_call 57; refine (refName_w _ _).mono ?_; rintro _ _ ⟨rfl, rfl⟩; rw [HN.out])
    go_ret
    exact ⟨rfl, mb⟩
   ·go_enter Tryz.func87, Tryz.ntmps87
    go_wp2_with (go_at_call 57; refine (refName_w _ _).mono ?_; rintro _ _ ⟨rfl, rfl⟩; rw [HN.out])
    go_ret
    exact ⟨rfl, mb⟩
 | drop h h1 h2 =>
  have HK : Hid (c.kind = 2) := h
  rw [HK.out] at b0 b1 b2 b3 b4 b5 mb hm ⊢
  clear h
  have HN : Hid (pname c.col = true) := h1
  clear h1
  have ht1 : ¬ c.t < 0 := by unfold ptime at h2; simp at h2; omega
  have ht2 : ¬ (1099511627776 : Int) < c.t := by unfold ptime at h2; simp at h2; omega
  clear h2
  have HVA : Hid (VA W [.int .i64 c.v.kind, .slice a n cap, .float .f64 c.v.n] c.v) := hv
  clear hv
  go_enter Tryz.func87, Tryz.ntmps87
  go_wp2_with (go_at_call 57; refine (refName_w _ _).mono ?_; rintro _ _ ⟨rfl, rfl⟩; rw [HN.out])
  go_ret
  exact ⟨rfl, mb⟩
 | value h h1 h2 h3 =>
  rcases h with h | h
  ·have HK : Hid (c.kind = 1) := h
   rw [HK.out] at b0 b1 b2 b3 b4 b5 mb hm ⊢
   clear h
   have HN : Hid (pname c.col = true) := h1
   clear h1
   have HV : Hid (pvr c.v = false) := h3
   clear h3
   have ht1 : ¬ c.t < 0 := by unfold ptime at h2; simp at h2; omega
   have ht2 : ¬ (1099511627776 : Int) < c.t := by unfold ptime at h2; simp at h2; omega
   clear h2
   have HVA : Hid (VA W [.int .i64 c.v.kind, .slice a n cap, .float .f64 c.v.n] c.v) := hv
   clear hv
   go_enter Tryz.func87, Tryz.ntmps87
   go_wp2_with (first | (go_at_call 57; refine (refName_w _ _).mono ?_; rintro _ _ ⟨rfl, rfl⟩; rw [HN.out]) | (go_at_call 97; refine (rright4_w W _ _ _ _ _ _ _ HVA.out hm).mono ?_; rintro _ w3 ⟨rfl, m3⟩; rw [HV.out]; have y0 := m3.cell b0; have y3 := m3.cell b3))
   go_ret
   exact ⟨rfl, mb.then m3⟩
  ·have HK : Hid (c.kind = 5) := h
   rw [HK.out] at b0 b1 b2 b3 b4 b5 mb hm ⊢
   clear h
   have HN : Hid (pname c.col = true) := h1
   clear h1
   have HV : Hid (pvr c.v = false) := h3
   clear h3
   have ht1 : ¬ c.t < 0 := by unfold ptime at h2; simp at h2; omega
   have ht2 : ¬ (1099511627776 : Int) < c.t := by unfold ptime at h2; simp at h2; omega
   clear h2
   have HVA : Hid (VA W [.int .i64 c.v.kind, .slice a n cap, .float .f64 c.v.n] c.v) := hv
   clear hv
   go_enter Tryz.func87, Tryz.ntmps87
   go_wp2_with (first | (go_at_call 57; refine (refName_w _ _).mono ?_; rintro _ _ ⟨rfl, rfl⟩; rw [HN.out]) | (go_at_call 97; refine (rright4_w W _ _ _ _ _ _ _ HVA.out hm).mono ?_; rintro _ w3 ⟨rfl, m3⟩; rw [HV.out]; have y0 := m3.cell b0; have y3 := m3.cell b3))
   go_ret
   exact ⟨rfl, mb.then m3⟩
 | put h h1 h2 h3 =>
  have HK : Hid (c.kind = 1) := h
  rw [HK.out] at b0 b1 b2 b3 b4 b5 mb hm ⊢
  clear h
  have HN : Hid (pname c.col = true) := h1
  clear h1
  have HV : Hid (pvr c.v = true) := h3
  clear h3
  have ht1 : ¬ c.t < 0 := by unfold ptime at h2; simp at h2; omega
  have ht2 : ¬ (1099511627776 : Int) < c.t := by unfold ptime at h2; simp at h2; omega
  clear h2
  have HVA : Hid (VA W [.int .i64 c.v.kind, .slice a n cap, .float .f64 c.v.n] c.v) := hv
  clear hv
  go_enter Tryz.func87, Tryz.ntmps87
  go_wp2_with (first | (go_at_call 57; refine (refName_w _ _).mono ?_; rintro _ _ ⟨rfl, rfl⟩; rw [HN.out]) | (go_at_call 97; refine (rright4_w W _ _ _ _ _ _ _ HVA.out hm).mono ?_; rintro _ w3 ⟨rfl, m3⟩; rw [HV.out]; have y0 := m3.cell b0; have y3 := m3.cell b3))
  go_ret
  exact ⟨rfl, mb.then m3⟩
 | kind h h1 h2 h3 h4 =>
  have HK : Hid (c.kind = 5) := h
  rw [HK.out] at b0 b1 b2 b3 b4 b5 mb hm ⊢
  clear h
  have HN : Hid (pname c.col = true) := h1
  clear h1
  have HV : Hid (pvr c.v = true) := h3
  clear h3
  have ht1 : ¬ c.t < 0 := by unfold ptime at h2; simp at h2; omega
  have ht2 : ¬ (1099511627776 : Int) < c.t := by unfold ptime at h2; simp at h2; omega
  clear h2
  have HVA : Hid (VA W [.int .i64 c.v.kind, .slice a n cap, .float .f64 c.v.n] c.v) := hv
  clear hv
  go_enter Tryz.func87, Tryz.ntmps87
  go_wp2_with (first | (go_at_call 57; refine (refName_w _ _).mono ?_; rintro _ _ ⟨rfl, rfl⟩; rw [HN.out]) | (go_at_call 97; refine (rright4_w W _ _ _ _ _ _ _ HVA.out hm).mono ?_; rintro _ w3 ⟨rfl, m3⟩; rw [HV.out]; have y0 := m3.cell b0; have y3 := m3.cell b3))
  go_ret
  exact ⟨rfl, mb.then m3⟩
 | add h h1 h2 h3 h4 =>
  have HK : Hid (c.kind = 5) := h
  rw [HK.out] at b0 b1 b2 b3 b4 b5 mb hm ⊢
  clear h
  have HN : Hid (pname c.col = true) := h1
  clear h1
  have HV : Hid (pvr c.v = true) := h3
  clear h3
  have ht1 : ¬ c.t < 0 := by unfold ptime at h2; simp at h2; omega
  have ht2 : ¬ (1099511627776 : Int) < c.t := by unfold ptime at h2; simp at h2; omega
  clear h2
  rw [h4] at b0 b1 b2 b3 b4 b5 mb hm ⊢
  have HVA : Hid (VA W [.int .i64 2, .slice a n cap, .float .f64 c.v.n] c.v) := by have := hv; rw [h4] at this; exact this
  clear h4
  clear hv
  go_enter Tryz.func87, Tryz.ntmps87
  go_wp2_with (first | (go_at_call 57; refine (refName_w _ _).mono ?_; rintro _ _ ⟨rfl, rfl⟩; rw [HN.out]) | (go_at_call 97; refine (rright4_w W _ _ _ _ _ _ _ HVA.out hm).mono ?_; rintro _ w3 ⟨rfl, m3⟩; rw [HV.out]; have y0 := m3.cell b0; have y3 := m3.cell b3))
  go_ret
  exact ⟨rfl, mb.then m3⟩
end Go.Proofs.YtcngllcifcpbkaaGreat
