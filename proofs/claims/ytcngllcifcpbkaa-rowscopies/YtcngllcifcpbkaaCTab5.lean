/-
  Same of two tables: of the same rows; of lists of another length.
-/
import Derived.Test.YtcngllcifcpbkaaCTab4
import Derived.Test.YtcngllcifcpbkaaCRow13
import Derived.Deep.RegionHeld3
namespace Go.Proofs.Ytcngllcifcpbkaa
open Go.RowKit

set_option maxRecDepth 100000 in
set_option maxHeartbeats 2000000 in
theorem sameNamed_yes (W w : World) (nm : ByteArray) (a a' : Option Addr) (n n' c c' : Nat) (R : List Pcol) (h : ColsAt W (.slice a n c) R) (h' : ColsAt W (.slice a' n' c') R) (m : Moves [] W w) (hS : SameR R R) (hsm : R.length ≤ 1048576 ∧ ∀ x ∈ R, x.l.length ≤ 1048576) :
    Calls Try.prog 31 #[.agg #[.string nm, .slice a n c], .agg #[.string nm, .slice a' n' c']] w fun e w' => e = .returned (.bool true) ∧ Moves [] w w' := by
  have m1 : Moves [] w ((w.alloc (.cells #[.string nm, .slice a n c] 53)).alloc (.cells #[.string nm, .slice a' n' c'] 53)) := ((Moves.refl _ _).alloc _).alloc _
  have hr := rowSame_yes W _ (.agg #[.slice a n c]) (.agg #[.slice a' n' c']) R R ⟨_, rfl, h⟩ ⟨_, rfl, h'⟩ (m.then m1) hS hsm.1 hsm.2
  clear h h' hS hsm m
  go_enter Try.func31, Try.ntmps31
  go_wp2_with (go_at_call 54; refine hr.mono ?_; rintro _ w2 ⟨rfl, m2⟩)
  go_ret
  exact ⟨rfl, m1.then m2⟩

set_option maxRecDepth 100000 in
set_option maxHeartbeats 4000000 in
theorem equalNamed_yes (W w : World) (ad ad' : Option Addr) (n cap cap' : Nat) (xs : List Pnam) (h : NamsAt W (.slice ad n cap) xs) (h' : NamsAt W (.slice ad' n cap') xs) (m : Moves [] W w) (hn : n = xs.length) (hl : n ≤ 1000) (hS : ∀ x ∈ xs, SameR x.r x.r ∧ x.r.length ≤ 1048576 ∧ ∀ c ∈ x.r, c.l.length ≤ 1048576) :
    Calls Try.prog 30 #[.slice ad n cap, .slice ad' n cap', .func (.func 31) #[] #[]] w fun e w' => e = .returned (.bool true) ∧ Moves [] w w' := by
  have HH : Hid (NamsAt W (.slice ad n cap) xs) := h
  have HH' : Hid (NamsAt W (.slice ad' n cap') xs) := h'
  have MW : Hid (Moves [] W w) := m
  have HN : Hid (n = xs.length) := hn
  have HS : Hid (∀ x ∈ xs, SameR x.r x.r ∧ x.r.length ≤ 1048576 ∧ ∀ c ∈ x.r, c.l.length ≤ 1048576) := hS
  have hcf : ∀ (args : Array Value) (w : World), (callFunc 31 args).run Try.prog w = .ok (.enter 31 args) w := fun _ _ => rfl
  clear h h' m hn hS
  go_enter Try.func30, Try.ntmps30
  go_wp2_with fail
  go_loopw [17] (fun vi wr => ∃ i : Nat, i ≤ n ∧ vi = .int .i64 (i : Nat) ∧ Moves [] w wr) (fun vi _ => n - (intOf vi).toNat)
  case atStart => exact ⟨0, by omega, rfl, Moves.refl _ _⟩
  case round =>
    obtain ⟨i, hin, rfl, mr⟩ := hrel
    by_cases hlt : i < n
    · have hiI : (i : Int) < n := by omega
      obtain ⟨x, hx⟩ : ∃ x, xs[i]? = some x := ⟨_, List.getElem?_eq_getElem (by have := HN.out; omega)⟩
      obtain ⟨g, off, a2, n2, c2, rfl, y0, y1, hn2, hC⟩ := HH.out.at hx
      clear hn2
      obtain ⟨g', off', a2', n2', c2', rfl, z0, z1, hn2', hC'⟩ := HH'.out.at hx
      clear hn2'
      replace y0 := (MW.out.then mr).cell y0
      replace y1 := (MW.out.then mr).cell y1
      have z0' := ((MW.out.then mr).alloc (.cells #[.string x.name, .slice a2 n2 c2] 53)).cell z0
      have z1' := ((MW.out.then mr).alloc (.cells #[.string x.name, .slice a2 n2 c2] 53)).cell z1
      have m2 : Moves [] wr ((wr.alloc (.cells #[.string x.name, .slice a2 n2 c2] 53)).alloc (.cells #[.string x.name, .slice a2' n2' c2'] 53)) := ((Moves.refl _ _).alloc _).alloc _
      have hs := HS.out x (List.mem_of_getElem? hx)
      have hsn := sameNamed_yes W _ x.name a2 a2' n2 n2' c2 c2' x.r hC hC' ((MW.out.then mr).then m2) hs.1 hs.2
      clear hC hC' hs hx z0 z1
      go_wp2_with (go_at_call 31; refine hsn.mono ?_; rintro _ w3 ⟨rfl, m3⟩)
      go_roundw
      case rel => exact ⟨i + 1, by omega, by go_num, mr.then (m2.then m3)⟩
      case measure => simp [intOf]; omega
    · obtain rfl : i = n := by omega
      go_wp2_with fail
      go_ret
      exact ⟨rfl, mr⟩
theorem equalNamed_no (w : World) (ad ad' : Option Addr) (n n' cap cap' : Nat) (hne : ((n : Int) != n') = true) :
    Calls Try.prog 30 #[.slice ad n cap, .slice ad' n' cap', .func (.func 31) #[] #[]] w fun e w' => e = .returned (.bool false) ∧ w = w' := by
  go_enter Try.func30, Try.ntmps30
  go_wp2_with fail
  go_ret
  exact ⟨rfl, rfl⟩

set_option maxRecDepth 100000 in
set_option maxHeartbeats 4000000 in
theorem tsame_yes (W W' w : World) (p q : Nat) (a b : Option Nat) (xs : List Pnam) (h : TabIs W w p a xs) (h' : TabIs W' w q b xs) (hl : xs.length ≤ 1000) (hS : ∀ x ∈ xs, x.r.length ≤ 1048576 ∧ ∀ c ∈ x.r, c.l.length ≤ 1048576) :
    Calls Try.prog 12 #[.pointer (some ⟨p, 0, none⟩), .pointer (some ⟨q, 0, none⟩)] w fun e w' => e = .returned (.bool true) ∧ Moves [] w w' := by
  obtain ⟨v, hp, _, hG⟩ := h
  obtain ⟨v', hq, _, hG'⟩ := h'
  obtain ⟨ad, cap, rfl, hc⟩ := hG.slice
  obtain ⟨ad', cap', rfl, hc'⟩ := hG'.slice
  obtain ⟨n, hn⟩ : ∃ n, xs.length = n := ⟨_, rfl⟩
  have he := fun w2 (m : Moves [] w w2) => equalNamed_yes w w2 ad ad' xs.length cap cap' xs hG.at hG'.at m rfl hl (fun x hx => ⟨SameR.refl _, hS x hx⟩)
  rw [hn] at he hp hq
  obtain ⟨x1, _⟩ := one_cell hp
  obtain ⟨y1, _⟩ := one_cell hq
  clear hG hG' hl hS hn hc hc'
  go_enter Try.func12, Try.ntmps12
  go_wp2_with fail
  go_region_held3 (fun w' => w'.cell? ⟨p, 0, none⟩ = some (.slice ad n cap) ∧ w'.cell? ⟨q, 0, none⟩ = some (.slice ad' n cap')) (first | (with_reducible exact ⟨x1, y1⟩) | exact ⟨m2.cell x1, m2.cell y1⟩ | (go_keep; done)) ((go_at_call 30; refine (he _ (Moves.refl [] _).drew).mono ?_; rintro _ w2 ⟨rfl, m2⟩))
  go_wp2
  go_ret
  exact ⟨rfl, (Moves.refl [] _).drew.then m2⟩
set_option maxRecDepth 100000 in
set_option maxHeartbeats 4000000 in
theorem tsame_no (W W' w : World) (p q : Nat) (a b : Option Nat) (xs ys : List Pnam) (h : TabIs W w p a xs) (h' : TabIs W' w q b ys) (hne : xs.length ≠ ys.length) :
    Calls Try.prog 12 #[.pointer (some ⟨p, 0, none⟩), .pointer (some ⟨q, 0, none⟩)] w fun e w' => e = .returned (.bool false) ∧ Moves [] w w' := by
  obtain ⟨v, hp, _, hG⟩ := h
  obtain ⟨v', hq, _, hG'⟩ := h'
  obtain ⟨ad, cap, rfl, hc⟩ := hG.slice
  obtain ⟨ad', cap', rfl, hc'⟩ := hG'.slice
  obtain ⟨n, hn⟩ : ∃ n, xs.length = n := ⟨_, rfl⟩
  obtain ⟨n', hn'⟩ : ∃ n', ys.length = n' := ⟨_, rfl⟩
  rw [hn, hn'] at hne
  have hb : ((n : Int) != n') = true := by simp; omega
  have he := fun w2 => equalNamed_no w2 ad ad' n n' cap cap' hb
  rw [hn] at hp
  rw [hn'] at hq
  obtain ⟨x1, _⟩ := one_cell hp
  obtain ⟨y1, _⟩ := one_cell hq
  clear hG hG' hn hn' hc hc' hb hne
  go_enter Try.func12, Try.ntmps12
  go_wp2_with fail
  go_region_held3 (fun w' => w'.cell? ⟨p, 0, none⟩ = some (.slice ad n cap) ∧ w'.cell? ⟨q, 0, none⟩ = some (.slice ad' n' cap')) (first | (with_reducible exact ⟨x1, y1⟩) | (go_keep; done)) ((go_at_call 30; refine (he _).mono ?_; rintro _ _ ⟨rfl, rfl⟩))
  go_wp2
  go_ret
  exact ⟨rfl, (Moves.refl [] _).drew⟩
end Go.Proofs.Ytcngllcifcpbkaa
