/- ours -/
import Derived.Test.YtcngllcifcpbkaaGreatCBaseO
import Derived.Test.YtcngllcifcpbkaaGreatCTkR4
import Derived.Test.YtcngllcifcpbkaaGreatCSlF
namespace Go.Proofs.YtcngllcifcpbkaaGreat
open Go.RowKit

def dNam (bs : List Nat) : Option (Pnam × List Nat) := match dText 16 bs with
 | none => none
 | some (tx, b1) => match dGood tAny b1 with
  | none => none
  | some (R, b2) => some (⟨strOf tx, R⟩, b2)
def nextOk (xs : List Pnam) (x : Pnam) : Bool := (match xs.getLast? with | none => true | some y => nlt y.name x.name) && pname x.name && !x.r.isEmpty
def dTabs : Nat → List Nat → Option (List Pnam × List Nat)
 | 0, bs => some ([], bs)
 | j + 1, bs => match dTabs j bs with
  | none => none
  | some (xs, b1) => match dNam b1 with
   | none => none
   | some (x, b2) => if nextOk xs x then some (xs ++ [x], b2) else none
def dTab (bs : List Nat) : Option (List Pnam × List Nat) := if 4 ≤ bs.length ∧ val (bs.take 4) ≤ 32 then dTabs (val (bs.take 4)) (bs.drop 4) else none
theorem dNam_of {bs tx b1 b2 : List Nat} {R : List Pcol} (h1 : dText 16 bs = some (tx, b1)) (h2 : dGood tAny b1 = some (R, b2)) : dNam bs = some (⟨strOf tx, R⟩, b2) := by
 unfold dNam
 rw [h1]
 dsimp only
 rw [h2]
theorem dNam_no1 {bs : List Nat} (h1 : dText 16 bs = none) : dNam bs = none := by
 unfold dNam
 rw [h1]
theorem dNam_no2 {bs tx b1 : List Nat} (h1 : dText 16 bs = some (tx, b1)) (h2 : dGood tAny b1 = none) : dNam bs = none := by
 unfold dNam
 rw [h1]
 dsimp only
 rw [h2]
theorem dNam_yes {bs b2 : List Nat} {x : Pnam} (h : dNam bs = some (x, b2)) : ∃ tx b1 R, dText 16 bs = some (tx, b1) ∧ dGood tAny b1 = some (R, b2) ∧ x = ⟨strOf tx, R⟩ := by
 unfold dNam at h
 cases h1 : dText 16 bs with
 | none => rw [h1] at h; simp at h
 | some q =>
  obtain ⟨tx, b1⟩ := q
  rw [h1] at h
  dsimp only at h
  cases h2 : dGood tAny b1 with
  | none => rw [h2] at h; simp at h
  | some q2 =>
   obtain ⟨R, b3⟩ := q2
   rw [h2] at h
   simp at h
   obtain ⟨rfl, rfl⟩ := h
   exact ⟨tx, b1, R, rfl, h2, rfl⟩
theorem dNam_rest {N : Nat} {bs b2 : List Nat} {x : Pnam} (h : dNam bs = some (x, b2)) (ho : OctN N bs) : OctN N b2 := by
 obtain ⟨tx, b1, R, h1, h2, _⟩ := dNam_yes h
 exact dRow_rest (dGood_yes h2).1 (dText_rest h1 ho)
theorem dTabs_step {j : Nat} {bs b1 b2 : List Nat} {xs : List Pnam} {x : Pnam} (h : dTabs j bs = some (xs, b1)) (h1 : dNam b1 = some (x, b2)) (h2 : nextOk xs x = true) : dTabs (j + 1) bs = some (xs ++ [x], b2) := by
 unfold dTabs
 rw [h]
 dsimp only
 rw [h1]
 dsimp only
 rw [if_pos h2]
theorem dTabs_stop1 {j : Nat} {bs b1 : List Nat} {xs : List Pnam} (h : dTabs j bs = some (xs, b1)) (h1 : dNam b1 = none) : dTabs (j + 1) bs = none := by
 unfold dTabs
 rw [h]
 dsimp only
 rw [h1]
theorem dTabs_stop2 {j : Nat} {bs b1 b2 : List Nat} {xs : List Pnam} {x : Pnam} (h : dTabs j bs = some (xs, b1)) (h1 : dNam b1 = some (x, b2)) (h2 : nextOk xs x = false) : dTabs (j + 1) bs = none := by
 unfold dTabs
 rw [h]
 dsimp only
 rw [h1]
 dsimp only
 rw [if_neg (by simp [h2])]
theorem dTabs_none {j : Nat} {bs : List Nat} (h : dTabs j bs = none) : ∀ {n : Nat}, j ≤ n → dTabs n bs = none := by
 intro n hn
 induction n with
 | zero =>
  obtain rfl : j = 0 := by omega
  exact h
 | succ n ih =>
  by_cases e : j = n + 1
  ·rw [← e]; exact h
  ·unfold dTabs
   rw [ih (by omega)]
theorem dTabs_parts {j : Nat} {bs b2 : List Nat} {ys : List Pnam} (h : dTabs (j + 1) bs = some (ys, b2)) : ∃ xs b1 x, dTabs j bs = some (xs, b1) ∧ dNam b1 = some (x, b2) ∧ nextOk xs x = true ∧ ys = xs ++ [x] := by
 unfold dTabs at h
 cases h1 : dTabs j bs with
 | none => rw [h1] at h; simp at h
 | some q =>
  obtain ⟨xs, b1⟩ := q
  rw [h1] at h
  dsimp only at h
  cases h2 : dNam b1 with
  | none => rw [h2] at h; simp at h
  | some q2 =>
   obtain ⟨x, b3⟩ := q2
   rw [h2] at h
   dsimp only at h
   split at h
   ·rename_i h3
    simp at h
    obtain ⟨rfl, rfl⟩ := h
    exact ⟨xs, b1, x, rfl, h2, h3, rfl⟩
   ·simp at h
theorem dVal_canon {bs r : List Nat} {p : Pv} (h : dVal bs = some (p, r)) : pcanon p = p := by
 unfold dVal at h
 split at h
 ·simp at h
  rw [← h.1]
  rfl
 ·split at h
  ·rename_i h2
   simp at h h2
   rw [← h.1]
   unfold pcanon kd
   simp [h2.2.2]
  ·simp at h
theorem iter_all {α : Type} {f : List Nat → Option (α × List Nat)} {Q : α → Prop} (hf : ∀ b x c, f b = some (x, c) → Q x) : ∀ {j : Nat} {bs b1 : List Nat} {xs : List α}, iter f j bs = some (xs, b1) → ∀ x ∈ xs, Q x := by
 intro j
 induction j with
 | zero =>
  intro bs b1 xs h x hx
  have := iter_len h
  rw [List.eq_nil_of_length_eq_zero this] at hx
  simp at hx
 | succ j ih =>
  intro bs b1 xs h x hx
  obtain ⟨ys, b2, y, h1, h2, rfl⟩ := iter_parts h
  rcases List.mem_append.1 hx with hx | hx
  ·exact ih h1 x hx
  ·simp at hx
   rw [hx]
   exact hf _ _ _ h2
theorem dGood_canon {bs r : List Nat} {R : List Pcol} (h : dGood tAny bs = some (R, r)) : R.map pcanonC = R := by
 have h1 := (dGood_yes h).1
 unfold dRow at h1
 split at h1
 ·have key : ∀ c ∈ R, pcanonC c = c := iter_all (f := dCol tAny) (Q := fun c => pcanonC c = c) (fun b c r hc => by
   obtain ⟨tx, b1, _, _, h3, _⟩ := dCol_yes hc
   have hv : ∀ x ∈ c.l, pcanonV x = x := iter_all (f := dVer tAny) (Q := fun x => pcanonV x = x) (fun b x r hx => by
    obtain ⟨_, _, h4, _⟩ := dVer_yes hx
    unfold pcanonV
    rw [dVal_canon h4]) h3
   unfold pcanonC
   have e : c.l.map pcanonV = c.l := by
    conv => rhs; rw [← List.map_id c.l]
    exact List.map_congr_left (fun x hx => hv x hx)
   rw [e]) h1
  conv => rhs; rw [← List.map_id R]
  exact List.map_congr_left (fun x hx => key x hx)
 ·simp at h1
theorem dTabs_inv {N : Nat} : ∀ {j : Nat} {bs b1 : List Nat} {xs : List Pnam}, dTabs j bs = some (xs, b1) → OctN N bs → j ≤ 32 → InvN xs ∧ xs.length = j ∧ OctN N b1 := by
 intro j
 induction j with
 | zero =>
  intro bs b1 xs h ho _
  unfold dTabs at h
  simp at h
  obtain ⟨rfl, rfl⟩ := h
  exact ⟨⟨by simp [RiseN], by simp, by simp, by simp, by simp⟩, rfl, ho⟩
 | succ j ih =>
  intro bs b1 xs h ho hj
  obtain ⟨ys, b2, x, h1, h2, h3, rfl⟩ := dTabs_parts h
  obtain ⟨hI, hl, ho2⟩ := ih h1 ho (by omega)
  obtain ⟨tx, b3, R, h4, h5, rfl⟩ := dNam_yes h2
  unfold nextOk at h3
  simp only [Bool.and_eq_true] at h3
  obtain ⟨⟨h6, h7⟩, h8⟩ := h3
  have hm : ∀ y ∈ ys ++ [(⟨strOf tx, R⟩ : Pnam)], y ∈ ys ∨ y = ⟨strOf tx, R⟩ := fun y hy => by
   rcases List.mem_append.1 hy with hy | hy
   ·exact .inl hy
   ·exact .inr (by simpa using hy)
  refine ⟨⟨?_, by simp; omega, fun y hy => ?_, fun y hy => ?_, fun y hy => ?_⟩, by simp; omega, dNam_rest h2 ho2⟩
  ·unfold RiseN
   rw [List.pairwise_append]
   refine ⟨hI.rise, by simp, fun y hy z hz => ?_⟩
   simp at hz
   subst hz
   obtain ⟨k, hk⟩ := List.getElem?_of_mem hy
   have hkl := (List.getElem?_eq_some_iff.1 hk).1
   cases hg : ys.getLast? with
   | none => rw [List.getLast?_eq_none_iff.1 hg] at hy; simp at hy
   | some l =>
    rw [hg] at h6
    rw [List.getLast?_eq_getElem?] at hg
    by_cases e : k = ys.length - 1
    ·rw [← e, hk] at hg
     simp at hg
     subst hg
     exact h6
    ·exact nlt_trans (hI.rise.lt hk hg (by omega)) h6
  ·rcases hm y hy with hy | rfl
   ·exact hI.right y hy
   ·exact (dGood_yes h5).2
  ·rcases hm y hy with hy | rfl
   ·exact hI.canon y hy
   ·exact dGood_canon h5
  ·rcases hm y hy with hy | rfl
   ·exact hI.name y hy
   ·exact h7
theorem dTab_yes {N : Nat} {bs b1 : List Nat} {xs : List Pnam} (h : dTab bs = some (xs, b1)) (ho : OctN N bs) : InvN xs := by
 unfold dTab at h
 split at h
 ·rename_i h1
  exact (dTabs_inv h (ho.drop 4) h1.2).1
 ·simp at h
theorem dTab_of {bs : List Nat} (h1 : 4 ≤ bs.length) (h2 : val (bs.take 4) ≤ 32) : dTab bs = dTabs (val (bs.take 4)) (bs.drop 4) := by unfold dTab; rw [if_pos ⟨h1, h2⟩]
theorem dTab_no {bs : List Nat} (h : ¬ (4 ≤ bs.length ∧ val (bs.take 4) ≤ 32)) : dTab bs = none := by unfold dTab; rw [if_neg h]
theorem TookR_ok {w w' : World} {p g : Nat} {bs rest : List Nat} {R : List Pcol} {e : Ending} (h : TookR w w' p g bs e) (hd : dGood tAny bs = some (R, rest)) : ∃ ad n cap, e = .returned (.agg #[.slice ad n cap]) ∧ GrowC w w' (.slice ad n cap) R ∧ RdIs w' p g rest false ∧ Moves [p] w w' := by
 rcases h with ⟨c', rest', ad, n, cap, h1, h2⟩ | ⟨h1, _⟩
 ·rw [hd] at h1
  simp only [Option.some.injEq, Prod.mk.injEq] at h1
  obtain ⟨rfl, rfl⟩ := h1
  exact ⟨ad, n, cap, h2⟩
 ·rw [hd] at h1; simp at h1
theorem TookR_no {w w' : World} {p g : Nat} {bs : List Nat} {e : Ending} (h : TookR w w' p g bs e) (hd : dGood tAny bs = none) : e = .panicked (stop p) ∧ ∃ bs', RdIs w' p g bs' true ∧ Moves [p] w w' := by
 rcases h with ⟨c', rest', ad, n, cap, h1, h2⟩ | ⟨_, h2⟩
 ·rw [hd] at h1; simp at h1
 ·exact h2

set_option maxRecDepth 100000 in
set_option maxHeartbeats 4000000 in
theorem mayNext_w (W w : World) (tp : Nat) (ta : Option Nat) (xs : List Pnam) (x : Pnam) (a2 : Option Addr) (n2 c2 : Nat) (h : TabIs W w tp ta xs) (hl : xs.length ≤ 1000) (hn2 : n2 = x.r.length) :
  Calls Tryz.prog 82 #[.pointer (some ⟨tp, 0, none⟩), .agg #[.string x.name, .slice a2 n2 c2]] w fun e w' => e = .returned (.bool (nextOk xs x)) ∧ Moves [] w w' := by
 obtain ⟨v, hp, _, hG⟩ := h
 obtain ⟨ad, n, cap, rfl, hn, hc⟩ := hG.open
 obtain ⟨x0, _⟩ := one_cell hp
 have ma : Moves [] w (w.alloc (.cells #[.string x.name, .slice a2 n2 c2] 68)) := (Moves.refl _ _).alloc _
 have b1 := heap_alloc_new w (.cells #[.string x.name, .slice a2 n2 c2] 68)
 obtain ⟨z1, z2⟩ := pair_cells b1
 have x1 := ma.cell x0
 have hgt : (decide ((0 : Int) < (n2 : Int))) = !x.r.isEmpty := by
  cases hq : x.r with
  | nil => rw [hn2, hq]; rfl
  | cons _ _ => rw [hn2, hq]; simp
 have hnm := fun w1 => name_w x.name w1
 obtain ⟨pn, hpn⟩ : ∃ pn, pname x.name = pn := ⟨_, rfl⟩
 obtain ⟨em, hem⟩ : ∃ em, (!x.r.isEmpty) = em := ⟨_, rfl⟩
 rw [hem] at hgt
 simp only [hpn] at hnm
 cases hgl : xs.getLast? with
 | none =>
  have e : xs = [] := List.getLast?_eq_none_iff.1 hgl
  obtain rfl : n = 0 := by have := hn.out; rw [e] at this; simpa using this
  have hok : nextOk xs x = (pn && em) := by unfold nextOk; rw [hgl, hpn, hem]; simp
  rw [hok]
  clear hG hn hc hp hgl e hok hpn hem hn2 b1
  go_enter Tryz.func82, Tryz.ntmps82
  go_wp2_with fail
  refine wp_region_noPanic ?_
  refine wp_region_held_drew (S := (fun w' => w'.cell? ⟨tp, 0, none⟩ = some (.slice ad 0 cap))) (by kernel_rfl) ?_ (fun hHeld => ?_)
  ·first | (go_keep; done) | exact x1
  refine wpT 0 ⟨some 6, .move (.tmp 0), 23, "rows.go:174", #[], none⟩ ?_
  refine wpT 1 ⟨some 7, .nilCheck (.tmp 6), 0, "rows.go:174", #[⟨0, .data⟩], none⟩ ?_
  refine wpT 2 ⟨some 8, .fieldAddr 66 (.tmp 7) 0, 0, "rows.go:174", #[⟨1, .data⟩], none⟩ ?_
  refine wpT 3 ⟨some 9, .load 24 (.tmp 8), 24, "rows.go:174", #[⟨2, .data⟩], none⟩ ?_
  refine wpT 4 ⟨some 10, .call ⟨.builtin .len, #[.tmp 9], #[24]⟩, 3, "rows.go:174", #[⟨3, .data⟩], none⟩ ?_
  refine wpT 5 ⟨some 11, .binOp .eql 3 (.tmp 10) (.const (.int .i64 0)) 3, 4, "rows.go:174", #[⟨4, .data⟩], none⟩ ?_
  refine wpT 6 ⟨some 12, .move (.tmp 11), 4, "rows.go:174", #[⟨5, .data⟩], none⟩ ?_
  refine wpU 7 ⟨some 13, .move (.tmp 0), 23, "rows.go:174", #[⟨6, .guard⟩], some (6, false)⟩ ?_
  refine wpU 8 ⟨some 14, .nilCheck (.tmp 13), 0, "rows.go:174", #[⟨7, .data⟩, ⟨6, .guard⟩], some (6, false)⟩ ?_
  refine wpU 9 ⟨some 15, .fieldAddr 66 (.tmp 14) 0, 0, "rows.go:174", #[⟨8, .data⟩, ⟨6, .guard⟩], some (6, false)⟩ ?_
  refine wpU 10 ⟨some 16, .load 24 (.tmp 15), 24, "rows.go:174", #[⟨9, .data⟩, ⟨6, .guard⟩], some (6, false)⟩ ?_
  refine wpU 11 ⟨some 17, .move (.tmp 0), 23, "rows.go:174", #[⟨6, .guard⟩], some (6, false)⟩ ?_
  refine wpU 12 ⟨some 18, .nilCheck (.tmp 17), 0, "rows.go:174", #[⟨11, .data⟩, ⟨6, .guard⟩], some (6, false)⟩ ?_
  refine wpU 13 ⟨some 19, .fieldAddr 66 (.tmp 18) 0, 0, "rows.go:174", #[⟨12, .data⟩, ⟨6, .guard⟩], some (6, false)⟩ ?_
  refine wpU 14 ⟨some 20, .load 24 (.tmp 19), 24, "rows.go:174", #[⟨13, .data⟩, ⟨6, .guard⟩], some (6, false)⟩ ?_
  refine wpU 15 ⟨some 21, .call ⟨.builtin .len, #[.tmp 20], #[24]⟩, 3, "rows.go:174", #[⟨14, .data⟩, ⟨6, .guard⟩], some (6, false)⟩ ?_
  refine wpU 16 ⟨some 22, .binOp .sub 3 (.tmp 21) (.const (.int .i64 1)) 3, 3, "rows.go:174", #[⟨15, .data⟩, ⟨6, .guard⟩], some (6, false)⟩ ?_
  refine wpU 17 ⟨some 23, .indexAddr 24 (.tmp 16) (.tmp 22), 0, "rows.go:174", #[⟨10, .data⟩, ⟨16, .data⟩, ⟨6, .guard⟩], some (6, false)⟩ ?_
  refine wpU 18 ⟨some 24, .fieldAddr 68 (.tmp 23) 0, 0, "rows.go:174", #[⟨17, .data⟩, ⟨6, .guard⟩], some (6, false)⟩ ?_
  refine wpU 19 ⟨some 25, .load 9 (.tmp 24), 9, "rows.go:174", #[⟨18, .data⟩, ⟨6, .guard⟩], some (6, false)⟩ ?_
  refine wpU 20 ⟨some 26, .fieldAddr 68 (.tmp 3) 0, 0, "rows.go:174", #[⟨6, .guard⟩], some (6, false)⟩ ?_
  refine wpU 21 ⟨some 27, .load 9 (.tmp 26), 9, "rows.go:174", #[⟨20, .data⟩, ⟨6, .guard⟩], some (6, false)⟩ ?_
  refine wpU 22 ⟨some 28, .binOp .lss 9 (.tmp 25) (.tmp 27) 9, 4, "rows.go:174", #[⟨19, .data⟩, ⟨21, .data⟩, ⟨6, .guard⟩], some (6, false)⟩ ?_
  refine wpT 23 ⟨some 29, .pick (.tmp 12) (.const (.bool true)) (.tmp 28), 4, "rows.go:174", #[⟨6, .data⟩, ⟨22, .data⟩], none⟩ ?_
  refine wpT 24 ⟨some 5, .assign (.tmp 29), 4, "rows.go:174", #[⟨23, .data⟩, ⟨6, .chain⟩, ⟨0, .phase⟩, ⟨1, .phase⟩, ⟨2, .phase⟩, ⟨3, .phase⟩, ⟨4, .phase⟩, ⟨5, .phase⟩, ⟨6, .phase⟩, ⟨7, .phase⟩, ⟨8, .phase⟩, ⟨9, .phase⟩, ⟨10, .phase⟩, ⟨11, .phase⟩, ⟨12, .phase⟩, ⟨13, .phase⟩, ⟨14, .phase⟩, ⟨15, .phase⟩, ⟨16, .phase⟩, ⟨17, .phase⟩, ⟨18, .phase⟩, ⟨19, .phase⟩, ⟨20, .phase⟩, ⟨21, .phase⟩, ⟨22, .phase⟩, ⟨23, .phase⟩], none⟩ ?_
  refine wpAnyH_done (by kernel_rfl) ?_ _
  refine NoPanic.normal ?_
  cases pn
  ·go_wp2_with (go_at_call 51; refine (hnm _).mono ?_; rintro _ _ ⟨rfl, rfl⟩)
   go_ret
   exact ⟨rfl, ma.drew⟩
  ·go_wp2_with (go_at_call 51; refine (hnm _).mono ?_; rintro _ _ ⟨rfl, rfl⟩)
   go_ret
   exact ⟨by simpa using hgt, ma.drew⟩
 | some y =>
  have hpos : 0 < xs.length := List.length_pos_iff.2 (fun e => by rw [e] at hgl; simp at hgl)
  have hgl2 := hgl
  rw [List.getLast?_eq_getElem?] at hgl2
  obtain ⟨k, hk⟩ : ∃ k, xs.length - 1 = k := ⟨_, rfl⟩
  rw [hk] at hgl2
  obtain ⟨g, off, a3, n3, c3, rfl, y0, _, _, _⟩ := hG.at.at hgl2
  have y1 := ma.cell y0
  have hkn : n = k + 1 := by have := hn.out; omega
  have hn1 : n ≤ 1000 := by have := hn.out; omega
  have hne : ((n : Int) == 0) = false := by simp; omega
  have hkI : (k : Int) < n := by omega
  have hsub : IntKind.i64.wrap ((n : Int) - 1) = (k : Int) := by rw [IntKind.wrap_i64]; omega
  obtain ⟨lt, hlt⟩ : ∃ lt, Op.bytesLess y.name.toList x.name.toList = lt := ⟨_, rfl⟩
  have hok : nextOk xs x = (lt && pn && em) := by unfold nextOk; rw [hgl, hpn, hem, ← hlt]; rfl
  rw [hok]
  clear hG hn hc hp hgl hgl2 hok hpn hem hn2 b1 hpos hk hkn y0 x0
  go_enter Tryz.func82, Tryz.ntmps82
  go_wp2_with fail
  refine wp_region_noPanic ?_
  refine wp_region_held_drew (S := (fun w' => w'.cell? ⟨tp, 0, none⟩ = some (.slice (some ⟨g, off, none⟩) n cap) ∧ w'.cell? ⟨g, off + k * 2, none⟩ = some (.string y.name) ∧ w'.cell? ⟨w.heap.size, 0, none⟩ = some (.string x.name))) (by kernel_rfl) ?_ (fun hHeld => ?_)
  ·first | (go_keep; done) | exact ⟨x1, y1, z1⟩
  refine wpT 0 ⟨some 6, .move (.tmp 0), 23, "rows.go:174", #[], none⟩ ?_
  refine wpT 1 ⟨some 7, .nilCheck (.tmp 6), 0, "rows.go:174", #[⟨0, .data⟩], none⟩ ?_
  refine wpT 2 ⟨some 8, .fieldAddr 66 (.tmp 7) 0, 0, "rows.go:174", #[⟨1, .data⟩], none⟩ ?_
  refine wpT 3 ⟨some 9, .load 24 (.tmp 8), 24, "rows.go:174", #[⟨2, .data⟩], none⟩ ?_
  refine wpT 4 ⟨some 10, .call ⟨.builtin .len, #[.tmp 9], #[24]⟩, 3, "rows.go:174", #[⟨3, .data⟩], none⟩ ?_
  refine wpT 5 ⟨some 11, .binOp .eql 3 (.tmp 10) (.const (.int .i64 0)) 3, 4, "rows.go:174", #[⟨4, .data⟩], none⟩ ?_
  refine wpT 6 ⟨some 12, .move (.tmp 11), 4, "rows.go:174", #[⟨5, .data⟩], none⟩ ?_
  refine wpT 7 ⟨some 13, .move (.tmp 0), 23, "rows.go:174", #[⟨6, .guard⟩], some (6, false)⟩ ?_
  refine wpT 8 ⟨some 14, .nilCheck (.tmp 13), 0, "rows.go:174", #[⟨7, .data⟩, ⟨6, .guard⟩], some (6, false)⟩ ?_
  refine wpT 9 ⟨some 15, .fieldAddr 66 (.tmp 14) 0, 0, "rows.go:174", #[⟨8, .data⟩, ⟨6, .guard⟩], some (6, false)⟩ ?_
  refine wpT 10 ⟨some 16, .load 24 (.tmp 15), 24, "rows.go:174", #[⟨9, .data⟩, ⟨6, .guard⟩], some (6, false)⟩ ?_
  refine wpT 11 ⟨some 17, .move (.tmp 0), 23, "rows.go:174", #[⟨6, .guard⟩], some (6, false)⟩ ?_
  refine wpT 12 ⟨some 18, .nilCheck (.tmp 17), 0, "rows.go:174", #[⟨11, .data⟩, ⟨6, .guard⟩], some (6, false)⟩ ?_
  refine wpT 13 ⟨some 19, .fieldAddr 66 (.tmp 18) 0, 0, "rows.go:174", #[⟨12, .data⟩, ⟨6, .guard⟩], some (6, false)⟩ ?_
  refine wpT 14 ⟨some 20, .load 24 (.tmp 19), 24, "rows.go:174", #[⟨13, .data⟩, ⟨6, .guard⟩], some (6, false)⟩ ?_
  refine wpT 15 ⟨some 21, .call ⟨.builtin .len, #[.tmp 20], #[24]⟩, 3, "rows.go:174", #[⟨14, .data⟩, ⟨6, .guard⟩], some (6, false)⟩ ?_
  refine wpT 16 ⟨some 22, .binOp .sub 3 (.tmp 21) (.const (.int .i64 1)) 3, 3, "rows.go:174", #[⟨15, .data⟩, ⟨6, .guard⟩], some (6, false)⟩ ?_
  refine wpT 17 ⟨some 23, .indexAddr 24 (.tmp 16) (.tmp 22), 0, "rows.go:174", #[⟨10, .data⟩, ⟨16, .data⟩, ⟨6, .guard⟩], some (6, false)⟩ ?_
  refine wpT 18 ⟨some 24, .fieldAddr 68 (.tmp 23) 0, 0, "rows.go:174", #[⟨17, .data⟩, ⟨6, .guard⟩], some (6, false)⟩ ?_
  refine wpT 19 ⟨some 25, .load 9 (.tmp 24), 9, "rows.go:174", #[⟨18, .data⟩, ⟨6, .guard⟩], some (6, false)⟩ ?_
  refine wpT 20 ⟨some 26, .fieldAddr 68 (.tmp 3) 0, 0, "rows.go:174", #[⟨6, .guard⟩], some (6, false)⟩ ?_
  refine wpT 21 ⟨some 27, .load 9 (.tmp 26), 9, "rows.go:174", #[⟨20, .data⟩, ⟨6, .guard⟩], some (6, false)⟩ ?_
  refine wpT 22 ⟨some 28, .binOp .lss 9 (.tmp 25) (.tmp 27) 9, 4, "rows.go:174", #[⟨19, .data⟩, ⟨21, .data⟩, ⟨6, .guard⟩], some (6, false)⟩ ?_
  refine wpT 23 ⟨some 29, .pick (.tmp 12) (.const (.bool true)) (.tmp 28), 4, "rows.go:174", #[⟨6, .data⟩, ⟨22, .data⟩], none⟩ ?_
  refine wpT 24 ⟨some 5, .assign (.tmp 29), 4, "rows.go:174", #[⟨23, .data⟩, ⟨6, .chain⟩, ⟨0, .phase⟩, ⟨1, .phase⟩, ⟨2, .phase⟩, ⟨3, .phase⟩, ⟨4, .phase⟩, ⟨5, .phase⟩, ⟨6, .phase⟩, ⟨7, .phase⟩, ⟨8, .phase⟩, ⟨9, .phase⟩, ⟨10, .phase⟩, ⟨11, .phase⟩, ⟨12, .phase⟩, ⟨13, .phase⟩, ⟨14, .phase⟩, ⟨15, .phase⟩, ⟨16, .phase⟩, ⟨17, .phase⟩, ⟨18, .phase⟩, ⟨19, .phase⟩, ⟨20, .phase⟩, ⟨21, .phase⟩, ⟨22, .phase⟩, ⟨23, .phase⟩], none⟩ ?_
  refine wpAnyH_done (by kernel_rfl) ?_ _
  refine NoPanic.normal ?_
  cases lt
  ·go_wp2_with fail
   go_ret
   exact ⟨rfl, ma.drew⟩
  ·cases pn
   ·go_wp2_with (go_at_call 51; refine (hnm _).mono ?_; rintro _ _ ⟨rfl, rfl⟩)
    go_ret
    exact ⟨rfl, ma.drew⟩
   ·go_wp2_with (go_at_call 51; refine (hnm _).mono ?_; rintro _ _ ⟨rfl, rfl⟩)
    go_ret
    exact ⟨by simpa using hgt, ma.drew⟩
theorem failed_w (p g : Nat) (bs : List Nat) (w : World) (h : RdIs w p g bs false) :
  Calls Tryz.prog 78 #[.pointer (some ⟨p, 0, none⟩)] w fun e w' => e = .panicked (stop p) ∧ RdIs w' p g bs true ∧ Moves [p] w w' := by
 go_enter Tryz.func78, Tryz.ntmps78
 go_wp2_with (go_at_call 111; refine (rfail_w _ g bs _ h).mono ?_; rintro _ w3 ⟨rfl, hr3, m3⟩)
 exact ⟨rfl, rfl, hr3, m3⟩

theorem TabIs.movesP {W w w' : World} {tp p : Nat} {ta : Option Nat} {xs : List Pnam} {c : Array Value} (h : TabIs W w tp ta xs) (m : Moves [p] w w') (hp : p < W.heap.size) (htp : W.heap.size ≤ tp) (hb : w.heap[p]? = some (.cells c 136 (0, 0))) : TabIs W w' tp ta xs := by
 refine h.moves m (by simp; omega) (fun k hk => ?_) (Stay.ofMovesS m (fun k hk c' t fz hc => ?_))
 ·obtain ⟨v, _, rfl, hG⟩ := h
  have := hG.1 k hk
  simp
  omega
 ·simp at hk
  subst hk
  rw [hb] at hc
  simp at hc
  obtain ⟨_, rfl, _⟩ := hc
  decide
theorem fin_x {wr c c' : World} {p g pb : Nat} {b : List Nat} {v : Value} {R : List Pcol} {s : ByteArray} (RD : RdIs c p g b false) (CO : ColsAt c v R) (M : Moves [p] wr c) (hpb : wr.heap.size ≤ pb) (ms : Moves [pb] c c') (st : Stay (· ≠ 68) c c') (hb : c'.heap[pb]? = some (.cells #[.string s, v] 68 (0, 0))) (hp : p < wr.heap.size) (hg : g < wr.heap.size) :
  c'.heap[pb]? = some (.cells #[.string s, v] 68 (0, 0)) ∧ ColsAt c' v R ∧ RdIs c' p g b false ∧ Moves [p] wr c' :=
 ⟨hb, CO.stayX st (by decide) (by decide) (by decide), RD.moves ms (by simp; omega) (by simp; omega), M.trans ms (fun k hk => .inr (by simp at hk; omega))⟩
theorem take_fin6 {w w9 w7 w8 : World} {tp p g : Nat} {ad4 ad8 : Option Addr} {n4 cap4 n8 cap8 : Nat} {xs ys : List Pnam} {b : List Nat} (hG : GrowN w w9 (.slice ad4 n4 cap4) xs) (hT : w9.heap[tp]? = some (.cells #[.slice ad4 n4 cap4] 66 (0, 0))) (hr : RdIs w9 p g b false) (ma : Moves [] w9 w7) (m8 : Moves (Value.slice ad4 n4 cap4).ownBlock.toList w7 w8) (hG8 : GrowN w w8 (.slice ad8 n8 cap8) ys) (hp : p < w.heap.size) (hg : g < w.heap.size) (htp : w.heap.size ≤ tp) :
  w8.heap[tp]? = some (.cells #[.slice ad4 n4 cap4] 66 (0, 0)) ∧ TabIs w (w8.setCell ⟨tp, 0, none⟩ (.slice ad8 n8 cap8)) tp (Value.slice ad8 n8 cap8).ownBlock ys ∧ RdIs (w8.setCell ⟨tp, 0, none⟩ (.slice ad8 n8 cap8)) p g b false ∧ Moves (tp :: (Value.slice ad4 n4 cap4).ownBlock.toList) w9 (w8.setCell ⟨tp, 0, none⟩ (.slice ad8 n8 cap8)) := by
 have hnt : tp ∉ (Value.slice ad4 n4 cap4).ownBlock.toList := Grow.neT hG hT (by decide)
 have h8 := m8.at (ma.at hT (by simp)) hnt
 have hpn : p ∉ (Value.slice ad4 n4 cap4).ownBlock.toList := Grow.notP hG hp
 have hgn : g ∉ (Value.slice ad4 n4 cap4).ownBlock.toList := Grow.notP hG hg
 refine ⟨h8, ⟨_, set_one h8 _, rfl, hG8.moves (moves_set _ _ _ _) (fun k hk hx => ?_) (Stay.set h8 (by decide) _)⟩, ?_, ?_⟩
 ·simp at hx
  subst hx
  exact (Grow.neT hG8 h8 (by decide)) (by rw [hk]; simp)
 ·exact ((hr.moves ma (by simp) (by simp)).moves m8 hpn hgn).moves (moves_set _ _ _ _) (by simp; omega) (by simp; omega)
 ·exact ((ma.mono (by simp)).then (m8.mono (fun k hk => List.mem_cons_of_mem _ hk))).then ((moves_set _ _ _ _).mono (by simp))

def TookT (w w' : World) (p g : Nat) (bs : List Nat) (e : Ending) : Prop :=
 (∃ xs rest tp ta, dTab bs = some (xs, rest) ∧ e = .returned (.pointer (some ⟨tp, 0, none⟩)) ∧ TabIs w w' tp ta xs ∧ w.heap.size ≤ tp ∧ RdIs w' p g rest false ∧ Moves [p] w w') ∨ (dTab bs = none ∧ e = .panicked (stop p) ∧ ∃ bs', RdIs w' p g bs' true ∧ Moves [p] w w')

set_option maxRecDepth 100000 in
set_option maxHeartbeats 8000000 in
theorem tabTake_w (N : Nat) (p g : Nat) (bs : List Nat) (w : World) (h : RdIs w p g bs false) (ho : OctN N bs) (hg : g < w.heap.size) (hNs : N ≤ 1000000) :
  Calls Tryz.prog 45 #[.pointer (some ⟨p, 0, none⟩)] w fun e w' => TookT w w' p g bs e := by
 have hp := h.ltp
 have hpe : ∀ w1 : World, (binOp .eql 88 (.pointer (some ⟨p, 0, none⟩)) (.pointer none)).run Tryz.prog w1 = .ok (.bool false) w1 := by intro w1; kernel_rfl
 obtain ⟨L, hL⟩ : ∃ L, bs.length = L := ⟨_, rfl⟩
 have hleft := rleft_w p g bs false w h
 rw [hL] at hleft
 have hLN : L ≤ 1000000 := by have := ho.1; omega
 by_cases h0 : L = 0
 ·have HNO : Hid (dTab bs = none) := dTab_no (by omega)
  subst h0
  go_enter Tryz.func45, Tryz.ntmps45
  go_wp2_with (first | (go_at_call 77; refine hleft.mono ?_; rintro _ _ ⟨rfl, rfl⟩) | (go_at_call 78; refine (failed_w p g bs _ h).mono ?_; rintro _ w3 ⟨rfl, hr3, m3⟩))
  exact ⟨rfl, .inr ⟨HNO.out, rfl, bs, hr3, m3⟩⟩
 ·have hL0 : ((L : Int) == 0) = false := by simp; omega
  by_cases h4 : 4 ≤ L
  ·have hv := val_lt ho.2 4
   obtain ⟨cnt, hcnt⟩ : ∃ cnt, val (bs.take 4) = cnt := ⟨_, rfl⟩
   have HC : Hid (val (bs.take 4) = cnt) := hcnt
   obtain ⟨b1, hb1⟩ : ∃ b1, Hid (bs.drop 4 = b1) := ⟨_, rfl⟩
   have ho1 : OctN N b1 := by rw [← hb1.out]; exact ho.drop 4
   have hnum := rnumr_w p g bs w h (by omega) ho.2
   rw [hcnt, hb1.out] at hnum
   by_cases h32 : cnt ≤ 32
   ·have hle : ¬ (32 : Int) < cnt := by omega
    have HTAB : Hid (dTab bs = dTabs cnt b1) := by unfold Hid; rw [dTab_of (by omega) (by omega), hcnt, hb1.out]
    clear hcnt hv hL
    go_enter Tryz.func45, Tryz.ntmps45
    go_wp2_with (first | (go_at_call 77; refine hleft.mono ?_; rintro _ _ ⟨rfl, rfl⟩) | (go_at_call 79; refine hnum.mono ?_; rintro _ w3 ⟨rfl, hr3, m3⟩) | (go_at_call 20; refine (tnew_w _).mono ?_; rintro _ w4 ⟨rfl, hT4, m4⟩))
    obtain ⟨tp, htp0⟩ : ∃ tp, w3.heap.size = tp := ⟨_, rfl⟩
    rw [htp0] at hT4 ⊢
    have htp : w.heap.size ≤ tp := by have := m3.size; omega
    have hT4' : TabIs w w4 tp none [] := by obtain ⟨v, e1, e2, e3⟩ := hT4; exact ⟨v, e1, e2, e3.elder m3.size⟩
    have hr4' := hr3.moves m4 (by simp) (by simp)
    have M4' : Moves [p] w w4 := m3.then (m4.mono (by simp))
    clear hleft hnum hT4 hr3 m3 m4 htp0 hpe
    go_loopw [21] (fun i wr => ∃ (j : Nat) (xs : List Pnam) (b2 : List Nat) (ta : Option Nat), j ≤ cnt ∧ i = .int .u32 (j : Int) ∧ dTabs j b1 = some (xs, b2) ∧ RdIs wr p g b2 false ∧ Moves [p] w wr ∧ TabIs w wr tp ta xs) (fun i _ => cnt - (intOf i).toNat)
    case atStart => exact ⟨0, [], b1, none, Nat.zero_le _, rfl, rfl, hr4', M4', hT4'⟩
    case round =>
     obtain ⟨j, xs, b2, ta, hj, rfl, hit, hr4, M4, hTr⟩ := hrel
     clear hr4' M4' hT4'
     obtain ⟨hInv, hlx, ho2⟩ := dTabs_inv hit ho1 (by omega)
     have HIT : Hid (dTabs j b1 = some (xs, b2)) := hit
     have HTR : Hid (TabIs w wr tp ta xs) := hTr
     have HLX : Hid (xs.length = j) := hlx
     clear hit hTr hInv hlx
     by_cases hlt : j < cnt
     ·have hj3 : (j : Int) < cnt := by omega
      obtain ⟨wd, hwd⟩ : ∃ wd, wr.drew = wd := ⟨_, rfl⟩
      have RD : RdIs wd p g b2 false := by rw [← hwd]; exact hr4
      have M_wd : Moves [p] wr wd := by rw [← hwd]; exact (Moves.refl _ _).drew
      have hgr : g < wr.heap.size := Nat.lt_of_lt_of_le hg M4.size
      have hp3 : p < wr.heap.size := Nat.lt_of_lt_of_le hp M4.size
      have hg3 := hgr
      obtain ⟨cQ, hcQ⟩ := hr4.block
      have MR : Hid (Moves [p] w wr) := M4
      cases hdt : dText 16 b2 with
      | none =>
       have hok := dText_no hdt
       have HNO : Hid (dTab bs = none) := by unfold Hid; rw [HTAB.out]; exact dTabs_none (dTabs_stop1 HIT.out (dNam_no1 hdt)) (by omega)
       clear hdt hr4 M4
       go_wp2_with fail
       refine wp_region_held_drew (S := (fun _ => True)) (by kernel_rfl) ?_ (fun hHeld => ?_)
       ·first | (go_keep; done) | trivial
       rw [hwd]
       refine wpT 0 ⟨some 23, .move (.tmp 0), 88, "rows.go:157", #[], none⟩ ?_
       refine wpT 3 ⟨some 26, .move (.tmp 0), 88, "rows.go:157", #[], none⟩ ?_
       refine wpAnyH_ready (rs := [1, 6]) (by kernel_rfl) (by simp) ?_
       refine AllReadyH.cons (o := ⟨some 24, .call ⟨.value (.func 80), #[.tmp 23, .const (.int .i64 16)], #[88, 3]⟩, 40, "rows.go:157", #[⟨0, .data⟩], none⟩) rfl (fun K hK => ?_) (AllReadyH.cons (o := ⟨some 5, .alloc 68, 0, "rows.go:157", #[], none⟩) rfl (fun K hK => ?_) AllReadyH.nil)
       ·go_simp
        (go_at_call 80; refine (rtextr_fail_w _ g b2 16 _ RD ho2.2 hok).mono ?_; rintro _ c1 ⟨rfl, hr2, m2⟩)
        exact ⟨rfl, .inr ⟨HNO.out, rfl, b2, hr2, (MR.out.then M_wd).then m2⟩⟩
       ·go_simp
        obtain ⟨c6, h6⟩ : ∃ c6, wd.alloc (.cells #[.string ⟨#[]⟩, .slice none 0 0] 68) = c6 := ⟨_, rfl⟩
        have BX : c6.heap[wd.heap.size]? = some (.cells #[.string ⟨#[]⟩, .slice none 0 0] 68 (0, 0)) := by rw [← h6]; exact heap_alloc_new _ _
        have m6 : Moves [] wd c6 := by rw [← h6]; exact (Moves.refl _ _).alloc _
        rw [h6]
        obtain ⟨pb, hpb⟩ : ∃ pb, wd.heap.size = pb := ⟨_, rfl⟩
        rw [hpb] at BX ⊢
        have hpbl : wr.heap.size ≤ pb := by rw [← hpb]; exact M_wd.size
        have M_c6 : Moves [p] wr c6 := M_wd.then (m6.mono (by simp))
        replace RD := RD.moves m6 (by simp) (by simp)
        clear h6 hpb m6
        refine hK.out _ _ ?_ (fun hHeld => ?_)
        ·trivial
        clear hK K
        try simp only [Act.put, sp1, sp2, sp3]
        refine wpR 1 ⟨some 24, .call ⟨.value (.func 80), #[.tmp 23, .const (.int .i64 16)], #[88, 3]⟩, 40, "rows.go:157", #[⟨0, .data⟩], none⟩ (fun K hK => ?_)
        go_simp
        (go_at_call 80; refine (rtextr_fail_w _ g b2 16 _ RD ho2.2 hok).mono ?_; rintro _ c1 ⟨rfl, hr2, m2⟩)
        exact ⟨rfl, .inr ⟨HNO.out, rfl, b2, hr2, (MR.out.then M_c6).then m2⟩⟩
      | some q =>
       obtain ⟨tx, b3⟩ := q
       obtain ⟨hok, htx, hb3⟩ := dText_yes hdt
       have hotx := (dText_text hdt ho2).1
       have ho3 := dText_rest hdt ho2
       have HTX : Hid ((b2.drop 4).take (val (b2.take 4)) = tx) := htx
       have HB3 : Hid ((b2.drop 4).drop (val (b2.take 4)) = b3) := hb3
       clear htx hb3
       cases hdg : dGood tAny b3 with
       | none =>
        have HNO : Hid (dTab bs = none) := by unfold Hid; rw [HTAB.out]; exact dTabs_none (dTabs_stop1 HIT.out (dNam_no2 hdt hdg)) (by omega)
        clear hdt hr4 M4
        go_wp2_with fail
        refine wp_region_held_drew (S := (fun _ => True)) (by kernel_rfl) ?_ (fun hHeld => ?_)
        ·first | (go_keep; done) | trivial
        rw [hwd]
        refine wpT 0 ⟨some 23, .move (.tmp 0), 88, "rows.go:157", #[], none⟩ ?_
        refine wpT 3 ⟨some 26, .move (.tmp 0), 88, "rows.go:157", #[], none⟩ ?_
        refine wpAnyH_ready (rs := [1, 6]) (by kernel_rfl) (by simp) ?_
        refine AllReadyH.cons (o := ⟨some 24, .call ⟨.value (.func 80), #[.tmp 23, .const (.int .i64 16)], #[88, 3]⟩, 40, "rows.go:157", #[⟨0, .data⟩], none⟩) rfl (fun K hK => ?_) (AllReadyH.cons (o := ⟨some 5, .alloc 68, 0, "rows.go:157", #[], none⟩) rfl (fun K hK => ?_) AllReadyH.nil)
        ·go_simp
         (go_at_call 80; refine (rtextr_w _ g b2 16 _ RD ho2.2 hok).mono ?_; rintro _ c1 ⟨v2, rfl, hO2, hr2, m2, f2⟩)
         rw [HTX.out] at hO2
         rw [HB3.out] at hr2
         have hsl := hO2.isB
         obtain ⟨ad2, n2, cap2, rfl, _⟩ := id hsl
         clear hsl
         have M_c1 : Moves [p] wr c1 := M_wd.then m2
         replace RD := hr2
         have OW := hO2
         have FR : Fresh wr (.slice ad2 n2 cap2) := fun j hj => Nat.le_trans M_wd.size (f2 j hj)
         clear hO2 hr2 m2 f2
         refine hK.out _ _ ?_ (fun hHeld => ?_)
         ·trivial
         clear hK K
         try simp only [Act.put, sp1, sp2, sp3]
         refine wpAnyH_ready (rs := [2, 4, 6]) (by kernel_rfl) (by simp) ?_
         refine AllReadyH.cons (o := ⟨some 25, .convert 40 9 (.tmp 24), 9, "rows.go:157", #[⟨1, .data⟩], none⟩) rfl (fun K hK => ?_) (AllReadyH.cons (o := ⟨some 27, .call ⟨.value (.func 81), #[.tmp 26], #[88]⟩, 52, "rows.go:157", #[⟨3, .data⟩, ⟨1, .chain⟩], none⟩) rfl (fun K hK => ?_) (AllReadyH.cons (o := ⟨some 5, .alloc 68, 0, "rows.go:157", #[], none⟩) rfl (fun K hK => ?_) AllReadyH.nil))
         ·have hstr := run_str OW.isB hotx
          go_simp
          refine hK.out _ _ ?_ (fun hHeld => ?_)
          ·trivial
          clear hK K
          refine wpAnyH_ready (rs := [4, 6]) (by kernel_rfl) (by simp) ?_
          refine AllReadyH.cons (o := ⟨some 27, .call ⟨.value (.func 81), #[.tmp 26], #[88]⟩, 52, "rows.go:157", #[⟨3, .data⟩, ⟨1, .chain⟩], none⟩) rfl (fun K hK => ?_) (AllReadyH.cons (o := ⟨some 5, .alloc 68, 0, "rows.go:157", #[], none⟩) rfl (fun K hK => ?_) AllReadyH.nil)
          ·go_simp
           (go_at_call 81; refine (rowTake_w N _ g b3 _ RD ho3 (Nat.lt_of_lt_of_le hgr M_c1.size)).mono ?_; intro e5 c4 hT; obtain ⟨rfl, bs', hr6, m6⟩ := TookR_no hT hdg)
           exact ⟨rfl, .inr ⟨HNO.out, rfl, bs', hr6, (MR.out.then M_c1).then m6⟩⟩
          ·go_simp
           obtain ⟨c6, h6⟩ : ∃ c6, c1.alloc (.cells #[.string ⟨#[]⟩, .slice none 0 0] 68) = c6 := ⟨_, rfl⟩
           have BX : c6.heap[c1.heap.size]? = some (.cells #[.string ⟨#[]⟩, .slice none 0 0] 68 (0, 0)) := by rw [← h6]; exact heap_alloc_new _ _
           have m6 : Moves [] c1 c6 := by rw [← h6]; exact (Moves.refl _ _).alloc _
           rw [h6]
           obtain ⟨pb, hpb⟩ : ∃ pb, c1.heap.size = pb := ⟨_, rfl⟩
           rw [hpb] at BX ⊢
           have hpbl : wr.heap.size ≤ pb := by rw [← hpb]; exact M_c1.size
           have M_c6 : Moves [p] wr c6 := M_c1.then (m6.mono (by simp))
           replace RD := RD.moves m6 (by simp) (by simp)
           replace OW := OW.moves m6 (by simp)
           clear h6 hpb m6
           refine hK.out _ _ ?_ (fun hHeld => ?_)
           ·trivial
           clear hK K
           try simp only [Act.put, sp1, sp2, sp3]
           refine wpR 4 ⟨some 27, .call ⟨.value (.func 81), #[.tmp 26], #[88]⟩, 52, "rows.go:157", #[⟨3, .data⟩, ⟨1, .chain⟩], none⟩ (fun K hK => ?_)
           go_simp
           (go_at_call 81; refine (rowTake_w N _ g b3 _ RD ho3 (Nat.lt_of_lt_of_le hgr M_c6.size)).mono ?_; intro e5 c4 hT; obtain ⟨rfl, bs', hr6, m6⟩ := TookR_no hT hdg)
           exact ⟨rfl, .inr ⟨HNO.out, rfl, bs', hr6, (MR.out.then M_c6).then m6⟩⟩
         ·go_simp
          (go_at_call 81; refine (rowTake_w N _ g b3 _ RD ho3 (Nat.lt_of_lt_of_le hgr M_c1.size)).mono ?_; intro e5 c4 hT; obtain ⟨rfl, bs', hr6, m6⟩ := TookR_no hT hdg)
          exact ⟨rfl, .inr ⟨HNO.out, rfl, bs', hr6, (MR.out.then M_c1).then m6⟩⟩
         ·go_simp
          obtain ⟨c6, h6⟩ : ∃ c6, c1.alloc (.cells #[.string ⟨#[]⟩, .slice none 0 0] 68) = c6 := ⟨_, rfl⟩
          have BX : c6.heap[c1.heap.size]? = some (.cells #[.string ⟨#[]⟩, .slice none 0 0] 68 (0, 0)) := by rw [← h6]; exact heap_alloc_new _ _
          have m6 : Moves [] c1 c6 := by rw [← h6]; exact (Moves.refl _ _).alloc _
          rw [h6]
          obtain ⟨pb, hpb⟩ : ∃ pb, c1.heap.size = pb := ⟨_, rfl⟩
          rw [hpb] at BX ⊢
          have hpbl : wr.heap.size ≤ pb := by rw [← hpb]; exact M_c1.size
          have M_c6 : Moves [p] wr c6 := M_c1.then (m6.mono (by simp))
          replace RD := RD.moves m6 (by simp) (by simp)
          replace OW := OW.moves m6 (by simp)
          clear h6 hpb m6
          refine hK.out _ _ ?_ (fun hHeld => ?_)
          ·trivial
          clear hK K
          try simp only [Act.put, sp1, sp2, sp3]
          refine wpAnyH_ready (rs := [2, 4]) (by kernel_rfl) (by simp) ?_
          refine AllReadyH.cons (o := ⟨some 25, .convert 40 9 (.tmp 24), 9, "rows.go:157", #[⟨1, .data⟩], none⟩) rfl (fun K hK => ?_) (AllReadyH.cons (o := ⟨some 27, .call ⟨.value (.func 81), #[.tmp 26], #[88]⟩, 52, "rows.go:157", #[⟨3, .data⟩, ⟨1, .chain⟩], none⟩) rfl (fun K hK => ?_) AllReadyH.nil)
          ·have hstr := run_str OW.isB hotx
           go_simp
           refine hK.out _ _ ?_ (fun hHeld => ?_)
           ·trivial
           clear hK K
           refine wpR 4 ⟨some 27, .call ⟨.value (.func 81), #[.tmp 26], #[88]⟩, 52, "rows.go:157", #[⟨3, .data⟩, ⟨1, .chain⟩], none⟩ (fun K hK => ?_)
           go_simp
           (go_at_call 81; refine (rowTake_w N _ g b3 _ RD ho3 (Nat.lt_of_lt_of_le hgr M_c6.size)).mono ?_; intro e5 c4 hT; obtain ⟨rfl, bs', hr6, m6⟩ := TookR_no hT hdg)
           exact ⟨rfl, .inr ⟨HNO.out, rfl, bs', hr6, (MR.out.then M_c6).then m6⟩⟩
          ·go_simp
           (go_at_call 81; refine (rowTake_w N _ g b3 _ RD ho3 (Nat.lt_of_lt_of_le hgr M_c6.size)).mono ?_; intro e5 c4 hT; obtain ⟨rfl, bs', hr6, m6⟩ := TookR_no hT hdg)
           exact ⟨rfl, .inr ⟨HNO.out, rfl, bs', hr6, (MR.out.then M_c6).then m6⟩⟩
        ·go_simp
         obtain ⟨c6, h6⟩ : ∃ c6, wd.alloc (.cells #[.string ⟨#[]⟩, .slice none 0 0] 68) = c6 := ⟨_, rfl⟩
         have BX : c6.heap[wd.heap.size]? = some (.cells #[.string ⟨#[]⟩, .slice none 0 0] 68 (0, 0)) := by rw [← h6]; exact heap_alloc_new _ _
         have m6 : Moves [] wd c6 := by rw [← h6]; exact (Moves.refl _ _).alloc _
         rw [h6]
         obtain ⟨pb, hpb⟩ : ∃ pb, wd.heap.size = pb := ⟨_, rfl⟩
         rw [hpb] at BX ⊢
         have hpbl : wr.heap.size ≤ pb := by rw [← hpb]; exact M_wd.size
         have M_c6 : Moves [p] wr c6 := M_wd.then (m6.mono (by simp))
         replace RD := RD.moves m6 (by simp) (by simp)
         clear h6 hpb m6
         refine hK.out _ _ ?_ (fun hHeld => ?_)
         ·trivial
         clear hK K
         try simp only [Act.put, sp1, sp2, sp3]
         refine wpR 1 ⟨some 24, .call ⟨.value (.func 80), #[.tmp 23, .const (.int .i64 16)], #[88, 3]⟩, 40, "rows.go:157", #[⟨0, .data⟩], none⟩ (fun K hK => ?_)
         go_simp
         (go_at_call 80; refine (rtextr_w _ g b2 16 _ RD ho2.2 hok).mono ?_; rintro _ c1 ⟨v2, rfl, hO2, hr2, m2, f2⟩)
         rw [HTX.out] at hO2
         rw [HB3.out] at hr2
         have hsl := hO2.isB
         obtain ⟨ad2, n2, cap2, rfl, _⟩ := id hsl
         clear hsl
         have M_c1 : Moves [p] wr c1 := M_c6.then m2
         replace RD := hr2
         have OW := hO2
         have FR : Fresh wr (.slice ad2 n2 cap2) := fun j hj => Nat.le_trans M_c6.size (f2 j hj)
         replace BX := m2.at BX (by simp; omega)
         clear hO2 hr2 m2 f2
         refine hK.out _ _ ?_ (fun hHeld => ?_)
         ·trivial
         clear hK K
         try simp only [Act.put, sp1, sp2, sp3]
         refine wpAnyH_ready (rs := [2, 4]) (by kernel_rfl) (by simp) ?_
         refine AllReadyH.cons (o := ⟨some 25, .convert 40 9 (.tmp 24), 9, "rows.go:157", #[⟨1, .data⟩], none⟩) rfl (fun K hK => ?_) (AllReadyH.cons (o := ⟨some 27, .call ⟨.value (.func 81), #[.tmp 26], #[88]⟩, 52, "rows.go:157", #[⟨3, .data⟩, ⟨1, .chain⟩], none⟩) rfl (fun K hK => ?_) AllReadyH.nil)
         ·have hstr := run_str OW.isB hotx
          go_simp
          refine hK.out _ _ ?_ (fun hHeld => ?_)
          ·trivial
          clear hK K
          refine wpR 4 ⟨some 27, .call ⟨.value (.func 81), #[.tmp 26], #[88]⟩, 52, "rows.go:157", #[⟨3, .data⟩, ⟨1, .chain⟩], none⟩ (fun K hK => ?_)
          go_simp
          (go_at_call 81; refine (rowTake_w N _ g b3 _ RD ho3 (Nat.lt_of_lt_of_le hgr M_c1.size)).mono ?_; intro e5 c4 hT; obtain ⟨rfl, bs', hr6, m6⟩ := TookR_no hT hdg)
          exact ⟨rfl, .inr ⟨HNO.out, rfl, bs', hr6, (MR.out.then M_c1).then m6⟩⟩
         ·go_simp
          (go_at_call 81; refine (rowTake_w N _ g b3 _ RD ho3 (Nat.lt_of_lt_of_le hgr M_c1.size)).mono ?_; intro e5 c4 hT; obtain ⟨rfl, bs', hr6, m6⟩ := TookR_no hT hdg)
          exact ⟨rfl, .inr ⟨HNO.out, rfl, bs', hr6, (MR.out.then M_c1).then m6⟩⟩
       | some q2 =>
        obtain ⟨R, b4⟩ := q2
        have HDN : Hid (dNam b2 = some (⟨strOf tx, R⟩, b4)) := dNam_of hdt hdg
        clear hdt hr4 M4
        go_wp2_with fail
        refine wp_some [23, 24, 25, 26, 27, 28, 5] (fun u w' => ∃ (pb : Nat) (ad5 : Option Addr) (n5 cap5 : Nat), u 5 = .pointer (some ⟨pb, 0, none⟩) ∧ wr.heap.size ≤ pb ∧ (w'.heap[pb]? = some (.cells #[.string (strOf tx), .slice ad5 n5 cap5] 68 (0, 0)) ∧ ColsAt w' (.slice ad5 n5 cap5) R ∧ RdIs w' p g b4 false ∧ Moves [p] wr w')) ?_ ?_
        ·skip
         refine wp_region_noPanic ?_
         refine wp_region_held_drew (S := (fun _ => True)) (by kernel_rfl) ?_ (fun hHeld => ?_)
         ·first | (go_keep; done) | trivial
         rw [hwd]
         refine wpT 0 ⟨some 23, .move (.tmp 0), 88, "rows.go:157", #[], none⟩ ?_
         refine wpT 3 ⟨some 26, .move (.tmp 0), 88, "rows.go:157", #[], none⟩ ?_
         refine wpAnyH_ready (rs := [1, 6]) (by kernel_rfl) (by simp) ?_
         refine AllReadyH.cons (o := ⟨some 24, .call ⟨.value (.func 80), #[.tmp 23, .const (.int .i64 16)], #[88, 3]⟩, 40, "rows.go:157", #[⟨0, .data⟩], none⟩) rfl (fun K hK => ?_) (AllReadyH.cons (o := ⟨some 5, .alloc 68, 0, "rows.go:157", #[], none⟩) rfl (fun K hK => ?_) AllReadyH.nil)
         ·go_simp
          (go_at_call 80; refine (rtextr_w _ g b2 16 _ RD ho2.2 hok).mono ?_; rintro _ c1 ⟨v2, rfl, hO2, hr2, m2, f2⟩)
          rw [HTX.out] at hO2
          rw [HB3.out] at hr2
          have hsl := hO2.isB
          obtain ⟨ad2, n2, cap2, rfl, _⟩ := id hsl
          clear hsl
          have M_c1 : Moves [p] wr c1 := M_wd.then m2
          replace RD := hr2
          have OW := hO2
          have FR : Fresh wr (.slice ad2 n2 cap2) := fun j hj => Nat.le_trans M_wd.size (f2 j hj)
          clear hO2 hr2 m2 f2
          refine hK.out _ _ ?_ (fun hHeld => ?_)
          ·trivial
          clear hK K
          refine wpAnyH_ready (rs := [2, 4, 6]) (by kernel_rfl) (by simp) ?_
          refine AllReadyH.cons (o := ⟨some 25, .convert 40 9 (.tmp 24), 9, "rows.go:157", #[⟨1, .data⟩], none⟩) rfl (fun K hK => ?_) (AllReadyH.cons (o := ⟨some 27, .call ⟨.value (.func 81), #[.tmp 26], #[88]⟩, 52, "rows.go:157", #[⟨3, .data⟩, ⟨1, .chain⟩], none⟩) rfl (fun K hK => ?_) (AllReadyH.cons (o := ⟨some 5, .alloc 68, 0, "rows.go:157", #[], none⟩) rfl (fun K hK => ?_) AllReadyH.nil))
          ·have hstr := run_str OW.isB hotx
           go_simp
           refine hK.out _ _ ?_ (fun hHeld => ?_)
           ·trivial
           clear hK K
           refine wpAnyH_ready (rs := [4, 6]) (by kernel_rfl) (by simp) ?_
           refine AllReadyH.cons (o := ⟨some 27, .call ⟨.value (.func 81), #[.tmp 26], #[88]⟩, 52, "rows.go:157", #[⟨3, .data⟩, ⟨1, .chain⟩], none⟩) rfl (fun K hK => ?_) (AllReadyH.cons (o := ⟨some 5, .alloc 68, 0, "rows.go:157", #[], none⟩) rfl (fun K hK => ?_) AllReadyH.nil)
           ·go_simp
            (go_at_call 81; refine (rowTake_w N _ g b3 _ RD ho3 (Nat.lt_of_lt_of_le hgr M_c1.size)).mono ?_; intro e5 c4 hT; obtain ⟨ad5, n5, cap5, rfl, hG5, hr5, m5⟩ := TookR_ok hT hdg)
            have M_c4 : Moves [p] wr c4 := M_c1.then m5
            replace RD := hr5
            have CO : ColsAt c4 (.slice ad5 n5 cap5) R := hG5.at
            replace OW := OW.moves m5 (fun k hk => by have := FR k hk; simp; omega)
            clear hG5 hr5 m5 hT
            refine hK.out _ _ ?_ (fun hHeld => ?_)
            ·trivial
            clear hK K
            refine wpT 5 ⟨some 28, .build 68 #[(0, .tmp 25), (1, .tmp 27)], 68, "rows.go:157", #[⟨2, .data⟩, ⟨4, .data⟩], none⟩ ?_
            refine wpR 6 ⟨some 5, .alloc 68, 0, "rows.go:157", #[], none⟩ (fun K hK => ?_)
            go_simp
            obtain ⟨c6, h6⟩ : ∃ c6, c4.alloc (.cells #[.string ⟨#[]⟩, .slice none 0 0] 68) = c6 := ⟨_, rfl⟩
            have BX : c6.heap[c4.heap.size]? = some (.cells #[.string ⟨#[]⟩, .slice none 0 0] 68 (0, 0)) := by rw [← h6]; exact heap_alloc_new _ _
            have m6 : Moves [] c4 c6 := by rw [← h6]; exact (Moves.refl _ _).alloc _
            rw [h6]
            obtain ⟨pb, hpb⟩ : ∃ pb, c4.heap.size = pb := ⟨_, rfl⟩
            rw [hpb] at BX ⊢
            have hpbl : wr.heap.size ≤ pb := by rw [← hpb]; exact M_c4.size
            have M_c6 : Moves [p] wr c6 := M_c4.then (m6.mono (by simp))
            replace RD := RD.moves m6 (by simp) (by simp)
            replace OW := OW.moves m6 (by simp)
            replace CO := CO.moves m6
            clear h6 hpb m6
            refine hK.out _ _ ?_ (fun hHeld => ?_)
            ·trivial
            clear hK K
            refine wpR 7 ⟨none, .store 68 (.tmp 5) (.tmp 28), 0, "rows.go:157", #[⟨6, .data⟩, ⟨5, .data⟩, ⟨4, .chain⟩, ⟨0, .phase⟩, ⟨1, .phase⟩, ⟨2, .phase⟩, ⟨3, .phase⟩, ⟨4, .phase⟩, ⟨5, .phase⟩, ⟨6, .phase⟩], none⟩ (fun K hK => ?_)
            obtain ⟨f0, f1, fz0, fz1⟩ := pair_frozen BX
            have hms : Moves [pb] c6 ((c6.setCell ⟨pb, 0, none⟩ (.string (strOf tx))).setCell ⟨pb, 1, none⟩ (.slice ad5 n5 cap5)) := (moves_set _ _ _ _).then (moves_set _ _ _ _)
            have hbs : ((c6.setCell ⟨pb, 0, none⟩ (.string (strOf tx))).setCell ⟨pb, 1, none⟩ (.slice ad5 n5 cap5)).heap[pb]? = some (.cells #[.string (strOf tx), .slice ad5 n5 cap5] 68 (0, 0)) := heap_set (i := 1) (heap_set (i := 0) BX (.string (strOf tx))) (.slice ad5 n5 cap5)
            have hst : Stay (· ≠ 68) c6 ((c6.setCell ⟨pb, 0, none⟩ (.string (strOf tx))).setCell ⟨pb, 1, none⟩ (.slice ad5 n5 cap5)) := Stay.trans (Stay.set BX (by simp) _) (Stay.set (heap_set (i := 0) BX (.string (strOf tx))) (by simp) _)
            have hfin := fin_x RD CO M_c6 hpbl hms hst hbs hp3 hg3
            clear RD CO OW BX hms hst hbs
            go_simp
            refine hK.out _ _ ?_ (fun hHeld => ?_)
            ·trivial
            clear hK K
            refine wpAnyH_done (by kernel_rfl) ?_ _
            refine NoPanic.normal ?_
            exact ⟨rfl, by kernel_rfl, pb, ad5, n5, cap5, by kernel_rfl, hpbl, hfin⟩
           ·go_simp
            obtain ⟨c6, h6⟩ : ∃ c6, c1.alloc (.cells #[.string ⟨#[]⟩, .slice none 0 0] 68) = c6 := ⟨_, rfl⟩
            have BX : c6.heap[c1.heap.size]? = some (.cells #[.string ⟨#[]⟩, .slice none 0 0] 68 (0, 0)) := by rw [← h6]; exact heap_alloc_new _ _
            have m6 : Moves [] c1 c6 := by rw [← h6]; exact (Moves.refl _ _).alloc _
            rw [h6]
            obtain ⟨pb, hpb⟩ : ∃ pb, c1.heap.size = pb := ⟨_, rfl⟩
            rw [hpb] at BX ⊢
            have hpbl : wr.heap.size ≤ pb := by rw [← hpb]; exact M_c1.size
            have M_c6 : Moves [p] wr c6 := M_c1.then (m6.mono (by simp))
            replace RD := RD.moves m6 (by simp) (by simp)
            replace OW := OW.moves m6 (by simp)
            clear h6 hpb m6
            refine hK.out _ _ ?_ (fun hHeld => ?_)
            ·trivial
            clear hK K
            refine wpR 4 ⟨some 27, .call ⟨.value (.func 81), #[.tmp 26], #[88]⟩, 52, "rows.go:157", #[⟨3, .data⟩, ⟨1, .chain⟩], none⟩ (fun K hK => ?_)
            go_simp
            (go_at_call 81; refine (rowTake_w N _ g b3 _ RD ho3 (Nat.lt_of_lt_of_le hgr M_c6.size)).mono ?_; intro e5 c4 hT; obtain ⟨ad5, n5, cap5, rfl, hG5, hr5, m5⟩ := TookR_ok hT hdg)
            have M_c4 : Moves [p] wr c4 := M_c6.then m5
            replace RD := hr5
            have CO : ColsAt c4 (.slice ad5 n5 cap5) R := hG5.at
            replace OW := OW.moves m5 (fun k hk => by have := FR k hk; simp; omega)
            replace BX := m5.at BX (by simp; omega)
            clear hG5 hr5 m5 hT
            refine hK.out _ _ ?_ (fun hHeld => ?_)
            ·trivial
            clear hK K
            refine wpT 5 ⟨some 28, .build 68 #[(0, .tmp 25), (1, .tmp 27)], 68, "rows.go:157", #[⟨2, .data⟩, ⟨4, .data⟩], none⟩ ?_
            refine wpR 7 ⟨none, .store 68 (.tmp 5) (.tmp 28), 0, "rows.go:157", #[⟨6, .data⟩, ⟨5, .data⟩, ⟨4, .chain⟩, ⟨0, .phase⟩, ⟨1, .phase⟩, ⟨2, .phase⟩, ⟨3, .phase⟩, ⟨4, .phase⟩, ⟨5, .phase⟩, ⟨6, .phase⟩], none⟩ (fun K hK => ?_)
            obtain ⟨f0, f1, fz0, fz1⟩ := pair_frozen BX
            have hms : Moves [pb] c4 ((c4.setCell ⟨pb, 0, none⟩ (.string (strOf tx))).setCell ⟨pb, 1, none⟩ (.slice ad5 n5 cap5)) := (moves_set _ _ _ _).then (moves_set _ _ _ _)
            have hbs : ((c4.setCell ⟨pb, 0, none⟩ (.string (strOf tx))).setCell ⟨pb, 1, none⟩ (.slice ad5 n5 cap5)).heap[pb]? = some (.cells #[.string (strOf tx), .slice ad5 n5 cap5] 68 (0, 0)) := heap_set (i := 1) (heap_set (i := 0) BX (.string (strOf tx))) (.slice ad5 n5 cap5)
            have hst : Stay (· ≠ 68) c4 ((c4.setCell ⟨pb, 0, none⟩ (.string (strOf tx))).setCell ⟨pb, 1, none⟩ (.slice ad5 n5 cap5)) := Stay.trans (Stay.set BX (by simp) _) (Stay.set (heap_set (i := 0) BX (.string (strOf tx))) (by simp) _)
            have hfin := fin_x RD CO M_c4 hpbl hms hst hbs hp3 hg3
            clear RD CO OW BX hms hst hbs
            go_simp
            refine hK.out _ _ ?_ (fun hHeld => ?_)
            ·trivial
            clear hK K
            refine wpAnyH_done (by kernel_rfl) ?_ _
            refine NoPanic.normal ?_
            exact ⟨rfl, by kernel_rfl, pb, ad5, n5, cap5, by kernel_rfl, hpbl, hfin⟩
          ·go_simp
           (go_at_call 81; refine (rowTake_w N _ g b3 _ RD ho3 (Nat.lt_of_lt_of_le hgr M_c1.size)).mono ?_; intro e5 c4 hT; obtain ⟨ad5, n5, cap5, rfl, hG5, hr5, m5⟩ := TookR_ok hT hdg)
           have M_c4 : Moves [p] wr c4 := M_c1.then m5
           replace RD := hr5
           have CO : ColsAt c4 (.slice ad5 n5 cap5) R := hG5.at
           replace OW := OW.moves m5 (fun k hk => by have := FR k hk; simp; omega)
           clear hG5 hr5 m5 hT
           refine hK.out _ _ ?_ (fun hHeld => ?_)
           ·trivial
           clear hK K
           refine wpAnyH_ready (rs := [2, 6]) (by kernel_rfl) (by simp) ?_
           refine AllReadyH.cons (o := ⟨some 25, .convert 40 9 (.tmp 24), 9, "rows.go:157", #[⟨1, .data⟩], none⟩) rfl (fun K hK => ?_) (AllReadyH.cons (o := ⟨some 5, .alloc 68, 0, "rows.go:157", #[], none⟩) rfl (fun K hK => ?_) AllReadyH.nil)
           ·have hstr := run_str OW.isB hotx
            go_simp
            refine hK.out _ _ ?_ (fun hHeld => ?_)
            ·trivial
            clear hK K
            refine wpT 5 ⟨some 28, .build 68 #[(0, .tmp 25), (1, .tmp 27)], 68, "rows.go:157", #[⟨2, .data⟩, ⟨4, .data⟩], none⟩ ?_
            refine wpR 6 ⟨some 5, .alloc 68, 0, "rows.go:157", #[], none⟩ (fun K hK => ?_)
            go_simp
            obtain ⟨c6, h6⟩ : ∃ c6, c4.alloc (.cells #[.string ⟨#[]⟩, .slice none 0 0] 68) = c6 := ⟨_, rfl⟩
            have BX : c6.heap[c4.heap.size]? = some (.cells #[.string ⟨#[]⟩, .slice none 0 0] 68 (0, 0)) := by rw [← h6]; exact heap_alloc_new _ _
            have m6 : Moves [] c4 c6 := by rw [← h6]; exact (Moves.refl _ _).alloc _
            rw [h6]
            obtain ⟨pb, hpb⟩ : ∃ pb, c4.heap.size = pb := ⟨_, rfl⟩
            rw [hpb] at BX ⊢
            have hpbl : wr.heap.size ≤ pb := by rw [← hpb]; exact M_c4.size
            have M_c6 : Moves [p] wr c6 := M_c4.then (m6.mono (by simp))
            replace RD := RD.moves m6 (by simp) (by simp)
            replace OW := OW.moves m6 (by simp)
            replace CO := CO.moves m6
            clear h6 hpb m6
            refine hK.out _ _ ?_ (fun hHeld => ?_)
            ·trivial
            clear hK K
            refine wpR 7 ⟨none, .store 68 (.tmp 5) (.tmp 28), 0, "rows.go:157", #[⟨6, .data⟩, ⟨5, .data⟩, ⟨4, .chain⟩, ⟨0, .phase⟩, ⟨1, .phase⟩, ⟨2, .phase⟩, ⟨3, .phase⟩, ⟨4, .phase⟩, ⟨5, .phase⟩, ⟨6, .phase⟩], none⟩ (fun K hK => ?_)
            obtain ⟨f0, f1, fz0, fz1⟩ := pair_frozen BX
            have hms : Moves [pb] c6 ((c6.setCell ⟨pb, 0, none⟩ (.string (strOf tx))).setCell ⟨pb, 1, none⟩ (.slice ad5 n5 cap5)) := (moves_set _ _ _ _).then (moves_set _ _ _ _)
            have hbs : ((c6.setCell ⟨pb, 0, none⟩ (.string (strOf tx))).setCell ⟨pb, 1, none⟩ (.slice ad5 n5 cap5)).heap[pb]? = some (.cells #[.string (strOf tx), .slice ad5 n5 cap5] 68 (0, 0)) := heap_set (i := 1) (heap_set (i := 0) BX (.string (strOf tx))) (.slice ad5 n5 cap5)
            have hst : Stay (· ≠ 68) c6 ((c6.setCell ⟨pb, 0, none⟩ (.string (strOf tx))).setCell ⟨pb, 1, none⟩ (.slice ad5 n5 cap5)) := Stay.trans (Stay.set BX (by simp) _) (Stay.set (heap_set (i := 0) BX (.string (strOf tx))) (by simp) _)
            have hfin := fin_x RD CO M_c6 hpbl hms hst hbs hp3 hg3
            clear RD CO OW BX hms hst hbs
            go_simp
            refine hK.out _ _ ?_ (fun hHeld => ?_)
            ·trivial
            clear hK K
            refine wpAnyH_done (by kernel_rfl) ?_ _
            refine NoPanic.normal ?_
            exact ⟨rfl, by kernel_rfl, pb, ad5, n5, cap5, by kernel_rfl, hpbl, hfin⟩
           ·go_simp
            obtain ⟨c6, h6⟩ : ∃ c6, c4.alloc (.cells #[.string ⟨#[]⟩, .slice none 0 0] 68) = c6 := ⟨_, rfl⟩
            have BX : c6.heap[c4.heap.size]? = some (.cells #[.string ⟨#[]⟩, .slice none 0 0] 68 (0, 0)) := by rw [← h6]; exact heap_alloc_new _ _
            have m6 : Moves [] c4 c6 := by rw [← h6]; exact (Moves.refl _ _).alloc _
            rw [h6]
            obtain ⟨pb, hpb⟩ : ∃ pb, c4.heap.size = pb := ⟨_, rfl⟩
            rw [hpb] at BX ⊢
            have hpbl : wr.heap.size ≤ pb := by rw [← hpb]; exact M_c4.size
            have M_c6 : Moves [p] wr c6 := M_c4.then (m6.mono (by simp))
            replace RD := RD.moves m6 (by simp) (by simp)
            replace OW := OW.moves m6 (by simp)
            replace CO := CO.moves m6
            clear h6 hpb m6
            refine hK.out _ _ ?_ (fun hHeld => ?_)
            ·trivial
            clear hK K
            refine wpR 2 ⟨some 25, .convert 40 9 (.tmp 24), 9, "rows.go:157", #[⟨1, .data⟩], none⟩ (fun K hK => ?_)
            have hstr := run_str OW.isB hotx
            go_simp
            refine hK.out _ _ ?_ (fun hHeld => ?_)
            ·trivial
            clear hK K
            refine wpT 5 ⟨some 28, .build 68 #[(0, .tmp 25), (1, .tmp 27)], 68, "rows.go:157", #[⟨2, .data⟩, ⟨4, .data⟩], none⟩ ?_
            refine wpR 7 ⟨none, .store 68 (.tmp 5) (.tmp 28), 0, "rows.go:157", #[⟨6, .data⟩, ⟨5, .data⟩, ⟨4, .chain⟩, ⟨0, .phase⟩, ⟨1, .phase⟩, ⟨2, .phase⟩, ⟨3, .phase⟩, ⟨4, .phase⟩, ⟨5, .phase⟩, ⟨6, .phase⟩], none⟩ (fun K hK => ?_)
            obtain ⟨f0, f1, fz0, fz1⟩ := pair_frozen BX
            have hms : Moves [pb] c6 ((c6.setCell ⟨pb, 0, none⟩ (.string (strOf tx))).setCell ⟨pb, 1, none⟩ (.slice ad5 n5 cap5)) := (moves_set _ _ _ _).then (moves_set _ _ _ _)
            have hbs : ((c6.setCell ⟨pb, 0, none⟩ (.string (strOf tx))).setCell ⟨pb, 1, none⟩ (.slice ad5 n5 cap5)).heap[pb]? = some (.cells #[.string (strOf tx), .slice ad5 n5 cap5] 68 (0, 0)) := heap_set (i := 1) (heap_set (i := 0) BX (.string (strOf tx))) (.slice ad5 n5 cap5)
            have hst : Stay (· ≠ 68) c6 ((c6.setCell ⟨pb, 0, none⟩ (.string (strOf tx))).setCell ⟨pb, 1, none⟩ (.slice ad5 n5 cap5)) := Stay.trans (Stay.set BX (by simp) _) (Stay.set (heap_set (i := 0) BX (.string (strOf tx))) (by simp) _)
            have hfin := fin_x RD CO M_c6 hpbl hms hst hbs hp3 hg3
            clear RD CO OW BX hms hst hbs
            go_simp
            refine hK.out _ _ ?_ (fun hHeld => ?_)
            ·trivial
            clear hK K
            refine wpAnyH_done (by kernel_rfl) ?_ _
            refine NoPanic.normal ?_
            exact ⟨rfl, by kernel_rfl, pb, ad5, n5, cap5, by kernel_rfl, hpbl, hfin⟩
          ·go_simp
           obtain ⟨c6, h6⟩ : ∃ c6, c1.alloc (.cells #[.string ⟨#[]⟩, .slice none 0 0] 68) = c6 := ⟨_, rfl⟩
           have BX : c6.heap[c1.heap.size]? = some (.cells #[.string ⟨#[]⟩, .slice none 0 0] 68 (0, 0)) := by rw [← h6]; exact heap_alloc_new _ _
           have m6 : Moves [] c1 c6 := by rw [← h6]; exact (Moves.refl _ _).alloc _
           rw [h6]
           obtain ⟨pb, hpb⟩ : ∃ pb, c1.heap.size = pb := ⟨_, rfl⟩
           rw [hpb] at BX ⊢
           have hpbl : wr.heap.size ≤ pb := by rw [← hpb]; exact M_c1.size
           have M_c6 : Moves [p] wr c6 := M_c1.then (m6.mono (by simp))
           replace RD := RD.moves m6 (by simp) (by simp)
           replace OW := OW.moves m6 (by simp)
           clear h6 hpb m6
           refine hK.out _ _ ?_ (fun hHeld => ?_)
           ·trivial
           clear hK K
           refine wpAnyH_ready (rs := [2, 4]) (by kernel_rfl) (by simp) ?_
           refine AllReadyH.cons (o := ⟨some 25, .convert 40 9 (.tmp 24), 9, "rows.go:157", #[⟨1, .data⟩], none⟩) rfl (fun K hK => ?_) (AllReadyH.cons (o := ⟨some 27, .call ⟨.value (.func 81), #[.tmp 26], #[88]⟩, 52, "rows.go:157", #[⟨3, .data⟩, ⟨1, .chain⟩], none⟩) rfl (fun K hK => ?_) AllReadyH.nil)
           ·have hstr := run_str OW.isB hotx
            go_simp
            refine hK.out _ _ ?_ (fun hHeld => ?_)
            ·trivial
            clear hK K
            refine wpR 4 ⟨some 27, .call ⟨.value (.func 81), #[.tmp 26], #[88]⟩, 52, "rows.go:157", #[⟨3, .data⟩, ⟨1, .chain⟩], none⟩ (fun K hK => ?_)
            go_simp
            (go_at_call 81; refine (rowTake_w N _ g b3 _ RD ho3 (Nat.lt_of_lt_of_le hgr M_c6.size)).mono ?_; intro e5 c4 hT; obtain ⟨ad5, n5, cap5, rfl, hG5, hr5, m5⟩ := TookR_ok hT hdg)
            have M_c4 : Moves [p] wr c4 := M_c6.then m5
            replace RD := hr5
            have CO : ColsAt c4 (.slice ad5 n5 cap5) R := hG5.at
            replace OW := OW.moves m5 (fun k hk => by have := FR k hk; simp; omega)
            replace BX := m5.at BX (by simp; omega)
            clear hG5 hr5 m5 hT
            refine hK.out _ _ ?_ (fun hHeld => ?_)
            ·trivial
            clear hK K
            refine wpT 5 ⟨some 28, .build 68 #[(0, .tmp 25), (1, .tmp 27)], 68, "rows.go:157", #[⟨2, .data⟩, ⟨4, .data⟩], none⟩ ?_
            refine wpR 7 ⟨none, .store 68 (.tmp 5) (.tmp 28), 0, "rows.go:157", #[⟨6, .data⟩, ⟨5, .data⟩, ⟨4, .chain⟩, ⟨0, .phase⟩, ⟨1, .phase⟩, ⟨2, .phase⟩, ⟨3, .phase⟩, ⟨4, .phase⟩, ⟨5, .phase⟩, ⟨6, .phase⟩], none⟩ (fun K hK => ?_)
            obtain ⟨f0, f1, fz0, fz1⟩ := pair_frozen BX
            have hms : Moves [pb] c4 ((c4.setCell ⟨pb, 0, none⟩ (.string (strOf tx))).setCell ⟨pb, 1, none⟩ (.slice ad5 n5 cap5)) := (moves_set _ _ _ _).then (moves_set _ _ _ _)
            have hbs : ((c4.setCell ⟨pb, 0, none⟩ (.string (strOf tx))).setCell ⟨pb, 1, none⟩ (.slice ad5 n5 cap5)).heap[pb]? = some (.cells #[.string (strOf tx), .slice ad5 n5 cap5] 68 (0, 0)) := heap_set (i := 1) (heap_set (i := 0) BX (.string (strOf tx))) (.slice ad5 n5 cap5)
            have hst : Stay (· ≠ 68) c4 ((c4.setCell ⟨pb, 0, none⟩ (.string (strOf tx))).setCell ⟨pb, 1, none⟩ (.slice ad5 n5 cap5)) := Stay.trans (Stay.set BX (by simp) _) (Stay.set (heap_set (i := 0) BX (.string (strOf tx))) (by simp) _)
            have hfin := fin_x RD CO M_c4 hpbl hms hst hbs hp3 hg3
            clear RD CO OW BX hms hst hbs
            go_simp
            refine hK.out _ _ ?_ (fun hHeld => ?_)
            ·trivial
            clear hK K
            refine wpAnyH_done (by kernel_rfl) ?_ _
            refine NoPanic.normal ?_
            exact ⟨rfl, by kernel_rfl, pb, ad5, n5, cap5, by kernel_rfl, hpbl, hfin⟩
           ·go_simp
            (go_at_call 81; refine (rowTake_w N _ g b3 _ RD ho3 (Nat.lt_of_lt_of_le hgr M_c6.size)).mono ?_; intro e5 c4 hT; obtain ⟨ad5, n5, cap5, rfl, hG5, hr5, m5⟩ := TookR_ok hT hdg)
            have M_c4 : Moves [p] wr c4 := M_c6.then m5
            replace RD := hr5
            have CO : ColsAt c4 (.slice ad5 n5 cap5) R := hG5.at
            replace OW := OW.moves m5 (fun k hk => by have := FR k hk; simp; omega)
            replace BX := m5.at BX (by simp; omega)
            clear hG5 hr5 m5 hT
            refine hK.out _ _ ?_ (fun hHeld => ?_)
            ·trivial
            clear hK K
            refine wpR 2 ⟨some 25, .convert 40 9 (.tmp 24), 9, "rows.go:157", #[⟨1, .data⟩], none⟩ (fun K hK => ?_)
            have hstr := run_str OW.isB hotx
            go_simp
            refine hK.out _ _ ?_ (fun hHeld => ?_)
            ·trivial
            clear hK K
            refine wpT 5 ⟨some 28, .build 68 #[(0, .tmp 25), (1, .tmp 27)], 68, "rows.go:157", #[⟨2, .data⟩, ⟨4, .data⟩], none⟩ ?_
            refine wpR 7 ⟨none, .store 68 (.tmp 5) (.tmp 28), 0, "rows.go:157", #[⟨6, .data⟩, ⟨5, .data⟩, ⟨4, .chain⟩, ⟨0, .phase⟩, ⟨1, .phase⟩, ⟨2, .phase⟩, ⟨3, .phase⟩, ⟨4, .phase⟩, ⟨5, .phase⟩, ⟨6, .phase⟩], none⟩ (fun K hK => ?_)
            obtain ⟨f0, f1, fz0, fz1⟩ := pair_frozen BX
            have hms : Moves [pb] c4 ((c4.setCell ⟨pb, 0, none⟩ (.string (strOf tx))).setCell ⟨pb, 1, none⟩ (.slice ad5 n5 cap5)) := (moves_set _ _ _ _).then (moves_set _ _ _ _)
            have hbs : ((c4.setCell ⟨pb, 0, none⟩ (.string (strOf tx))).setCell ⟨pb, 1, none⟩ (.slice ad5 n5 cap5)).heap[pb]? = some (.cells #[.string (strOf tx), .slice ad5 n5 cap5] 68 (0, 0)) := heap_set (i := 1) (heap_set (i := 0) BX (.string (strOf tx))) (.slice ad5 n5 cap5)
            have hst : Stay (· ≠ 68) c4 ((c4.setCell ⟨pb, 0, none⟩ (.string (strOf tx))).setCell ⟨pb, 1, none⟩ (.slice ad5 n5 cap5)) := Stay.trans (Stay.set BX (by simp) _) (Stay.set (heap_set (i := 0) BX (.string (strOf tx))) (by simp) _)
            have hfin := fin_x RD CO M_c4 hpbl hms hst hbs hp3 hg3
            clear RD CO OW BX hms hst hbs
            go_simp
            refine hK.out _ _ ?_ (fun hHeld => ?_)
            ·trivial
            clear hK K
            refine wpAnyH_done (by kernel_rfl) ?_ _
            refine NoPanic.normal ?_
            exact ⟨rfl, by kernel_rfl, pb, ad5, n5, cap5, by kernel_rfl, hpbl, hfin⟩
         ·go_simp
          obtain ⟨c6, h6⟩ : ∃ c6, wd.alloc (.cells #[.string ⟨#[]⟩, .slice none 0 0] 68) = c6 := ⟨_, rfl⟩
          have BX : c6.heap[wd.heap.size]? = some (.cells #[.string ⟨#[]⟩, .slice none 0 0] 68 (0, 0)) := by rw [← h6]; exact heap_alloc_new _ _
          have m6 : Moves [] wd c6 := by rw [← h6]; exact (Moves.refl _ _).alloc _
          rw [h6]
          obtain ⟨pb, hpb⟩ : ∃ pb, wd.heap.size = pb := ⟨_, rfl⟩
          rw [hpb] at BX ⊢
          have hpbl : wr.heap.size ≤ pb := by rw [← hpb]; exact M_wd.size
          have M_c6 : Moves [p] wr c6 := M_wd.then (m6.mono (by simp))
          replace RD := RD.moves m6 (by simp) (by simp)
          clear h6 hpb m6
          refine hK.out _ _ ?_ (fun hHeld => ?_)
          ·trivial
          clear hK K
          refine wpR 1 ⟨some 24, .call ⟨.value (.func 80), #[.tmp 23, .const (.int .i64 16)], #[88, 3]⟩, 40, "rows.go:157", #[⟨0, .data⟩], none⟩ (fun K hK => ?_)
          go_simp
          (go_at_call 80; refine (rtextr_w _ g b2 16 _ RD ho2.2 hok).mono ?_; rintro _ c1 ⟨v2, rfl, hO2, hr2, m2, f2⟩)
          rw [HTX.out] at hO2
          rw [HB3.out] at hr2
          have hsl := hO2.isB
          obtain ⟨ad2, n2, cap2, rfl, _⟩ := id hsl
          clear hsl
          have M_c1 : Moves [p] wr c1 := M_c6.then m2
          replace RD := hr2
          have OW := hO2
          have FR : Fresh wr (.slice ad2 n2 cap2) := fun j hj => Nat.le_trans M_c6.size (f2 j hj)
          replace BX := m2.at BX (by simp; omega)
          clear hO2 hr2 m2 f2
          refine hK.out _ _ ?_ (fun hHeld => ?_)
          ·trivial
          clear hK K
          refine wpAnyH_ready (rs := [2, 4]) (by kernel_rfl) (by simp) ?_
          refine AllReadyH.cons (o := ⟨some 25, .convert 40 9 (.tmp 24), 9, "rows.go:157", #[⟨1, .data⟩], none⟩) rfl (fun K hK => ?_) (AllReadyH.cons (o := ⟨some 27, .call ⟨.value (.func 81), #[.tmp 26], #[88]⟩, 52, "rows.go:157", #[⟨3, .data⟩, ⟨1, .chain⟩], none⟩) rfl (fun K hK => ?_) AllReadyH.nil)
          ·have hstr := run_str OW.isB hotx
           go_simp
           refine hK.out _ _ ?_ (fun hHeld => ?_)
           ·trivial
           clear hK K
           refine wpR 4 ⟨some 27, .call ⟨.value (.func 81), #[.tmp 26], #[88]⟩, 52, "rows.go:157", #[⟨3, .data⟩, ⟨1, .chain⟩], none⟩ (fun K hK => ?_)
           go_simp
           (go_at_call 81; refine (rowTake_w N _ g b3 _ RD ho3 (Nat.lt_of_lt_of_le hgr M_c1.size)).mono ?_; intro e5 c4 hT; obtain ⟨ad5, n5, cap5, rfl, hG5, hr5, m5⟩ := TookR_ok hT hdg)
           have M_c4 : Moves [p] wr c4 := M_c1.then m5
           replace RD := hr5
           have CO : ColsAt c4 (.slice ad5 n5 cap5) R := hG5.at
           replace OW := OW.moves m5 (fun k hk => by have := FR k hk; simp; omega)
           replace BX := m5.at BX (by simp; omega)
           clear hG5 hr5 m5 hT
           refine hK.out _ _ ?_ (fun hHeld => ?_)
           ·trivial
           clear hK K
           refine wpT 5 ⟨some 28, .build 68 #[(0, .tmp 25), (1, .tmp 27)], 68, "rows.go:157", #[⟨2, .data⟩, ⟨4, .data⟩], none⟩ ?_
           refine wpR 7 ⟨none, .store 68 (.tmp 5) (.tmp 28), 0, "rows.go:157", #[⟨6, .data⟩, ⟨5, .data⟩, ⟨4, .chain⟩, ⟨0, .phase⟩, ⟨1, .phase⟩, ⟨2, .phase⟩, ⟨3, .phase⟩, ⟨4, .phase⟩, ⟨5, .phase⟩, ⟨6, .phase⟩], none⟩ (fun K hK => ?_)
           obtain ⟨f0, f1, fz0, fz1⟩ := pair_frozen BX
           have hms : Moves [pb] c4 ((c4.setCell ⟨pb, 0, none⟩ (.string (strOf tx))).setCell ⟨pb, 1, none⟩ (.slice ad5 n5 cap5)) := (moves_set _ _ _ _).then (moves_set _ _ _ _)
           have hbs : ((c4.setCell ⟨pb, 0, none⟩ (.string (strOf tx))).setCell ⟨pb, 1, none⟩ (.slice ad5 n5 cap5)).heap[pb]? = some (.cells #[.string (strOf tx), .slice ad5 n5 cap5] 68 (0, 0)) := heap_set (i := 1) (heap_set (i := 0) BX (.string (strOf tx))) (.slice ad5 n5 cap5)
           have hst : Stay (· ≠ 68) c4 ((c4.setCell ⟨pb, 0, none⟩ (.string (strOf tx))).setCell ⟨pb, 1, none⟩ (.slice ad5 n5 cap5)) := Stay.trans (Stay.set BX (by simp) _) (Stay.set (heap_set (i := 0) BX (.string (strOf tx))) (by simp) _)
           have hfin := fin_x RD CO M_c4 hpbl hms hst hbs hp3 hg3
           clear RD CO OW BX hms hst hbs
           go_simp
           refine hK.out _ _ ?_ (fun hHeld => ?_)
           ·trivial
           clear hK K
           refine wpAnyH_done (by kernel_rfl) ?_ _
           refine NoPanic.normal ?_
           exact ⟨rfl, by kernel_rfl, pb, ad5, n5, cap5, by kernel_rfl, hpbl, hfin⟩
          ·go_simp
           (go_at_call 81; refine (rowTake_w N _ g b3 _ RD ho3 (Nat.lt_of_lt_of_le hgr M_c1.size)).mono ?_; intro e5 c4 hT; obtain ⟨ad5, n5, cap5, rfl, hG5, hr5, m5⟩ := TookR_ok hT hdg)
           have M_c4 : Moves [p] wr c4 := M_c1.then m5
           replace RD := hr5
           have CO : ColsAt c4 (.slice ad5 n5 cap5) R := hG5.at
           replace OW := OW.moves m5 (fun k hk => by have := FR k hk; simp; omega)
           replace BX := m5.at BX (by simp; omega)
           clear hG5 hr5 m5 hT
           refine hK.out _ _ ?_ (fun hHeld => ?_)
           ·trivial
           clear hK K
           refine wpR 2 ⟨some 25, .convert 40 9 (.tmp 24), 9, "rows.go:157", #[⟨1, .data⟩], none⟩ (fun K hK => ?_)
           have hstr := run_str OW.isB hotx
           go_simp
           refine hK.out _ _ ?_ (fun hHeld => ?_)
           ·trivial
           clear hK K
           refine wpT 5 ⟨some 28, .build 68 #[(0, .tmp 25), (1, .tmp 27)], 68, "rows.go:157", #[⟨2, .data⟩, ⟨4, .data⟩], none⟩ ?_
           refine wpR 7 ⟨none, .store 68 (.tmp 5) (.tmp 28), 0, "rows.go:157", #[⟨6, .data⟩, ⟨5, .data⟩, ⟨4, .chain⟩, ⟨0, .phase⟩, ⟨1, .phase⟩, ⟨2, .phase⟩, ⟨3, .phase⟩, ⟨4, .phase⟩, ⟨5, .phase⟩, ⟨6, .phase⟩], none⟩ (fun K hK => ?_)
           obtain ⟨f0, f1, fz0, fz1⟩ := pair_frozen BX
           have hms : Moves [pb] c4 ((c4.setCell ⟨pb, 0, none⟩ (.string (strOf tx))).setCell ⟨pb, 1, none⟩ (.slice ad5 n5 cap5)) := (moves_set _ _ _ _).then (moves_set _ _ _ _)
           have hbs : ((c4.setCell ⟨pb, 0, none⟩ (.string (strOf tx))).setCell ⟨pb, 1, none⟩ (.slice ad5 n5 cap5)).heap[pb]? = some (.cells #[.string (strOf tx), .slice ad5 n5 cap5] 68 (0, 0)) := heap_set (i := 1) (heap_set (i := 0) BX (.string (strOf tx))) (.slice ad5 n5 cap5)
           have hst : Stay (· ≠ 68) c4 ((c4.setCell ⟨pb, 0, none⟩ (.string (strOf tx))).setCell ⟨pb, 1, none⟩ (.slice ad5 n5 cap5)) := Stay.trans (Stay.set BX (by simp) _) (Stay.set (heap_set (i := 0) BX (.string (strOf tx))) (by simp) _)
           have hfin := fin_x RD CO M_c4 hpbl hms hst hbs hp3 hg3
           clear RD CO OW BX hms hst hbs
           go_simp
           refine hK.out _ _ ?_ (fun hHeld => ?_)
           ·trivial
           clear hK K
           refine wpAnyH_done (by kernel_rfl) ?_ _
           refine NoPanic.normal ?_
           exact ⟨rfl, by kernel_rfl, pb, ad5, n5, cap5, by kernel_rfl, hpbl, hfin⟩
        ·rintro u w9 ⟨pb, ad5, n5, cap5, hu5, hpbl, hb9, hC9, hr9, m9⟩
         simp only [List.foldl_cons, List.foldl_nil, List.setIfInBounds_toArray, List.set_cons_zero, List.set_cons_succ, hu5]
         clear hu5
         generalize u 23 = u23
         generalize u 24 = u24
         generalize u 25 = u25
         generalize u 26 = u26
         generalize u 27 = u27
         generalize u 28 = u28
         have hT9 := HTR.out.movesP m9 hp htp hcQ
         have hn5 : n5 = R.length := by obtain ⟨_, _, e, _⟩ := hC9.slice; simp at e; exact e.2.1
         have hmn := mayNext_w w w9 tp ta xs ⟨strOf tx, R⟩ ad5 n5 cap5 hT9 (by have := HLX.out; omega) hn5
         obtain ⟨d0, d1⟩ := pair_cells hb9
         have M9 : Moves [p] w w9 := MR.out.then m9
         clear hn5 RD M_wd hwd hgr hp3 hg3 hcQ
         cases hok2 : nextOk xs ⟨strOf tx, R⟩ with
         | false =>
          rw [hok2] at hmn
          have HNO : Hid (dTab bs = none) := by unfold Hid; rw [HTAB.out]; exact dTabs_none (dTabs_stop2 HIT.out HDN.out hok2) (by omega)
          clear hok2
          go_wp2_with (first | (go_at_call 82; refine hmn.mono ?_; rintro _ w10 ⟨rfl, m10⟩) | (go_at_call 78; refine (failed_w p g b4 _ (hr9.moves m10 (by simp) (by simp))).mono ?_; rintro _ w11 ⟨rfl, hr11, m11⟩))
          exact ⟨rfl, .inr ⟨HNO.out, rfl, b4, hr11, (M9.then (m10.mono (by simp))).then m11⟩⟩
         | true =>
          rw [hok2] at hmn
          have HIT2 : Hid (dTabs (j + 1) b1 = some (xs ++ [⟨strOf tx, R⟩], b4)) := dTabs_step HIT.out HDN.out hok2
          clear hok2
          go_wp2_with (go_at_call 82; refine hmn.mono ?_; rintro _ w10 ⟨rfl, m10⟩)
          have hT10 := hT9.moves0 m10
          have hb10 := m10.at hb9 (by simp)
          have hC10 := hC9.moves m10
          have hr10 := hr9.moves m10 (by simp) (by simp)
          have M10 : Moves [p] w w10 := M9.then (m10.mono (by simp))
          clear hT9 hb9 hC9 hr9 M9 d0 d1 hmn m9 m10
          obtain ⟨v9, hT9, hta, hG9⟩ := hT10
          obtain ⟨ad4, n4, cap4, rfl, hn4, _⟩ := hG9.open
          obtain ⟨k0, _⟩ := one_cell hT9
          obtain ⟨k1, k2⟩ := pair_cells hb10
          have HG9 : Hid (GrowN w w10 (.slice ad4 n4 cap4) xs) := hG9
          have HT9 : Hid (w10.heap[tp]? = some (.cells #[.slice ad4 n4 cap4] 66 (0, 0))) := hT9
          have HC9 : Hid (ColsAt w10 (.slice ad5 n5 cap5) R) := hC10
          have HSZ : Hid (w.heap.size ≤ w10.heap.size) := M10.size
          have HM9 : Hid (Moves [p] w w10) := M10
          have hr9 := hr10
          have hp3w := hp
          have hg3w := hg
          have hbd : xs.length + [(⟨strOf tx, R⟩ : Pnam)].length ≤ 1048576 := by have := HLX.out; simp; omega
          have hnt : tp ∉ (Value.slice ad4 n4 cap4).ownBlock.toList := Grow.neT hG9 hT9 (by decide)
          have hnp : pb ∉ (Value.slice ad4 n4 cap4).ownBlock.toList := by
           intro hm
           obtain ⟨v0, _, hv0, hG0⟩ := HTR.out
           obtain ⟨cur0, hc0⟩ := hG0.blk (hv0.trans (hta.symm.trans (Option.mem_toList.1 hm)))
           have := lt_of_block hc0
           omega
          have hptp : pb ∉ [tp] := by
           intro hm
           simp at hm
           rw [hm, hT9] at hb10
           simp at hb10
          clear hG9 hT9 hC10 hr10 M10 hb10
          refine wp_some [35, 36, 37, 38, 39, 40, 41, 42, 43, 44] (fun _ w' => (∃ ta', TabIs w w' tp ta' (xs ++ [⟨strOf tx, R⟩])) ∧ RdIs w' p g b4 false ∧ Moves [p] w w') ?_ ?_
          ·skip
           obtain ⟨wd, hwd⟩ : ∃ wd, w10.drew = wd := ⟨_, rfl⟩
           have md : Moves [] w10 wd := by rw [← hwd]; exact (Moves.refl _ _).drew
           have k00 := k0
           have k01 := k1
           have k02 := k2
           replace k0 := md.cell k0
           replace k1 := md.cell k1
           replace k2 := md.cell k2
           refine wp_region_noPanic ?_
           refine wp_region_held_drew (S := (fun w' => w'.cell? ⟨pb, 0, none⟩ = some (.string (strOf tx)) ∧ w'.cell? ⟨pb, 1, none⟩ = some (.slice ad5 n5 cap5))) (by kernel_rfl) ?_ (fun hHeld => ?_)
           ·first | (go_keep; done) | first | exact ⟨k1, k2⟩ | exact ⟨k4, k5⟩ | exact ⟨k7, k8⟩ | exact ⟨k9, k10⟩
           rw [hwd] at hHeld ⊢
           refine wpT 0 ⟨some 35, .move (.tmp 4), 23, "rows.go:161", #[], none⟩ ?_
           refine wpT 1 ⟨some 36, .move (.tmp 4), 23, "rows.go:161", #[], none⟩ ?_
           refine wpT 2 ⟨some 37, .nilCheck (.tmp 36), 0, "rows.go:161", #[⟨1, .data⟩], none⟩ ?_
           refine wpT 3 ⟨some 38, .fieldAddr 66 (.tmp 37) 0, 0, "rows.go:161", #[⟨2, .data⟩], none⟩ ?_
           refine wpT 5 ⟨some 40, .load 68 (.tmp 5), 68, "rows.go:161", #[], none⟩ ?_
           refine wpAnyH_ready (rs := [4, 6]) (by kernel_rfl) (by simp) ?_
           refine AllReadyH.cons (o := ⟨some 39, .load 24 (.tmp 38), 24, "rows.go:161", #[⟨3, .data⟩], none⟩) rfl (fun K hK => ?_) (AllReadyH.cons (o := ⟨some 41, .buildSlice 24 1 #[(0, .tmp 40)], 24, "rows.go:161", #[⟨5, .data⟩], none⟩) rfl (fun K hK => ?_) AllReadyH.nil)
           ·go_simp
            refine hK.out _ _ ?_ (fun hHeld => ?_)
            ·first | exact ⟨k1, k2⟩ | exact ⟨k4, k5⟩ | exact ⟨k7, k8⟩ | exact ⟨k9, k10⟩
            clear hK K
            refine wpR 6 ⟨some 41, .buildSlice 24 1 #[(0, .tmp 40)], 24, "rows.go:161", #[⟨5, .data⟩], none⟩ (fun K hK => ?_)
            go_simp
            have ma := md.alloc (.cells #[.string (strOf tx), .slice ad5 n5 cap5] 68)
            have k3 := ma.cell k00
            have k4 := ma.cell k01
            have k5 := ma.cell k02
            refine hK.out _ _ ?_ (fun hHeld => ?_)
            ·first | exact ⟨k1, k2⟩ | exact ⟨k4, k5⟩ | exact ⟨k7, k8⟩ | exact ⟨k9, k10⟩
            clear hK K
            refine wpR 7 ⟨some 42, .call ⟨.builtin .append, #[.tmp 39, .tmp 41], #[24, 24]⟩, 24, "rows.go:161", #[⟨4, .data⟩, ⟨6, .data⟩], none⟩ (fun K hK => ?_)
            refine growN_step (W := w) (.tmp 39) (.tmp 41) rfl _ _ xs [⟨strOf tx, R⟩] rfl rfl (by rfl) (HG9.out.moves0 ma) (nams_new wd _ _ ⟨strOf tx, R⟩ ⟨_, rfl, HC9.out.moves md⟩) (Nat.le_trans HSZ.out ma.size) hbd ?_
            intro v8 w8 hG8 m8 s8 l8
            have hsl := hG8.open
            obtain ⟨ad8, n8, cap8, rfl, _, _⟩ := hsl
            have k6 := m8.cellOf k3 hnt
            have k7 := m8.cellOf k4 hnp
            have k8 := m8.cellOf k5 hnp
            obtain ⟨G0, G1, G2, G3⟩ := take_fin6 HG9.out HT9.out hr9 ma m8 hG8 hp3w hg3w htp
            have fz8 : w8.frozen? ⟨tp, 0, none⟩ = false := by simp [World.frozen?, G0]
            have hs8 : Moves [tp] w8 (w8.setCell ⟨tp, 0, none⟩ (.slice ad8 n8 cap8)) := moves_set _ _ _ _
            have k9 := hs8.cellOf k7 hptp
            have k10 := hs8.cellOf k8 hptp
            refine hK.out _ _ ?_ (fun hHeld => ?_)
            ·first | exact ⟨k1, k2⟩ | exact ⟨k4, k5⟩ | exact ⟨k7, k8⟩ | exact ⟨k9, k10⟩
            clear hK K
            try simp only [Act.put, sp1, sp2, sp3]
            refine wpT 8 ⟨some 43, .nilCheck (.tmp 35), 0, "rows.go:161", #[⟨0, .data⟩, ⟨0, .phase⟩, ⟨1, .phase⟩, ⟨2, .phase⟩, ⟨3, .phase⟩, ⟨4, .phase⟩, ⟨5, .phase⟩, ⟨6, .phase⟩, ⟨7, .phase⟩], none⟩ ?_
            refine wpT 9 ⟨some 44, .fieldAddr 66 (.tmp 43) 0, 0, "rows.go:161", #[⟨8, .data⟩, ⟨0, .phase⟩, ⟨1, .phase⟩, ⟨2, .phase⟩, ⟨3, .phase⟩, ⟨4, .phase⟩, ⟨5, .phase⟩, ⟨6, .phase⟩, ⟨7, .phase⟩], none⟩ ?_
            refine wpR 10 ⟨none, .store 24 (.tmp 44) (.tmp 42), 0, "rows.go:161", #[⟨9, .data⟩, ⟨7, .data⟩, ⟨7, .chain⟩, ⟨0, .phase⟩, ⟨1, .phase⟩, ⟨2, .phase⟩, ⟨3, .phase⟩, ⟨4, .phase⟩, ⟨5, .phase⟩, ⟨6, .phase⟩, ⟨7, .phase⟩], none⟩ (fun K hK => ?_)
            go_simp
            refine hK.out _ _ ?_ (fun hHeld => ?_)
            ·first | exact ⟨k1, k2⟩ | exact ⟨k4, k5⟩ | exact ⟨k7, k8⟩ | exact ⟨k9, k10⟩
            clear hK K
            refine wpAnyH_done (by kernel_rfl) ?_ _
            refine NoPanic.normal ?_
            exact ⟨rfl, by kernel_rfl, ⟨_, G1⟩, G2, HM9.out.trans G3 (fun k hk => by rcases List.mem_cons.1 hk with rfl | hk; exact .inr htp; exact .inr (HG9.out.1 k (Option.mem_toList.1 hk)))⟩
           ·go_simp
            have ma := md.alloc (.cells #[.string (strOf tx), .slice ad5 n5 cap5] 68)
            have k3 := ma.cell k00
            have k4 := ma.cell k01
            have k5 := ma.cell k02
            refine hK.out _ _ ?_ (fun hHeld => ?_)
            ·first | exact ⟨k1, k2⟩ | exact ⟨k4, k5⟩ | exact ⟨k7, k8⟩ | exact ⟨k9, k10⟩
            clear hK K
            refine wpR 4 ⟨some 39, .load 24 (.tmp 38), 24, "rows.go:161", #[⟨3, .data⟩], none⟩ (fun K hK => ?_)
            go_simp
            refine hK.out _ _ ?_ (fun hHeld => ?_)
            ·first | exact ⟨k1, k2⟩ | exact ⟨k4, k5⟩ | exact ⟨k7, k8⟩ | exact ⟨k9, k10⟩
            clear hK K
            refine wpR 7 ⟨some 42, .call ⟨.builtin .append, #[.tmp 39, .tmp 41], #[24, 24]⟩, 24, "rows.go:161", #[⟨4, .data⟩, ⟨6, .data⟩], none⟩ (fun K hK => ?_)
            refine growN_step (W := w) (.tmp 39) (.tmp 41) rfl _ _ xs [⟨strOf tx, R⟩] rfl rfl (by rfl) (HG9.out.moves0 ma) (nams_new wd _ _ ⟨strOf tx, R⟩ ⟨_, rfl, HC9.out.moves md⟩) (Nat.le_trans HSZ.out ma.size) hbd ?_
            intro v8 w8 hG8 m8 s8 l8
            have hsl := hG8.open
            obtain ⟨ad8, n8, cap8, rfl, _, _⟩ := hsl
            have k6 := m8.cellOf k3 hnt
            have k7 := m8.cellOf k4 hnp
            have k8 := m8.cellOf k5 hnp
            obtain ⟨G0, G1, G2, G3⟩ := take_fin6 HG9.out HT9.out hr9 ma m8 hG8 hp3w hg3w htp
            have fz8 : w8.frozen? ⟨tp, 0, none⟩ = false := by simp [World.frozen?, G0]
            have hs8 : Moves [tp] w8 (w8.setCell ⟨tp, 0, none⟩ (.slice ad8 n8 cap8)) := moves_set _ _ _ _
            have k9 := hs8.cellOf k7 hptp
            have k10 := hs8.cellOf k8 hptp
            refine hK.out _ _ ?_ (fun hHeld => ?_)
            ·first | exact ⟨k1, k2⟩ | exact ⟨k4, k5⟩ | exact ⟨k7, k8⟩ | exact ⟨k9, k10⟩
            clear hK K
            try simp only [Act.put, sp1, sp2, sp3]
            refine wpT 8 ⟨some 43, .nilCheck (.tmp 35), 0, "rows.go:161", #[⟨0, .data⟩, ⟨0, .phase⟩, ⟨1, .phase⟩, ⟨2, .phase⟩, ⟨3, .phase⟩, ⟨4, .phase⟩, ⟨5, .phase⟩, ⟨6, .phase⟩, ⟨7, .phase⟩], none⟩ ?_
            refine wpT 9 ⟨some 44, .fieldAddr 66 (.tmp 43) 0, 0, "rows.go:161", #[⟨8, .data⟩, ⟨0, .phase⟩, ⟨1, .phase⟩, ⟨2, .phase⟩, ⟨3, .phase⟩, ⟨4, .phase⟩, ⟨5, .phase⟩, ⟨6, .phase⟩, ⟨7, .phase⟩], none⟩ ?_
            refine wpR 10 ⟨none, .store 24 (.tmp 44) (.tmp 42), 0, "rows.go:161", #[⟨9, .data⟩, ⟨7, .data⟩, ⟨7, .chain⟩, ⟨0, .phase⟩, ⟨1, .phase⟩, ⟨2, .phase⟩, ⟨3, .phase⟩, ⟨4, .phase⟩, ⟨5, .phase⟩, ⟨6, .phase⟩, ⟨7, .phase⟩], none⟩ (fun K hK => ?_)
            go_simp
            refine hK.out _ _ ?_ (fun hHeld => ?_)
            ·first | exact ⟨k1, k2⟩ | exact ⟨k4, k5⟩ | exact ⟨k7, k8⟩ | exact ⟨k9, k10⟩
            clear hK K
            refine wpAnyH_done (by kernel_rfl) ?_ _
            refine NoPanic.normal ?_
            exact ⟨rfl, by kernel_rfl, ⟨_, G1⟩, G2, HM9.out.trans G3 (fun k hk => by rcases List.mem_cons.1 hk with rfl | hk; exact .inr htp; exact .inr (HG9.out.1 k (Option.mem_toList.1 hk)))⟩
          ·rintro u w12 ⟨⟨ta', hT12⟩, hr12, M12⟩
           simp only [List.foldl_cons, List.foldl_nil, List.setIfInBounds_toArray, List.set_cons_zero, List.set_cons_succ]
           generalize u 35 = u35
           generalize u 36 = u36
           generalize u 37 = u37
           generalize u 38 = u38
           generalize u 39 = u39
           generalize u 40 = u40
           generalize u 41 = u41
           generalize u 42 = u42
           generalize u 43 = u43
           generalize u 44 = u44
           clear k0 k1 k2 hr9
           go_wp2_with fail
           go_roundw
           case rel => exact ⟨j + 1, xs ++ [⟨strOf tx, R⟩], b4, ta', by omega, by go_num, HIT2.out, hr12, M12, hT12⟩
           case measure => simp [intOf]; omega
     ·have hj3 : ¬ (j : Int) < cnt := by omega
      obtain rfl : j = cnt := by omega
      have HY : Hid (dTab bs = some (xs, b2)) := by unfold Hid; rw [HTAB.out, HIT.out]
      go_wp2_with fail
      go_ret
      exact .inl ⟨xs, b2, tp, ta, HY.out, rfl, HTR.out, htp, hr4, M4⟩
   ·have hgt : (32 : Int) < cnt := by omega
    have HNO : Hid (dTab bs = none) := dTab_no (by omega)
    clear hcnt hv hL
    go_enter Tryz.func45, Tryz.ntmps45
    go_wp2_with (first | (go_at_call 77; refine hleft.mono ?_; rintro _ _ ⟨rfl, rfl⟩) | (go_at_call 79; refine hnum.mono ?_; rintro _ w3 ⟨rfl, hr3, m3⟩) | (go_at_call 78; refine (failed_w p g b1 _ hr3).mono ?_; rintro _ w4 ⟨rfl, hr4, m4⟩))
    exact ⟨rfl, .inr ⟨HNO.out, rfl, b1, hr4, m3.then m4⟩⟩
  ·have HNO : Hid (dTab bs = none) := dTab_no (by omega)
   go_enter Tryz.func45, Tryz.ntmps45
   go_wp2_with (first | (go_at_call 77; refine hleft.mono ?_; rintro _ _ ⟨rfl, rfl⟩) | (go_at_call 79; refine (rnumr_fail_w _ g bs _ h (by omega)).mono ?_; rintro _ w3 ⟨rfl, hr3, m3⟩))
   exact ⟨rfl, .inr ⟨HNO.out, rfl, bs, hr3, m3⟩⟩
end Go.Proofs.YtcngllcifcpbkaaGreat
