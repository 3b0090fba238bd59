/- ours -/
import Derived.Test.YtcngllcifcpbkaaGreatCRef4
namespace Go.Proofs.YtcngllcifcpbkaaGreat
open Go.RowKit

def rins (C : List Pcol) (s : ByteArray) : List Pcol := if phas C s then C else C.take (pidx C s) ++ [⟨s, []⟩] ++ C.drop (pidx C s)
def rPutE (C : List Pcol) (s : ByteArray) (t : Int) (p : Pv) : Int := if (pname s && ptime t && pvr p) = false then 1 else if phas C s = false ∧ 4 ≤ C.length then 13 else 0
def rPut (C : List Pcol) (s : ByteArray) (t : Int) (p : Pv) : List Pcol := if rPutE C s t p = 0 then (match (rins C s)[pidx C s]? with | none => [] | some x => (rins C s).set (pidx C s) ⟨x.name, rlist x.l ⟨t, pcanon p⟩⟩) else []

theorem rPut_no {C : List Pcol} {s : ByteArray} {t : Int} {p : Pv} (h : (pname s && ptime t && pvr p) = false) : rPutE C s t p = 1 ∧ rPut C s t p = [] := by
 have e : rPutE C s t p = 1 := by unfold rPutE; rw [if_pos h]
 exact ⟨e, by unfold rPut; rw [e]; rfl⟩
theorem rPut_full {C : List Pcol} {s : ByteArray} {t : Int} {p : Pv} (h : (pname s && ptime t && pvr p) = true) (h2 : phas C s = false ∧ 4 ≤ C.length) : rPutE C s t p = 13 ∧ rPut C s t p = [] := by
 have e : rPutE C s t p = 13 := by unfold rPutE; rw [if_neg (by simp [h]), if_pos h2]
 exact ⟨e, by unfold rPut; rw [e]; rfl⟩
theorem rPut_yes {C : List Pcol} {s : ByteArray} {t : Int} {p : Pv} {x : Pcol} (h : (pname s && ptime t && pvr p) = true) (h2 : ¬ (phas C s = false ∧ 4 ≤ C.length)) (hx : (rins C s)[pidx C s]? = some x) : rPutE C s t p = 0 ∧ rPut C s t p = (rins C s).set (pidx C s) ⟨x.name, rlist x.l ⟨t, pcanon p⟩⟩ := by
 have e : rPutE C s t p = 0 := by unfold rPutE; rw [if_neg (by simp [h]), if_neg h2]
 refine ⟨e, ?_⟩
 unfold rPut
 rw [if_pos e, hx]

theorem takeWhile_upto {α : Type} (q : α → Bool) {l : List α} {k : Nat} (hk : k ≤ l.length) (h1 : ∀ j y, j < k → l[j]? = some y → q y = true) (h2 : ∀ y, l[k]? = some y → q y = false) : l.takeWhile q = l.take k ∧ l.dropWhile q = l.drop k := by
 induction l generalizing k with
 | nil => simp
 | cons a t ih =>
  cases k with
  | zero =>
   have := h2 a rfl
   simp [this]
  | succ k =>
   have ha := h1 0 a (by omega) rfl
   have := ih (k := k) (by simpa using hk) (fun j y hj hy => h1 (j + 1) y (by omega) (by simpa using hy)) (fun y hy => h2 y (by simpa using hy))
   simp [ha, this]

set_option maxRecDepth 100000 in
set_option maxHeartbeats 16000000 in
theorem refPut_yes (W w : World) (v : Value) (R : List Pcol) (s : ByteArray) (t : Int) (kv : Int) (adv : Option Addr) (nv cv xv : Nat) (p : Pv) (h : RowAt W v R) (hv : VA W [.int .i64 kv, .slice adv nv cv, .float .f64 xv] p) (m : Moves [] W w) (hr : pright R = true) :
  Calls Tryz.prog 50 #[v, .string s, .int .i64 t, .agg #[.int .i64 kv, .slice adv nv cv, .float .f64 xv]] w fun e w' => ∃ ad n cap, e = .returned (.tuple #[.agg #[.slice ad n cap], .int .i64 (rPutE (R.map pcanonC) s t p)]) ∧ ColsAt w' (.slice ad n cap) (rPut (R.map pcanonC) s t p) ∧ Moves [] w w' := by
 have hC := fun w1 (m1 : Moves [] W w1) => refCopy_yes W w1 v R h m1 hr
 obtain ⟨lv, rfl, hl⟩ := h
 obtain ⟨ad, cap, rfl, hc⟩ := hl.slice
 have HV : Hid (VA W [.int .i64 kv, .slice adv nv cv, .float .f64 xv] p) := hv
 have hlen : (R.map pcanonC).length ≤ 4 := by rw [List.length_map]; exact pright_len4 hr
 have HCl : Hid (∀ x ∈ R.map pcanonC, x.l.length ≤ 2) := fun x hx => by
  obtain ⟨y, hy, rfl⟩ := List.mem_map.1 hx
  show (y.l.map pcanonV).length ≤ 2
  rw [List.length_map]
  exact (prightV_two (pright_at hr hy).2).2
 obtain ⟨C, hCq⟩ : ∃ C, Hid (R.map pcanonC = C) := ⟨_, rfl⟩
 rw [hCq.out] at hC hlen HCl ⊢
 obtain ⟨E, hEq⟩ : ∃ E, Hid (rPutE C s t p = E) := ⟨_, rfl⟩
 obtain ⟨P, hPq⟩ : ∃ P, Hid (rPut C s t p = P) := ⟨_, rfl⟩
 rw [hEq.out, hPq.out]
 have hm : Moves [] W (((w.alloc (.cells #[.slice ad R.length cap] 52)).alloc (.cells #[.int .i64 kv, .slice adv nv cv, .float .f64 xv] 99)).alloc (.cells #[.slice none 0 0] 52)) := ((m.alloc _).alloc _).alloc _
 obtain ⟨b1, b2, b3, bm⟩ := boxes3 (Moves.refl [] (((w.alloc (.cells #[.slice ad R.length cap] 52)).alloc (.cells #[.int .i64 kv, .slice adv nv cv, .float .f64 xv] 99)).alloc (.cells #[.slice none 0 0] 52)))
 clear hl hv hr
 cases hp1 : pname s with
 | false =>
  obtain ⟨e1, e2⟩ := rPut_no (C := C) (s := s) (t := t) (p := p) (by rw [hp1]; rfl)
  rw [e1] at hEq
  rw [e2] at hPq
  obtain rfl : 1 = E := hEq.out
  obtain rfl : [] = P := hPq.out
  have HP : Hid (pname s = false) := hp1
  clear hp1 e1 e2 hC
  go_enter Tryz.func50, Tryz.ntmps50
  go_wp2_with (go_at_call 57; refine (refName_w _ _).mono ?_; rintro _ _ ⟨rfl, rfl⟩; rw [HP.out])
  try simp only [Exit.inBlock, Exit.then]
  exact bodyPost_ret (ret_row2 rfl _ _ _ _ rfl b3) rfl ⟨_, _, _, rfl, ColsAt.nil _, bm⟩
 | true =>
  have HP : Hid (pname s = true) := hp1
  cases hp2 : ptime t with
  | false =>
   obtain ⟨e1, e2⟩ := rPut_no (C := C) (s := s) (t := t) (p := p) (by rw [hp1, hp2]; rfl)
   rw [e1] at hEq
   rw [e2] at hPq
   obtain rfl : 1 = E := hEq.out
   obtain rfl : [] = P := hPq.out
   have hways : t < 0 ∨ (¬ t < 0 ∧ 1099511627776 < t) := by unfold ptime at hp2; simp at hp2; omega
   clear hp1 hp2 e1 e2 hC
   rcases hways with g1 | ⟨g1, g2⟩
   all_goals go_enter Tryz.func50, Tryz.ntmps50
   all_goals go_wp2_with (go_at_call 57; refine (refName_w _ _).mono ?_; rintro _ _ ⟨rfl, rfl⟩; rw [HP.out])
   all_goals try simp only [Exit.inBlock, Exit.then]
   all_goals exact bodyPost_ret (ret_row2 rfl _ _ _ _ rfl b3) rfl ⟨_, _, _, rfl, ColsAt.nil _, bm⟩
  | true =>
   have ht1 : ¬ t < 0 := by unfold ptime at hp2; simp at hp2; omega
   have ht2 : ¬ (1099511627776 : Int) < t := by unfold ptime at hp2; simp at hp2; omega
   cases hp3 : pvr p with
   | false =>
    obtain ⟨e1, e2⟩ := rPut_no (C := C) (s := s) (t := t) (p := p) (by rw [hp1, hp2, hp3]; rfl)
    rw [e1] at hEq
    rw [e2] at hPq
    obtain rfl : 1 = E := hEq.out
    obtain rfl : [] = P := hPq.out
    have HR : Hid (pvr p = false) := hp3
    clear hp1 hp2 hp3 e1 e2 hC
    go_enter Tryz.func50, Tryz.ntmps50
    go_wp2_with (first | (go_at_call 57; refine (refName_w _ _).mono ?_; rintro _ _ ⟨rfl, rfl⟩; rw [HP.out]) | (go_at_call 97; refine (rright4_w _ _ _ _ _ _ _ p (HV.out.moves hm) (Moves.refl _ _)).mono ?_; rintro _ w2 ⟨rfl, m2⟩; rw [HR.out]; have c2 := m2.at b3 (by simp); obtain ⟨f0, f1⟩ := one_cell c2))
    try simp only [Exit.inBlock, Exit.then]
    exact bodyPost_ret (ret_row2 rfl _ _ _ _ rfl (set_one c2 _)) rfl ⟨_, _, _, rfl, ColsAt.nil _, (bm.then m2).setCell (.inr (by show _ ≤ _ + 1 + 1; omega)) _⟩
   | true =>
    have HR : Hid (pvr p = true) := hp3
    have hall : (pname s && ptime t && pvr p) = true := by rw [hp1, hp2, hp3]; rfl
    have hfull := rPut_full (C := C) hall
    obtain ⟨no, hno⟩ : ∃ no, Hid (no = C.length) := ⟨_, rfl⟩
    obtain ⟨ix, hix⟩ : ∃ ix, Hid (pidx C s = ix) := ⟨_, rfl⟩
    have hixl : ix ≤ no := by
     have h1 := hix.out
     unfold pidx at h1
     have h2 := List.takeWhile_sublist (fun c : Pcol => nlt c.name s) (l := C) |>.length_le
     have h3 := hno.out
     omega
    rw [hEq.out, hPq.out] at hfull
    rw [← hno.out] at hfull hlen
    have hC1 : C.length ≤ 1048576 := by have := hno.out; omega
    have HALL : Hid ((pname s && ptime t && pvr p) = true) := hall
    clear hp1 hp2 hp3 hall
    cases hhas : phas C s with
    | false =>
     have HH : Hid (phas C s = false) := hhas
     by_cases hf4 : 4 ≤ no
     ·obtain ⟨e1, e2⟩ := hfull ⟨hhas, hf4⟩
      subst e1 e2
      have hf4' : (4 : Int) ≤ no := by omega
      clear hfull hhas
      go_enter Tryz.func50, Tryz.ntmps50
      go_wp2_with (first | (go_at_call 57; refine (refName_w _ _).mono ?_; rintro _ _ ⟨rfl, rfl⟩; rw [HP.out]) | (go_at_call 97; refine (rright4_w _ _ _ _ _ _ _ p (HV.out.moves hm) (Moves.refl _ _)).mono ?_; rintro _ w2 ⟨rfl, m2⟩; rw [HR.out]; have c1 := m2.at b1 (by simp); have c2 := m2.at b3 (by simp); obtain ⟨g0, g1⟩ := one_cell c1) | (go_at_call 71; refine (hC _ (hm.then m2)).mono ?_; rintro _ w3 ⟨ad3, n3, cap3, rfl, hG3, m3, hZ3⟩; have c3 := m3.at c2 (by simp); have hA3 := hG3.at; obtain rfl : n3 = no := hA3.len.trans hno.out.symm; have HG3 : Hid (GrowC w w3 (.slice ad3 n3 cap3) C) := hG3.elder (bm.then m2); clear hG3) | (go_at_call 98; refine (find_w w3 _ _ C s ⟨_, rfl, hA3⟩ ((Moves.refl _ _).alloc _) hC1).mono ?_; rintro _ w4 ⟨rfl, m4⟩; rw [hix.out, HH.out]; obtain ⟨q1, mq⟩ := boxesW m4; obtain ⟨h0, h1⟩ := one_cell q1; have c4 := mq.at c3 (by simp); have HG4 : Hid (GrowC w w4 (.slice ad3 n3 cap3) C) := HG3.out.moves0 mq; obtain ⟨f0, f1⟩ := one_cell c4))
      try simp only [Exit.inBlock, Exit.then]
      exact bodyPost_ret (ret_row2 rfl _ _ _ _ rfl (set_one c4 _)) rfl ⟨_, _, _, rfl, ColsAt.nil _, (((bm.then m2).then m3).then mq).setCell (.inr (by show _ ≤ _ + 1 + 1; omega)) _⟩
     ·have hins : rins C s = C.take ix ++ [⟨s, []⟩] ++ C.drop ix := by unfold rins; rw [HH.out, hix.out]; rfl
      obtain ⟨Z, hZ⟩ : ∃ Z, Hid (C.take ix ++ [(⟨s, []⟩ : Pcol)] ++ C.drop ix = Z) := ⟨_, rfl⟩
      obtain ⟨x, hxq⟩ : ∃ x : Pcol, Hid ((⟨s, []⟩ : Pcol) = x) := ⟨_, rfl⟩
      have htl : (C.take ix).length = ix := by rw [List.length_take, ← hno.out]; omega
      have hx : Z[ix]? = some x := by
       rw [← hZ.out, List.append_assoc, List.getElem?_append_right (by omega), htl, ← hxq.out]
       simp
      have hZl : Z.length = no + 1 := by
       rw [← hZ.out, List.length_append, List.length_append, htl, List.length_drop, ← hno.out]
       simp
       omega
      have hyes := rPut_yes (C := C) (s := s) (t := t) (p := p) (x := x) HALL.out (by rintro ⟨_, h4⟩; have := hno.out; omega) (by rw [hins, hZ.out, hix.out]; exact hx)
      rw [hins, hZ.out, hix.out, hEq.out, hPq.out] at hyes
      obtain ⟨e1, e2⟩ := hyes
      subst e1 e2
      have hxl : x.l.length ≤ 2 := by rw [← hxq.out]; simp
      have HX : Hid (Z[ix]? = some x) := hx
      have HPosZ : Hid (0 < Z.length) := by unfold Hid; omega
      have hf4' : ¬ (4 : Int) ≤ no := by omega
      have hi1 : (ix : Int) ≤ no := by omega
      clear hfull hhas hx hins htl
      by_cases hn0 : no = 0
      ·have hCnil : C = [] := List.eq_nil_of_length_eq_zero (by rw [← hno.out]; exact hn0)
       have hRnil : Hid (R = []) := by unfold Hid; have h := hCq.out; rw [hCnil] at h; simpa using h
       have HCnil : Hid (C = []) := hCnil
       clear hCnil
       subst hn0
       obtain rfl : ix = 0 := by omega
       go_enter Tryz.func50, Tryz.ntmps50
       go_wp2_with (first | (go_at_call 57; refine (refName_w _ _).mono ?_; rintro _ _ ⟨rfl, rfl⟩; rw [HP.out]) | (go_at_call 97; refine (rright4_w _ _ _ _ _ _ _ p (HV.out.moves hm) (Moves.refl _ _)).mono ?_; rintro _ w2 ⟨rfl, m2⟩; rw [HR.out]; have c1 := m2.at b1 (by simp); have c2 := m2.at b3 (by simp); obtain ⟨g0, g1⟩ := one_cell c1) | (go_at_call 71; refine (hC _ (hm.then m2)).mono ?_; rintro _ w3 ⟨ad3, n3, cap3, rfl, hG3, m3, hZ3⟩; obtain ⟨rfl, rfl⟩ := hZ3.out hRnil.out; have c3 := m3.at c2 (by simp); have hA3 := hG3.at; obtain rfl : n3 = 0 := hA3.len.trans hno.out.symm; have HG3 : Hid (GrowC w w3 (.slice none 0 0) C) := hG3.elder (bm.then m2); clear hG3) | (go_at_call 98; refine (find_w w3 _ _ C s ⟨_, rfl, hA3⟩ ((Moves.refl _ _).alloc _) hC1).mono ?_; rintro _ w4 ⟨rfl, m4⟩; rw [hix.out, HH.out]; obtain ⟨q1, mq⟩ := boxesW m4; obtain ⟨h0, h1⟩ := one_cell q1; have c4 := mq.at c3 (by simp); have HG4 : Hid (GrowC w w4 (.slice none 0 0) C) := HG3.out.moves0 mq; obtain ⟨f0, f1⟩ := one_cell c4))
       have hM4 : Moves [] w w4 := ((bm.then m2).then m3).then mq
       have qv := mq.at (m3.at (m2.at b2 (by simp)) (by simp)) (by simp)
       have HVw : Hid (VA W [.int .i64 kv, .slice adv nv cv, .float .f64 xv] p) := HV.out
       have hpbw : w.heap.size + 1 + 1 < w3.heap.size := lt_of_block c3
       obtain ⟨pb, hpb⟩ : ∃ pb, w3.heap.size = pb := ⟨_, rfl⟩
       rw [hpb] at q1 hpbw h0 ⊢
       have hS : ∀ w', Moves [] w4 w' → w'.cell? ⟨pb, 0, none⟩ = some (.slice none 0 0) := fun w' m' => m'.cell h0
       have md : Moves [] w4 w4.drew := (Moves.refl _ _).drew
       have hbd5 : ([] : List Pcol).length + (C.take 0).length ≤ 1048576 := by
        have := List.length_take_le 0 C
        have := hno.out
        simp <;> omega
       have hbd9 : ([] ++ C.take 0).length + [(⟨s, []⟩ : Pcol)].length ≤ 1048576 := by
        have := List.length_take_le 0 C
        have := hno.out
        simp <;> omega
       have hbd14 : ([] ++ C.take 0 ++ [(⟨s, []⟩ : Pcol)]).length + (C.drop 0).length ≤ 1048576 := by
        have := List.length_take_le 0 C
        have := hno.out
        simp <;> omega
       clear hpb hC m4 HG3
       refine wp_some [48, 49, 50, 51, 52, 53, 54, 55, 56, 57, 58, 59, 60, 61, 62, 63] (fun _ w' => ∃ ad n cap, GrowC w w' (.slice ad n cap) ([] ++ C.take 0 ++ [⟨s, []⟩] ++ C.drop 0) ∧ w'.heap[pb]? = some (.cells #[.slice ad n cap] 52 (0, 0)) ∧ Moves [] w w' ∧ w'.heap[w.heap.size + 1 + 1]? = some (.cells #[.slice none 0 0] 52 (0, 0)) ∧ w'.heap[w.heap.size + 1]? = some (.cells #[.int .i64 kv, .slice adv nv cv, .float .f64 xv] 99 (0, 0))) ?_ ?_
       ·refine wp_region_noPanic ?_
        refine region_peel (S := (fun w' => w'.cell? ⟨pb, 0, none⟩ = some (.slice none 0 0))) (pre := #[⟨some 48, .buildSlice 50 0 #[], 50, "ref.go:64", #[], none⟩, ⟨some 49, .fieldAddr 52 (.tmp 10) 0, 0, "ref.go:64", #[], none⟩, ⟨some 50, .load 50 (.tmp 49), 50, "ref.go:64", #[⟨1, .data⟩], none⟩, ⟨some 51, .move (.tmp 11), 3, "ref.go:64", #[], none⟩, ⟨some 52, .slice 50 (.tmp 50) none (some (.tmp 51)) none, 50, "ref.go:64", #[⟨2, .data⟩, ⟨3, .data⟩], none⟩, ⟨some 53, .call ⟨.builtin .append, #[.tmp 48, .tmp 52], #[50, 50]⟩, 50, "ref.go:64", #[⟨0, .data⟩, ⟨4, .data⟩], none⟩, ⟨some 54, .move (.tmp 1), 9, "ref.go:64", #[], none⟩, ⟨some 55, .build 124 #[(0, .tmp 54)], 124, "ref.go:64", #[⟨6, .data⟩], none⟩, ⟨some 56, .buildSlice 50 1 #[(0, .tmp 55)], 50, "ref.go:64", #[⟨7, .data⟩], none⟩, ⟨some 57, .call ⟨.builtin .append, #[.tmp 53, .tmp 56], #[50, 50]⟩, 50, "ref.go:64", #[⟨5, .data⟩, ⟨8, .data⟩, ⟨5, .chain⟩], none⟩, ⟨some 58, .fieldAddr 52 (.tmp 10) 0, 0, "ref.go:64", #[], none⟩, ⟨some 59, .load 50 (.tmp 58), 50, "ref.go:64", #[⟨10, .data⟩], none⟩, ⟨some 60, .move (.tmp 11), 3, "ref.go:64", #[], none⟩, ⟨some 61, .slice 50 (.tmp 59) (some (.tmp 60)) none none, 50, "ref.go:64", #[⟨11, .data⟩, ⟨12, .data⟩], none⟩, ⟨some 62, .call ⟨.builtin .append, #[.tmp 57, .tmp 61], #[50, 50]⟩, 50, "ref.go:64", #[⟨9, .data⟩, ⟨13, .data⟩, ⟨9, .chain⟩], none⟩, ⟨some 63, .fieldAddr 52 (.tmp 10) 0, 0, "ref.go:64", #[⟨0, .phase⟩, ⟨1, .phase⟩, ⟨2, .phase⟩, ⟨3, .phase⟩, ⟨4, .phase⟩, ⟨5, .phase⟩, ⟨6, .phase⟩, ⟨7, .phase⟩, ⟨8, .phase⟩, ⟨9, .phase⟩, ⟨10, .phase⟩, ⟨11, .phase⟩, ⟨12, .phase⟩, ⟨13, .phase⟩, ⟨14, .phase⟩], none⟩]) (o := ⟨none, .store 50 (.tmp 63) (.tmp 62), 0, "ref.go:64", #[⟨15, .data⟩, ⟨14, .data⟩, ⟨14, .chain⟩, ⟨0, .phase⟩, ⟨1, .phase⟩, ⟨2, .phase⟩, ⟨3, .phase⟩, ⟨4, .phase⟩, ⟨5, .phase⟩, ⟨6, .phase⟩, ⟨7, .phase⟩, ⟨8, .phase⟩, ⟨9, .phase⟩, ⟨10, .phase⟩, ⟨11, .phase⟩, ⟨12, .phase⟩, ⟨13, .phase⟩, ⟨14, .phase⟩], none⟩) (by kernel_rfl) (by kernel_rfl) (by kernel_rfl) ?_ (fun hHeld => ?_)
        ·(refine hS _ ?_; first | with_reducible assumption | exact Moves.alloc (by with_reducible assumption) _ | exact Moves.alloc (Moves.alloc (by with_reducible assumption) _) _)
        refine wpT 1 ⟨some 49, .fieldAddr 52 (.tmp 10) 0, 0, "ref.go:64", #[], none⟩ ?_
        refine wpT 2 ⟨some 50, .load 50 (.tmp 49), 50, "ref.go:64", #[⟨1, .data⟩], none⟩ ?_
        refine wpT 3 ⟨some 51, .move (.tmp 11), 3, "ref.go:64", #[], none⟩ ?_
        refine wpT 4 ⟨some 52, .slice 50 (.tmp 50) none (some (.tmp 51)) none, 50, "ref.go:64", #[⟨2, .data⟩, ⟨3, .data⟩], none⟩ ?_
        refine wpT 6 ⟨some 54, .move (.tmp 1), 9, "ref.go:64", #[], none⟩ ?_
        refine wpT 7 ⟨some 55, .build 124 #[(0, .tmp 54)], 124, "ref.go:64", #[⟨6, .data⟩], none⟩ ?_
        refine wpT 10 ⟨some 58, .fieldAddr 52 (.tmp 10) 0, 0, "ref.go:64", #[], none⟩ ?_
        refine wpT 11 ⟨some 59, .load 50 (.tmp 58), 50, "ref.go:64", #[⟨10, .data⟩], none⟩ ?_
        refine wpT 12 ⟨some 60, .move (.tmp 11), 3, "ref.go:64", #[], none⟩ ?_
        refine wpT 13 ⟨some 61, .slice 50 (.tmp 59) (some (.tmp 60)) none none, 50, "ref.go:64", #[⟨11, .data⟩, ⟨12, .data⟩], none⟩ ?_
        refine wpAnyH_ready (rs := [0, 8]) (by kernel_rfl) (by simp) ?_
        refine AllReadyH.cons (o := ⟨some 48, .buildSlice 50 0 #[], 50, "ref.go:64", #[], none⟩) rfl (fun K hK => ?_) (AllReadyH.cons (o := ⟨some 56, .buildSlice 50 1 #[(0, .tmp 55)], 50, "ref.go:64", #[⟨7, .data⟩], none⟩) rfl (fun K hK => ?_) AllReadyH.nil)
        ·go_simp
         have hGe := GrowC.empty (W := w4) md
         refine hK.out _ _ ?_ (fun hHeld => ?_)
         ·(refine hS _ ?_; first | with_reducible assumption | exact Moves.alloc (by with_reducible assumption) _ | exact Moves.alloc (Moves.alloc (by with_reducible assumption) _) _)
         clear hK K
         refine wpAnyH_ready (rs := [5, 8]) (by kernel_rfl) (by simp) ?_
         refine AllReadyH.cons (o := ⟨some 53, .call ⟨.builtin .append, #[.tmp 48, .tmp 52], #[50, 50]⟩, 50, "ref.go:64", #[⟨0, .data⟩, ⟨4, .data⟩], none⟩) rfl (fun K hK => ?_) (AllReadyH.cons (o := ⟨some 56, .buildSlice 50 1 #[(0, .tmp 55)], 50, "ref.go:64", #[⟨7, .data⟩], none⟩) rfl (fun K hK => ?_) AllReadyH.nil)
         ·refine growC_step (.tmp 48) (.tmp 52) rfl _ _ [] (C.take 0) rfl rfl (by rfl) hGe (show ColsAt _ (.slice none 0 0) (C.take 0) from by rw [List.take_zero]; exact ColsAt.nil _) (md.alloc _) hbd5 ?_
          intro v5 w5 hG5 M5 m5 s5 l5
          have hsl := hG5.open
          obtain ⟨ad5, n5, cap5, rfl, hn5⟩ := hsl
          refine hK.out _ _ ?_ (fun hHeld => ?_)
          ·(refine hS _ ?_; first | with_reducible assumption | exact Moves.alloc (by with_reducible assumption) _ | exact Moves.alloc (Moves.alloc (by with_reducible assumption) _) _)
          clear hK K
          try simp only [Act.put, sp1, sp2, sp3]
          refine wpR 8 ⟨some 56, .buildSlice 50 1 #[(0, .tmp 55)], 50, "ref.go:64", #[⟨7, .data⟩], none⟩ (fun K hK => ?_)
          go_simp
          have hb8 := heap_alloc_new w5 (.cells #[.string s, .slice none 0 0] 124)
          refine hK.out _ _ ?_ (fun hHeld => ?_)
          ·(refine hS _ ?_; first | with_reducible assumption | exact Moves.alloc (by with_reducible assumption) _ | exact Moves.alloc (Moves.alloc (by with_reducible assumption) _) _)
          clear hK K
          try simp only [Act.put, sp1, sp2, sp3]
          refine wpR 9 ⟨some 57, .call ⟨.builtin .append, #[.tmp 53, .tmp 56], #[50, 50]⟩, 50, "ref.go:64", #[⟨5, .data⟩, ⟨8, .data⟩, ⟨5, .chain⟩], none⟩ (fun K hK => ?_)
          refine growC_step (.tmp 53) (.tmp 56) rfl _ _ ([] ++ C.take 0) [⟨s, []⟩] rfl rfl (by rfl) (hG5.moves0 ((Moves.refl _ _).alloc _)) (cols_box hb8) (M5.alloc _) hbd9 ?_
          intro v9 w9 hG9 M9 m9 s9 l9
          have hsl := hG9.open
          obtain ⟨ad9, n9, cap9, rfl, hn9⟩ := hsl
          refine hK.out _ _ ?_ (fun hHeld => ?_)
          ·(refine hS _ ?_; first | with_reducible assumption | exact Moves.alloc (by with_reducible assumption) _ | exact Moves.alloc (Moves.alloc (by with_reducible assumption) _) _)
          clear hK K
          try simp only [Act.put, sp1, sp2, sp3]
          refine wpR 14 ⟨some 62, .call ⟨.builtin .append, #[.tmp 57, .tmp 61], #[50, 50]⟩, 50, "ref.go:64", #[⟨9, .data⟩, ⟨13, .data⟩, ⟨9, .chain⟩], none⟩ (fun K hK => ?_)
          refine growC_step (.tmp 57) (.tmp 61) rfl _ _ ([] ++ C.take 0 ++ [⟨s, []⟩]) (C.drop 0) rfl rfl (by rfl) hG9 (by rw [HCnil.out]; exact ColsAt.nil _) M9 hbd14 ?_
          intro v14 w14 hG14 M14 m14 s14 l14
          have hsl := hG14.open
          obtain ⟨ad14, n14, cap14, rfl, hn14⟩ := hsl
          have qp14 := M14.at q1 (by simp)
          obtain ⟨z0, z1⟩ := one_cell qp14
          refine hK.out _ _ ?_ (fun hHeld => ?_)
          ·(refine hS _ ?_; first | with_reducible assumption | exact Moves.alloc (by with_reducible assumption) _ | exact Moves.alloc (Moves.alloc (by with_reducible assumption) _) _)
          clear hK K
          try simp only [Act.put, sp1, sp2, sp3]
          refine wpT 15 ⟨some 63, .fieldAddr 52 (.tmp 10) 0, 0, "ref.go:64", #[⟨0, .phase⟩, ⟨1, .phase⟩, ⟨2, .phase⟩, ⟨3, .phase⟩, ⟨4, .phase⟩, ⟨5, .phase⟩, ⟨6, .phase⟩, ⟨7, .phase⟩, ⟨8, .phase⟩, ⟨9, .phase⟩, ⟨10, .phase⟩, ⟨11, .phase⟩, ⟨12, .phase⟩, ⟨13, .phase⟩, ⟨14, .phase⟩], none⟩ ?_
          refine wpAnyH_done (by kernel_rfl) ?_ _
          unfold PeelQ
          refine wpOp_of_wp rfl rfl ?_
          go_simp
          exact NoPanic.normal ⟨rfl, by kernel_rfl, ad14, n14, cap14, (by simpa using ((hG14.elder hM4).setRow qp14 (.slice ad14 n14 cap14))), set_one qp14 _, (hM4.then M14).setCell (.inr (by show w.heap.size ≤ pb; omega)) _, (moves_set _ _ _ _).at (M14.at c4 (by simp)) (by simp; omega), (moves_set _ _ _ _).at (M14.at qv (by simp)) (by simp; omega)⟩
         ·go_simp
          have hb80 : ((w4.drew.alloc (.cells #[] 124)).alloc (.cells #[.string s, .slice none 0 0] 124)).heap[w4.heap.size + 1]? = some (.cells #[.string s, .slice none 0 0] 124 (0, 0)) := by have h := heap_alloc_new (w4.drew.alloc (.cells #[] 124)) (.cells #[.string s, .slice none 0 0] 124); simpa using h
          refine hK.out _ _ ?_ (fun hHeld => ?_)
          ·(refine hS _ ?_; first | with_reducible assumption | exact Moves.alloc (by with_reducible assumption) _ | exact Moves.alloc (Moves.alloc (by with_reducible assumption) _) _)
          clear hK K
          refine wpR 5 ⟨some 53, .call ⟨.builtin .append, #[.tmp 48, .tmp 52], #[50, 50]⟩, 50, "ref.go:64", #[⟨0, .data⟩, ⟨4, .data⟩], none⟩ (fun K hK => ?_)
          refine growC_step (.tmp 48) (.tmp 52) rfl _ _ [] (C.take 0) rfl rfl (by rfl) (hGe.moves0 ((Moves.refl _ _).alloc _)) (show ColsAt _ (.slice none 0 0) (C.take 0) from by rw [List.take_zero]; exact ColsAt.nil _) ((md.alloc _).alloc _) hbd5 ?_
          intro v5 w5 hG5 M5 m5 s5 l5
          have hsl := hG5.open
          obtain ⟨ad5, n5, cap5, rfl, hn5⟩ := hsl
          have hb85 := m5.at hb80 (by simp [Act.eval, Value.ownBlock])
          refine hK.out _ _ ?_ (fun hHeld => ?_)
          ·(refine hS _ ?_; first | with_reducible assumption | exact Moves.alloc (by with_reducible assumption) _ | exact Moves.alloc (Moves.alloc (by with_reducible assumption) _) _)
          clear hK K
          try simp only [Act.put, sp1, sp2, sp3]
          refine wpR 9 ⟨some 57, .call ⟨.builtin .append, #[.tmp 53, .tmp 56], #[50, 50]⟩, 50, "ref.go:64", #[⟨5, .data⟩, ⟨8, .data⟩, ⟨5, .chain⟩], none⟩ (fun K hK => ?_)
          refine growC_step (.tmp 53) (.tmp 56) rfl _ _ ([] ++ C.take 0) [⟨s, []⟩] rfl rfl (by rfl) hG5 (cols_box hb85) M5 hbd9 ?_
          intro v9 w9 hG9 M9 m9 s9 l9
          have hsl := hG9.open
          obtain ⟨ad9, n9, cap9, rfl, hn9⟩ := hsl
          refine hK.out _ _ ?_ (fun hHeld => ?_)
          ·(refine hS _ ?_; first | with_reducible assumption | exact Moves.alloc (by with_reducible assumption) _ | exact Moves.alloc (Moves.alloc (by with_reducible assumption) _) _)
          clear hK K
          try simp only [Act.put, sp1, sp2, sp3]
          refine wpR 14 ⟨some 62, .call ⟨.builtin .append, #[.tmp 57, .tmp 61], #[50, 50]⟩, 50, "ref.go:64", #[⟨9, .data⟩, ⟨13, .data⟩, ⟨9, .chain⟩], none⟩ (fun K hK => ?_)
          refine growC_step (.tmp 57) (.tmp 61) rfl _ _ ([] ++ C.take 0 ++ [⟨s, []⟩]) (C.drop 0) rfl rfl (by rfl) hG9 (by rw [HCnil.out]; exact ColsAt.nil _) M9 hbd14 ?_
          intro v14 w14 hG14 M14 m14 s14 l14
          have hsl := hG14.open
          obtain ⟨ad14, n14, cap14, rfl, hn14⟩ := hsl
          have qp14 := M14.at q1 (by simp)
          obtain ⟨z0, z1⟩ := one_cell qp14
          refine hK.out _ _ ?_ (fun hHeld => ?_)
          ·(refine hS _ ?_; first | with_reducible assumption | exact Moves.alloc (by with_reducible assumption) _ | exact Moves.alloc (Moves.alloc (by with_reducible assumption) _) _)
          clear hK K
          try simp only [Act.put, sp1, sp2, sp3]
          refine wpT 15 ⟨some 63, .fieldAddr 52 (.tmp 10) 0, 0, "ref.go:64", #[⟨0, .phase⟩, ⟨1, .phase⟩, ⟨2, .phase⟩, ⟨3, .phase⟩, ⟨4, .phase⟩, ⟨5, .phase⟩, ⟨6, .phase⟩, ⟨7, .phase⟩, ⟨8, .phase⟩, ⟨9, .phase⟩, ⟨10, .phase⟩, ⟨11, .phase⟩, ⟨12, .phase⟩, ⟨13, .phase⟩, ⟨14, .phase⟩], none⟩ ?_
          refine wpAnyH_done (by kernel_rfl) ?_ _
          unfold PeelQ
          refine wpOp_of_wp rfl rfl ?_
          go_simp
          exact NoPanic.normal ⟨rfl, by kernel_rfl, ad14, n14, cap14, (by simpa using ((hG14.elder hM4).setRow qp14 (.slice ad14 n14 cap14))), set_one qp14 _, (hM4.then M14).setCell (.inr (by show w.heap.size ≤ pb; omega)) _, (moves_set _ _ _ _).at (M14.at c4 (by simp)) (by simp; omega), (moves_set _ _ _ _).at (M14.at qv (by simp)) (by simp; omega)⟩
        ·go_simp
         have hb8 : (w4.drew.alloc (.cells #[.string s, .slice none 0 0] 124)).heap[w4.heap.size]? = some (.cells #[.string s, .slice none 0 0] 124 (0, 0)) := heap_alloc_new w4.drew _
         refine hK.out _ _ ?_ (fun hHeld => ?_)
         ·(refine hS _ ?_; first | with_reducible assumption | exact Moves.alloc (by with_reducible assumption) _ | exact Moves.alloc (Moves.alloc (by with_reducible assumption) _) _)
         clear hK K
         refine wpR 0 ⟨some 48, .buildSlice 50 0 #[], 50, "ref.go:64", #[], none⟩ (fun K hK => ?_)
         go_simp
         have hGe := GrowC.empty' (W := w4) md (.cells #[.string s, .slice none 0 0] 124)
         have hb80 := ((Moves.refl [] (w4.drew.alloc (.cells #[.string s, .slice none 0 0] 124))).alloc (.cells #[] 124)).at hb8 (by simp)
         refine hK.out _ _ ?_ (fun hHeld => ?_)
         ·(refine hS _ ?_; first | with_reducible assumption | exact Moves.alloc (by with_reducible assumption) _ | exact Moves.alloc (Moves.alloc (by with_reducible assumption) _) _)
         clear hK K
         refine wpR 5 ⟨some 53, .call ⟨.builtin .append, #[.tmp 48, .tmp 52], #[50, 50]⟩, 50, "ref.go:64", #[⟨0, .data⟩, ⟨4, .data⟩], none⟩ (fun K hK => ?_)
         refine growC_step (.tmp 48) (.tmp 52) rfl _ _ [] (C.take 0) rfl rfl (by rfl) hGe (show ColsAt _ (.slice none 0 0) (C.take 0) from by rw [List.take_zero]; exact ColsAt.nil _) ((md.alloc _).alloc _) hbd5 ?_
         intro v5 w5 hG5 M5 m5 s5 l5
         have hsl := hG5.open
         obtain ⟨ad5, n5, cap5, rfl, hn5⟩ := hsl
         have hb85 := m5.at hb80 (by simp [Act.eval, Value.ownBlock])
         refine hK.out _ _ ?_ (fun hHeld => ?_)
         ·(refine hS _ ?_; first | with_reducible assumption | exact Moves.alloc (by with_reducible assumption) _ | exact Moves.alloc (Moves.alloc (by with_reducible assumption) _) _)
         clear hK K
         try simp only [Act.put, sp1, sp2, sp3]
         refine wpR 9 ⟨some 57, .call ⟨.builtin .append, #[.tmp 53, .tmp 56], #[50, 50]⟩, 50, "ref.go:64", #[⟨5, .data⟩, ⟨8, .data⟩, ⟨5, .chain⟩], none⟩ (fun K hK => ?_)
         refine growC_step (.tmp 53) (.tmp 56) rfl _ _ ([] ++ C.take 0) [⟨s, []⟩] rfl rfl (by rfl) hG5 (cols_box hb85) M5 hbd9 ?_
         intro v9 w9 hG9 M9 m9 s9 l9
         have hsl := hG9.open
         obtain ⟨ad9, n9, cap9, rfl, hn9⟩ := hsl
         refine hK.out _ _ ?_ (fun hHeld => ?_)
         ·(refine hS _ ?_; first | with_reducible assumption | exact Moves.alloc (by with_reducible assumption) _ | exact Moves.alloc (Moves.alloc (by with_reducible assumption) _) _)
         clear hK K
         try simp only [Act.put, sp1, sp2, sp3]
         refine wpR 14 ⟨some 62, .call ⟨.builtin .append, #[.tmp 57, .tmp 61], #[50, 50]⟩, 50, "ref.go:64", #[⟨9, .data⟩, ⟨13, .data⟩, ⟨9, .chain⟩], none⟩ (fun K hK => ?_)
         refine growC_step (.tmp 57) (.tmp 61) rfl _ _ ([] ++ C.take 0 ++ [⟨s, []⟩]) (C.drop 0) rfl rfl (by rfl) hG9 (by rw [HCnil.out]; exact ColsAt.nil _) M9 hbd14 ?_
         intro v14 w14 hG14 M14 m14 s14 l14
         have hsl := hG14.open
         obtain ⟨ad14, n14, cap14, rfl, hn14⟩ := hsl
         have qp14 := M14.at q1 (by simp)
         obtain ⟨z0, z1⟩ := one_cell qp14
         refine hK.out _ _ ?_ (fun hHeld => ?_)
         ·(refine hS _ ?_; first | with_reducible assumption | exact Moves.alloc (by with_reducible assumption) _ | exact Moves.alloc (Moves.alloc (by with_reducible assumption) _) _)
         clear hK K
         try simp only [Act.put, sp1, sp2, sp3]
         refine wpT 15 ⟨some 63, .fieldAddr 52 (.tmp 10) 0, 0, "ref.go:64", #[⟨0, .phase⟩, ⟨1, .phase⟩, ⟨2, .phase⟩, ⟨3, .phase⟩, ⟨4, .phase⟩, ⟨5, .phase⟩, ⟨6, .phase⟩, ⟨7, .phase⟩, ⟨8, .phase⟩, ⟨9, .phase⟩, ⟨10, .phase⟩, ⟨11, .phase⟩, ⟨12, .phase⟩, ⟨13, .phase⟩, ⟨14, .phase⟩], none⟩ ?_
         refine wpAnyH_done (by kernel_rfl) ?_ _
         unfold PeelQ
         refine wpOp_of_wp rfl rfl ?_
         go_simp
         exact NoPanic.normal ⟨rfl, by kernel_rfl, ad14, n14, cap14, (by simpa using ((hG14.elder hM4).setRow qp14 (.slice ad14 n14 cap14))), set_one qp14 _, (hM4.then M14).setCell (.inr (by show w.heap.size ≤ pb; omega)) _, (moves_set _ _ _ _).at (M14.at c4 (by simp)) (by simp; omega), (moves_set _ _ _ _).at (M14.at qv (by simp)) (by simp; omega)⟩
       ·rintro u wz ⟨adz, nz, capz, hGz, q1, hMz, c4, qv⟩
        rw [List.nil_append, hZ.out] at hGz
        simp only [List.foldl_cons, List.foldl_nil, List.setIfInBounds_toArray, List.set_cons_zero, List.set_cons_succ]
        generalize u 48 = u48
        generalize u 49 = u49
        generalize u 50 = u50
        generalize u 51 = u51
        generalize u 52 = u52
        generalize u 53 = u53
        generalize u 54 = u54
        generalize u 55 = u55
        generalize u 56 = u56
        generalize u 57 = u57
        generalize u 58 = u58
        generalize u 59 = u59
        generalize u 60 = u60
        generalize u 61 = u61
        generalize u 62 = u62
        generalize u 63 = u63
        obtain ⟨gl, nl, capl, arr, e, hnl, hcapl, hgl, hWgl, hcells⟩ := hGz.own HPosZ.out
        simp only [Value.slice.injEq] at e
        obtain ⟨rfl, rfl, rfl⟩ := e
        obtain ⟨n3z, hn3z⟩ : ∃ n3z, n3z = nz := ⟨_, rfl⟩
        obtain ⟨ao, no', co, k0, k1, hVo, hno0, hfz⟩ := hcells 0 x HX.out
        simp only [Nat.zero_mul, Nat.zero_add] at k0 k1 hfz
        have hno' : Hid (no' = x.l.length) := hno0
        have HVo : Hid (VersAt wz (.slice ao no' co) x.l) := hVo
        have hno2 : no' ≤ 2 := by omega
        have hne1 : ¬ gl = pb := fun h => by rw [h, q1] at hgl; simp at hgl
        have hne2 : ¬ pb = gl := fun h => hne1 h.symm
        have hne3 : ¬ gl = w.heap.size + 1 + 1 := fun h => by rw [h, c4] at hgl; simp at hgl
        have hne4 : ¬ w.heap.size + 1 + 1 = gl := fun h => hne3 h.symm
        have hnzl : Hid (nz = 0 + 1) := by unfold Hid; rw [hnl.out, hZl]
        have hixz : (0 : Int) < nz := by have := hnzl.out; omega
        have hixz0 : 0 < nz := by have := hnzl.out; omega
        have HGZ : Hid (GrowC w wz (.slice (some ⟨gl, 0, none⟩) nz capz) Z) := hGz
        have HVz : Hid (VA wz [.int .i64 kv, .slice adv nv cv, .float .f64 xv] p) := HVw.out.moves (m.then hMz)
        obtain ⟨qq0, _⟩ := one_cell q1
        obtain ⟨f0', f1'⟩ := one_cell c4
        clear hcells hVo hno0 hGz hn3z
        go_wp2_with fail
        have hne5 : ¬ pb = w.heap.size + 1 + 1 := by omega
        have hne6 : ¬ w.heap.size + 1 + 1 = pb := by omega
        skip
        go_loopw [14, 15] (fun l k wr => ∃ j : Nat, j ≤ no' ∧ k = .int .i64 j ∧ Moves [] wz wr ∧ GrowV wz wr l (x.l.take j) ∧ ∀ a y, a < j → x.l[a]? = some y → decide (t < y.t) = true) (fun _ k _ => no' - (intOf k).toNat)
        case atStart => exact ⟨0, Nat.zero_le _, rfl, Moves.refl _ _, by simpa using GrowV.nil _ _, fun a y ha => absurd ha (by omega)⟩
        case round =>
         obtain ⟨j, hj, rfl, mr, hGL, hpre⟩ := hrel
         obtain ⟨ad4, n4, cap4, rfl, hn4⟩ := hGL.open
         have HGL : Hid (GrowV wz wr (.slice ad4 n4 cap4) (x.l.take j)) := hGL
         have HPre : Hid (∀ a y, a < j → x.l[a]? = some y → decide (t < y.t) = true) := hpre
         clear hGL hpre
         by_cases hjn : j < no'
         ·have hj3 : (j : Int) < no' := by omega
          obtain ⟨y, hy⟩ : ∃ y, x.l[j]? = some y := ⟨_, List.getElem?_eq_getElem (by have := hno'.out; omega)⟩
          obtain ⟨go1, offo1, a5, n5, c5, eo, v0, v1, v2, v3, hV5⟩ := HVo.out.at hy
          subst eo
          have d0 := mr.cell v0
          have d1 := mr.cell v1
          have d2 := mr.cell v2
          have d3 := mr.cell v3
          clear v0 v1 v2 v3
          by_cases hty : t < y.t
          ·have hvn := vers_new wr (.int .i64 y.t) _ _ _ y ⟨_, rfl, hV5.moves mr⟩
           have ma : Moves [] wr (wr.alloc (.cells #[.int .i64 y.t, .int .i64 y.v.kind, .slice a5 n5 c5, .float .f64 y.v.n] 126)) := (Moves.refl _ _).alloc _
           have hG1 := HGL.out.moves0 ma
           have hM1 := mr.then ma
           have hbd : (x.l.take j).length + [y].length ≤ 1048576 := by
            have := List.length_take_le j x.l
            simp
            omega
           have htk := take_map id hy
           simp only [List.map_id, id] at htk
           have HF : Hid (x.l.take j ++ [y] = x.l.take (j + 1)) := htk
           have HP2 : Hid (∀ a z, a < j + 1 → x.l[a]? = some z → decide (t < z.t) = true) := fun a z ha hz => by
            rcases Nat.lt_succ_iff_lt_or_eq.1 ha with h | h
            ·exact HPre.out a z h hz
            ·subst h
             rw [hy] at hz
             simp at hz
             rw [← hz]
             exact decide_eq_true hty
           clear htk
           go_wp2_with (at_builtin; refine growV_append (.tmp 85) (.tmp 90) rfl _ _ _ [y] rfl rfl (by rfl) hG1 hvn hM1 hbd ?_; intro v8 w8 hG8 M8 m8 s8 l8; have hsl := hG8.open; obtain ⟨ad8, n8, cap8, rfl, hn8⟩ := hsl)
           go_roundw
           case rel => exact ⟨j + 1, by omega, by go_num, M8, by rw [← HF.out]; exact hG8, HP2.out⟩
           case measure => simp [intOf]; omega
          ·have hTW : Hid (x.l.takeWhile (fun y => decide (t < y.t)) = x.l.take j ∧ x.l.dropWhile (fun y => decide (t < y.t)) = x.l.drop j) := takeWhile_upto _ (by have := hno'.out; omega) HPre.out (fun z hz => by rw [hy] at hz; simp at hz; rw [← hz]; exact decide_eq_false hty)
           obtain ⟨t0, t1, t2, _, _, _⟩ := three_cells (mr.at qv (by simp))
           have hbdx : (x.l.take j).length + [(⟨t, pcanon p⟩ : Pver)].length ≤ 1048576 := by
            have := List.length_take_le j x.l
            simp
            omega
           go_wp2_with (first | (go_at_call 99; refine (rcanonC_w wz _ _ _ _ _ _ p HVz.out mr).mono ?_; rintro _ w5 ⟨ad6, n6, c6, rfl, hC5, m5, m6⟩; have hvn := vers_new w5 (.int .i64 t) _ _ _ ⟨t, pcanon p⟩ ⟨_, rfl, hC5⟩; have m7 := m5.alloc (.cells #[.int .i64 t, .int .i64 (pcanon p).kind, .slice ad6 n6 c6, .float .f64 (pcanon p).n] 126); have hG7 := HGL.out.moves0 m7; have hM7 := mr.then m7) | (at_builtin; refine growV_append (.tmp 92) (.tmp 97) rfl _ _ _ [⟨t, pcanon p⟩] rfl rfl (by rfl) hG7 hvn hM7 hbdx ?_; intro v8 w8 hG8 M8 m8 s8 l8; have hsl := hG8.open; obtain ⟨ad8, n8, cap8, rfl, hn8⟩ := hsl))
           go_loopw [14, 15] (fun l k wq => ∃ j2 : Nat, j ≤ j2 ∧ j2 ≤ no' ∧ k = .int .i64 j2 ∧ Moves [] wz wq ∧ GrowV wz wq l (x.l.take j ++ [⟨t, pcanon p⟩] ++ ((x.l.drop j).take (j2 - j)).filter (fun y => y.t != t))) (fun _ k _ => no' - (intOf k).toNat)
           case atStart => exact ⟨j, Nat.le_refl _, hj, rfl, M8, by simpa using hG8⟩
           case round =>
            obtain ⟨j2, hj2a, hj2, rfl, mq, hGV⟩ := hrel
            obtain ⟨L2, hL2⟩ : ∃ L2, Hid (x.l.take j ++ [(⟨t, pcanon p⟩ : Pver)] ++ ((x.l.drop j).take (j2 - j)).filter (fun y => y.t != t) = L2) := ⟨_, rfl⟩
            rw [hL2.out] at hGV
            obtain ⟨ad8, n8, cap8, rfl, hn8⟩ := hGV.open
            have HGV : Hid (GrowV wz wr (.slice ad8 n8 cap8) L2) := hGV
            have hL2l : L2.length ≤ 100 := by
             rw [← hL2.out]
             have h1 := List.length_filter_le (fun y : Pver => y.t != t) ((x.l.drop j).take (j2 - j))
             have h2 := List.length_take_le (j2 - j) (x.l.drop j)
             have h3 := List.length_take_le j x.l
             simp
             simp at h1 h2 h3
             omega
            clear hGV
            by_cases hjt : j2 < no'
            ·have hj3 : (j2 : Int) < no' := by omega
             obtain ⟨y2, hy2⟩ : ∃ y, x.l[j2]? = some y := ⟨_, List.getElem?_eq_getElem (by have := hno'.out; omega)⟩
             have hdr : (x.l.drop j)[j2 - j]? = some y2 := by rw [List.getElem?_drop]; rw [show j + (j2 - j) = j2 by omega]; exact hy2
             have hft := filter_take (fun y : Pver => y.t != t) hdr
             rw [show j2 - j + 1 = j2 + 1 - j by omega] at hft
             obtain ⟨go2, offo2, a6, n6, c6, eo, v0, v1, v2, v3, hV6⟩ := HVo.out.at hy2
             first | subst eo | (simp only [Option.some.injEq, Addr.mk.injEq, and_true] at eo; obtain ⟨rfl, rfl⟩ := eo)
             have d0 := mq.cell v0
             have d1 := mq.cell v1
             have d2 := mq.cell v2
             have d3 := mq.cell v3
             clear v0 v1 v2 v3 hdr
             cases hq : (y2.t != t) with
             | false =>
              rw [hq] at hft
              have HF : Hid (x.l.take j ++ [(⟨t, pcanon p⟩ : Pver)] ++ ((x.l.drop j).take (j2 + 1 - j)).filter (fun y => y.t != t) = L2) := by unfold Hid; rw [hft, ← hL2.out]; simp
              have hxt : Hid (y2.t = t) := by unfold Hid; simpa using hq
              rw [hxt.out] at d0
              clear hft hq
              go_wp2_with fail
              go_roundw
              case rel => exact ⟨j2 + 1, by omega, by omega, by go_num, mq, by rw [HF.out]; exact HGV.out⟩
              case measure => simp [intOf]; omega
             | true =>
              rw [hq] at hft
              have HF : Hid (x.l.take j ++ [(⟨t, pcanon p⟩ : Pver)] ++ ((x.l.drop j).take (j2 + 1 - j)).filter (fun y => y.t != t) = L2 ++ [y2]) := by unfold Hid; rw [hft, ← hL2.out]; simp
              have hvn := vers_new wr (.int .i64 y2.t) _ _ _ y2 ⟨_, rfl, hV6.moves mq⟩
              have ma : Moves [] wr (wr.alloc (.cells #[.int .i64 y2.t, .int .i64 y2.v.kind, .slice a6 n6 c6, .float .f64 y2.v.n] 126)) := (Moves.refl _ _).alloc _
              have hG1 := HGV.out.moves0 ma
              have hM1 := mq.then ma
              have hbd : L2.length + [y2].length ≤ 1048576 := by simp; omega
              clear hft
              go_wp2_with (at_builtin; refine growV_append (.tmp 112) (.tmp 117) rfl _ _ _ [y2] rfl rfl (by rfl) hG1 hvn hM1 hbd ?_; intro v9 w9 hG9 M9 m9 s9 l9; have hsl := hG9.open; obtain ⟨ad9, n9, cap9, rfl, hn9⟩ := hsl)
              go_roundw
              case rel => exact ⟨j2 + 1, by omega, by omega, by go_num, M9, by rw [HF.out]; exact hG9⟩
              case measure => simp [intOf]; omega
            ·have hj3 : ¬ (j2 : Int) < no' := by omega
             obtain rfl : j2 = no' := by omega
             have hrl : L2.take 2 = rlist x.l ⟨t, pcanon p⟩ := by
              unfold rlist
              rw [hTW.out.1, hTW.out.2, ← hL2.out, List.take_of_length_le (l := x.l.drop j) (by rw [List.length_drop, hno'.out]; omega)]
             have hc8' : n8 ≤ cap8 := by
              obtain ⟨_, _, e9, hc9⟩ := HGV.out.slice
              simp at e9
              omega
             by_cases h2l : 2 < n8
             ·have h2l' : (2 : Int) < n8 := by omega
              have h2c : (2 : Int) ≤ cap8 := by omega
              have hvt := HGV.out.at.take (k := 2) (c := cap8) (by omega) (by omega) (Nat.le_refl _)
              have hset := (HGZ.out.moves0 mq).set HX.out (hvt)
              simp only [Nat.zero_mul, Nat.zero_add] at hset
              rw [hrl] at hset
              have hgq := mq.at hgl (by simp)
              have hst := heap_set (i := 1) hgq (.slice ad8 2 cap8)
              have hcq := (moves_set wr gl (1) (.slice ad8 2 cap8)).at (mq.at c4 (by simp)) (by simp; omega)
              obtain ⟨o0, _⟩ := one_cell (mq.at q1 (by simp))
              obtain ⟨o2, _⟩ := one_cell ((moves_set wr gl (1) (.slice ad8 2 cap8)).at (mq.at q1 (by simp)) (by simp; omega))
              obtain ⟨o3, o4⟩ := one_cell hcq
              have o1 := mq.cell k1
              have o5 := mq.frozenOf k1 (by simp) hfz
              go_wp2_with fail
              try simp only [Exit.inBlock, Exit.then]
              have hrow : RowAt _ (.agg #[.slice (some ⟨gl, 0, none⟩) nz capz]) _ := RowAt.setRow ⟨_, rfl, hset⟩ hcq (.slice (some ⟨gl, 0, none⟩) nz capz)
              obtain ⟨_, er, hcols⟩ := hrow
              simp only [Value.agg.injEq, Array.mk.injEq, List.cons.injEq, and_true] at er
              subst er
              exact bodyPost_ret (ret_row2 rfl _ _ _ _ rfl (set_one hcq _)) rfl ⟨_, _, _, rfl, hcols, ((hMz.then mq).setCell (.inr hWgl) _).setCell (.inr (by show _ ≤ _ + 1 + 1; omega)) _⟩
             ·have h2l' : ¬ (2 : Int) < n8 := by omega
              have hrl2 : L2 = rlist x.l ⟨t, pcanon p⟩ := by rw [← hrl, List.take_of_length_le (by have := hn8.out; omega)]
              have hset := (HGZ.out.moves0 mq).set HX.out (HGV.out.at)
              simp only [Nat.zero_mul, Nat.zero_add] at hset
              rw [hrl2] at hset
              have hgq := mq.at hgl (by simp)
              have hst := heap_set (i := 1) hgq (.slice ad8 n8 cap8)
              have hcq := (moves_set wr gl (1) (.slice ad8 n8 cap8)).at (mq.at c4 (by simp)) (by simp; omega)
              obtain ⟨o0, _⟩ := one_cell (mq.at q1 (by simp))
              obtain ⟨o2, _⟩ := one_cell ((moves_set wr gl (1) (.slice ad8 n8 cap8)).at (mq.at q1 (by simp)) (by simp; omega))
              obtain ⟨o3, o4⟩ := one_cell hcq
              have o1 := mq.cell k1
              have o5 := mq.frozenOf k1 (by simp) hfz
              go_wp2_with fail
              try simp only [Exit.inBlock, Exit.then]
              have hrow : RowAt _ (.agg #[.slice (some ⟨gl, 0, none⟩) nz capz]) _ := RowAt.setRow ⟨_, rfl, hset⟩ hcq (.slice (some ⟨gl, 0, none⟩) nz capz)
              obtain ⟨_, er, hcols⟩ := hrow
              simp only [Value.agg.injEq, Array.mk.injEq, List.cons.injEq, and_true] at er
              subst er
              exact bodyPost_ret (ret_row2 rfl _ _ _ _ rfl (set_one hcq _)) rfl ⟨_, _, _, rfl, hcols, ((hMz.then mq).setCell (.inr hWgl) _).setCell (.inr (by show _ ≤ _ + 1 + 1; omega)) _⟩
         ·have hj3 : ¬ (j : Int) < no' := by omega
          have hTW : Hid (x.l.takeWhile (fun y => decide (t < y.t)) = x.l.take j ∧ x.l.dropWhile (fun y => decide (t < y.t)) = x.l.drop j) := takeWhile_upto _ (by have := hno'.out; omega) HPre.out (fun z hz => by have := (List.getElem?_eq_some_iff.1 hz).1; have := hno'.out; omega)
          obtain ⟨t0, t1, t2, _, _, _⟩ := three_cells (mr.at qv (by simp))
          have hbdx : (x.l.take j).length + [(⟨t, pcanon p⟩ : Pver)].length ≤ 1048576 := by
           have := List.length_take_le j x.l
           simp
           omega
          go_wp2_with (first | (go_at_call 99; refine (rcanonC_w wz _ _ _ _ _ _ p HVz.out mr).mono ?_; rintro _ w5 ⟨ad6, n6, c6, rfl, hC5, m5, m6⟩; have hvn := vers_new w5 (.int .i64 t) _ _ _ ⟨t, pcanon p⟩ ⟨_, rfl, hC5⟩; have m7 := m5.alloc (.cells #[.int .i64 t, .int .i64 (pcanon p).kind, .slice ad6 n6 c6, .float .f64 (pcanon p).n] 126); have hG7 := HGL.out.moves0 m7; have hM7 := mr.then m7) | (at_builtin; refine growV_append (.tmp 92) (.tmp 97) rfl _ _ _ [⟨t, pcanon p⟩] rfl rfl (by rfl) hG7 hvn hM7 hbdx ?_; intro v8 w8 hG8 M8 m8 s8 l8; have hsl := hG8.open; obtain ⟨ad8, n8, cap8, rfl, hn8⟩ := hsl))
          go_loopw [14, 15] (fun l k wq => ∃ j2 : Nat, j ≤ j2 ∧ j2 ≤ no' ∧ k = .int .i64 j2 ∧ Moves [] wz wq ∧ GrowV wz wq l (x.l.take j ++ [⟨t, pcanon p⟩] ++ ((x.l.drop j).take (j2 - j)).filter (fun y => y.t != t))) (fun _ k _ => no' - (intOf k).toNat)
          case atStart => exact ⟨j, Nat.le_refl _, hj, rfl, M8, by simpa using hG8⟩
          case round =>
           obtain ⟨j2, hj2a, hj2, rfl, mq, hGV⟩ := hrel
           obtain ⟨L2, hL2⟩ : ∃ L2, Hid (x.l.take j ++ [(⟨t, pcanon p⟩ : Pver)] ++ ((x.l.drop j).take (j2 - j)).filter (fun y => y.t != t) = L2) := ⟨_, rfl⟩
           rw [hL2.out] at hGV
           obtain ⟨ad8, n8, cap8, rfl, hn8⟩ := hGV.open
           have HGV : Hid (GrowV wz wr (.slice ad8 n8 cap8) L2) := hGV
           have hL2l : L2.length ≤ 100 := by
            rw [← hL2.out]
            have h1 := List.length_filter_le (fun y : Pver => y.t != t) ((x.l.drop j).take (j2 - j))
            have h2 := List.length_take_le (j2 - j) (x.l.drop j)
            have h3 := List.length_take_le j x.l
            simp
            simp at h1 h2 h3
            omega
           clear hGV
           by_cases hjt : j2 < no'
           ·exact absurd hjt (by omega)
           ·have hj3 : ¬ (j2 : Int) < no' := by omega
            obtain rfl : j2 = no' := by omega
            have hrl : L2.take 2 = rlist x.l ⟨t, pcanon p⟩ := by
             unfold rlist
             rw [hTW.out.1, hTW.out.2, ← hL2.out, List.take_of_length_le (l := x.l.drop j) (by rw [List.length_drop, hno'.out]; omega)]
            have hc8' : n8 ≤ cap8 := by
             obtain ⟨_, _, e9, hc9⟩ := HGV.out.slice
             simp at e9
             omega
            by_cases h2l : 2 < n8
            ·have h2l' : (2 : Int) < n8 := by omega
             have h2c : (2 : Int) ≤ cap8 := by omega
             have hvt := HGV.out.at.take (k := 2) (c := cap8) (by omega) (by omega) (Nat.le_refl _)
             have hset := (HGZ.out.moves0 mq).set HX.out (hvt)
             simp only [Nat.zero_mul, Nat.zero_add] at hset
             rw [hrl] at hset
             have hgq := mq.at hgl (by simp)
             have hst := heap_set (i := 1) hgq (.slice ad8 2 cap8)
             have hcq := (moves_set wr gl (1) (.slice ad8 2 cap8)).at (mq.at c4 (by simp)) (by simp; omega)
             obtain ⟨o0, _⟩ := one_cell (mq.at q1 (by simp))
             obtain ⟨o2, _⟩ := one_cell ((moves_set wr gl (1) (.slice ad8 2 cap8)).at (mq.at q1 (by simp)) (by simp; omega))
             obtain ⟨o3, o4⟩ := one_cell hcq
             have o1 := mq.cell k1
             have o5 := mq.frozenOf k1 (by simp) hfz
             go_wp2_with fail
             try simp only [Exit.inBlock, Exit.then]
             have hrow : RowAt _ (.agg #[.slice (some ⟨gl, 0, none⟩) nz capz]) _ := RowAt.setRow ⟨_, rfl, hset⟩ hcq (.slice (some ⟨gl, 0, none⟩) nz capz)
             obtain ⟨_, er, hcols⟩ := hrow
             simp only [Value.agg.injEq, Array.mk.injEq, List.cons.injEq, and_true] at er
             subst er
             exact bodyPost_ret (ret_row2 rfl _ _ _ _ rfl (set_one hcq _)) rfl ⟨_, _, _, rfl, hcols, ((hMz.then mq).setCell (.inr hWgl) _).setCell (.inr (by show _ ≤ _ + 1 + 1; omega)) _⟩
            ·have h2l' : ¬ (2 : Int) < n8 := by omega
             have hrl2 : L2 = rlist x.l ⟨t, pcanon p⟩ := by rw [← hrl, List.take_of_length_le (by have := hn8.out; omega)]
             have hset := (HGZ.out.moves0 mq).set HX.out (HGV.out.at)
             simp only [Nat.zero_mul, Nat.zero_add] at hset
             rw [hrl2] at hset
             have hgq := mq.at hgl (by simp)
             have hst := heap_set (i := 1) hgq (.slice ad8 n8 cap8)
             have hcq := (moves_set wr gl (1) (.slice ad8 n8 cap8)).at (mq.at c4 (by simp)) (by simp; omega)
             obtain ⟨o0, _⟩ := one_cell (mq.at q1 (by simp))
             obtain ⟨o2, _⟩ := one_cell ((moves_set wr gl (1) (.slice ad8 n8 cap8)).at (mq.at q1 (by simp)) (by simp; omega))
             obtain ⟨o3, o4⟩ := one_cell hcq
             have o1 := mq.cell k1
             have o5 := mq.frozenOf k1 (by simp) hfz
             go_wp2_with fail
             try simp only [Exit.inBlock, Exit.then]
             have hrow : RowAt _ (.agg #[.slice (some ⟨gl, 0, none⟩) nz capz]) _ := RowAt.setRow ⟨_, rfl, hset⟩ hcq (.slice (some ⟨gl, 0, none⟩) nz capz)
             obtain ⟨_, er, hcols⟩ := hrow
             simp only [Value.agg.injEq, Array.mk.injEq, List.cons.injEq, and_true] at er
             subst er
             exact bodyPost_ret (ret_row2 rfl _ _ _ _ rfl (set_one hcq _)) rfl ⟨_, _, _, rfl, hcols, ((hMz.then mq).setCell (.inr hWgl) _).setCell (.inr (by show _ ≤ _ + 1 + 1; omega)) _⟩
      ·have HPos : Hid (0 < C.length) := by unfold Hid; have := hno.out; omega
       go_enter Tryz.func50, Tryz.ntmps50
       go_wp2_with (first | (go_at_call 57; refine (refName_w _ _).mono ?_; rintro _ _ ⟨rfl, rfl⟩; rw [HP.out]) | (go_at_call 97; refine (rright4_w _ _ _ _ _ _ _ p (HV.out.moves hm) (Moves.refl _ _)).mono ?_; rintro _ w2 ⟨rfl, m2⟩; rw [HR.out]; have c1 := m2.at b1 (by simp); have c2 := m2.at b3 (by simp); obtain ⟨g0, g1⟩ := one_cell c1) | (go_at_call 71; refine (hC _ (hm.then m2)).mono ?_; rintro _ w3 ⟨ad3, n3, cap3, rfl, hG3, m3, hZ3⟩; have c3 := m3.at c2 (by simp); have hA3 := hG3.at; obtain rfl : n3 = no := hA3.len.trans hno.out.symm; have HG3 : Hid (GrowC w w3 (.slice ad3 n3 cap3) C) := hG3.elder (bm.then m2); clear hG3) | (go_at_call 98; refine (find_w w3 _ _ C s ⟨_, rfl, hA3⟩ ((Moves.refl _ _).alloc _) hC1).mono ?_; rintro _ w4 ⟨rfl, m4⟩; rw [hix.out, HH.out]; obtain ⟨q1, mq⟩ := boxesW m4; obtain ⟨h0, h1⟩ := one_cell q1; have c4 := mq.at c3 (by simp); have HG4 : Hid (GrowC w w4 (.slice ad3 n3 cap3) C) := HG3.out.moves0 mq; obtain ⟨f0, f1⟩ := one_cell c4; obtain ⟨gl0, nl0, capl0, arr0, e, hnl0, hcap0, hgl0, hW0, hcells0⟩ := HG4.out.own HPos.out; simp only [Value.slice.injEq] at e; obtain ⟨rfl, rfl, rfl⟩ := e; have hi2 : (ix : Int) ≤ cap3 := (by omega); clear hcells0))
       have hM4 : Moves [] w w4 := ((bm.then m2).then m3).then mq
       have qv := mq.at (m3.at (m2.at b2 (by simp)) (by simp)) (by simp)
       have HVw : Hid (VA W [.int .i64 kv, .slice adv nv cv, .float .f64 xv] p) := HV.out
       have hpbw : w.heap.size + 1 + 1 < w3.heap.size := lt_of_block c3
       obtain ⟨pb, hpb⟩ : ∃ pb, w3.heap.size = pb := ⟨_, rfl⟩
       rw [hpb] at q1 hpbw h0 ⊢
       have hS : ∀ w', Moves [] w4 w' → w'.cell? ⟨pb, 0, none⟩ = some (.slice (some ⟨gl0, 0, none⟩) n3 cap3) := fun w' m' => m'.cell h0
       have md : Moves [] w4 w4.drew := (Moves.refl _ _).drew
       have hbd5 : ([] : List Pcol).length + (C.take ix).length ≤ 1048576 := by
        have := List.length_take_le ix C
        have := hno.out
        simp <;> omega
       have hbd9 : ([] ++ C.take ix).length + [(⟨s, []⟩ : Pcol)].length ≤ 1048576 := by
        have := List.length_take_le ix C
        have := hno.out
        simp <;> omega
       have hbd14 : ([] ++ C.take ix ++ [(⟨s, []⟩ : Pcol)]).length + (C.drop ix).length ≤ 1048576 := by
        have := List.length_take_le ix C
        have := hno.out
        simp <;> omega
       clear hpb hC m4 HG3
       refine wp_some [48, 49, 50, 51, 52, 53, 54, 55, 56, 57, 58, 59, 60, 61, 62, 63] (fun _ w' => ∃ ad n cap, GrowC w w' (.slice ad n cap) ([] ++ C.take ix ++ [⟨s, []⟩] ++ C.drop ix) ∧ w'.heap[pb]? = some (.cells #[.slice ad n cap] 52 (0, 0)) ∧ Moves [] w w' ∧ w'.heap[w.heap.size + 1 + 1]? = some (.cells #[.slice none 0 0] 52 (0, 0)) ∧ w'.heap[w.heap.size + 1]? = some (.cells #[.int .i64 kv, .slice adv nv cv, .float .f64 xv] 99 (0, 0))) ?_ ?_
       ·refine wp_region_noPanic ?_
        refine region_peel (S := (fun w' => w'.cell? ⟨pb, 0, none⟩ = some (.slice (some ⟨gl0, 0, none⟩) n3 cap3))) (pre := #[⟨some 48, .buildSlice 50 0 #[], 50, "ref.go:64", #[], none⟩, ⟨some 49, .fieldAddr 52 (.tmp 10) 0, 0, "ref.go:64", #[], none⟩, ⟨some 50, .load 50 (.tmp 49), 50, "ref.go:64", #[⟨1, .data⟩], none⟩, ⟨some 51, .move (.tmp 11), 3, "ref.go:64", #[], none⟩, ⟨some 52, .slice 50 (.tmp 50) none (some (.tmp 51)) none, 50, "ref.go:64", #[⟨2, .data⟩, ⟨3, .data⟩], none⟩, ⟨some 53, .call ⟨.builtin .append, #[.tmp 48, .tmp 52], #[50, 50]⟩, 50, "ref.go:64", #[⟨0, .data⟩, ⟨4, .data⟩], none⟩, ⟨some 54, .move (.tmp 1), 9, "ref.go:64", #[], none⟩, ⟨some 55, .build 124 #[(0, .tmp 54)], 124, "ref.go:64", #[⟨6, .data⟩], none⟩, ⟨some 56, .buildSlice 50 1 #[(0, .tmp 55)], 50, "ref.go:64", #[⟨7, .data⟩], none⟩, ⟨some 57, .call ⟨.builtin .append, #[.tmp 53, .tmp 56], #[50, 50]⟩, 50, "ref.go:64", #[⟨5, .data⟩, ⟨8, .data⟩, ⟨5, .chain⟩], none⟩, ⟨some 58, .fieldAddr 52 (.tmp 10) 0, 0, "ref.go:64", #[], none⟩, ⟨some 59, .load 50 (.tmp 58), 50, "ref.go:64", #[⟨10, .data⟩], none⟩, ⟨some 60, .move (.tmp 11), 3, "ref.go:64", #[], none⟩, ⟨some 61, .slice 50 (.tmp 59) (some (.tmp 60)) none none, 50, "ref.go:64", #[⟨11, .data⟩, ⟨12, .data⟩], none⟩, ⟨some 62, .call ⟨.builtin .append, #[.tmp 57, .tmp 61], #[50, 50]⟩, 50, "ref.go:64", #[⟨9, .data⟩, ⟨13, .data⟩, ⟨9, .chain⟩], none⟩, ⟨some 63, .fieldAddr 52 (.tmp 10) 0, 0, "ref.go:64", #[⟨0, .phase⟩, ⟨1, .phase⟩, ⟨2, .phase⟩, ⟨3, .phase⟩, ⟨4, .phase⟩, ⟨5, .phase⟩, ⟨6, .phase⟩, ⟨7, .phase⟩, ⟨8, .phase⟩, ⟨9, .phase⟩, ⟨10, .phase⟩, ⟨11, .phase⟩, ⟨12, .phase⟩, ⟨13, .phase⟩, ⟨14, .phase⟩], none⟩]) (o := ⟨none, .store 50 (.tmp 63) (.tmp 62), 0, "ref.go:64", #[⟨15, .data⟩, ⟨14, .data⟩, ⟨14, .chain⟩, ⟨0, .phase⟩, ⟨1, .phase⟩, ⟨2, .phase⟩, ⟨3, .phase⟩, ⟨4, .phase⟩, ⟨5, .phase⟩, ⟨6, .phase⟩, ⟨7, .phase⟩, ⟨8, .phase⟩, ⟨9, .phase⟩, ⟨10, .phase⟩, ⟨11, .phase⟩, ⟨12, .phase⟩, ⟨13, .phase⟩, ⟨14, .phase⟩], none⟩) (by kernel_rfl) (by kernel_rfl) (by kernel_rfl) ?_ (fun hHeld => ?_)
        ·(refine hS _ ?_; first | with_reducible assumption | exact Moves.alloc (by with_reducible assumption) _ | exact Moves.alloc (Moves.alloc (by with_reducible assumption) _) _)
        refine wpT 1 ⟨some 49, .fieldAddr 52 (.tmp 10) 0, 0, "ref.go:64", #[], none⟩ ?_
        refine wpT 2 ⟨some 50, .load 50 (.tmp 49), 50, "ref.go:64", #[⟨1, .data⟩], none⟩ ?_
        refine wpT 3 ⟨some 51, .move (.tmp 11), 3, "ref.go:64", #[], none⟩ ?_
        refine wpT 4 ⟨some 52, .slice 50 (.tmp 50) none (some (.tmp 51)) none, 50, "ref.go:64", #[⟨2, .data⟩, ⟨3, .data⟩], none⟩ ?_
        refine wpT 6 ⟨some 54, .move (.tmp 1), 9, "ref.go:64", #[], none⟩ ?_
        refine wpT 7 ⟨some 55, .build 124 #[(0, .tmp 54)], 124, "ref.go:64", #[⟨6, .data⟩], none⟩ ?_
        refine wpT 10 ⟨some 58, .fieldAddr 52 (.tmp 10) 0, 0, "ref.go:64", #[], none⟩ ?_
        refine wpT 11 ⟨some 59, .load 50 (.tmp 58), 50, "ref.go:64", #[⟨10, .data⟩], none⟩ ?_
        refine wpT 12 ⟨some 60, .move (.tmp 11), 3, "ref.go:64", #[], none⟩ ?_
        refine wpT 13 ⟨some 61, .slice 50 (.tmp 59) (some (.tmp 60)) none none, 50, "ref.go:64", #[⟨11, .data⟩, ⟨12, .data⟩], none⟩ ?_
        refine wpAnyH_ready (rs := [0, 8]) (by kernel_rfl) (by simp) ?_
        refine AllReadyH.cons (o := ⟨some 48, .buildSlice 50 0 #[], 50, "ref.go:64", #[], none⟩) rfl (fun K hK => ?_) (AllReadyH.cons (o := ⟨some 56, .buildSlice 50 1 #[(0, .tmp 55)], 50, "ref.go:64", #[⟨7, .data⟩], none⟩) rfl (fun K hK => ?_) AllReadyH.nil)
        ·go_simp
         have hGe := GrowC.empty (W := w4) md
         refine hK.out _ _ ?_ (fun hHeld => ?_)
         ·(refine hS _ ?_; first | with_reducible assumption | exact Moves.alloc (by with_reducible assumption) _ | exact Moves.alloc (Moves.alloc (by with_reducible assumption) _) _)
         clear hK K
         refine wpAnyH_ready (rs := [5, 8]) (by kernel_rfl) (by simp) ?_
         refine AllReadyH.cons (o := ⟨some 53, .call ⟨.builtin .append, #[.tmp 48, .tmp 52], #[50, 50]⟩, 50, "ref.go:64", #[⟨0, .data⟩, ⟨4, .data⟩], none⟩) rfl (fun K hK => ?_) (AllReadyH.cons (o := ⟨some 56, .buildSlice 50 1 #[(0, .tmp 55)], 50, "ref.go:64", #[⟨7, .data⟩], none⟩) rfl (fun K hK => ?_) AllReadyH.nil)
         ·refine growC_step (.tmp 48) (.tmp 52) rfl _ _ [] (C.take ix) rfl rfl (by rfl) hGe ((HG4.out.at.moves (md.alloc _)).take (k := ix) (c := cap3) (by omega) (by omega) (Nat.le_refl _)) (md.alloc _) hbd5 ?_
          intro v5 w5 hG5 M5 m5 s5 l5
          have hsl := hG5.open
          obtain ⟨ad5, n5, cap5, rfl, hn5⟩ := hsl
          refine hK.out _ _ ?_ (fun hHeld => ?_)
          ·(refine hS _ ?_; first | with_reducible assumption | exact Moves.alloc (by with_reducible assumption) _ | exact Moves.alloc (Moves.alloc (by with_reducible assumption) _) _)
          clear hK K
          try simp only [Act.put, sp1, sp2, sp3]
          refine wpR 8 ⟨some 56, .buildSlice 50 1 #[(0, .tmp 55)], 50, "ref.go:64", #[⟨7, .data⟩], none⟩ (fun K hK => ?_)
          go_simp
          have hb8 := heap_alloc_new w5 (.cells #[.string s, .slice none 0 0] 124)
          refine hK.out _ _ ?_ (fun hHeld => ?_)
          ·(refine hS _ ?_; first | with_reducible assumption | exact Moves.alloc (by with_reducible assumption) _ | exact Moves.alloc (Moves.alloc (by with_reducible assumption) _) _)
          clear hK K
          try simp only [Act.put, sp1, sp2, sp3]
          refine wpR 9 ⟨some 57, .call ⟨.builtin .append, #[.tmp 53, .tmp 56], #[50, 50]⟩, 50, "ref.go:64", #[⟨5, .data⟩, ⟨8, .data⟩, ⟨5, .chain⟩], none⟩ (fun K hK => ?_)
          refine growC_step (.tmp 53) (.tmp 56) rfl _ _ ([] ++ C.take ix) [⟨s, []⟩] rfl rfl (by rfl) (hG5.moves0 ((Moves.refl _ _).alloc _)) (cols_box hb8) (M5.alloc _) hbd9 ?_
          intro v9 w9 hG9 M9 m9 s9 l9
          have hsl := hG9.open
          obtain ⟨ad9, n9, cap9, rfl, hn9⟩ := hsl
          refine hK.out _ _ ?_ (fun hHeld => ?_)
          ·(refine hS _ ?_; first | with_reducible assumption | exact Moves.alloc (by with_reducible assumption) _ | exact Moves.alloc (Moves.alloc (by with_reducible assumption) _) _)
          clear hK K
          try simp only [Act.put, sp1, sp2, sp3]
          refine wpR 14 ⟨some 62, .call ⟨.builtin .append, #[.tmp 57, .tmp 61], #[50, 50]⟩, 50, "ref.go:64", #[⟨9, .data⟩, ⟨13, .data⟩, ⟨9, .chain⟩], none⟩ (fun K hK => ?_)
          refine growC_step (.tmp 57) (.tmp 61) rfl _ _ ([] ++ C.take ix ++ [⟨s, []⟩]) (C.drop ix) rfl rfl (by rfl) hG9 (by have h := (HG4.out.at.moves M9).drop (k := ix) (by omega); rw [Nat.zero_add] at h; exact cols_if h hcap0 rfl) M9 hbd14 ?_
          intro v14 w14 hG14 M14 m14 s14 l14
          have hsl := hG14.open
          obtain ⟨ad14, n14, cap14, rfl, hn14⟩ := hsl
          have qp14 := M14.at q1 (by simp)
          obtain ⟨z0, z1⟩ := one_cell qp14
          refine hK.out _ _ ?_ (fun hHeld => ?_)
          ·(refine hS _ ?_; first | with_reducible assumption | exact Moves.alloc (by with_reducible assumption) _ | exact Moves.alloc (Moves.alloc (by with_reducible assumption) _) _)
          clear hK K
          try simp only [Act.put, sp1, sp2, sp3]
          refine wpT 15 ⟨some 63, .fieldAddr 52 (.tmp 10) 0, 0, "ref.go:64", #[⟨0, .phase⟩, ⟨1, .phase⟩, ⟨2, .phase⟩, ⟨3, .phase⟩, ⟨4, .phase⟩, ⟨5, .phase⟩, ⟨6, .phase⟩, ⟨7, .phase⟩, ⟨8, .phase⟩, ⟨9, .phase⟩, ⟨10, .phase⟩, ⟨11, .phase⟩, ⟨12, .phase⟩, ⟨13, .phase⟩, ⟨14, .phase⟩], none⟩ ?_
          refine wpAnyH_done (by kernel_rfl) ?_ _
          unfold PeelQ
          refine wpOp_of_wp rfl rfl ?_
          go_simp
          exact NoPanic.normal ⟨rfl, by kernel_rfl, ad14, n14, cap14, (by simpa using ((hG14.elder hM4).setRow qp14 (.slice ad14 n14 cap14))), set_one qp14 _, (hM4.then M14).setCell (.inr (by show w.heap.size ≤ pb; omega)) _, (moves_set _ _ _ _).at (M14.at c4 (by simp)) (by simp; omega), (moves_set _ _ _ _).at (M14.at qv (by simp)) (by simp; omega)⟩
         ·go_simp
          have hb80 : ((w4.drew.alloc (.cells #[] 124)).alloc (.cells #[.string s, .slice none 0 0] 124)).heap[w4.heap.size + 1]? = some (.cells #[.string s, .slice none 0 0] 124 (0, 0)) := by have h := heap_alloc_new (w4.drew.alloc (.cells #[] 124)) (.cells #[.string s, .slice none 0 0] 124); simpa using h
          refine hK.out _ _ ?_ (fun hHeld => ?_)
          ·(refine hS _ ?_; first | with_reducible assumption | exact Moves.alloc (by with_reducible assumption) _ | exact Moves.alloc (Moves.alloc (by with_reducible assumption) _) _)
          clear hK K
          refine wpR 5 ⟨some 53, .call ⟨.builtin .append, #[.tmp 48, .tmp 52], #[50, 50]⟩, 50, "ref.go:64", #[⟨0, .data⟩, ⟨4, .data⟩], none⟩ (fun K hK => ?_)
          refine growC_step (.tmp 48) (.tmp 52) rfl _ _ [] (C.take ix) rfl rfl (by rfl) (hGe.moves0 ((Moves.refl _ _).alloc _)) ((HG4.out.at.moves ((md.alloc _).alloc _)).take (k := ix) (c := cap3) (by omega) (by omega) (Nat.le_refl _)) ((md.alloc _).alloc _) hbd5 ?_
          intro v5 w5 hG5 M5 m5 s5 l5
          have hsl := hG5.open
          obtain ⟨ad5, n5, cap5, rfl, hn5⟩ := hsl
          have hb85 := m5.at hb80 (by simp [Act.eval, Value.ownBlock])
          refine hK.out _ _ ?_ (fun hHeld => ?_)
          ·(refine hS _ ?_; first | with_reducible assumption | exact Moves.alloc (by with_reducible assumption) _ | exact Moves.alloc (Moves.alloc (by with_reducible assumption) _) _)
          clear hK K
          try simp only [Act.put, sp1, sp2, sp3]
          refine wpR 9 ⟨some 57, .call ⟨.builtin .append, #[.tmp 53, .tmp 56], #[50, 50]⟩, 50, "ref.go:64", #[⟨5, .data⟩, ⟨8, .data⟩, ⟨5, .chain⟩], none⟩ (fun K hK => ?_)
          refine growC_step (.tmp 53) (.tmp 56) rfl _ _ ([] ++ C.take ix) [⟨s, []⟩] rfl rfl (by rfl) hG5 (cols_box hb85) M5 hbd9 ?_
          intro v9 w9 hG9 M9 m9 s9 l9
          have hsl := hG9.open
          obtain ⟨ad9, n9, cap9, rfl, hn9⟩ := hsl
          refine hK.out _ _ ?_ (fun hHeld => ?_)
          ·(refine hS _ ?_; first | with_reducible assumption | exact Moves.alloc (by with_reducible assumption) _ | exact Moves.alloc (Moves.alloc (by with_reducible assumption) _) _)
          clear hK K
          try simp only [Act.put, sp1, sp2, sp3]
          refine wpR 14 ⟨some 62, .call ⟨.builtin .append, #[.tmp 57, .tmp 61], #[50, 50]⟩, 50, "ref.go:64", #[⟨9, .data⟩, ⟨13, .data⟩, ⟨9, .chain⟩], none⟩ (fun K hK => ?_)
          refine growC_step (.tmp 57) (.tmp 61) rfl _ _ ([] ++ C.take ix ++ [⟨s, []⟩]) (C.drop ix) rfl rfl (by rfl) hG9 (by have h := (HG4.out.at.moves M9).drop (k := ix) (by omega); rw [Nat.zero_add] at h; exact cols_if h hcap0 rfl) M9 hbd14 ?_
          intro v14 w14 hG14 M14 m14 s14 l14
          have hsl := hG14.open
          obtain ⟨ad14, n14, cap14, rfl, hn14⟩ := hsl
          have qp14 := M14.at q1 (by simp)
          obtain ⟨z0, z1⟩ := one_cell qp14
          refine hK.out _ _ ?_ (fun hHeld => ?_)
          ·(refine hS _ ?_; first | with_reducible assumption | exact Moves.alloc (by with_reducible assumption) _ | exact Moves.alloc (Moves.alloc (by with_reducible assumption) _) _)
          clear hK K
          try simp only [Act.put, sp1, sp2, sp3]
          refine wpT 15 ⟨some 63, .fieldAddr 52 (.tmp 10) 0, 0, "ref.go:64", #[⟨0, .phase⟩, ⟨1, .phase⟩, ⟨2, .phase⟩, ⟨3, .phase⟩, ⟨4, .phase⟩, ⟨5, .phase⟩, ⟨6, .phase⟩, ⟨7, .phase⟩, ⟨8, .phase⟩, ⟨9, .phase⟩, ⟨10, .phase⟩, ⟨11, .phase⟩, ⟨12, .phase⟩, ⟨13, .phase⟩, ⟨14, .phase⟩], none⟩ ?_
          refine wpAnyH_done (by kernel_rfl) ?_ _
          unfold PeelQ
          refine wpOp_of_wp rfl rfl ?_
          go_simp
          exact NoPanic.normal ⟨rfl, by kernel_rfl, ad14, n14, cap14, (by simpa using ((hG14.elder hM4).setRow qp14 (.slice ad14 n14 cap14))), set_one qp14 _, (hM4.then M14).setCell (.inr (by show w.heap.size ≤ pb; omega)) _, (moves_set _ _ _ _).at (M14.at c4 (by simp)) (by simp; omega), (moves_set _ _ _ _).at (M14.at qv (by simp)) (by simp; omega)⟩
        ·go_simp
         have hb8 : (w4.drew.alloc (.cells #[.string s, .slice none 0 0] 124)).heap[w4.heap.size]? = some (.cells #[.string s, .slice none 0 0] 124 (0, 0)) := heap_alloc_new w4.drew _
         refine hK.out _ _ ?_ (fun hHeld => ?_)
         ·(refine hS _ ?_; first | with_reducible assumption | exact Moves.alloc (by with_reducible assumption) _ | exact Moves.alloc (Moves.alloc (by with_reducible assumption) _) _)
         clear hK K
         refine wpR 0 ⟨some 48, .buildSlice 50 0 #[], 50, "ref.go:64", #[], none⟩ (fun K hK => ?_)
         go_simp
         have hGe := GrowC.empty' (W := w4) md (.cells #[.string s, .slice none 0 0] 124)
         have hb80 := ((Moves.refl [] (w4.drew.alloc (.cells #[.string s, .slice none 0 0] 124))).alloc (.cells #[] 124)).at hb8 (by simp)
         refine hK.out _ _ ?_ (fun hHeld => ?_)
         ·(refine hS _ ?_; first | with_reducible assumption | exact Moves.alloc (by with_reducible assumption) _ | exact Moves.alloc (Moves.alloc (by with_reducible assumption) _) _)
         clear hK K
         refine wpR 5 ⟨some 53, .call ⟨.builtin .append, #[.tmp 48, .tmp 52], #[50, 50]⟩, 50, "ref.go:64", #[⟨0, .data⟩, ⟨4, .data⟩], none⟩ (fun K hK => ?_)
         refine growC_step (.tmp 48) (.tmp 52) rfl _ _ [] (C.take ix) rfl rfl (by rfl) hGe ((HG4.out.at.moves ((md.alloc _).alloc _)).take (k := ix) (c := cap3) (by omega) (by omega) (Nat.le_refl _)) ((md.alloc _).alloc _) hbd5 ?_
         intro v5 w5 hG5 M5 m5 s5 l5
         have hsl := hG5.open
         obtain ⟨ad5, n5, cap5, rfl, hn5⟩ := hsl
         have hb85 := m5.at hb80 (by simp [Act.eval, Value.ownBlock])
         refine hK.out _ _ ?_ (fun hHeld => ?_)
         ·(refine hS _ ?_; first | with_reducible assumption | exact Moves.alloc (by with_reducible assumption) _ | exact Moves.alloc (Moves.alloc (by with_reducible assumption) _) _)
         clear hK K
         try simp only [Act.put, sp1, sp2, sp3]
         refine wpR 9 ⟨some 57, .call ⟨.builtin .append, #[.tmp 53, .tmp 56], #[50, 50]⟩, 50, "ref.go:64", #[⟨5, .data⟩, ⟨8, .data⟩, ⟨5, .chain⟩], none⟩ (fun K hK => ?_)
         refine growC_step (.tmp 53) (.tmp 56) rfl _ _ ([] ++ C.take ix) [⟨s, []⟩] rfl rfl (by rfl) hG5 (cols_box hb85) M5 hbd9 ?_
         intro v9 w9 hG9 M9 m9 s9 l9
         have hsl := hG9.open
         obtain ⟨ad9, n9, cap9, rfl, hn9⟩ := hsl
         refine hK.out _ _ ?_ (fun hHeld => ?_)
         ·(refine hS _ ?_; first | with_reducible assumption | exact Moves.alloc (by with_reducible assumption) _ | exact Moves.alloc (Moves.alloc (by with_reducible assumption) _) _)
         clear hK K
         try simp only [Act.put, sp1, sp2, sp3]
         refine wpR 14 ⟨some 62, .call ⟨.builtin .append, #[.tmp 57, .tmp 61], #[50, 50]⟩, 50, "ref.go:64", #[⟨9, .data⟩, ⟨13, .data⟩, ⟨9, .chain⟩], none⟩ (fun K hK => ?_)
         refine growC_step (.tmp 57) (.tmp 61) rfl _ _ ([] ++ C.take ix ++ [⟨s, []⟩]) (C.drop ix) rfl rfl (by rfl) hG9 (by have h := (HG4.out.at.moves M9).drop (k := ix) (by omega); rw [Nat.zero_add] at h; exact cols_if h hcap0 rfl) M9 hbd14 ?_
         intro v14 w14 hG14 M14 m14 s14 l14
         have hsl := hG14.open
         obtain ⟨ad14, n14, cap14, rfl, hn14⟩ := hsl
         have qp14 := M14.at q1 (by simp)
         obtain ⟨z0, z1⟩ := one_cell qp14
         refine hK.out _ _ ?_ (fun hHeld => ?_)
         ·(refine hS _ ?_; first | with_reducible assumption | exact Moves.alloc (by with_reducible assumption) _ | exact Moves.alloc (Moves.alloc (by with_reducible assumption) _) _)
         clear hK K
         try simp only [Act.put, sp1, sp2, sp3]
         refine wpT 15 ⟨some 63, .fieldAddr 52 (.tmp 10) 0, 0, "ref.go:64", #[⟨0, .phase⟩, ⟨1, .phase⟩, ⟨2, .phase⟩, ⟨3, .phase⟩, ⟨4, .phase⟩, ⟨5, .phase⟩, ⟨6, .phase⟩, ⟨7, .phase⟩, ⟨8, .phase⟩, ⟨9, .phase⟩, ⟨10, .phase⟩, ⟨11, .phase⟩, ⟨12, .phase⟩, ⟨13, .phase⟩, ⟨14, .phase⟩], none⟩ ?_
         refine wpAnyH_done (by kernel_rfl) ?_ _
         unfold PeelQ
         refine wpOp_of_wp rfl rfl ?_
         go_simp
         exact NoPanic.normal ⟨rfl, by kernel_rfl, ad14, n14, cap14, (by simpa using ((hG14.elder hM4).setRow qp14 (.slice ad14 n14 cap14))), set_one qp14 _, (hM4.then M14).setCell (.inr (by show w.heap.size ≤ pb; omega)) _, (moves_set _ _ _ _).at (M14.at c4 (by simp)) (by simp; omega), (moves_set _ _ _ _).at (M14.at qv (by simp)) (by simp; omega)⟩
       ·rintro u wz ⟨adz, nz, capz, hGz, q1, hMz, c4, qv⟩
        rw [List.nil_append, hZ.out] at hGz
        simp only [List.foldl_cons, List.foldl_nil, List.setIfInBounds_toArray, List.set_cons_zero, List.set_cons_succ]
        generalize u 48 = u48
        generalize u 49 = u49
        generalize u 50 = u50
        generalize u 51 = u51
        generalize u 52 = u52
        generalize u 53 = u53
        generalize u 54 = u54
        generalize u 55 = u55
        generalize u 56 = u56
        generalize u 57 = u57
        generalize u 58 = u58
        generalize u 59 = u59
        generalize u 60 = u60
        generalize u 61 = u61
        generalize u 62 = u62
        generalize u 63 = u63
        obtain ⟨gl, nl, capl, arr, e, hnl, hcapl, hgl, hWgl, hcells⟩ := hGz.own HPosZ.out
        simp only [Value.slice.injEq] at e
        obtain ⟨rfl, rfl, rfl⟩ := e
        obtain ⟨n3z, hn3z⟩ : ∃ n3z, n3z = nz := ⟨_, rfl⟩
        obtain ⟨ao, no', co, k0, k1, hVo, hno0, hfz⟩ := hcells ix x HX.out
        have hno' : Hid (no' = x.l.length) := hno0
        have HVo : Hid (VersAt wz (.slice ao no' co) x.l) := hVo
        have hno2 : no' ≤ 2 := by omega
        have hne1 : ¬ gl = pb := fun h => by rw [h, q1] at hgl; simp at hgl
        have hne2 : ¬ pb = gl := fun h => hne1 h.symm
        have hne3 : ¬ gl = w.heap.size + 1 + 1 := fun h => by rw [h, c4] at hgl; simp at hgl
        have hne4 : ¬ w.heap.size + 1 + 1 = gl := fun h => hne3 h.symm
        have hnzl : Hid (nz = n3 + 1) := by unfold Hid; rw [hnl.out, hZl]
        have hixz : (ix : Int) < nz := by have := hnzl.out; omega
        have hixz0 : 0 < nz := by have := hnzl.out; omega
        have HGZ : Hid (GrowC w wz (.slice (some ⟨gl, 0, none⟩) nz capz) Z) := hGz
        have HVz : Hid (VA wz [.int .i64 kv, .slice adv nv cv, .float .f64 xv] p) := HVw.out.moves (m.then hMz)
        obtain ⟨qq0, _⟩ := one_cell q1
        obtain ⟨f0', f1'⟩ := one_cell c4
        clear hcells hVo hno0 hGz hn3z
        go_wp2_with fail
        have hne5 : ¬ pb = w.heap.size + 1 + 1 := by omega
        have hne6 : ¬ w.heap.size + 1 + 1 = pb := by omega
        skip
        go_loopw [14, 15] (fun l k wr => ∃ j : Nat, j ≤ no' ∧ k = .int .i64 j ∧ Moves [] wz wr ∧ GrowV wz wr l (x.l.take j) ∧ ∀ a y, a < j → x.l[a]? = some y → decide (t < y.t) = true) (fun _ k _ => no' - (intOf k).toNat)
        case atStart => exact ⟨0, Nat.zero_le _, rfl, Moves.refl _ _, by simpa using GrowV.nil _ _, fun a y ha => absurd ha (by omega)⟩
        case round =>
         obtain ⟨j, hj, rfl, mr, hGL, hpre⟩ := hrel
         obtain ⟨ad4, n4, cap4, rfl, hn4⟩ := hGL.open
         have HGL : Hid (GrowV wz wr (.slice ad4 n4 cap4) (x.l.take j)) := hGL
         have HPre : Hid (∀ a y, a < j → x.l[a]? = some y → decide (t < y.t) = true) := hpre
         clear hGL hpre
         by_cases hjn : j < no'
         ·have hj3 : (j : Int) < no' := by omega
          obtain ⟨y, hy⟩ : ∃ y, x.l[j]? = some y := ⟨_, List.getElem?_eq_getElem (by have := hno'.out; omega)⟩
          obtain ⟨go1, offo1, a5, n5, c5, eo, v0, v1, v2, v3, hV5⟩ := HVo.out.at hy
          subst eo
          have d0 := mr.cell v0
          have d1 := mr.cell v1
          have d2 := mr.cell v2
          have d3 := mr.cell v3
          clear v0 v1 v2 v3
          by_cases hty : t < y.t
          ·have hvn := vers_new wr (.int .i64 y.t) _ _ _ y ⟨_, rfl, hV5.moves mr⟩
           have ma : Moves [] wr (wr.alloc (.cells #[.int .i64 y.t, .int .i64 y.v.kind, .slice a5 n5 c5, .float .f64 y.v.n] 126)) := (Moves.refl _ _).alloc _
           have hG1 := HGL.out.moves0 ma
           have hM1 := mr.then ma
           have hbd : (x.l.take j).length + [y].length ≤ 1048576 := by
            have := List.length_take_le j x.l
            simp
            omega
           have htk := take_map id hy
           simp only [List.map_id, id] at htk
           have HF : Hid (x.l.take j ++ [y] = x.l.take (j + 1)) := htk
           have HP2 : Hid (∀ a z, a < j + 1 → x.l[a]? = some z → decide (t < z.t) = true) := fun a z ha hz => by
            rcases Nat.lt_succ_iff_lt_or_eq.1 ha with h | h
            ·exact HPre.out a z h hz
            ·subst h
             rw [hy] at hz
             simp at hz
             rw [← hz]
             exact decide_eq_true hty
           clear htk
           go_wp2_with (at_builtin; refine growV_append (.tmp 85) (.tmp 90) rfl _ _ _ [y] rfl rfl (by rfl) hG1 hvn hM1 hbd ?_; intro v8 w8 hG8 M8 m8 s8 l8; have hsl := hG8.open; obtain ⟨ad8, n8, cap8, rfl, hn8⟩ := hsl)
           go_roundw
           case rel => exact ⟨j + 1, by omega, by go_num, M8, by rw [← HF.out]; exact hG8, HP2.out⟩
           case measure => simp [intOf]; omega
          ·have hTW : Hid (x.l.takeWhile (fun y => decide (t < y.t)) = x.l.take j ∧ x.l.dropWhile (fun y => decide (t < y.t)) = x.l.drop j) := takeWhile_upto _ (by have := hno'.out; omega) HPre.out (fun z hz => by rw [hy] at hz; simp at hz; rw [← hz]; exact decide_eq_false hty)
           obtain ⟨t0, t1, t2, _, _, _⟩ := three_cells (mr.at qv (by simp))
           have hbdx : (x.l.take j).length + [(⟨t, pcanon p⟩ : Pver)].length ≤ 1048576 := by
            have := List.length_take_le j x.l
            simp
            omega
           go_wp2_with (first | (go_at_call 99; refine (rcanonC_w wz _ _ _ _ _ _ p HVz.out mr).mono ?_; rintro _ w5 ⟨ad6, n6, c6, rfl, hC5, m5, m6⟩; have hvn := vers_new w5 (.int .i64 t) _ _ _ ⟨t, pcanon p⟩ ⟨_, rfl, hC5⟩; have m7 := m5.alloc (.cells #[.int .i64 t, .int .i64 (pcanon p).kind, .slice ad6 n6 c6, .float .f64 (pcanon p).n] 126); have hG7 := HGL.out.moves0 m7; have hM7 := mr.then m7) | (at_builtin; refine growV_append (.tmp 92) (.tmp 97) rfl _ _ _ [⟨t, pcanon p⟩] rfl rfl (by rfl) hG7 hvn hM7 hbdx ?_; intro v8 w8 hG8 M8 m8 s8 l8; have hsl := hG8.open; obtain ⟨ad8, n8, cap8, rfl, hn8⟩ := hsl))
           go_loopw [14, 15] (fun l k wq => ∃ j2 : Nat, j ≤ j2 ∧ j2 ≤ no' ∧ k = .int .i64 j2 ∧ Moves [] wz wq ∧ GrowV wz wq l (x.l.take j ++ [⟨t, pcanon p⟩] ++ ((x.l.drop j).take (j2 - j)).filter (fun y => y.t != t))) (fun _ k _ => no' - (intOf k).toNat)
           case atStart => exact ⟨j, Nat.le_refl _, hj, rfl, M8, by simpa using hG8⟩
           case round =>
            obtain ⟨j2, hj2a, hj2, rfl, mq, hGV⟩ := hrel
            obtain ⟨L2, hL2⟩ : ∃ L2, Hid (x.l.take j ++ [(⟨t, pcanon p⟩ : Pver)] ++ ((x.l.drop j).take (j2 - j)).filter (fun y => y.t != t) = L2) := ⟨_, rfl⟩
            rw [hL2.out] at hGV
            obtain ⟨ad8, n8, cap8, rfl, hn8⟩ := hGV.open
            have HGV : Hid (GrowV wz wr (.slice ad8 n8 cap8) L2) := hGV
            have hL2l : L2.length ≤ 100 := by
             rw [← hL2.out]
             have h1 := List.length_filter_le (fun y : Pver => y.t != t) ((x.l.drop j).take (j2 - j))
             have h2 := List.length_take_le (j2 - j) (x.l.drop j)
             have h3 := List.length_take_le j x.l
             simp
             simp at h1 h2 h3
             omega
            clear hGV
            by_cases hjt : j2 < no'
            ·have hj3 : (j2 : Int) < no' := by omega
             obtain ⟨y2, hy2⟩ : ∃ y, x.l[j2]? = some y := ⟨_, List.getElem?_eq_getElem (by have := hno'.out; omega)⟩
             have hdr : (x.l.drop j)[j2 - j]? = some y2 := by rw [List.getElem?_drop]; rw [show j + (j2 - j) = j2 by omega]; exact hy2
             have hft := filter_take (fun y : Pver => y.t != t) hdr
             rw [show j2 - j + 1 = j2 + 1 - j by omega] at hft
             obtain ⟨go2, offo2, a6, n6, c6, eo, v0, v1, v2, v3, hV6⟩ := HVo.out.at hy2
             first | subst eo | (simp only [Option.some.injEq, Addr.mk.injEq, and_true] at eo; obtain ⟨rfl, rfl⟩ := eo)
             have d0 := mq.cell v0
             have d1 := mq.cell v1
             have d2 := mq.cell v2
             have d3 := mq.cell v3
             clear v0 v1 v2 v3 hdr
             cases hq : (y2.t != t) with
             | false =>
              rw [hq] at hft
              have HF : Hid (x.l.take j ++ [(⟨t, pcanon p⟩ : Pver)] ++ ((x.l.drop j).take (j2 + 1 - j)).filter (fun y => y.t != t) = L2) := by unfold Hid; rw [hft, ← hL2.out]; simp
              have hxt : Hid (y2.t = t) := by unfold Hid; simpa using hq
              rw [hxt.out] at d0
              clear hft hq
              go_wp2_with fail
              go_roundw
              case rel => exact ⟨j2 + 1, by omega, by omega, by go_num, mq, by rw [HF.out]; exact HGV.out⟩
              case measure => simp [intOf]; omega
             | true =>
              rw [hq] at hft
              have HF : Hid (x.l.take j ++ [(⟨t, pcanon p⟩ : Pver)] ++ ((x.l.drop j).take (j2 + 1 - j)).filter (fun y => y.t != t) = L2 ++ [y2]) := by unfold Hid; rw [hft, ← hL2.out]; simp
              have hvn := vers_new wr (.int .i64 y2.t) _ _ _ y2 ⟨_, rfl, hV6.moves mq⟩
              have ma : Moves [] wr (wr.alloc (.cells #[.int .i64 y2.t, .int .i64 y2.v.kind, .slice a6 n6 c6, .float .f64 y2.v.n] 126)) := (Moves.refl _ _).alloc _
              have hG1 := HGV.out.moves0 ma
              have hM1 := mq.then ma
              have hbd : L2.length + [y2].length ≤ 1048576 := by simp; omega
              clear hft
              go_wp2_with (at_builtin; refine growV_append (.tmp 112) (.tmp 117) rfl _ _ _ [y2] rfl rfl (by rfl) hG1 hvn hM1 hbd ?_; intro v9 w9 hG9 M9 m9 s9 l9; have hsl := hG9.open; obtain ⟨ad9, n9, cap9, rfl, hn9⟩ := hsl)
              go_roundw
              case rel => exact ⟨j2 + 1, by omega, by omega, by go_num, M9, by rw [HF.out]; exact hG9⟩
              case measure => simp [intOf]; omega
            ·have hj3 : ¬ (j2 : Int) < no' := by omega
             obtain rfl : j2 = no' := by omega
             have hrl : L2.take 2 = rlist x.l ⟨t, pcanon p⟩ := by
              unfold rlist
              rw [hTW.out.1, hTW.out.2, ← hL2.out, List.take_of_length_le (l := x.l.drop j) (by rw [List.length_drop, hno'.out]; omega)]
             have hc8' : n8 ≤ cap8 := by
              obtain ⟨_, _, e9, hc9⟩ := HGV.out.slice
              simp at e9
              omega
             by_cases h2l : 2 < n8
             ·have h2l' : (2 : Int) < n8 := by omega
              have h2c : (2 : Int) ≤ cap8 := by omega
              have hvt := HGV.out.at.take (k := 2) (c := cap8) (by omega) (by omega) (Nat.le_refl _)
              have hset := (HGZ.out.moves0 mq).set HX.out (hvt)
              rw [hrl] at hset
              have hgq := mq.at hgl (by simp)
              have hst := heap_set (i := ix * 2 + 1) hgq (.slice ad8 2 cap8)
              have hcq := (moves_set wr gl (ix * 2 + 1) (.slice ad8 2 cap8)).at (mq.at c4 (by simp)) (by simp; omega)
              obtain ⟨o0, _⟩ := one_cell (mq.at q1 (by simp))
              obtain ⟨o2, _⟩ := one_cell ((moves_set wr gl (ix * 2 + 1) (.slice ad8 2 cap8)).at (mq.at q1 (by simp)) (by simp; omega))
              obtain ⟨o3, o4⟩ := one_cell hcq
              have o1 := mq.cell k1
              have o5 := mq.frozenOf k1 (by simp) hfz
              go_wp2_with fail
              try simp only [Exit.inBlock, Exit.then]
              have hrow : RowAt _ (.agg #[.slice (some ⟨gl, 0, none⟩) nz capz]) _ := RowAt.setRow ⟨_, rfl, hset⟩ hcq (.slice (some ⟨gl, 0, none⟩) nz capz)
              obtain ⟨_, er, hcols⟩ := hrow
              simp only [Value.agg.injEq, Array.mk.injEq, List.cons.injEq, and_true] at er
              subst er
              exact bodyPost_ret (ret_row2 rfl _ _ _ _ rfl (set_one hcq _)) rfl ⟨_, _, _, rfl, hcols, ((hMz.then mq).setCell (.inr hWgl) _).setCell (.inr (by show _ ≤ _ + 1 + 1; omega)) _⟩
             ·have h2l' : ¬ (2 : Int) < n8 := by omega
              have hrl2 : L2 = rlist x.l ⟨t, pcanon p⟩ := by rw [← hrl, List.take_of_length_le (by have := hn8.out; omega)]
              have hset := (HGZ.out.moves0 mq).set HX.out (HGV.out.at)
              rw [hrl2] at hset
              have hgq := mq.at hgl (by simp)
              have hst := heap_set (i := ix * 2 + 1) hgq (.slice ad8 n8 cap8)
              have hcq := (moves_set wr gl (ix * 2 + 1) (.slice ad8 n8 cap8)).at (mq.at c4 (by simp)) (by simp; omega)
              obtain ⟨o0, _⟩ := one_cell (mq.at q1 (by simp))
              obtain ⟨o2, _⟩ := one_cell ((moves_set wr gl (ix * 2 + 1) (.slice ad8 n8 cap8)).at (mq.at q1 (by simp)) (by simp; omega))
              obtain ⟨o3, o4⟩ := one_cell hcq
              have o1 := mq.cell k1
              have o5 := mq.frozenOf k1 (by simp) hfz
              go_wp2_with fail
              try simp only [Exit.inBlock, Exit.then]
              have hrow : RowAt _ (.agg #[.slice (some ⟨gl, 0, none⟩) nz capz]) _ := RowAt.setRow ⟨_, rfl, hset⟩ hcq (.slice (some ⟨gl, 0, none⟩) nz capz)
              obtain ⟨_, er, hcols⟩ := hrow
              simp only [Value.agg.injEq, Array.mk.injEq, List.cons.injEq, and_true] at er
              subst er
              exact bodyPost_ret (ret_row2 rfl _ _ _ _ rfl (set_one hcq _)) rfl ⟨_, _, _, rfl, hcols, ((hMz.then mq).setCell (.inr hWgl) _).setCell (.inr (by show _ ≤ _ + 1 + 1; omega)) _⟩
         ·have hj3 : ¬ (j : Int) < no' := by omega
          have hTW : Hid (x.l.takeWhile (fun y => decide (t < y.t)) = x.l.take j ∧ x.l.dropWhile (fun y => decide (t < y.t)) = x.l.drop j) := takeWhile_upto _ (by have := hno'.out; omega) HPre.out (fun z hz => by have := (List.getElem?_eq_some_iff.1 hz).1; have := hno'.out; omega)
          obtain ⟨t0, t1, t2, _, _, _⟩ := three_cells (mr.at qv (by simp))
          have hbdx : (x.l.take j).length + [(⟨t, pcanon p⟩ : Pver)].length ≤ 1048576 := by
           have := List.length_take_le j x.l
           simp
           omega
          go_wp2_with (first | (go_at_call 99; refine (rcanonC_w wz _ _ _ _ _ _ p HVz.out mr).mono ?_; rintro _ w5 ⟨ad6, n6, c6, rfl, hC5, m5, m6⟩; have hvn := vers_new w5 (.int .i64 t) _ _ _ ⟨t, pcanon p⟩ ⟨_, rfl, hC5⟩; have m7 := m5.alloc (.cells #[.int .i64 t, .int .i64 (pcanon p).kind, .slice ad6 n6 c6, .float .f64 (pcanon p).n] 126); have hG7 := HGL.out.moves0 m7; have hM7 := mr.then m7) | (at_builtin; refine growV_append (.tmp 92) (.tmp 97) rfl _ _ _ [⟨t, pcanon p⟩] rfl rfl (by rfl) hG7 hvn hM7 hbdx ?_; intro v8 w8 hG8 M8 m8 s8 l8; have hsl := hG8.open; obtain ⟨ad8, n8, cap8, rfl, hn8⟩ := hsl))
          go_loopw [14, 15] (fun l k wq => ∃ j2 : Nat, j ≤ j2 ∧ j2 ≤ no' ∧ k = .int .i64 j2 ∧ Moves [] wz wq ∧ GrowV wz wq l (x.l.take j ++ [⟨t, pcanon p⟩] ++ ((x.l.drop j).take (j2 - j)).filter (fun y => y.t != t))) (fun _ k _ => no' - (intOf k).toNat)
          case atStart => exact ⟨j, Nat.le_refl _, hj, rfl, M8, by simpa using hG8⟩
          case round =>
           obtain ⟨j2, hj2a, hj2, rfl, mq, hGV⟩ := hrel
           obtain ⟨L2, hL2⟩ : ∃ L2, Hid (x.l.take j ++ [(⟨t, pcanon p⟩ : Pver)] ++ ((x.l.drop j).take (j2 - j)).filter (fun y => y.t != t) = L2) := ⟨_, rfl⟩
           rw [hL2.out] at hGV
           obtain ⟨ad8, n8, cap8, rfl, hn8⟩ := hGV.open
           have HGV : Hid (GrowV wz wr (.slice ad8 n8 cap8) L2) := hGV
           have hL2l : L2.length ≤ 100 := by
            rw [← hL2.out]
            have h1 := List.length_filter_le (fun y : Pver => y.t != t) ((x.l.drop j).take (j2 - j))
            have h2 := List.length_take_le (j2 - j) (x.l.drop j)
            have h3 := List.length_take_le j x.l
            simp
            simp at h1 h2 h3
            omega
           clear hGV
           by_cases hjt : j2 < no'
           ·exact absurd hjt (by omega)
           ·have hj3 : ¬ (j2 : Int) < no' := by omega
            obtain rfl : j2 = no' := by omega
            have hrl : L2.take 2 = rlist x.l ⟨t, pcanon p⟩ := by
             unfold rlist
             rw [hTW.out.1, hTW.out.2, ← hL2.out, List.take_of_length_le (l := x.l.drop j) (by rw [List.length_drop, hno'.out]; omega)]
            have hc8' : n8 ≤ cap8 := by
             obtain ⟨_, _, e9, hc9⟩ := HGV.out.slice
             simp at e9
             omega
            by_cases h2l : 2 < n8
            ·have h2l' : (2 : Int) < n8 := by omega
             have h2c : (2 : Int) ≤ cap8 := by omega
             have hvt := HGV.out.at.take (k := 2) (c := cap8) (by omega) (by omega) (Nat.le_refl _)
             have hset := (HGZ.out.moves0 mq).set HX.out (hvt)
             rw [hrl] at hset
             have hgq := mq.at hgl (by simp)
             have hst := heap_set (i := ix * 2 + 1) hgq (.slice ad8 2 cap8)
             have hcq := (moves_set wr gl (ix * 2 + 1) (.slice ad8 2 cap8)).at (mq.at c4 (by simp)) (by simp; omega)
             obtain ⟨o0, _⟩ := one_cell (mq.at q1 (by simp))
             obtain ⟨o2, _⟩ := one_cell ((moves_set wr gl (ix * 2 + 1) (.slice ad8 2 cap8)).at (mq.at q1 (by simp)) (by simp; omega))
             obtain ⟨o3, o4⟩ := one_cell hcq
             have o1 := mq.cell k1
             have o5 := mq.frozenOf k1 (by simp) hfz
             go_wp2_with fail
             try simp only [Exit.inBlock, Exit.then]
             have hrow : RowAt _ (.agg #[.slice (some ⟨gl, 0, none⟩) nz capz]) _ := RowAt.setRow ⟨_, rfl, hset⟩ hcq (.slice (some ⟨gl, 0, none⟩) nz capz)
             obtain ⟨_, er, hcols⟩ := hrow
             simp only [Value.agg.injEq, Array.mk.injEq, List.cons.injEq, and_true] at er
             subst er
             exact bodyPost_ret (ret_row2 rfl _ _ _ _ rfl (set_one hcq _)) rfl ⟨_, _, _, rfl, hcols, ((hMz.then mq).setCell (.inr hWgl) _).setCell (.inr (by show _ ≤ _ + 1 + 1; omega)) _⟩
            ·have h2l' : ¬ (2 : Int) < n8 := by omega
             have hrl2 : L2 = rlist x.l ⟨t, pcanon p⟩ := by rw [← hrl, List.take_of_length_le (by have := hn8.out; omega)]
             have hset := (HGZ.out.moves0 mq).set HX.out (HGV.out.at)
             rw [hrl2] at hset
             have hgq := mq.at hgl (by simp)
             have hst := heap_set (i := ix * 2 + 1) hgq (.slice ad8 n8 cap8)
             have hcq := (moves_set wr gl (ix * 2 + 1) (.slice ad8 n8 cap8)).at (mq.at c4 (by simp)) (by simp; omega)
             obtain ⟨o0, _⟩ := one_cell (mq.at q1 (by simp))
             obtain ⟨o2, _⟩ := one_cell ((moves_set wr gl (ix * 2 + 1) (.slice ad8 n8 cap8)).at (mq.at q1 (by simp)) (by simp; omega))
             obtain ⟨o3, o4⟩ := one_cell hcq
             have o1 := mq.cell k1
             have o5 := mq.frozenOf k1 (by simp) hfz
             go_wp2_with fail
             try simp only [Exit.inBlock, Exit.then]
             have hrow : RowAt _ (.agg #[.slice (some ⟨gl, 0, none⟩) nz capz]) _ := RowAt.setRow ⟨_, rfl, hset⟩ hcq (.slice (some ⟨gl, 0, none⟩) nz capz)
             obtain ⟨_, er, hcols⟩ := hrow
             simp only [Value.agg.injEq, Array.mk.injEq, List.cons.injEq, and_true] at er
             subst er
             exact bodyPost_ret (ret_row2 rfl _ _ _ _ rfl (set_one hcq _)) rfl ⟨_, _, _, rfl, hcols, ((hMz.then mq).setCell (.inr hWgl) _).setCell (.inr (by show _ ≤ _ + 1 + 1; omega)) _⟩

    | true =>
     have HH : Hid (phas C s = true) := hhas
     clear hfull hhas
     have hins : rins C s = C := by unfold rins; rw [HH.out]; rfl
     have hpos : 0 < C.length := by
      have h1 := HH.out
      unfold phas at h1
      cases hq : C with
      | nil => rw [hq] at h1; simp at h1
      | cons a t => simp
     obtain ⟨x, hx⟩ : ∃ x, C[ix]? = some x := by
      have h1 := HH.out
      unfold phas at h1
      rw [hix.out] at h1
      cases hq : C[ix]? with
      | none => rw [hq] at h1; simp at h1
      | some x => exact ⟨x, rfl⟩
     have hyes := rPut_yes (x := x) HALL.out (by rw [HH.out]; simp) (by rw [hins, hix.out]; exact hx)
     rw [hins, hix.out, hEq.out, hPq.out] at hyes
     obtain ⟨e1, e2⟩ := hyes
     subst e1 e2
     have hxl : x.l.length ≤ 2 := HCl.out x (List.mem_of_getElem? hx)
     have HX : Hid (C[ix]? = some x) := hx
     have HPos : Hid (0 < C.length) := hpos
     have hixn : ix < no := by
      have := (List.getElem?_eq_some_iff.1 hx).1
      have := hno.out
      omega
     have hix3 : (ix : Int) < no := by omega
     clear hx hins hpos
     go_enter Tryz.func50, Tryz.ntmps50
     go_wp2_with (first | (go_at_call 57; refine (refName_w _ _).mono ?_; rintro _ _ ⟨rfl, rfl⟩; rw [HP.out]) | (go_at_call 97; refine (rright4_w _ _ _ _ _ _ _ p (HV.out.moves hm) (Moves.refl _ _)).mono ?_; rintro _ w2 ⟨rfl, m2⟩; rw [HR.out]; have c1 := m2.at b1 (by simp); have c2 := m2.at b3 (by simp); obtain ⟨g0, g1⟩ := one_cell c1) | (go_at_call 71; refine (hC _ (hm.then m2)).mono ?_; rintro _ w3 ⟨ad3, n3, cap3, rfl, hG3, m3, hZ3⟩; have c3 := m3.at c2 (by simp); have hA3 := hG3.at; obtain rfl : n3 = no := hA3.len.trans hno.out.symm; have HG3 : Hid (GrowC w w3 (.slice ad3 n3 cap3) C) := hG3.elder (bm.then m2); clear hG3) | (go_at_call 98; refine (find_w w3 _ _ C s ⟨_, rfl, hA3⟩ ((Moves.refl _ _).alloc _) hC1).mono ?_; rintro _ w4 ⟨rfl, m4⟩; rw [hix.out, HH.out]; obtain ⟨q1, mq⟩ := boxesW m4; obtain ⟨h0, h1⟩ := one_cell q1; have c4 := mq.at c3 (by simp); have HG4 : Hid (GrowC w w4 (.slice ad3 n3 cap3) C) := HG3.out.moves0 mq; obtain ⟨f0, f1⟩ := one_cell c4; obtain ⟨gl, nl, capl, arr, e, hnl, hcapl, hgl, hWgl, hcells⟩ := HG4.out.own HPos.out; simp only [Value.slice.injEq] at e; obtain ⟨rfl, rfl, rfl⟩ := e; obtain ⟨ao, no', co, k0, k1, hVo, hno0, hfz⟩ := hcells ix x HX.out; have hno' : Hid (no' = x.l.length) := hno0; have HVo : Hid (VersAt w4 (.slice ao no' co) x.l) := hVo; have hno2 : no' ≤ 2 := (by omega); have hne1 : ¬ gl = w3.heap.size := fun h => (by rw [h, q1] at hgl; simp at hgl); have hne2 : ¬ w3.heap.size = gl := fun h => hne1 h.symm; have hne3 : ¬ gl = w.heap.size + 1 + 1 := fun h => (by rw [h, c4] at hgl; simp at hgl); have hne4 : ¬ w.heap.size + 1 + 1 = gl := fun h => hne3 h.symm; clear hcells hVo hno0))
     have HGZ : Hid (GrowC w w4 (.slice (some ⟨gl, 0, none⟩) n3 cap3) C) := HG4.out
     have hMz : Moves [] w w4 := ((bm.then m2).then m3).then mq
     have qv := mq.at (m3.at (m2.at b2 (by simp)) (by simp)) (by simp)
     have HVz : Hid (VA w4 [.int .i64 kv, .slice adv nv cv, .float .f64 xv] p) := HV.out.moves (((hm.then m2).then m3).then mq)
     have hpbw : w.heap.size + 1 + 1 < w3.heap.size := lt_of_block c3
     obtain ⟨wz, hwz⟩ : ∃ wz, wz = w4 := ⟨_, rfl⟩
     subst hwz
     obtain ⟨pb, hpb⟩ : ∃ pb, w3.heap.size = pb := ⟨_, rfl⟩
     rw [hpb] at q1 hpbw hne1 hne2 ⊢
     clear hC HG4 HG3 hA3 m4 mq m3 m2 hm b1 b2 b3 bm c1 c2 c3 g0 g1 h0 h1 hpb
     have hne5 : ¬ pb = w.heap.size + 1 + 1 := by omega
     have hne6 : ¬ w.heap.size + 1 + 1 = pb := by omega
     skip
     go_loopw [14, 15] (fun l k wr => ∃ j : Nat, j ≤ no' ∧ k = .int .i64 j ∧ Moves [] wz wr ∧ GrowV wz wr l (x.l.take j) ∧ ∀ a y, a < j → x.l[a]? = some y → decide (t < y.t) = true) (fun _ k _ => no' - (intOf k).toNat)
     case atStart => exact ⟨0, Nat.zero_le _, rfl, Moves.refl _ _, by simpa using GrowV.nil _ _, fun a y ha => absurd ha (by omega)⟩
     case round =>
      obtain ⟨j, hj, rfl, mr, hGL, hpre⟩ := hrel
      obtain ⟨ad4, n4, cap4, rfl, hn4⟩ := hGL.open
      have HGL : Hid (GrowV wz wr (.slice ad4 n4 cap4) (x.l.take j)) := hGL
      have HPre : Hid (∀ a y, a < j → x.l[a]? = some y → decide (t < y.t) = true) := hpre
      clear hGL hpre
      by_cases hjn : j < no'
      ·have hj3 : (j : Int) < no' := by omega
       obtain ⟨y, hy⟩ : ∃ y, x.l[j]? = some y := ⟨_, List.getElem?_eq_getElem (by have := hno'.out; omega)⟩
       obtain ⟨go1, offo1, a5, n5, c5, eo, v0, v1, v2, v3, hV5⟩ := HVo.out.at hy
       subst eo
       have d0 := mr.cell v0
       have d1 := mr.cell v1
       have d2 := mr.cell v2
       have d3 := mr.cell v3
       clear v0 v1 v2 v3
       by_cases hty : t < y.t
       ·have hvn := vers_new wr (.int .i64 y.t) _ _ _ y ⟨_, rfl, hV5.moves mr⟩
        have ma : Moves [] wr (wr.alloc (.cells #[.int .i64 y.t, .int .i64 y.v.kind, .slice a5 n5 c5, .float .f64 y.v.n] 126)) := (Moves.refl _ _).alloc _
        have hG1 := HGL.out.moves0 ma
        have hM1 := mr.then ma
        have hbd : (x.l.take j).length + [y].length ≤ 1048576 := by
         have := List.length_take_le j x.l
         simp
         omega
        have htk := take_map id hy
        simp only [List.map_id, id] at htk
        have HF : Hid (x.l.take j ++ [y] = x.l.take (j + 1)) := htk
        have HP2 : Hid (∀ a z, a < j + 1 → x.l[a]? = some z → decide (t < z.t) = true) := fun a z ha hz => by
         rcases Nat.lt_succ_iff_lt_or_eq.1 ha with h | h
         ·exact HPre.out a z h hz
         ·subst h
          rw [hy] at hz
          simp at hz
          rw [← hz]
          exact decide_eq_true hty
        clear htk
        go_wp2_with (at_builtin; refine growV_append (.tmp 85) (.tmp 90) rfl _ _ _ [y] rfl rfl (by rfl) hG1 hvn hM1 hbd ?_; intro v8 w8 hG8 M8 m8 s8 l8; have hsl := hG8.open; obtain ⟨ad8, n8, cap8, rfl, hn8⟩ := hsl)
        go_roundw
        case rel => exact ⟨j + 1, by omega, by go_num, M8, by rw [← HF.out]; exact hG8, HP2.out⟩
        case measure => simp [intOf]; omega
       ·have hTW : Hid (x.l.takeWhile (fun y => decide (t < y.t)) = x.l.take j ∧ x.l.dropWhile (fun y => decide (t < y.t)) = x.l.drop j) := takeWhile_upto _ (by have := hno'.out; omega) HPre.out (fun z hz => by rw [hy] at hz; simp at hz; rw [← hz]; exact decide_eq_false hty)
        obtain ⟨t0, t1, t2, _, _, _⟩ := three_cells (mr.at qv (by simp))
        have hbdx : (x.l.take j).length + [(⟨t, pcanon p⟩ : Pver)].length ≤ 1048576 := by
         have := List.length_take_le j x.l
         simp
         omega
        go_wp2_with (first | (go_at_call 99; refine (rcanonC_w wz _ _ _ _ _ _ p HVz.out mr).mono ?_; rintro _ w5 ⟨ad6, n6, c6, rfl, hC5, m5, m6⟩; have hvn := vers_new w5 (.int .i64 t) _ _ _ ⟨t, pcanon p⟩ ⟨_, rfl, hC5⟩; have m7 := m5.alloc (.cells #[.int .i64 t, .int .i64 (pcanon p).kind, .slice ad6 n6 c6, .float .f64 (pcanon p).n] 126); have hG7 := HGL.out.moves0 m7; have hM7 := mr.then m7) | (at_builtin; refine growV_append (.tmp 92) (.tmp 97) rfl _ _ _ [⟨t, pcanon p⟩] rfl rfl (by rfl) hG7 hvn hM7 hbdx ?_; intro v8 w8 hG8 M8 m8 s8 l8; have hsl := hG8.open; obtain ⟨ad8, n8, cap8, rfl, hn8⟩ := hsl))
        go_loopw [14, 15] (fun l k wq => ∃ j2 : Nat, j ≤ j2 ∧ j2 ≤ no' ∧ k = .int .i64 j2 ∧ Moves [] wz wq ∧ GrowV wz wq l (x.l.take j ++ [⟨t, pcanon p⟩] ++ ((x.l.drop j).take (j2 - j)).filter (fun y => y.t != t))) (fun _ k _ => no' - (intOf k).toNat)
        case atStart => exact ⟨j, Nat.le_refl _, hj, rfl, M8, by simpa using hG8⟩
        case round =>
         obtain ⟨j2, hj2a, hj2, rfl, mq, hGV⟩ := hrel
         obtain ⟨L2, hL2⟩ : ∃ L2, Hid (x.l.take j ++ [(⟨t, pcanon p⟩ : Pver)] ++ ((x.l.drop j).take (j2 - j)).filter (fun y => y.t != t) = L2) := ⟨_, rfl⟩
         rw [hL2.out] at hGV
         obtain ⟨ad8, n8, cap8, rfl, hn8⟩ := hGV.open
         have HGV : Hid (GrowV wz wr (.slice ad8 n8 cap8) L2) := hGV
         have hL2l : L2.length ≤ 100 := by
          rw [← hL2.out]
          have h1 := List.length_filter_le (fun y : Pver => y.t != t) ((x.l.drop j).take (j2 - j))
          have h2 := List.length_take_le (j2 - j) (x.l.drop j)
          have h3 := List.length_take_le j x.l
          simp
          simp at h1 h2 h3
          omega
         clear hGV
         by_cases hjt : j2 < no'
         ·have hj3 : (j2 : Int) < no' := by omega
          obtain ⟨y2, hy2⟩ : ∃ y, x.l[j2]? = some y := ⟨_, List.getElem?_eq_getElem (by have := hno'.out; omega)⟩
          have hdr : (x.l.drop j)[j2 - j]? = some y2 := by rw [List.getElem?_drop]; rw [show j + (j2 - j) = j2 by omega]; exact hy2
          have hft := filter_take (fun y : Pver => y.t != t) hdr
          rw [show j2 - j + 1 = j2 + 1 - j by omega] at hft
          obtain ⟨go2, offo2, a6, n6, c6, eo, v0, v1, v2, v3, hV6⟩ := HVo.out.at hy2
          first | subst eo | (simp only [Option.some.injEq, Addr.mk.injEq, and_true] at eo; obtain ⟨rfl, rfl⟩ := eo)
          have d0 := mq.cell v0
          have d1 := mq.cell v1
          have d2 := mq.cell v2
          have d3 := mq.cell v3
          clear v0 v1 v2 v3 hdr
          cases hq : (y2.t != t) with
          | false =>
           rw [hq] at hft
           have HF : Hid (x.l.take j ++ [(⟨t, pcanon p⟩ : Pver)] ++ ((x.l.drop j).take (j2 + 1 - j)).filter (fun y => y.t != t) = L2) := by unfold Hid; rw [hft, ← hL2.out]; simp
           have hxt : Hid (y2.t = t) := by unfold Hid; simpa using hq
           rw [hxt.out] at d0
           clear hft hq
           go_wp2_with fail
           go_roundw
           case rel => exact ⟨j2 + 1, by omega, by omega, by go_num, mq, by rw [HF.out]; exact HGV.out⟩
           case measure => simp [intOf]; omega
          | true =>
           rw [hq] at hft
           have HF : Hid (x.l.take j ++ [(⟨t, pcanon p⟩ : Pver)] ++ ((x.l.drop j).take (j2 + 1 - j)).filter (fun y => y.t != t) = L2 ++ [y2]) := by unfold Hid; rw [hft, ← hL2.out]; simp
           have hvn := vers_new wr (.int .i64 y2.t) _ _ _ y2 ⟨_, rfl, hV6.moves mq⟩
           have ma : Moves [] wr (wr.alloc (.cells #[.int .i64 y2.t, .int .i64 y2.v.kind, .slice a6 n6 c6, .float .f64 y2.v.n] 126)) := (Moves.refl _ _).alloc _
           have hG1 := HGV.out.moves0 ma
           have hM1 := mq.then ma
           have hbd : L2.length + [y2].length ≤ 1048576 := by simp; omega
           clear hft
           go_wp2_with (at_builtin; refine growV_append (.tmp 112) (.tmp 117) rfl _ _ _ [y2] rfl rfl (by rfl) hG1 hvn hM1 hbd ?_; intro v9 w9 hG9 M9 m9 s9 l9; have hsl := hG9.open; obtain ⟨ad9, n9, cap9, rfl, hn9⟩ := hsl)
           go_roundw
           case rel => exact ⟨j2 + 1, by omega, by omega, by go_num, M9, by rw [HF.out]; exact hG9⟩
           case measure => simp [intOf]; omega
         ·have hj3 : ¬ (j2 : Int) < no' := by omega
          obtain rfl : j2 = no' := by omega
          have hrl : L2.take 2 = rlist x.l ⟨t, pcanon p⟩ := by
           unfold rlist
           rw [hTW.out.1, hTW.out.2, ← hL2.out, List.take_of_length_le (l := x.l.drop j) (by rw [List.length_drop, hno'.out]; omega)]
          have hc8' : n8 ≤ cap8 := by
           obtain ⟨_, _, e9, hc9⟩ := HGV.out.slice
           simp at e9
           omega
          by_cases h2l : 2 < n8
          ·have h2l' : (2 : Int) < n8 := by omega
           have h2c : (2 : Int) ≤ cap8 := by omega
           have hvt := HGV.out.at.take (k := 2) (c := cap8) (by omega) (by omega) (Nat.le_refl _)
           have hset := (HGZ.out.moves0 mq).set HX.out (hvt)
           rw [hrl] at hset
           have hgq := mq.at hgl (by simp)
           have hst := heap_set (i := ix * 2 + 1) hgq (.slice ad8 2 cap8)
           have hcq := (moves_set wr gl (ix * 2 + 1) (.slice ad8 2 cap8)).at (mq.at c4 (by simp)) (by simp; omega)
           obtain ⟨o0, _⟩ := one_cell (mq.at q1 (by simp))
           obtain ⟨o2, _⟩ := one_cell ((moves_set wr gl (ix * 2 + 1) (.slice ad8 2 cap8)).at (mq.at q1 (by simp)) (by simp; omega))
           obtain ⟨o3, o4⟩ := one_cell hcq
           have o1 := mq.cell k1
           have o5 := mq.frozenOf k1 (by simp) hfz
           go_wp2_with fail
           try simp only [Exit.inBlock, Exit.then]
           have hrow : RowAt _ (.agg #[.slice (some ⟨gl, 0, none⟩) n3 cap3]) _ := RowAt.setRow ⟨_, rfl, hset⟩ hcq (.slice (some ⟨gl, 0, none⟩) n3 cap3)
           obtain ⟨_, er, hcols⟩ := hrow
           simp only [Value.agg.injEq, Array.mk.injEq, List.cons.injEq, and_true] at er
           subst er
           exact bodyPost_ret (ret_row2 rfl _ _ _ _ rfl (set_one hcq _)) rfl ⟨_, _, _, rfl, hcols, ((hMz.then mq).setCell (.inr hWgl) _).setCell (.inr (by show _ ≤ _ + 1 + 1; omega)) _⟩
          ·have h2l' : ¬ (2 : Int) < n8 := by omega
           have hrl2 : L2 = rlist x.l ⟨t, pcanon p⟩ := by rw [← hrl, List.take_of_length_le (by have := hn8.out; omega)]
           have hset := (HGZ.out.moves0 mq).set HX.out (HGV.out.at)
           rw [hrl2] at hset
           have hgq := mq.at hgl (by simp)
           have hst := heap_set (i := ix * 2 + 1) hgq (.slice ad8 n8 cap8)
           have hcq := (moves_set wr gl (ix * 2 + 1) (.slice ad8 n8 cap8)).at (mq.at c4 (by simp)) (by simp; omega)
           obtain ⟨o0, _⟩ := one_cell (mq.at q1 (by simp))
           obtain ⟨o2, _⟩ := one_cell ((moves_set wr gl (ix * 2 + 1) (.slice ad8 n8 cap8)).at (mq.at q1 (by simp)) (by simp; omega))
           obtain ⟨o3, o4⟩ := one_cell hcq
           have o1 := mq.cell k1
           have o5 := mq.frozenOf k1 (by simp) hfz
           go_wp2_with fail
           try simp only [Exit.inBlock, Exit.then]
           have hrow : RowAt _ (.agg #[.slice (some ⟨gl, 0, none⟩) n3 cap3]) _ := RowAt.setRow ⟨_, rfl, hset⟩ hcq (.slice (some ⟨gl, 0, none⟩) n3 cap3)
           obtain ⟨_, er, hcols⟩ := hrow
           simp only [Value.agg.injEq, Array.mk.injEq, List.cons.injEq, and_true] at er
           subst er
           exact bodyPost_ret (ret_row2 rfl _ _ _ _ rfl (set_one hcq _)) rfl ⟨_, _, _, rfl, hcols, ((hMz.then mq).setCell (.inr hWgl) _).setCell (.inr (by show _ ≤ _ + 1 + 1; omega)) _⟩
      ·have hj3 : ¬ (j : Int) < no' := by omega
       have hTW : Hid (x.l.takeWhile (fun y => decide (t < y.t)) = x.l.take j ∧ x.l.dropWhile (fun y => decide (t < y.t)) = x.l.drop j) := takeWhile_upto _ (by have := hno'.out; omega) HPre.out (fun z hz => by have := (List.getElem?_eq_some_iff.1 hz).1; have := hno'.out; omega)
       obtain ⟨t0, t1, t2, _, _, _⟩ := three_cells (mr.at qv (by simp))
       have hbdx : (x.l.take j).length + [(⟨t, pcanon p⟩ : Pver)].length ≤ 1048576 := by
        have := List.length_take_le j x.l
        simp
        omega
       go_wp2_with (first | (go_at_call 99; refine (rcanonC_w wz _ _ _ _ _ _ p HVz.out mr).mono ?_; rintro _ w5 ⟨ad6, n6, c6, rfl, hC5, m5, m6⟩; have hvn := vers_new w5 (.int .i64 t) _ _ _ ⟨t, pcanon p⟩ ⟨_, rfl, hC5⟩; have m7 := m5.alloc (.cells #[.int .i64 t, .int .i64 (pcanon p).kind, .slice ad6 n6 c6, .float .f64 (pcanon p).n] 126); have hG7 := HGL.out.moves0 m7; have hM7 := mr.then m7) | (at_builtin; refine growV_append (.tmp 92) (.tmp 97) rfl _ _ _ [⟨t, pcanon p⟩] rfl rfl (by rfl) hG7 hvn hM7 hbdx ?_; intro v8 w8 hG8 M8 m8 s8 l8; have hsl := hG8.open; obtain ⟨ad8, n8, cap8, rfl, hn8⟩ := hsl))
       go_loopw [14, 15] (fun l k wq => ∃ j2 : Nat, j ≤ j2 ∧ j2 ≤ no' ∧ k = .int .i64 j2 ∧ Moves [] wz wq ∧ GrowV wz wq l (x.l.take j ++ [⟨t, pcanon p⟩] ++ ((x.l.drop j).take (j2 - j)).filter (fun y => y.t != t))) (fun _ k _ => no' - (intOf k).toNat)
       case atStart => exact ⟨j, Nat.le_refl _, hj, rfl, M8, by simpa using hG8⟩
       case round =>
        obtain ⟨j2, hj2a, hj2, rfl, mq, hGV⟩ := hrel
        obtain ⟨L2, hL2⟩ : ∃ L2, Hid (x.l.take j ++ [(⟨t, pcanon p⟩ : Pver)] ++ ((x.l.drop j).take (j2 - j)).filter (fun y => y.t != t) = L2) := ⟨_, rfl⟩
        rw [hL2.out] at hGV
        obtain ⟨ad8, n8, cap8, rfl, hn8⟩ := hGV.open
        have HGV : Hid (GrowV wz wr (.slice ad8 n8 cap8) L2) := hGV
        have hL2l : L2.length ≤ 100 := by
         rw [← hL2.out]
         have h1 := List.length_filter_le (fun y : Pver => y.t != t) ((x.l.drop j).take (j2 - j))
         have h2 := List.length_take_le (j2 - j) (x.l.drop j)
         have h3 := List.length_take_le j x.l
         simp
         simp at h1 h2 h3
         omega
        clear hGV
        by_cases hjt : j2 < no'
        ·exact absurd hjt (by omega)
        ·have hj3 : ¬ (j2 : Int) < no' := by omega
         obtain rfl : j2 = no' := by omega
         have hrl : L2.take 2 = rlist x.l ⟨t, pcanon p⟩ := by
          unfold rlist
          rw [hTW.out.1, hTW.out.2, ← hL2.out, List.take_of_length_le (l := x.l.drop j) (by rw [List.length_drop, hno'.out]; omega)]
         have hc8' : n8 ≤ cap8 := by
          obtain ⟨_, _, e9, hc9⟩ := HGV.out.slice
          simp at e9
          omega
         by_cases h2l : 2 < n8
         ·have h2l' : (2 : Int) < n8 := by omega
          have h2c : (2 : Int) ≤ cap8 := by omega
          have hvt := HGV.out.at.take (k := 2) (c := cap8) (by omega) (by omega) (Nat.le_refl _)
          have hset := (HGZ.out.moves0 mq).set HX.out (hvt)
          rw [hrl] at hset
          have hgq := mq.at hgl (by simp)
          have hst := heap_set (i := ix * 2 + 1) hgq (.slice ad8 2 cap8)
          have hcq := (moves_set wr gl (ix * 2 + 1) (.slice ad8 2 cap8)).at (mq.at c4 (by simp)) (by simp; omega)
          obtain ⟨o0, _⟩ := one_cell (mq.at q1 (by simp))
          obtain ⟨o2, _⟩ := one_cell ((moves_set wr gl (ix * 2 + 1) (.slice ad8 2 cap8)).at (mq.at q1 (by simp)) (by simp; omega))
          obtain ⟨o3, o4⟩ := one_cell hcq
          have o1 := mq.cell k1
          have o5 := mq.frozenOf k1 (by simp) hfz
          go_wp2_with fail
          try simp only [Exit.inBlock, Exit.then]
          have hrow : RowAt _ (.agg #[.slice (some ⟨gl, 0, none⟩) n3 cap3]) _ := RowAt.setRow ⟨_, rfl, hset⟩ hcq (.slice (some ⟨gl, 0, none⟩) n3 cap3)
          obtain ⟨_, er, hcols⟩ := hrow
          simp only [Value.agg.injEq, Array.mk.injEq, List.cons.injEq, and_true] at er
          subst er
          exact bodyPost_ret (ret_row2 rfl _ _ _ _ rfl (set_one hcq _)) rfl ⟨_, _, _, rfl, hcols, ((hMz.then mq).setCell (.inr hWgl) _).setCell (.inr (by show _ ≤ _ + 1 + 1; omega)) _⟩
         ·have h2l' : ¬ (2 : Int) < n8 := by omega
          have hrl2 : L2 = rlist x.l ⟨t, pcanon p⟩ := by rw [← hrl, List.take_of_length_le (by have := hn8.out; omega)]
          have hset := (HGZ.out.moves0 mq).set HX.out (HGV.out.at)
          rw [hrl2] at hset
          have hgq := mq.at hgl (by simp)
          have hst := heap_set (i := ix * 2 + 1) hgq (.slice ad8 n8 cap8)
          have hcq := (moves_set wr gl (ix * 2 + 1) (.slice ad8 n8 cap8)).at (mq.at c4 (by simp)) (by simp; omega)
          obtain ⟨o0, _⟩ := one_cell (mq.at q1 (by simp))
          obtain ⟨o2, _⟩ := one_cell ((moves_set wr gl (ix * 2 + 1) (.slice ad8 n8 cap8)).at (mq.at q1 (by simp)) (by simp; omega))
          obtain ⟨o3, o4⟩ := one_cell hcq
          have o1 := mq.cell k1
          have o5 := mq.frozenOf k1 (by simp) hfz
          go_wp2_with fail
          try simp only [Exit.inBlock, Exit.then]
          have hrow : RowAt _ (.agg #[.slice (some ⟨gl, 0, none⟩) n3 cap3]) _ := RowAt.setRow ⟨_, rfl, hset⟩ hcq (.slice (some ⟨gl, 0, none⟩) n3 cap3)
          obtain ⟨_, er, hcols⟩ := hrow
          simp only [Value.agg.injEq, Array.mk.injEq, List.cons.injEq, and_true] at er
          subst er
          exact bodyPost_ret (ret_row2 rfl _ _ _ _ rfl (set_one hcq _)) rfl ⟨_, _, _, rfl, hcols, ((hMz.then mq).setCell (.inr hWgl) _).setCell (.inr (by show _ ≤ _ + 1 + 1; omega)) _⟩
end Go.Proofs.YtcngllcifcpbkaaGreat
