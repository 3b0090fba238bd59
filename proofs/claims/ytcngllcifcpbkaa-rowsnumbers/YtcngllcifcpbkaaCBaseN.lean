/-
  Rs0, Rs1, Rs2, Rs3, Rs4: our texts of these names, laid into one.
-/
import Derived.Test.YtcngllcifcpbkaaCBaseM
import Derived.Test.YtcngllcifcpbkaaCBaseW
import Derived.Test.YtcngllcifcpbkaaCRef6
/-
  The document's own Find and Put of rows by names.
-/
namespace Go.Proofs.Ytcngllcifcpbkaa
open Go.RowKit

theorem phasN_no {xs : List Pnam} {s : ByteArray} {k : Nat} {x : Pnam} (h : phasN (xs.take k) s = false) (hx : xs[k]? = some x) (hq : neq x.name s = false) : phasN (xs.take (k + 1)) s = false := by
  unfold phasN at h ⊢
  rw [List.take_add_one, hx, List.any_append, h]
  simp [hq]
theorem phasN_yes {xs : List Pnam} {s : ByteArray} {k : Nat} {x : Pnam} (hx : xs[k]? = some x) (hq : neq x.name s = true) : phasN xs s = true := by
  unfold phasN
  exact List.any_eq_true.2 ⟨x, List.mem_of_getElem? hx, hq⟩

set_option maxRecDepth 100000 in
set_option maxHeartbeats 4000000 in
theorem rfind_w (W w : World) (v : Value) (xs : List Pnam) (s : ByteArray) (h : NamsAt W v xs) (m : Moves [] W w) (hl : xs.length ≤ 1000) (hR : ∀ x ∈ xs, pright x.r = true) :
    Calls Try.prog 43 #[v, .string s] w fun e w' => ∃ ad n cap, e = .returned (.tuple #[.agg #[.slice ad n cap], .bool (phasN xs s)]) ∧ Moves [] w w' := by
  obtain ⟨ad, cap, hv, hcap⟩ := h.slice
  obtain ⟨n, HN⟩ : ∃ n, Hid (n = xs.length) := ⟨_, rfl⟩
  rw [← HN.out] at hv hcap hl
  subst hv
  have HA : Hid (NamsAt W (.slice ad n cap) xs) := h
  have HR : Hid (∀ x ∈ xs, pright x.r = true) := hR
  have MW : Hid (Moves [] W w) := m
  clear h m hR
  obtain ⟨bb, hbb⟩ : ∃ bb, Hid (phasN xs s = bb) := ⟨_, rfl⟩
  rw [hbb.out]
  go_enter Try.func43, Try.ntmps43
  go_wp2_with fail
  have b0 := boxesW (Moves.refl [] (w.alloc (.cells #[.slice none 0 0] 36)))
  go_loopw [6] (fun i wr => ∃ k : Nat, k ≤ n ∧ i = .int .i64 k ∧ Moves [] w wr ∧ wr.heap[w.heap.size]? = some (.cells #[.slice none 0 0] 36 (0, 0)) ∧ Hid (phasN (xs.take k) s = false)) (fun i _ => n - (intOf i).toNat)
  case atStart => exact ⟨0, Nat.zero_le _, rfl, b0.2, b0.1, by unfold Hid phasN; simp⟩
  case round =>
    obtain ⟨k, hk, rfl, mr, q1, hno⟩ := hrel
    clear b0
    obtain ⟨u1, u2⟩ := one_cell q1
    by_cases hkt : k < n
    · have hk3 : (k : Int) < n := by omega
      obtain ⟨x, hx⟩ : ∃ x, xs[k]? = some x := ⟨_, List.getElem?_eq_getElem (by have := HN.out; omega)⟩
      obtain ⟨g, off, a2, n2, c2, rfl, e0, e1, en, hC⟩ := HA.out.at hx
      have d0 := (MW.out.then mr).cell e0
      have d1 := (MW.out.then mr).cell e1
      have HX : Hid (xs[k]? = some x) := hx
      have HC : Hid (ColsAt W (.slice a2 n2 c2) x.r) := hC
      clear e0 e1 hx en hC
      cases hq : neq x.name s with
      | false =>
        have hbe : (x.name.toList == s.toList) = false := hq
        have HF : Hid (phasN (xs.take (k + 1)) s = false) := phasN_no hno.out HX.out hq
        clear hq
        go_wp2_with fail
        go_roundw
        case rel => exact ⟨k + 1, by omega, by go_num, mr, q1, HF⟩
        case measure => simp [intOf]; omega
      | true =>
        have hbe : (x.name.toList == s.toList) = true := hq
        obtain rfl : bb = true := hbb.out.symm.trans (phasN_yes HX.out hq)
        clear hq
        go_wp2_with (go_at_call 34; refine (refCopy_yes W _ _ x.r ⟨_, rfl, HC.out⟩ (MW.out.then mr) (HR.out x (List.mem_of_getElem? HX.out))).mono ?_; rintro _ w5 ⟨ad5, n5, cap5, rfl, hG5, m5, _⟩; have q5 := m5.at q1 (by simp); obtain ⟨v1, v2⟩ := one_cell q5)
        try simp only [Exit.inBlock, Exit.then]
        exact bodyPost_ret (ret_row2 rfl _ _ _ _ rfl (set_one q5 _)) rfl ⟨_, _, _, rfl, (mr.then m5).setCell (.inr (Nat.le_refl _)) _⟩
    · have hk3 : ¬ (k : Int) < n := by omega
      obtain rfl : k = n := by omega
      obtain rfl : bb = false := by
        have e := hno.out
        rw [HN.out, List.take_length, hbb.out] at e
        exact e
      go_wp2_with fail
      try simp only [Exit.inBlock, Exit.then]
      have M := mr.setCell (p := ⟨w.heap.size, 0, none⟩) (.inr (Nat.le_refl _)) (.slice none 0 0)
      refine bodyPost_ret (ret_row2 rfl _ _ _ _ rfl (set_one q1 _)) rfl ?_
      simpa using M

/-- What stands behind so many rows. -/
def putAt (P : List Pnam) (s : ByteArray) (C : List Pcol) : List Pnam := P.filter (fun x => nlt x.name s) ++ ((if (!C.isEmpty && P.any (fun x => !nlt x.name s)) = true then [⟨s, C⟩] else []) ++ P.filter (fun x => nlt s x.name))
def doneAt (P : List Pnam) (s : ByteArray) (C : List Pcol) : Bool := C.isEmpty || P.any (fun x => !nlt x.name s)
theorem putAt_lt {P : List Pnam} {s : ByteArray} {C : List Pcol} {y : Pnam} (hP : RiseN (P ++ [y])) (hy : nlt y.name s = true) : putAt P s C ++ [y] = putAt (P ++ [y]) s C ∧ doneAt (P ++ [y]) s C = doneAt P s C := by
  have hall : ∀ x ∈ P, nlt x.name s = true := fun x hx => nlt_trans ((List.pairwise_append.1 hP).2.2 x hx y (by simp)) hy
  have e1 : P.any (fun x => !nlt x.name s) = false := by
    rw [List.any_eq_false]
    intro x hx
    simp [hall x hx]
  have e2 : P.filter (fun x => nlt s x.name) = [] := List.filter_eq_nil_iff.2 (fun x hx => by simp [nlt_asymm (hall x hx)])
  unfold putAt doneAt
  simp [List.filter_append, e1, e2, hy, nlt_asymm hy]
theorem putAt_ge {P : List Pnam} {s : ByteArray} {C : List Pcol} {y : Pnam} (hy : nlt y.name s = false) : putAt (P ++ [y]) s C = (if doneAt P s C then putAt P s C else P.filter (fun x => nlt x.name s) ++ [⟨s, C⟩] ++ P.filter (fun x => nlt s x.name)) ++ (if neq y.name s then [] else [y]) ∧ doneAt (P ++ [y]) s C = true ∧ (doneAt P s C = false → putAt P s C = P.filter (fun x => nlt x.name s) ∧ P.filter (fun x => nlt s x.name) = []) := by
  have e3 : (if nlt s y.name = true then [y] else []) = (if neq y.name s = true then [] else [y]) := by
    cases hq : neq y.name s with
    | true => rw [neq_iff.1 hq, nlt_self]; rfl
    | false => rw [nlt_total hy hq]; rfl
  refine ⟨?_, ?_, ?_⟩
  · unfold putAt doneAt
    cases hC : C.isEmpty with
    | true => simp [List.filter_append, hy, List.filter_cons, e3]
    | false =>
      cases ha : P.any (fun x => !nlt x.name s) with
      | true => simp [List.filter_append, hy, List.filter_cons, e3, ha]
      | false => simp [List.filter_append, hy, List.filter_cons, e3, ha]
  · unfold doneAt
    simp [hy]
  · intro hd
    unfold doneAt at hd
    rw [Bool.or_eq_false_iff] at hd
    have hall : ∀ x ∈ P, nlt x.name s = true := fun x hx => by
      have := (List.any_eq_false.1 hd.2) x hx
      simpa using this
    have e2 : P.filter (fun x => nlt s x.name) = [] := List.filter_eq_nil_iff.2 (fun x hx => by simp [nlt_asymm (hall x hx)])
    refine ⟨?_, e2⟩
    unfold putAt
    rw [hd.2, e2]
    simp
theorem putAt_end {xs : List Pnam} {s : ByteArray} {C : List Pcol} : pputN xs s C = (if doneAt xs s C then putAt xs s C else putAt xs s C ++ [⟨s, C⟩]) := by
  cases hd : doneAt xs s C with
  | true =>
    unfold doneAt at hd
    unfold pputN putAt
    cases hC : C.isEmpty with
    | true => simp
    | false =>
      rw [hC] at hd
      simp only [Bool.false_or] at hd
      rw [hd]
      simp
  | false =>
    unfold doneAt at hd
    rw [Bool.or_eq_false_iff] at hd
    have hall : ∀ x ∈ xs, nlt x.name s = true := fun x hx => by
      have := (List.any_eq_false.1 hd.2) x hx
      simpa using this
    have e2 : xs.filter (fun x => nlt s x.name) = [] := List.filter_eq_nil_iff.2 (fun x hx => by simp [nlt_asymm (hall x hx)])
    unfold pputN putAt
    rw [hd.1, hd.2, e2]
    simp
end Go.Proofs.Ytcngllcifcpbkaa
/-
  The document's own Put of rows by names.
-/
namespace Go.Proofs.Ytcngllcifcpbkaa
open Go.RowKit

theorem put_keep {w w6 w8 : World} {v : Value} {P : List Pnam} {cs : Array Value} (h : GrowN w w6 v P) (M : Moves [] w w6) (b : w6.heap[w.heap.size]? = some (.cells cs 36 (0, 0))) (m8 : Moves v.ownBlock.toList w6 w8) : Moves [] w w8 ∧ w8.heap[w.heap.size]? = some (.cells cs 36 (0, 0)) := by
  refine ⟨M.trans m8 (fun k hk => .inr (h.1 k (Option.mem_toList.1 hk))), m8.at b (fun hk => ?_)⟩
  obtain ⟨cur, hb⟩ := h.blk (Option.mem_toList.1 hk)
  rw [b] at hb
  simp at hb

set_option maxRecDepth 100000 in
set_option maxHeartbeats 8000000 in
theorem nput_w (W w : World) (v : Value) (xs : List Pnam) (s : ByteArray) (rv : Value) (R : List Pcol) (h : NamsAt W v xs) (hr : RowAt W rv R) (m : Moves [] W w) (hl : xs.length ≤ 1000) (hrise : RiseN xs) (hR : pright R = true) :
    Calls Try.prog 44 #[v, .string s, rv] w fun e w' => ∃ ad n cap, e = .returned (.slice ad n cap) ∧ GrowN w w' (.slice ad n cap) (pputN xs s (R.map pcanonC)) ∧ Moves [] w w' := by
  obtain ⟨ad, cap, hv, hcap⟩ := h.slice
  obtain ⟨n, HN⟩ : ∃ n, Hid (n = xs.length) := ⟨_, rfl⟩
  rw [← HN.out] at hv hcap hl
  subst hv
  have HRW : Hid (RowAt W rv R) := hr
  obtain ⟨lvr, rfl, hcr⟩ := hr
  obtain ⟨adr, capr, hlv, hcapr⟩ := hcr.slice
  obtain ⟨nr, HNR⟩ : ∃ nr, Hid (nr = R.length) := ⟨_, rfl⟩
  rw [← HNR.out] at hlv hcapr
  subst hlv
  have HA : Hid (NamsAt W (.slice ad n cap) xs) := h
  have MW : Hid (Moves [] W w) := m
  have HS : Hid (RiseN xs) := hrise
  obtain ⟨C, HC⟩ : ∃ C, Hid (R.map pcanonC = C) := ⟨_, rfl⟩
  have hcopy := fun w1 (m1 : Moves [] w w1) => refCopy_yes W w1 _ R HRW.out (MW.out.then m1) hR
  rw [HC.out] at hcopy ⊢
  have HE : Hid (C.isEmpty = ((nr : Int) == 0)) := by
    unfold Hid
    rw [← HC.out, HNR.out]
    cases R with
    | nil => rfl
    | cons c R => simp; omega
  obtain ⟨Y, HY⟩ : ∃ Y, Hid (pputN xs s C = Y) := ⟨_, rfl⟩
  rw [HY.out]
  clear h m hcr hcapr hrise
  go_enter Try.func44, Try.ntmps44
  have b0 := boxesW (Moves.refl [] (w.alloc (.cells #[.slice adr nr capr] 36)))
  obtain ⟨bc, _⟩ := one_cell b0.1
  go_wp2_with fail
  go_loopw [7, 8, 9] (fun l d i wr => ∃ (k : Nat) (D : Bool), k ≤ n ∧ i = .int .i64 k ∧ d = .bool D ∧ Moves [] w wr ∧ wr.heap[w.heap.size]? = some (.cells #[.slice adr nr capr] 36 (0, 0)) ∧ GrowN w wr l (putAt (xs.take k) s C) ∧ Hid (D = doneAt (xs.take k) s C)) (fun _ _ i _ => n - (intOf i).toNat)
  case atStart => exact ⟨0, _, Nat.zero_le _, rfl, rfl, b0.2, b0.1, by simpa [putAt] using GrowN.nil _ _, by unfold Hid doneAt; rw [HE.out]; simp⟩
  case round =>
    obtain ⟨k, D, hk, rfl, rfl, mr, q1, hG, hD⟩ := hrel
    clear b0 bc
    obtain ⟨u1, u2⟩ := one_cell q1
    obtain ⟨ad4, n4, cap4, rfl, hn4, hc4⟩ := hG.open
    have HG : Hid (GrowN w wr (.slice ad4 n4 cap4) (putAt (xs.take k) s C)) := hG
    have hbd : (putAt (xs.take k) s C).length ≤ 2001 := by
      have h1 := List.length_filter_le (fun x : Pnam => nlt x.name s) (xs.take k)
      have h2 := List.length_filter_le (fun x : Pnam => nlt s x.name) (xs.take k)
      have h3 : ∀ (b : Bool) (z : Pnam), (if b = true then [z] else []).length ≤ 1 := by intro b z; cases b <;> simp
      have h4 := h3 (!C.isEmpty && (xs.take k).any (fun x => !nlt x.name s)) ⟨s, C⟩
      have h5 : (xs.take k).length ≤ 1000 := by rw [List.length_take]; have := HN.out; omega
      unfold putAt
      rw [List.length_append, List.length_append]
      omega
    clear hG
    by_cases hkt : k < n
    · have hk3 : (k : Int) < n := by omega
      obtain ⟨x, hx⟩ : ∃ x, xs[k]? = some x := ⟨_, List.getElem?_eq_getElem (by have := HN.out; omega)⟩
      obtain ⟨g, off, a2, n2, c2, rfl, e0, e1, en, hC⟩ := HA.out.at hx
      have HD0 : Hid (∀ w', Moves [] w w' → w'.cell? ⟨g, off + k * 2, none⟩ = some (.string x.name) ∧ w'.cell? ⟨g, off + k * 2 + 1, none⟩ = some (.slice a2 n2 c2)) := fun w' mw => ⟨(MW.out.then mw).cell e0, (MW.out.then mw).cell e1⟩
      obtain ⟨d0, d1⟩ := HD0.out _ mr
      have HX : Hid (xs[k]? = some x) := hx
      have HCx : Hid (ColsAt W (.slice a2 n2 c2) x.r) := hC
      have etk : xs.take (k + 1) = xs.take k ++ [x] := by rw [List.take_add_one, hx]; rfl
      have hrk : RiseN (xs.take k ++ [x]) := by rw [← etk]; exact List.Pairwise.sublist (List.take_sublist _ _) HS.out
      clear e0 e1 hx en hC
      cases hq : nlt x.name s with
      | true =>
        have hbl : Op.bytesLess x.name.toList s.toList = true := hq
        have hbe : (x.name.toList == s.toList) = false := nlt_ne hq
        obtain ⟨p1, p2⟩ := putAt_lt (C := C) hrk hq
        rw [← etk] at p1 p2
        have HP1 : Hid (putAt (xs.take k) s C ++ [x] = putAt (xs.take (k + 1)) s C) := p1
        have HDn : Hid (D = doneAt (xs.take (k + 1)) s C) := hD.out.trans p2.symm
        clear p1 p2 hq etk hrk
        have hbd1 : (putAt (xs.take k) s C).length + 1 ≤ 1048576 := by omega
        have hbd2 : (putAt (xs.take k) s C ++ [(⟨s, C⟩ : Pnam)]).length + 1 ≤ 1048576 := by rw [List.length_append]; simp only [List.length_singleton]; omega
        clear hbd
        cases D with
        | true =>
          go_wp2_with (at_builtin; refine growN_append (.tmp 45) (.tmp 50) rfl _ _ (putAt (xs.take k) s C) [x] rfl rfl (by rfl) (HG.out.moves0 ((Moves.refl [] wr).alloc _)) (nams_new wr (.string x.name) (.slice a2 n2 c2) x ⟨_, rfl, HCx.out.moves (MW.out.then mr)⟩) (mr.alloc _).size hbd1 ?_; intro v9 w9 hG9 m9 s9 l9; obtain ⟨M9, q9⟩ := put_keep (HG.out.moves0 ((Moves.refl [] wr).alloc _)) (mr.alloc _) (((Moves.refl [] wr).alloc _).at q1 (by simp)) m9; have hsl9 := hG9.open; obtain ⟨ad9, n9, cap9, rfl, hn9, hc9⟩ := hsl9; have HG9 : Hid (GrowN w w9 (.slice ad9 n9 cap9) _) := hG9; clear hG9)
          have hG9 := HG9.out
          rw [HP1.out] at hG9
          go_roundw
          case rel => exact ⟨k + 1, true, by omega, by go_num, rfl, M9, q9, hG9, HDn⟩
          case measure => simp [intOf]; omega
        | false =>
          go_wp2_with (at_builtin; refine growN_append (.tmp 45) (.tmp 50) rfl _ _ (putAt (xs.take k) s C) [x] rfl rfl (by rfl) (HG.out.moves0 ((Moves.refl [] wr).alloc _)) (nams_new wr (.string x.name) (.slice a2 n2 c2) x ⟨_, rfl, HCx.out.moves (MW.out.then mr)⟩) (mr.alloc _).size hbd1 ?_; intro v9 w9 hG9 m9 s9 l9; obtain ⟨M9, q9⟩ := put_keep (HG.out.moves0 ((Moves.refl [] wr).alloc _)) (mr.alloc _) (((Moves.refl [] wr).alloc _).at q1 (by simp)) m9; have hsl9 := hG9.open; obtain ⟨ad9, n9, cap9, rfl, hn9, hc9⟩ := hsl9; have HG9 : Hid (GrowN w w9 (.slice ad9 n9 cap9) _) := hG9; clear hG9)
          have hG9 := HG9.out
          rw [HP1.out] at hG9
          go_roundw
          case rel => exact ⟨k + 1, false, by omega, by go_num, rfl, M9, q9, hG9, HDn⟩
          case measure => simp [intOf]; omega
      | false =>
        have hbl : Op.bytesLess x.name.toList s.toList = false := hq
        obtain ⟨p1, p2, p3⟩ := putAt_ge (P := xs.take k) (C := C) hq
        rw [← etk] at p1 p2
        have HDn : Hid (true = doneAt (xs.take (k + 1)) s C) := p2.symm
        have hbd1 : (putAt (xs.take k) s C).length + 1 ≤ 1048576 := by omega
        have hbd2 : (putAt (xs.take k) s C ++ [(⟨s, C⟩ : Pnam)]).length + 1 ≤ 1048576 := by rw [List.length_append]; simp only [List.length_singleton]; omega
        clear hbd
        clear p2 hq etk hrk
        cases D with
        | true =>
          have hd := hD.out
          rw [if_pos hd.symm] at p1
          cases hqe : neq x.name s with
          | true =>
            have HPn : Hid (putAt (xs.take k) s C = putAt (xs.take (k + 1)) s C) := by unfold Hid; rw [p1, hqe]; simp
            clear p1 p3 hd
            have hbe : (x.name.toList == s.toList) = true := hqe
            clear hqe
            go_wp2_with fail
            have hGn := HG.out
            rw [HPn.out] at hGn
            go_roundw
            case rel => exact ⟨k + 1, true, by omega, by go_num, rfl, mr, q1, hGn, HDn⟩
            case measure => simp [intOf]; omega
        
          | false =>
            have HPn : Hid (putAt (xs.take k) s C ++ [x] = putAt (xs.take (k + 1)) s C) := by unfold Hid; rw [p1, hqe]; simp
            clear p1 p3 hd
            have hbe : (x.name.toList == s.toList) = false := hqe
            clear hqe
            go_wp2_with (first | (at_builtin; refine growN_append (.tmp 45) (.tmp 50) rfl _ _ (putAt (xs.take k) s C) [x] rfl rfl (by rfl) (HG.out.moves0 ((Moves.refl [] wr).alloc _)) (nams_new wr (.string x.name) (.slice a2 n2 c2) x ⟨_, rfl, HCx.out.moves (MW.out.then mr)⟩) (mr.alloc _).size hbd1 ?_; intro v9 w9 hG9 m9 s9 l9; obtain ⟨M9, q9⟩ := put_keep (HG.out.moves0 ((Moves.refl [] wr).alloc _)) (mr.alloc _) (((Moves.refl [] wr).alloc _).at q1 (by simp)) m9; have hsl9 := hG9.open; obtain ⟨ad9, n9, cap9, rfl, hn9, hc9⟩ := hsl9; have HG9 : Hid (GrowN w w9 (.slice ad9 n9 cap9) _) := hG9; clear hG9))
            have hGn := HG9.out
            rw [HPn.out] at hGn
            go_roundw
            case rel => exact ⟨k + 1, true, by omega, by go_num, rfl, M9, q9, hGn, HDn⟩
            case measure => simp [intOf]; omega
        
        | false =>
          have hd := hD.out
          obtain ⟨p4, p5⟩ := p3 hd.symm
          rw [← hd, p5, ← p4] at p1
          cases hqe : neq x.name s with
          | true =>
            have HPn : Hid (putAt (xs.take k) s C ++ [⟨s, C⟩] = putAt (xs.take (k + 1)) s C) := by unfold Hid; rw [p1, hqe]; simp
            clear p1 p3 hd p4 p5
            have hbe : (x.name.toList == s.toList) = true := hqe
            clear hqe
            go_wp2_with (first | (go_at_call 34; refine (hcopy _ mr).mono ?_; rintro _ w5 ⟨ad5, n5, cap5, rfl, hG5, m5, _⟩; have hy6 := nams_new w5 (.string s) (.slice ad5 n5 cap5) ⟨s, C⟩ ⟨_, rfl, hG5.at⟩; have M6 := (mr.then m5).alloc (.cells #[.string s, .slice ad5 n5 cap5] 53); have q6 := (m5.alloc (.cells #[.string s, .slice ad5 n5 cap5] 53)).at q1 (by simp); have hG6 := HG.out.moves0 (m5.alloc (.cells #[.string s, .slice ad5 n5 cap5] 53)); clear hG5) | (at_builtin; refine growN_append (.tmp 31) (.tmp 36) rfl _ _ (putAt (xs.take k) s C) [⟨s, C⟩] rfl rfl (by rfl) hG6 hy6 M6.size hbd1 ?_; intro v8 w8 hG8 m8 s8 l8; obtain ⟨M8, q8⟩ := put_keep hG6 M6 q6 m8; have hsl := hG8.open; obtain ⟨ad8, n8, cap8, rfl, hn8, hc8⟩ := hsl; have HG8 : Hid (GrowN w w8 (.slice ad8 n8 cap8) _) := hG8; clear hG8; obtain ⟨d8, d9⟩ := HD0.out _ M8))
            have hGn := HG8.out
            rw [HPn.out] at hGn
            go_roundw
            case rel => exact ⟨k + 1, true, by omega, by go_num, rfl, M8, q8, hGn, HDn⟩
            case measure => simp [intOf]; omega
        
          | false =>
            have HPn : Hid (putAt (xs.take k) s C ++ [⟨s, C⟩] ++ [x] = putAt (xs.take (k + 1)) s C) := by unfold Hid; rw [p1, hqe]; simp
            clear p1 p3 hd p4 p5
            have hbe : (x.name.toList == s.toList) = false := hqe
            clear hqe
            go_wp2_with (first | (go_at_call 34; refine (hcopy _ mr).mono ?_; rintro _ w5 ⟨ad5, n5, cap5, rfl, hG5, m5, _⟩; have hy6 := nams_new w5 (.string s) (.slice ad5 n5 cap5) ⟨s, C⟩ ⟨_, rfl, hG5.at⟩; have M6 := (mr.then m5).alloc (.cells #[.string s, .slice ad5 n5 cap5] 53); have q6 := (m5.alloc (.cells #[.string s, .slice ad5 n5 cap5] 53)).at q1 (by simp); have hG6 := HG.out.moves0 (m5.alloc (.cells #[.string s, .slice ad5 n5 cap5] 53)); clear hG5) | (at_builtin; refine growN_append (.tmp 31) (.tmp 36) rfl _ _ (putAt (xs.take k) s C) [⟨s, C⟩] rfl rfl (by rfl) hG6 hy6 M6.size hbd1 ?_; intro v8 w8 hG8 m8 s8 l8; obtain ⟨M8, q8⟩ := put_keep hG6 M6 q6 m8; have hsl := hG8.open; obtain ⟨ad8, n8, cap8, rfl, hn8, hc8⟩ := hsl; have HG8 : Hid (GrowN w w8 (.slice ad8 n8 cap8) _) := hG8; clear hG8; obtain ⟨d8, d9⟩ := HD0.out _ M8) | (at_builtin; refine growN_append (.tmp 45) (.tmp 50) rfl _ _ (putAt (xs.take k) s C ++ [⟨s, C⟩]) [x] rfl rfl (by rfl) (HG8.out.moves0 ((Moves.refl [] w8).alloc _)) (nams_new w8 (.string x.name) (.slice a2 n2 c2) x ⟨_, rfl, HCx.out.moves (MW.out.then M8)⟩) (M8.alloc _).size hbd2 ?_; intro v9 w9 hG9 m9 s9 l9; obtain ⟨M9, q9⟩ := put_keep (HG8.out.moves0 ((Moves.refl [] w8).alloc _)) (M8.alloc _) (((Moves.refl [] w8).alloc _).at q8 (by simp)) m9; have hsl9 := hG9.open; obtain ⟨ad9, n9, cap9, rfl, hn9, hc9⟩ := hsl9; have HG9 : Hid (GrowN w w9 (.slice ad9 n9 cap9) _) := hG9; clear hG9))
            have hGn := HG9.out
            rw [HPn.out] at hGn
            go_roundw
            case rel => exact ⟨k + 1, true, by omega, by go_num, rfl, M9, q9, hGn, HDn⟩
            case measure => simp [intOf]; omega
        
    · have hk3 : ¬ (k : Int) < n := by omega
      obtain rfl : k = n := by omega
      have hd := hD.out
      have hpe := putAt_end (xs := xs) (s := s) (C := C)
      have hgg := HG.out
      rw [HN.out, List.take_length] at hd hgg hbd
      rw [← hd] at hpe
      have hbd1 : (putAt xs s C).length + 1 ≤ 1048576 := by omega
      clear hbd
      cases D with
      | true =>
        have HZ : Hid (GrowN w wr (.slice ad4 n4 cap4) Y) := by unfold Hid; rw [← HY.out, hpe]; exact hgg
        clear hpe hd hgg
        go_wp2_with fail
        go_ret
        exact ⟨_, _, _, rfl, HZ.out, mr⟩
      | false =>
        have HP : Hid (putAt xs s C ++ [⟨s, C⟩] = Y) := by unfold Hid; rw [← HY.out, hpe]; rfl
        have HG : Hid (GrowN w wr (.slice ad4 n4 cap4) (putAt xs s C)) := hgg
        clear hpe hd hgg
        go_wp2_with (first | (go_at_call 34; refine (hcopy _ mr).mono ?_; rintro _ w5 ⟨ad5, n5, cap5, rfl, hG5, m5, _⟩; have hy6 := nams_new w5 (.string s) (.slice ad5 n5 cap5) ⟨s, C⟩ ⟨_, rfl, hG5.at⟩; have M6 := (mr.then m5).alloc (.cells #[.string s, .slice ad5 n5 cap5] 53); have q6 := (m5.alloc (.cells #[.string s, .slice ad5 n5 cap5] 53)).at q1 (by simp); have hG6 := HG.out.moves0 (m5.alloc (.cells #[.string s, .slice ad5 n5 cap5] 53)); clear hG5) | (at_builtin; refine growN_append (.tmp 54) (.tmp 59) rfl _ _ (putAt xs s C) [⟨s, C⟩] rfl rfl (by rfl) hG6 hy6 M6.size hbd1 ?_; intro v8 w8 hG8 m8 s8 l8; obtain ⟨M8, q8⟩ := put_keep hG6 M6 q6 m8; have hsl := hG8.open; obtain ⟨ad8, n8, cap8, rfl, hn8, hc8⟩ := hsl; have HG8 : Hid (GrowN w w8 (.slice ad8 n8 cap8) _) := hG8; clear hG8))
        have hGn := HG8.out
        rw [HP.out] at hGn
        go_ret
        exact ⟨_, _, _, rfl, hGn, M8⟩
end Go.Proofs.Ytcngllcifcpbkaa
/-
  The document's own Set of rows by names.
-/
namespace Go.Proofs.Ytcngllcifcpbkaa
open Go.RowKit

/-- What it answers. -/
def NSet (w : World) (v : Value) (ys : List Pnam) (er : Int) (e : Ending) (w' : World) : Prop :=
  ∃ ad n cap, e = .returned (.tuple #[.slice ad n cap, .int .i64 er]) ∧ NamsAt w' (.slice ad n cap) ys ∧ Moves [] w w' ∧ ((Value.slice ad n cap = v ∧ er ≠ 0) ∨ GrowN w w' (.slice ad n cap) ys)

set_option maxRecDepth 100000 in
set_option maxHeartbeats 8000000 in
theorem nset_bad1 (W w : World) (ad : Option Addr) (n cap : Nat) (xs : List Pnam) (s : ByteArray) (adr : Option Addr) (nr capr : Nat) (R : List Pcol) (h : NamsAt W (.slice ad n cap) xs) (hr : RowAt W (.agg #[.slice adr nr capr]) R) (m : Moves [] W w) (hnm : pname s = false) :
    Calls Try.prog 18 #[.slice ad n cap, .string s, .agg #[.slice adr nr capr]] w fun e w' => NSet w (.slice ad n cap) xs 1 e w' := by
  have HA : Hid (NamsAt W (.slice ad n cap) xs) := h
  have hmb : Moves [] w (w.alloc (.cells #[.slice adr nr capr] 36)) := (Moves.refl [] w).alloc _
  have hname := fun w => refName_w s w
  have hright := fun w1 (m1 : Moves [] w w1) => refRight_w W w1 _ R hr (m.then m1)
  rw [hnm] at hname
  have MW : Hid (Moves [] W w) := m
  clear hright hr h m
  go_enter Try.func18, Try.ntmps18
  go_wp2_with (go_at_call 32; refine (hname _).mono ?_; rintro _ _ ⟨rfl, rfl⟩)
  go_ret2
  exact ⟨_, _, _, rfl, HA.out.moves (MW.out.then hmb), hmb, .inl ⟨rfl, by decide⟩⟩

set_option maxRecDepth 100000 in
set_option maxHeartbeats 8000000 in
theorem nset_bad2 (W w : World) (ad : Option Addr) (n cap : Nat) (xs : List Pnam) (s : ByteArray) (adr : Option Addr) (nr capr : Nat) (R : List Pcol) (h : NamsAt W (.slice ad n cap) xs) (hr : RowAt W (.agg #[.slice adr nr capr]) R) (m : Moves [] W w) (hnm : pname s = true) (hR : pright R = false) :
    Calls Try.prog 18 #[.slice ad n cap, .string s, .agg #[.slice adr nr capr]] w fun e w' => NSet w (.slice ad n cap) xs 1 e w' := by
  have HA : Hid (NamsAt W (.slice ad n cap) xs) := h
  have hmb : Moves [] w (w.alloc (.cells #[.slice adr nr capr] 36)) := (Moves.refl [] w).alloc _
  have hname := fun w => refName_w s w
  have hright := fun w1 (m1 : Moves [] w w1) => refRight_w W w1 _ R hr (m.then m1)
  rw [hnm] at hname
  simp only [hR] at hright
  have MW : Hid (Moves [] W w) := m
  clear hr h m
  go_enter Try.func18, Try.ntmps18
  go_wp2_with (first | (go_at_call 32; refine (hname _).mono ?_; rintro _ _ ⟨rfl, rfl⟩) | (go_at_call 42; refine (hright _ hmb).mono ?_; rintro _ w2 ⟨rfl, m2⟩; obtain ⟨b1, m02⟩ := boxesW m2; obtain ⟨d1, d2⟩ := one_cell b1))
  go_ret2
  exact ⟨_, _, _, rfl, HA.out.moves (MW.out.then m02), m02, .inl ⟨rfl, by decide⟩⟩

set_option maxRecDepth 100000 in
set_option maxHeartbeats 8000000 in
theorem nset_full (W w : World) (ad : Option Addr) (n cap : Nat) (xs : List Pnam) (s : ByteArray) (adr : Option Addr) (nr capr : Nat) (R : List Pcol) (h : NamsAt W (.slice ad n cap) xs) (hr : RowAt W (.agg #[.slice adr nr capr]) R) (m : Moves [] W w) (hnm : pname s = true) (hR : pright R = true) (hl : xs.length ≤ 1000) (hRs : ∀ x ∈ xs, pright x.r = true) (hhas : phasN xs s = false) (h0 : 0 < nr) (h32 : 32 ≤ n) :
    Calls Try.prog 18 #[.slice ad n cap, .string s, .agg #[.slice adr nr capr]] w fun e w' => NSet w (.slice ad n cap) xs 13 e w' := by
  have HA : Hid (NamsAt W (.slice ad n cap) xs) := h
  have hmb : Moves [] w (w.alloc (.cells #[.slice adr nr capr] 36)) := (Moves.refl [] w).alloc _
  have hname := fun w => refName_w s w
  have hright := fun w1 (m1 : Moves [] w w1) => refRight_w W w1 _ R hr (m.then m1)
  rw [hnm] at hname
  simp only [hR] at hright
  have hfind := fun w1 (m1 : Moves [] w w1) => rfind_w W w1 _ xs s h (m.then m1) hl hRs
  simp only [hhas] at hfind
  have MW : Hid (Moves [] W w) := m
  have z1 : (0 : Int) < (nr : Int) := by omega
  have z2 : (32 : Int) ≤ (n : Int) := by omega
  clear hr h m hRs
  go_enter Try.func18, Try.ntmps18
  go_wp2_with (first | (go_at_call 32; refine (hname _).mono ?_; rintro _ _ ⟨rfl, rfl⟩) | (go_at_call 42; refine (hright _ hmb).mono ?_; rintro _ w2 ⟨rfl, m2⟩; obtain ⟨b1, m02⟩ := boxesW m2; obtain ⟨d1, d2⟩ := one_cell b1) | (go_at_call 43; refine (hfind _ m02).mono ?_; rintro _ w3 ⟨ad3, n3, cap3, rfl, m3⟩; have m03 := m02.then m3; have b3 := m3.at b1 (by simp); obtain ⟨y1, y2⟩ := one_cell b3; have y3 := ((Moves.refl [] w3).alloc (.cells #[.slice ad3 n3 cap3] 36)).cell y1; have Z4 := m03.alloc (.cells #[.slice ad3 n3 cap3] 36)))
  go_ret2
  exact ⟨_, _, _, rfl, HA.out.moves (MW.out.then Z4), Z4, .inl ⟨rfl, by decide⟩⟩

set_option maxRecDepth 100000 in
set_option maxHeartbeats 8000000 in
theorem nset_put1 (W w : World) (ad : Option Addr) (n cap : Nat) (xs : List Pnam) (s : ByteArray) (adr : Option Addr) (nr capr : Nat) (R : List Pcol) (h : NamsAt W (.slice ad n cap) xs) (hr : RowAt W (.agg #[.slice adr nr capr]) R) (m : Moves [] W w) (hnm : pname s = true) (hR : pright R = true) (hl : xs.length ≤ 1000) (hRs : ∀ x ∈ xs, pright x.r = true) (hhas : phasN xs s = true) (hrise : RiseN xs) :
    Calls Try.prog 18 #[.slice ad n cap, .string s, .agg #[.slice adr nr capr]] w fun e w' => NSet w (.slice ad n cap) (pputN xs s (R.map pcanonC)) 0 e w' := by
  have HA : Hid (NamsAt W (.slice ad n cap) xs) := h
  have hmb : Moves [] w (w.alloc (.cells #[.slice adr nr capr] 36)) := (Moves.refl [] w).alloc _
  have hname := fun w => refName_w s w
  have hright := fun w1 (m1 : Moves [] w w1) => refRight_w W w1 _ R hr (m.then m1)
  rw [hnm] at hname
  simp only [hR] at hright
  have hfind := fun w1 (m1 : Moves [] w w1) => rfind_w W w1 _ xs s h (m.then m1) hl hRs
  simp only [hhas] at hfind
  have MW : Hid (Moves [] W w) := m
  have hput := fun w1 (m1 : Moves [] w w1) => nput_w W w1 _ xs s _ R h hr (m.then m1) hl hrise hR
  clear hr h m hRs
  go_enter Try.func18, Try.ntmps18
  go_wp2_with (first | (go_at_call 32; refine (hname _).mono ?_; rintro _ _ ⟨rfl, rfl⟩) | (go_at_call 42; refine (hright _ hmb).mono ?_; rintro _ w2 ⟨rfl, m2⟩; obtain ⟨b1, m02⟩ := boxesW m2; obtain ⟨d1, d2⟩ := one_cell b1) | (go_at_call 43; refine (hfind _ m02).mono ?_; rintro _ w3 ⟨ad3, n3, cap3, rfl, m3⟩; have m03 := m02.then m3; have b3 := m3.at b1 (by simp); obtain ⟨y1, y2⟩ := one_cell b3; have y3 := ((Moves.refl [] w3).alloc (.cells #[.slice ad3 n3 cap3] 36)).cell y1; have Z4 := m03.alloc (.cells #[.slice ad3 n3 cap3] 36)) | (go_at_call 44; refine (hput _ Z4).mono ?_; rintro _ w6 ⟨ad6, n6, cap6, rfl, hG6, m6⟩; have M6 := Z4.then m6; have HG6 : Hid (GrowN w w6 (.slice ad6 n6 cap6) (pputN xs s (R.map pcanonC))) := hG6.elder Z4.size; clear hG6))
  go_ret2
  exact ⟨_, _, _, rfl, HG6.out.at, M6, .inr HG6.out⟩

set_option maxRecDepth 100000 in
set_option maxHeartbeats 8000000 in
theorem nset_put2 (W w : World) (ad : Option Addr) (n cap : Nat) (xs : List Pnam) (s : ByteArray) (adr : Option Addr) (nr capr : Nat) (R : List Pcol) (h : NamsAt W (.slice ad n cap) xs) (hr : RowAt W (.agg #[.slice adr nr capr]) R) (m : Moves [] W w) (hnm : pname s = true) (hR : pright R = true) (hl : xs.length ≤ 1000) (hRs : ∀ x ∈ xs, pright x.r = true) (hhas : phasN xs s = false) (hrise : RiseN xs) (h0 : nr = 0) :
    Calls Try.prog 18 #[.slice ad n cap, .string s, .agg #[.slice adr nr capr]] w fun e w' => NSet w (.slice ad n cap) (pputN xs s (R.map pcanonC)) 0 e w' := by
  have HA : Hid (NamsAt W (.slice ad n cap) xs) := h
  have hmb : Moves [] w (w.alloc (.cells #[.slice adr nr capr] 36)) := (Moves.refl [] w).alloc _
  have hname := fun w => refName_w s w
  have hright := fun w1 (m1 : Moves [] w w1) => refRight_w W w1 _ R hr (m.then m1)
  rw [hnm] at hname
  simp only [hR] at hright
  have hfind := fun w1 (m1 : Moves [] w w1) => rfind_w W w1 _ xs s h (m.then m1) hl hRs
  simp only [hhas] at hfind
  have MW : Hid (Moves [] W w) := m
  have hput := fun w1 (m1 : Moves [] w w1) => nput_w W w1 _ xs s _ R h hr (m.then m1) hl hrise hR
  subst h0
  clear hr h m hRs
  go_enter Try.func18, Try.ntmps18
  go_wp2_with (first | (go_at_call 32; refine (hname _).mono ?_; rintro _ _ ⟨rfl, rfl⟩) | (go_at_call 42; refine (hright _ hmb).mono ?_; rintro _ w2 ⟨rfl, m2⟩; obtain ⟨b1, m02⟩ := boxesW m2; obtain ⟨d1, d2⟩ := one_cell b1) | (go_at_call 43; refine (hfind _ m02).mono ?_; rintro _ w3 ⟨ad3, n3, cap3, rfl, m3⟩; have m03 := m02.then m3; have b3 := m3.at b1 (by simp); obtain ⟨y1, y2⟩ := one_cell b3; have y3 := ((Moves.refl [] w3).alloc (.cells #[.slice ad3 n3 cap3] 36)).cell y1; have Z4 := m03.alloc (.cells #[.slice ad3 n3 cap3] 36)) | (go_at_call 44; refine (hput _ Z4).mono ?_; rintro _ w6 ⟨ad6, n6, cap6, rfl, hG6, m6⟩; have M6 := Z4.then m6; have HG6 : Hid (GrowN w w6 (.slice ad6 n6 cap6) (pputN xs s (R.map pcanonC))) := hG6.elder Z4.size; clear hG6))
  go_ret2
  exact ⟨_, _, _, rfl, HG6.out.at, M6, .inr HG6.out⟩

set_option maxRecDepth 100000 in
set_option maxHeartbeats 8000000 in
theorem nset_put3 (W w : World) (ad : Option Addr) (n cap : Nat) (xs : List Pnam) (s : ByteArray) (adr : Option Addr) (nr capr : Nat) (R : List Pcol) (h : NamsAt W (.slice ad n cap) xs) (hr : RowAt W (.agg #[.slice adr nr capr]) R) (m : Moves [] W w) (hnm : pname s = true) (hR : pright R = true) (hl : xs.length ≤ 1000) (hRs : ∀ x ∈ xs, pright x.r = true) (hhas : phasN xs s = false) (hrise : RiseN xs) (h0 : 0 < nr) (h32 : n < 32) :
    Calls Try.prog 18 #[.slice ad n cap, .string s, .agg #[.slice adr nr capr]] w fun e w' => NSet w (.slice ad n cap) (pputN xs s (R.map pcanonC)) 0 e w' := by
  have HA : Hid (NamsAt W (.slice ad n cap) xs) := h
  have hmb : Moves [] w (w.alloc (.cells #[.slice adr nr capr] 36)) := (Moves.refl [] w).alloc _
  have hname := fun w => refName_w s w
  have hright := fun w1 (m1 : Moves [] w w1) => refRight_w W w1 _ R hr (m.then m1)
  rw [hnm] at hname
  simp only [hR] at hright
  have hfind := fun w1 (m1 : Moves [] w w1) => rfind_w W w1 _ xs s h (m.then m1) hl hRs
  simp only [hhas] at hfind
  have MW : Hid (Moves [] W w) := m
  have hput := fun w1 (m1 : Moves [] w w1) => nput_w W w1 _ xs s _ R h hr (m.then m1) hl hrise hR
  have z1 : (0 : Int) < (nr : Int) := by omega
  have z2 : ¬ (32 : Int) ≤ (n : Int) := by omega
  clear hr h m hRs
  go_enter Try.func18, Try.ntmps18
  go_wp2_with (first | (go_at_call 32; refine (hname _).mono ?_; rintro _ _ ⟨rfl, rfl⟩) | (go_at_call 42; refine (hright _ hmb).mono ?_; rintro _ w2 ⟨rfl, m2⟩; obtain ⟨b1, m02⟩ := boxesW m2; obtain ⟨d1, d2⟩ := one_cell b1) | (go_at_call 43; refine (hfind _ m02).mono ?_; rintro _ w3 ⟨ad3, n3, cap3, rfl, m3⟩; have m03 := m02.then m3; have b3 := m3.at b1 (by simp); obtain ⟨y1, y2⟩ := one_cell b3; have y3 := ((Moves.refl [] w3).alloc (.cells #[.slice ad3 n3 cap3] 36)).cell y1; have Z4 := m03.alloc (.cells #[.slice ad3 n3 cap3] 36)) | (go_at_call 44; refine (hput _ Z4).mono ?_; rintro _ w6 ⟨ad6, n6, cap6, rfl, hG6, m6⟩; have M6 := Z4.then m6; have HG6 : Hid (GrowN w w6 (.slice ad6 n6 cap6) (pputN xs s (R.map pcanonC))) := hG6.elder Z4.size; clear hG6))
  go_ret2
  exact ⟨_, _, _, rfl, HG6.out.at, M6, .inr HG6.out⟩

theorem nset_w (W w : World) (v : Value) (xs : List Pnam) (s : ByteArray) (rv : Value) (R : List Pcol) (h : NamsAt W v xs) (hr : RowAt W rv R) (m : Moves [] W w) (hl : xs.length ≤ 1000) (hRs : ∀ x ∈ xs, pright x.r = true) (hrise : RiseN xs) :
    Calls Try.prog 18 #[v, .string s, rv] w fun e w' => NSet w v (psetN xs s R) (psetE xs s R) e w' := by
  obtain ⟨ad, cap, rfl, hc⟩ := h.slice
  have hr0 := hr
  obtain ⟨lv, rfl, hcr⟩ := hr0
  obtain ⟨adr, capr, rfl, hcapr⟩ := hcr.slice
  cases hnm : pname s with
  | false =>
    obtain ⟨k1, k2⟩ := psetE_bad (xs := xs) (s := s) (R := R) (by rw [hnm]; rfl)
    rw [k1, k2]
    exact nset_bad1 W w ad _ cap xs s adr _ capr R h hr m hnm
  | true =>
    cases hR : pright R with
    | false =>
      obtain ⟨k1, k2⟩ := psetE_bad (xs := xs) (s := s) (R := R) (by rw [hR]; simp)
      rw [k1, k2]
      exact nset_bad2 W w ad _ cap xs s adr _ capr R h hr m hnm hR
    | true =>
      cases hhas : phasN xs s with
      | true =>
        obtain ⟨k1, k2⟩ := psetE_ok (xs := xs) (s := s) (R := R) hnm hR (by rw [hhas]; simp)
        rw [k1, k2]
        exact nset_put1 W w ad _ cap xs s adr _ capr R h hr m hnm hR hl hRs hhas hrise
      | false =>
        cases R with
        | nil =>
          obtain ⟨k1, k2⟩ := psetE_ok (xs := xs) (s := s) (R := []) hnm hR (by simp)
          rw [k1, k2]
          exact nset_put2 W w ad _ cap xs s adr _ capr [] h hr m hnm hR hl hRs hhas hrise rfl
        | cons c R =>
          rcases Nat.lt_or_ge xs.length 32 with h32 | h32
          · obtain ⟨k1, k2⟩ := psetE_ok (xs := xs) (s := s) (R := c :: R) hnm hR (by simp; omega)
            rw [k1, k2]
            exact nset_put3 W w ad _ cap xs s adr _ capr (c :: R) h hr m hnm hR hl hRs hhas hrise (by simp) h32
          · obtain ⟨k1, k2⟩ := psetE_full (xs := xs) (s := s) (R := c :: R) hnm hR (by rw [hhas]; simp; omega)
            rw [k1, k2]
            exact nset_full W w ad _ cap xs s adr _ capr (c :: R) h hr m hnm hR hl hRs hhas (by simp) h32
end Go.Proofs.Ytcngllcifcpbkaa
/-
  The document's own Range of rows by names.
-/
namespace Go.Proofs.Ytcngllcifcpbkaa
open Go.RowKit

theorem pfil_step {xs : List Pnam} {lo hi : ByteArray} {k : Nat} {x : Pnam} (hx : xs[k]? = some x) : pfil (xs.take (k + 1)) lo hi = pfil (xs.take k) lo hi ++ (if inR lo hi x then [x] else []) := by
  unfold pfil
  rw [List.take_add_one, hx, List.filter_append]
  cases h : inR lo hi x <;> simp [h]
theorem pfil_stop {xs : List Pnam} {lo hi : ByteArray} {k mo : Nat} {x : Pnam} (hx : xs[k]? = some x) (h : inR lo hi x = true) (hn : (pfil (xs.take k) lo hi).length = mo) : (pfil xs lo hi).take mo = pfil (xs.take k) lo hi ∧ pnext (pfil xs lo hi) mo = x.name := by
  have e : pfil xs lo hi = pfil (xs.take k) lo hi ++ (x :: pfil (xs.drop (k + 1)) lo hi) := by
    conv => lhs; rw [← List.take_append_drop k xs]
    unfold pfil
    rw [List.filter_append]
    congr 1
    obtain ⟨h1, h2⟩ := List.getElem?_eq_some_iff.1 hx
    rw [List.drop_eq_getElem_cons h1, h2, List.filter_cons, h]
    rfl
  rw [e]
  subst hn
  refine ⟨List.take_left, ?_⟩
  unfold pnext
  rw [List.getElem?_append_right (Nat.le_refl _), Nat.sub_self]
  rfl
/-- What Range answers. -/
def NRange (w : World) (F : List Pnam) (mo : Nat) (e : Ending) (w' : World) : Prop :=
  ∃ ad n cap, e = .returned (.tuple #[.slice ad n cap, .string (pnext F mo)]) ∧ GrowN w w' (.slice ad n cap) (F.take mo) ∧ Moves [] w w'

set_option maxRecDepth 100000 in
set_option maxHeartbeats 8000000 in
theorem nrange_a (W w : World) (ad : Option Addr) (n cap : Nat) (xs : List Pnam) (lo hi : ByteArray) (most : Int) (K : Nat) (h : NamsAt W (.slice ad n cap) xs) (HN : Hid (n = xs.length)) (hl : n ≤ 1000) (m : Moves [] W w) (hK : max most 0 = (K : Int)) (hK16 : K ≤ 16) :
    Calls Try.prog 19 #[.slice ad n cap, .string lo, .string hi, .int .i64 most] w fun e w' => NRange w (pfil xs lo hi) K e w' := by
  have q1 : ¬ (16 : Int) < (K : Int) := by omega
  have q4 : (K : Int) ≤ 16 := by omega
  have HA : Hid (NamsAt W (.slice ad n cap) xs) := h
  have MW : Hid (Moves [] W w) := m
  obtain ⟨he, hhe⟩ : ∃ he, hi.toList.isEmpty = he := ⟨_, rfl⟩
  have HHE : Hid ((hi.size == 0) = he) := by
    unfold Hid
    rw [← hhe]
    cases hi with | mk d => rw [Bool.eq_iff_iff]; simp [ByteArray.size, ByteArray.toList_eq]
  clear h m
  go_enter Try.func19, Try.ntmps19
  go_wp2_with fail
  go_loopw [10, 11] (fun l i wr => ∃ k : Nat, k ≤ n ∧ i = .int .i64 k ∧ Moves [] w wr ∧ GrowN w wr l (pfil (xs.take k) lo hi) ∧ Hid ((pfil (xs.take k) lo hi).length ≤ K)) (fun _ i _ => n - (intOf i).toNat)
  case atStart => exact ⟨0, Nat.zero_le _, rfl, Moves.refl _ _, by simpa [pfil] using GrowN.nil _ _, by unfold Hid; simp [pfil]⟩
  case round =>
    obtain ⟨k, hk, rfl, mr, hG, HL⟩ := hrel
    obtain ⟨ad4, n4, cap4, rfl, hn4, hc4⟩ := hG.open
    have HG : Hid (GrowN w wr (.slice ad4 n4 cap4) (pfil (xs.take k) lo hi)) := hG
    have hbd1 : (pfil (xs.take k) lo hi).length + 1 ≤ 1048576 := by have := HL.out; omega
    clear hG
    by_cases hkt : k < n
    · have hk3 : (k : Int) < n := by omega
      obtain ⟨x, hx⟩ : ∃ x, xs[k]? = some x := ⟨_, List.getElem?_eq_getElem (by have := HN.out; omega)⟩
      obtain ⟨g, off, a2, n2, c2, rfl, e0, e1, en, hC⟩ := HA.out.at hx
      have d0 := (MW.out.then mr).cell e0
      have d1 := (MW.out.then mr).cell e1
      have HX : Hid (xs[k]? = some x) := hx
      have HCx : Hid (ColsAt W (.slice a2 n2 c2) x.r) := hC
      clear e0 e1 hx en hC
      cases hq : nlt x.name lo with
      | true =>
        have hbl : Op.bytesLess x.name.toList lo.toList = true := hq
        have hin : inR lo hi x = false := by unfold inR; rw [hq]; rfl
        clear hq
        have HS : Hid (pfil (xs.take (k + 1)) lo hi = pfil (xs.take k) lo hi) := by unfold Hid; rw [pfil_step HX.out, hin]; simp
        clear hin
        go_wp2_with fail
        have hGn := HG.out
        rw [← HS.out] at hGn
        have hLn := HL.out
        rw [← HS.out] at hLn
        go_roundw
        case rel => exact ⟨k + 1, by omega, by go_num, mr, hGn, hLn⟩
        case measure => simp [intOf]; omega
      | false =>
        have hbl : Op.bytesLess x.name.toList lo.toList = false := hq
        cases he with
        | true =>
          have hin : inR lo hi x = true := by unfold inR; rw [hq, HHE.out]; rfl
          clear hq
          by_cases hfull : n4 = K
          · obtain rfl : K = n4 := hfull.symm
            have HZ : Hid (NRange w (pfil xs lo hi) K (.returned (.tuple #[.slice ad4 K cap4, .string x.name])) wr.drew) := by
              obtain ⟨z1, z2⟩ := pfil_stop HX.out hin hn4.out.symm
              exact ⟨_, _, _, by rw [z2], by rw [z1]; exact HG.out.moves0 (Moves.refl _ _).drew, mr.drew⟩
            clear hin
            go_wp2_with fail
            refine wp_region_noPanic ?_
            refine wp_region_held_drew (S := (fun w' => w'.cell? ⟨g, off + k * 2, none⟩ = some (.string x.name))) (by kernel_rfl) ?_ (fun hHeld => ?_)
            · first | (go_keep; done) | exact d0
            refine wpAnyH_take (i := 0) (oi := { dst := some 45, op := Op.move (Operand.tmp 10), type := 27, pos := "ref.go:59", after := #[], guard := none }) (v := ?_) rfl (by kernel_rfl) (by kernel_rfl) (by kernel_rfl) (fun _ _ _ h => h) (Or.inl ⟨by rfl, ?_⟩) (by assumption) ?_
            rotate_left
            · (intro w hSw; (try dsimp only at hSw); go_simp; try (with_reducible rfl))
            try simp only [Act.put, List.setIfInBounds_toArray, List.set_cons_zero, List.set_cons_succ]
            refine wpAnyH_take (i := 1) (oi := { dst := some 46, op := Op.move (Operand.tmp 0), type := 27, pos := "ref.go:59", after := #[{ on := 6, ground := Ground.gcOnly Departure.lateStores }], guard := none }) (v := ?_) rfl (by kernel_rfl) (by kernel_rfl) (by kernel_rfl) (fun _ _ _ h => h) (Or.inl ⟨by rfl, ?_⟩) (by assumption) ?_
            rotate_left
            · (intro w hSw; (try dsimp only at hSw); go_simp; try (with_reducible rfl))
            try simp only [Act.put, List.setIfInBounds_toArray, List.set_cons_zero, List.set_cons_succ]
            refine wpAnyH_take (i := 2) (oi := { dst := some 47, op := Op.move (Operand.tmp 11), type := 3, pos := "ref.go:59", after := #[{ on := 6, ground := Ground.gcOnly Departure.lateStores }], guard := none }) (v := ?_) rfl (by kernel_rfl) (by kernel_rfl) (by kernel_rfl) (fun _ _ _ h => h) (Or.inl ⟨by rfl, ?_⟩) (by assumption) ?_
            rotate_left
            · (intro w hSw; (try dsimp only at hSw); go_simp; try (with_reducible rfl))
            try simp only [Act.put, List.setIfInBounds_toArray, List.set_cons_zero, List.set_cons_succ]
            refine wpAnyH_take (i := 3) (oi := { dst := some 48, op := Op.indexAddr 27 (Operand.tmp 46) (Operand.tmp 47), type := 0, pos := "ref.go:59", after := #[{ on := 1, ground := Ground.data }, { on := 2, ground := Ground.data }, { on := 6, ground := Ground.gcOnly Departure.lateStores }], guard := none }) (v := ?_) rfl (by kernel_rfl) (by kernel_rfl) (by kernel_rfl) (fun _ _ _ h => h) (Or.inl ⟨by rfl, ?_⟩) (by assumption) ?_
            rotate_left
            · (intro w hSw; (try dsimp only at hSw); go_simp; try (with_reducible rfl))
            try simp only [Act.put, List.setIfInBounds_toArray, List.set_cons_zero, List.set_cons_succ]
            refine wpAnyH_take (i := 4) (oi := { dst := some 49, op := Op.fieldAddr 53 (Operand.tmp 48) 0, type := 0, pos := "ref.go:59", after := #[{ on := 3, ground := Ground.data }, { on := 6, ground := Ground.gcOnly Departure.lateStores }], guard := none }) (v := ?_) rfl (by kernel_rfl) (by kernel_rfl) (by kernel_rfl) (fun _ _ _ h => h) (Or.inl ⟨by rfl, ?_⟩) (by assumption) ?_
            rotate_left
            · (intro w hSw; (try dsimp only at hSw); go_simp; try (with_reducible rfl))
            try simp only [Act.put, List.setIfInBounds_toArray, List.set_cons_zero, List.set_cons_succ]
            refine wpAnyH_take (i := 5) (oi := { dst := some 50, op := Op.load 9 (Operand.tmp 49), type := 9, pos := "ref.go:59", after := #[{ on := 4, ground := Ground.data }, { on := 6, ground := Ground.gcOnly Departure.lateStores }], guard := none }) (v := ?_) rfl (by kernel_rfl) (by kernel_rfl) (by kernel_rfl) (fun _ _ _ h => h) (Or.inl ⟨by rfl, ?_⟩) (by assumption) ?_
            rotate_left
            · (intro w hSw; (try dsimp only at hSw); go_simp; try (with_reducible rfl))
            try simp only [Act.put, List.setIfInBounds_toArray, List.set_cons_zero, List.set_cons_succ]
            refine wpAnyH_take (i := 6) (oi := { dst := some 8, op := Op.assign (Operand.tmp 45), type := 27, pos := "ref.go:59", after := #[{ on := 0, ground := Ground.data }, { on := 0, ground := Ground.phase }, { on := 1, ground := Ground.textOnly Departure.lateStores }, { on := 2, ground := Ground.textOnly Departure.lateStores }, { on := 3, ground := Ground.textOnly Departure.lateStores }, { on := 4, ground := Ground.textOnly Departure.lateStores }, { on := 5, ground := Ground.textOnly Departure.lateStores }], guard := none }) (v := ?_) rfl (by kernel_rfl) (by kernel_rfl) (by kernel_rfl) (fun _ _ _ h => h) (Or.inl ⟨by rfl, ?_⟩) (by assumption) ?_
            rotate_left
            · (intro w hSw; (try dsimp only at hSw); go_simp; try (with_reducible rfl))
            try simp only [Act.put, List.setIfInBounds_toArray, List.set_cons_zero, List.set_cons_succ]
            refine wpAnyH_take (i := 7) (oi := { dst := some 9, op := Op.assign (Operand.tmp 50), type := 9, pos := "ref.go:59", after := #[{ on := 5, ground := Ground.data }, { on := 6, ground := Ground.chain }, { on := 0, ground := Ground.phase }, { on := 1, ground := Ground.phase }, { on := 2, ground := Ground.phase }, { on := 3, ground := Ground.phase }, { on := 4, ground := Ground.phase }, { on := 5, ground := Ground.phase }, { on := 6, ground := Ground.phase }], guard := none }) (v := ?_) rfl (by kernel_rfl) (by kernel_rfl) (by kernel_rfl) (fun _ _ _ h => h) (Or.inl ⟨by rfl, ?_⟩) (by assumption) ?_
            rotate_left
            · (intro w hSw; (try dsimp only at hSw); go_simp; try (with_reducible rfl))
            try simp only [Act.put, List.setIfInBounds_toArray, List.set_cons_zero, List.set_cons_succ]
            refine wpAnyH_done (by kernel_rfl) ?_ _
            refine NoPanic.normal ?_
            go_wp2_with fail
            go_ret2
            exact HZ.out
          · have hfull3 : ¬ ((n4 : Int) = (K : Int)) := by omega
            have HS : Hid (pfil (xs.take k) lo hi ++ [x] = pfil (xs.take (k + 1)) lo hi) := by unfold Hid; rw [pfil_step HX.out, hin]; simp
            clear hin
            go_wp2_with (at_builtin; refine growN_append (.tmp 51) (.tmp 56) rfl _ _ (pfil (xs.take k) lo hi) [x] rfl rfl (by rfl) (HG.out.moves0 ((Moves.refl [] wr).alloc _)) (nams_new wr (.string x.name) (.slice a2 n2 c2) x ⟨_, rfl, HCx.out.moves (MW.out.then mr)⟩) (mr.alloc _).size hbd1 ?_; intro v9 w9 hG9 m9 s9 l9; have M9 := (mr.alloc (.cells #[.string x.name, .slice a2 n2 c2] 53)).trans m9 (fun b hb => .inr (HG.out.1 b (Option.mem_toList.1 hb))); have hsl9 := hG9.open; obtain ⟨ad9, n9, cap9, rfl, hn9, hc9⟩ := hsl9; have HG9 : Hid (GrowN w w9 (.slice ad9 n9 cap9) _) := hG9; clear hG9)
            have hGn := HG9.out
            rw [HS.out] at hGn
            have hLn : Hid ((pfil (xs.take (k + 1)) lo hi).length ≤ K) := by
              unfold Hid
              rw [← HS.out, List.length_append, ← hn4.out]
              have h1 := HL.out
              rw [← hn4.out] at h1
              simp only [List.length_singleton]
              omega
            go_roundw
            case rel => exact ⟨k + 1, by omega, by go_num, M9, hGn, hLn⟩
            case measure => simp [intOf]; omega
        | false =>
          cases hq2 : nlt x.name hi with
          | true =>
            have hbl2 : Op.bytesLess x.name.toList hi.toList = true := hq2
            have hin : inR lo hi x = true := by unfold inR; rw [hq, HHE.out, hq2]; rfl
            clear hq hq2
            by_cases hfull : n4 = K
            · obtain rfl : K = n4 := hfull.symm
              have HZ : Hid (NRange w (pfil xs lo hi) K (.returned (.tuple #[.slice ad4 K cap4, .string x.name])) wr.drew) := by
                obtain ⟨z1, z2⟩ := pfil_stop HX.out hin hn4.out.symm
                exact ⟨_, _, _, by rw [z2], by rw [z1]; exact HG.out.moves0 (Moves.refl _ _).drew, mr.drew⟩
              clear hin
              go_wp2_with fail
              refine wp_region_noPanic ?_
              refine wp_region_held_drew (S := (fun w' => w'.cell? ⟨g, off + k * 2, none⟩ = some (.string x.name))) (by kernel_rfl) ?_ (fun hHeld => ?_)
              · first | (go_keep; done) | exact d0
              refine wpAnyH_take (i := 0) (oi := { dst := some 45, op := Op.move (Operand.tmp 10), type := 27, pos := "ref.go:59", after := #[], guard := none }) (v := ?_) rfl (by kernel_rfl) (by kernel_rfl) (by kernel_rfl) (fun _ _ _ h => h) (Or.inl ⟨by rfl, ?_⟩) (by assumption) ?_
              rotate_left
              · (intro w hSw; (try dsimp only at hSw); go_simp; try (with_reducible rfl))
              try simp only [Act.put, List.setIfInBounds_toArray, List.set_cons_zero, List.set_cons_succ]
              refine wpAnyH_take (i := 1) (oi := { dst := some 46, op := Op.move (Operand.tmp 0), type := 27, pos := "ref.go:59", after := #[{ on := 6, ground := Ground.gcOnly Departure.lateStores }], guard := none }) (v := ?_) rfl (by kernel_rfl) (by kernel_rfl) (by kernel_rfl) (fun _ _ _ h => h) (Or.inl ⟨by rfl, ?_⟩) (by assumption) ?_
              rotate_left
              · (intro w hSw; (try dsimp only at hSw); go_simp; try (with_reducible rfl))
              try simp only [Act.put, List.setIfInBounds_toArray, List.set_cons_zero, List.set_cons_succ]
              refine wpAnyH_take (i := 2) (oi := { dst := some 47, op := Op.move (Operand.tmp 11), type := 3, pos := "ref.go:59", after := #[{ on := 6, ground := Ground.gcOnly Departure.lateStores }], guard := none }) (v := ?_) rfl (by kernel_rfl) (by kernel_rfl) (by kernel_rfl) (fun _ _ _ h => h) (Or.inl ⟨by rfl, ?_⟩) (by assumption) ?_
              rotate_left
              · (intro w hSw; (try dsimp only at hSw); go_simp; try (with_reducible rfl))
              try simp only [Act.put, List.setIfInBounds_toArray, List.set_cons_zero, List.set_cons_succ]
              refine wpAnyH_take (i := 3) (oi := { dst := some 48, op := Op.indexAddr 27 (Operand.tmp 46) (Operand.tmp 47), type := 0, pos := "ref.go:59", after := #[{ on := 1, ground := Ground.data }, { on := 2, ground := Ground.data }, { on := 6, ground := Ground.gcOnly Departure.lateStores }], guard := none }) (v := ?_) rfl (by kernel_rfl) (by kernel_rfl) (by kernel_rfl) (fun _ _ _ h => h) (Or.inl ⟨by rfl, ?_⟩) (by assumption) ?_
              rotate_left
              · (intro w hSw; (try dsimp only at hSw); go_simp; try (with_reducible rfl))
              try simp only [Act.put, List.setIfInBounds_toArray, List.set_cons_zero, List.set_cons_succ]
              refine wpAnyH_take (i := 4) (oi := { dst := some 49, op := Op.fieldAddr 53 (Operand.tmp 48) 0, type := 0, pos := "ref.go:59", after := #[{ on := 3, ground := Ground.data }, { on := 6, ground := Ground.gcOnly Departure.lateStores }], guard := none }) (v := ?_) rfl (by kernel_rfl) (by kernel_rfl) (by kernel_rfl) (fun _ _ _ h => h) (Or.inl ⟨by rfl, ?_⟩) (by assumption) ?_
              rotate_left
              · (intro w hSw; (try dsimp only at hSw); go_simp; try (with_reducible rfl))
              try simp only [Act.put, List.setIfInBounds_toArray, List.set_cons_zero, List.set_cons_succ]
              refine wpAnyH_take (i := 5) (oi := { dst := some 50, op := Op.load 9 (Operand.tmp 49), type := 9, pos := "ref.go:59", after := #[{ on := 4, ground := Ground.data }, { on := 6, ground := Ground.gcOnly Departure.lateStores }], guard := none }) (v := ?_) rfl (by kernel_rfl) (by kernel_rfl) (by kernel_rfl) (fun _ _ _ h => h) (Or.inl ⟨by rfl, ?_⟩) (by assumption) ?_
              rotate_left
              · (intro w hSw; (try dsimp only at hSw); go_simp; try (with_reducible rfl))
              try simp only [Act.put, List.setIfInBounds_toArray, List.set_cons_zero, List.set_cons_succ]
              refine wpAnyH_take (i := 6) (oi := { dst := some 8, op := Op.assign (Operand.tmp 45), type := 27, pos := "ref.go:59", after := #[{ on := 0, ground := Ground.data }, { on := 0, ground := Ground.phase }, { on := 1, ground := Ground.textOnly Departure.lateStores }, { on := 2, ground := Ground.textOnly Departure.lateStores }, { on := 3, ground := Ground.textOnly Departure.lateStores }, { on := 4, ground := Ground.textOnly Departure.lateStores }, { on := 5, ground := Ground.textOnly Departure.lateStores }], guard := none }) (v := ?_) rfl (by kernel_rfl) (by kernel_rfl) (by kernel_rfl) (fun _ _ _ h => h) (Or.inl ⟨by rfl, ?_⟩) (by assumption) ?_
              rotate_left
              · (intro w hSw; (try dsimp only at hSw); go_simp; try (with_reducible rfl))
              try simp only [Act.put, List.setIfInBounds_toArray, List.set_cons_zero, List.set_cons_succ]
              refine wpAnyH_take (i := 7) (oi := { dst := some 9, op := Op.assign (Operand.tmp 50), type := 9, pos := "ref.go:59", after := #[{ on := 5, ground := Ground.data }, { on := 6, ground := Ground.chain }, { on := 0, ground := Ground.phase }, { on := 1, ground := Ground.phase }, { on := 2, ground := Ground.phase }, { on := 3, ground := Ground.phase }, { on := 4, ground := Ground.phase }, { on := 5, ground := Ground.phase }, { on := 6, ground := Ground.phase }], guard := none }) (v := ?_) rfl (by kernel_rfl) (by kernel_rfl) (by kernel_rfl) (fun _ _ _ h => h) (Or.inl ⟨by rfl, ?_⟩) (by assumption) ?_
              rotate_left
              · (intro w hSw; (try dsimp only at hSw); go_simp; try (with_reducible rfl))
              try simp only [Act.put, List.setIfInBounds_toArray, List.set_cons_zero, List.set_cons_succ]
              refine wpAnyH_done (by kernel_rfl) ?_ _
              refine NoPanic.normal ?_
              go_wp2_with fail
              go_ret2
              exact HZ.out
            · have hfull3 : ¬ ((n4 : Int) = (K : Int)) := by omega
              have HS : Hid (pfil (xs.take k) lo hi ++ [x] = pfil (xs.take (k + 1)) lo hi) := by unfold Hid; rw [pfil_step HX.out, hin]; simp
              clear hin
              go_wp2_with (at_builtin; refine growN_append (.tmp 51) (.tmp 56) rfl _ _ (pfil (xs.take k) lo hi) [x] rfl rfl (by rfl) (HG.out.moves0 ((Moves.refl [] wr).alloc _)) (nams_new wr (.string x.name) (.slice a2 n2 c2) x ⟨_, rfl, HCx.out.moves (MW.out.then mr)⟩) (mr.alloc _).size hbd1 ?_; intro v9 w9 hG9 m9 s9 l9; have M9 := (mr.alloc (.cells #[.string x.name, .slice a2 n2 c2] 53)).trans m9 (fun b hb => .inr (HG.out.1 b (Option.mem_toList.1 hb))); have hsl9 := hG9.open; obtain ⟨ad9, n9, cap9, rfl, hn9, hc9⟩ := hsl9; have HG9 : Hid (GrowN w w9 (.slice ad9 n9 cap9) _) := hG9; clear hG9)
              have hGn := HG9.out
              rw [HS.out] at hGn
              have hLn : Hid ((pfil (xs.take (k + 1)) lo hi).length ≤ K) := by
                unfold Hid
                rw [← HS.out, List.length_append, ← hn4.out]
                have h1 := HL.out
                rw [← hn4.out] at h1
                simp only [List.length_singleton]
                omega
              go_roundw
              case rel => exact ⟨k + 1, by omega, by go_num, M9, hGn, hLn⟩
              case measure => simp [intOf]; omega
          | false =>
            have hbl2 : Op.bytesLess x.name.toList hi.toList = false := hq2
            have hin : inR lo hi x = false := by unfold inR; rw [hq, HHE.out, hq2]; rfl
            clear hq hq2
            have HS : Hid (pfil (xs.take (k + 1)) lo hi = pfil (xs.take k) lo hi) := by unfold Hid; rw [pfil_step HX.out, hin]; simp
            clear hin
            go_wp2_with fail
            have hGn := HG.out
            rw [← HS.out] at hGn
            have hLn := HL.out
            rw [← HS.out] at hLn
            go_roundw
            case rel => exact ⟨k + 1, by omega, by go_num, mr, hGn, hLn⟩
            case measure => simp [intOf]; omega
    · have hk3 : ¬ (k : Int) < n := by omega
      obtain rfl : k = n := by omega
      have hgg := HG.out
      have hll := HL.out
      rw [HN.out, List.take_length] at hgg hll
      have HZ : Hid (NRange w (pfil xs lo hi) K (.returned (.tuple #[.slice ad4 n4 cap4, .string ByteArray.empty])) wr) := by
        refine ⟨_, _, _, ?_, by rw [List.take_of_length_le hll]; exact hgg, mr⟩
        unfold pnext
        rw [List.getElem?_eq_none hll]
      clear hgg hll
      go_wp2_with fail
      go_ret2
      exact HZ.out

set_option maxRecDepth 100000 in
set_option maxHeartbeats 8000000 in
theorem nrange_b (W w : World) (ad : Option Addr) (n cap : Nat) (xs : List Pnam) (lo hi : ByteArray) (most : Int) (K : Nat) (h : NamsAt W (.slice ad n cap) xs) (HN : Hid (n = xs.length)) (hl : n ≤ 1000) (m : Moves [] W w) (hK : max most 0 = (K : Int)) (hK16 : 16 < K) :
    Calls Try.prog 19 #[.slice ad n cap, .string lo, .string hi, .int .i64 most] w fun e w' => NRange w (pfil xs lo hi) 16 e w' := by
  have q1 : (16 : Int) < (K : Int) := by omega
  have q4 : ¬ (K : Int) ≤ 16 := by omega
  have HA : Hid (NamsAt W (.slice ad n cap) xs) := h
  have MW : Hid (Moves [] W w) := m
  obtain ⟨he, hhe⟩ : ∃ he, hi.toList.isEmpty = he := ⟨_, rfl⟩
  have HHE : Hid ((hi.size == 0) = he) := by
    unfold Hid
    rw [← hhe]
    cases hi with | mk d => rw [Bool.eq_iff_iff]; simp [ByteArray.size, ByteArray.toList_eq]
  clear h m
  go_enter Try.func19, Try.ntmps19
  go_wp2_with fail
  go_loopw [10, 11] (fun l i wr => ∃ k : Nat, k ≤ n ∧ i = .int .i64 k ∧ Moves [] w wr ∧ GrowN w wr l (pfil (xs.take k) lo hi) ∧ Hid ((pfil (xs.take k) lo hi).length ≤ 16)) (fun _ i _ => n - (intOf i).toNat)
  case atStart => exact ⟨0, Nat.zero_le _, rfl, Moves.refl _ _, by simpa [pfil] using GrowN.nil _ _, by unfold Hid; simp [pfil]⟩
  case round =>
    obtain ⟨k, hk, rfl, mr, hG, HL⟩ := hrel
    obtain ⟨ad4, n4, cap4, rfl, hn4, hc4⟩ := hG.open
    have HG : Hid (GrowN w wr (.slice ad4 n4 cap4) (pfil (xs.take k) lo hi)) := hG
    have hbd1 : (pfil (xs.take k) lo hi).length + 1 ≤ 1048576 := by have := HL.out; omega
    clear hG
    by_cases hkt : k < n
    · have hk3 : (k : Int) < n := by omega
      obtain ⟨x, hx⟩ : ∃ x, xs[k]? = some x := ⟨_, List.getElem?_eq_getElem (by have := HN.out; omega)⟩
      obtain ⟨g, off, a2, n2, c2, rfl, e0, e1, en, hC⟩ := HA.out.at hx
      have d0 := (MW.out.then mr).cell e0
      have d1 := (MW.out.then mr).cell e1
      have HX : Hid (xs[k]? = some x) := hx
      have HCx : Hid (ColsAt W (.slice a2 n2 c2) x.r) := hC
      clear e0 e1 hx en hC
      cases hq : nlt x.name lo with
      | true =>
        have hbl : Op.bytesLess x.name.toList lo.toList = true := hq
        have hin : inR lo hi x = false := by unfold inR; rw [hq]; rfl
        clear hq
        have HS : Hid (pfil (xs.take (k + 1)) lo hi = pfil (xs.take k) lo hi) := by unfold Hid; rw [pfil_step HX.out, hin]; simp
        clear hin
        go_wp2_with fail
        have hGn := HG.out
        rw [← HS.out] at hGn
        have hLn := HL.out
        rw [← HS.out] at hLn
        go_roundw
        case rel => exact ⟨k + 1, by omega, by go_num, mr, hGn, hLn⟩
        case measure => simp [intOf]; omega
      | false =>
        have hbl : Op.bytesLess x.name.toList lo.toList = false := hq
        cases he with
        | true =>
          have hin : inR lo hi x = true := by unfold inR; rw [hq, HHE.out]; rfl
          clear hq
          by_cases hfull : n4 = 16
          · obtain rfl : n4 = 16 := hfull
            have HZ : Hid (NRange w (pfil xs lo hi) 16 (.returned (.tuple #[.slice ad4 16 cap4, .string x.name])) wr.drew) := by
              obtain ⟨z1, z2⟩ := pfil_stop HX.out hin hn4.out.symm
              exact ⟨_, _, _, by rw [z2], by rw [z1]; exact HG.out.moves0 (Moves.refl _ _).drew, mr.drew⟩
            clear hin
            go_wp2_with fail
            refine wp_region_noPanic ?_
            refine wp_region_held_drew (S := (fun w' => w'.cell? ⟨g, off + k * 2, none⟩ = some (.string x.name))) (by kernel_rfl) ?_ (fun hHeld => ?_)
            · first | (go_keep; done) | exact d0
            refine wpAnyH_take (i := 0) (oi := { dst := some 45, op := Op.move (Operand.tmp 10), type := 27, pos := "ref.go:59", after := #[], guard := none }) (v := ?_) rfl (by kernel_rfl) (by kernel_rfl) (by kernel_rfl) (fun _ _ _ h => h) (Or.inl ⟨by rfl, ?_⟩) (by assumption) ?_
            rotate_left
            · (intro w hSw; (try dsimp only at hSw); go_simp; try (with_reducible rfl))
            try simp only [Act.put, List.setIfInBounds_toArray, List.set_cons_zero, List.set_cons_succ]
            refine wpAnyH_take (i := 1) (oi := { dst := some 46, op := Op.move (Operand.tmp 0), type := 27, pos := "ref.go:59", after := #[{ on := 6, ground := Ground.gcOnly Departure.lateStores }], guard := none }) (v := ?_) rfl (by kernel_rfl) (by kernel_rfl) (by kernel_rfl) (fun _ _ _ h => h) (Or.inl ⟨by rfl, ?_⟩) (by assumption) ?_
            rotate_left
            · (intro w hSw; (try dsimp only at hSw); go_simp; try (with_reducible rfl))
            try simp only [Act.put, List.setIfInBounds_toArray, List.set_cons_zero, List.set_cons_succ]
            refine wpAnyH_take (i := 2) (oi := { dst := some 47, op := Op.move (Operand.tmp 11), type := 3, pos := "ref.go:59", after := #[{ on := 6, ground := Ground.gcOnly Departure.lateStores }], guard := none }) (v := ?_) rfl (by kernel_rfl) (by kernel_rfl) (by kernel_rfl) (fun _ _ _ h => h) (Or.inl ⟨by rfl, ?_⟩) (by assumption) ?_
            rotate_left
            · (intro w hSw; (try dsimp only at hSw); go_simp; try (with_reducible rfl))
            try simp only [Act.put, List.setIfInBounds_toArray, List.set_cons_zero, List.set_cons_succ]
            refine wpAnyH_take (i := 3) (oi := { dst := some 48, op := Op.indexAddr 27 (Operand.tmp 46) (Operand.tmp 47), type := 0, pos := "ref.go:59", after := #[{ on := 1, ground := Ground.data }, { on := 2, ground := Ground.data }, { on := 6, ground := Ground.gcOnly Departure.lateStores }], guard := none }) (v := ?_) rfl (by kernel_rfl) (by kernel_rfl) (by kernel_rfl) (fun _ _ _ h => h) (Or.inl ⟨by rfl, ?_⟩) (by assumption) ?_
            rotate_left
            · (intro w hSw; (try dsimp only at hSw); go_simp; try (with_reducible rfl))
            try simp only [Act.put, List.setIfInBounds_toArray, List.set_cons_zero, List.set_cons_succ]
            refine wpAnyH_take (i := 4) (oi := { dst := some 49, op := Op.fieldAddr 53 (Operand.tmp 48) 0, type := 0, pos := "ref.go:59", after := #[{ on := 3, ground := Ground.data }, { on := 6, ground := Ground.gcOnly Departure.lateStores }], guard := none }) (v := ?_) rfl (by kernel_rfl) (by kernel_rfl) (by kernel_rfl) (fun _ _ _ h => h) (Or.inl ⟨by rfl, ?_⟩) (by assumption) ?_
            rotate_left
            · (intro w hSw; (try dsimp only at hSw); go_simp; try (with_reducible rfl))
            try simp only [Act.put, List.setIfInBounds_toArray, List.set_cons_zero, List.set_cons_succ]
            refine wpAnyH_take (i := 5) (oi := { dst := some 50, op := Op.load 9 (Operand.tmp 49), type := 9, pos := "ref.go:59", after := #[{ on := 4, ground := Ground.data }, { on := 6, ground := Ground.gcOnly Departure.lateStores }], guard := none }) (v := ?_) rfl (by kernel_rfl) (by kernel_rfl) (by kernel_rfl) (fun _ _ _ h => h) (Or.inl ⟨by rfl, ?_⟩) (by assumption) ?_
            rotate_left
            · (intro w hSw; (try dsimp only at hSw); go_simp; try (with_reducible rfl))
            try simp only [Act.put, List.setIfInBounds_toArray, List.set_cons_zero, List.set_cons_succ]
            refine wpAnyH_take (i := 6) (oi := { dst := some 8, op := Op.assign (Operand.tmp 45), type := 27, pos := "ref.go:59", after := #[{ on := 0, ground := Ground.data }, { on := 0, ground := Ground.phase }, { on := 1, ground := Ground.textOnly Departure.lateStores }, { on := 2, ground := Ground.textOnly Departure.lateStores }, { on := 3, ground := Ground.textOnly Departure.lateStores }, { on := 4, ground := Ground.textOnly Departure.lateStores }, { on := 5, ground := Ground.textOnly Departure.lateStores }], guard := none }) (v := ?_) rfl (by kernel_rfl) (by kernel_rfl) (by kernel_rfl) (fun _ _ _ h => h) (Or.inl ⟨by rfl, ?_⟩) (by assumption) ?_
            rotate_left
            · (intro w hSw; (try dsimp only at hSw); go_simp; try (with_reducible rfl))
            try simp only [Act.put, List.setIfInBounds_toArray, List.set_cons_zero, List.set_cons_succ]
            refine wpAnyH_take (i := 7) (oi := { dst := some 9, op := Op.assign (Operand.tmp 50), type := 9, pos := "ref.go:59", after := #[{ on := 5, ground := Ground.data }, { on := 6, ground := Ground.chain }, { on := 0, ground := Ground.phase }, { on := 1, ground := Ground.phase }, { on := 2, ground := Ground.phase }, { on := 3, ground := Ground.phase }, { on := 4, ground := Ground.phase }, { on := 5, ground := Ground.phase }, { on := 6, ground := Ground.phase }], guard := none }) (v := ?_) rfl (by kernel_rfl) (by kernel_rfl) (by kernel_rfl) (fun _ _ _ h => h) (Or.inl ⟨by rfl, ?_⟩) (by assumption) ?_
            rotate_left
            · (intro w hSw; (try dsimp only at hSw); go_simp; try (with_reducible rfl))
            try simp only [Act.put, List.setIfInBounds_toArray, List.set_cons_zero, List.set_cons_succ]
            refine wpAnyH_done (by kernel_rfl) ?_ _
            refine NoPanic.normal ?_
            go_wp2_with fail
            go_ret2
            exact HZ.out
          · have hfull3 : ¬ ((n4 : Int) = 16) := by omega
            have HS : Hid (pfil (xs.take k) lo hi ++ [x] = pfil (xs.take (k + 1)) lo hi) := by unfold Hid; rw [pfil_step HX.out, hin]; simp
            clear hin
            go_wp2_with (at_builtin; refine growN_append (.tmp 51) (.tmp 56) rfl _ _ (pfil (xs.take k) lo hi) [x] rfl rfl (by rfl) (HG.out.moves0 ((Moves.refl [] wr).alloc _)) (nams_new wr (.string x.name) (.slice a2 n2 c2) x ⟨_, rfl, HCx.out.moves (MW.out.then mr)⟩) (mr.alloc _).size hbd1 ?_; intro v9 w9 hG9 m9 s9 l9; have M9 := (mr.alloc (.cells #[.string x.name, .slice a2 n2 c2] 53)).trans m9 (fun b hb => .inr (HG.out.1 b (Option.mem_toList.1 hb))); have hsl9 := hG9.open; obtain ⟨ad9, n9, cap9, rfl, hn9, hc9⟩ := hsl9; have HG9 : Hid (GrowN w w9 (.slice ad9 n9 cap9) _) := hG9; clear hG9)
            have hGn := HG9.out
            rw [HS.out] at hGn
            have hLn : Hid ((pfil (xs.take (k + 1)) lo hi).length ≤ 16) := by
              unfold Hid
              rw [← HS.out, List.length_append, ← hn4.out]
              have h1 := HL.out
              rw [← hn4.out] at h1
              simp only [List.length_singleton]
              omega
            go_roundw
            case rel => exact ⟨k + 1, by omega, by go_num, M9, hGn, hLn⟩
            case measure => simp [intOf]; omega
        | false =>
          cases hq2 : nlt x.name hi with
          | true =>
            have hbl2 : Op.bytesLess x.name.toList hi.toList = true := hq2
            have hin : inR lo hi x = true := by unfold inR; rw [hq, HHE.out, hq2]; rfl
            clear hq hq2
            by_cases hfull : n4 = 16
            · obtain rfl : n4 = 16 := hfull
              have HZ : Hid (NRange w (pfil xs lo hi) 16 (.returned (.tuple #[.slice ad4 16 cap4, .string x.name])) wr.drew) := by
                obtain ⟨z1, z2⟩ := pfil_stop HX.out hin hn4.out.symm
                exact ⟨_, _, _, by rw [z2], by rw [z1]; exact HG.out.moves0 (Moves.refl _ _).drew, mr.drew⟩
              clear hin
              go_wp2_with fail
              refine wp_region_noPanic ?_
              refine wp_region_held_drew (S := (fun w' => w'.cell? ⟨g, off + k * 2, none⟩ = some (.string x.name))) (by kernel_rfl) ?_ (fun hHeld => ?_)
              · first | (go_keep; done) | exact d0
              refine wpAnyH_take (i := 0) (oi := { dst := some 45, op := Op.move (Operand.tmp 10), type := 27, pos := "ref.go:59", after := #[], guard := none }) (v := ?_) rfl (by kernel_rfl) (by kernel_rfl) (by kernel_rfl) (fun _ _ _ h => h) (Or.inl ⟨by rfl, ?_⟩) (by assumption) ?_
              rotate_left
              · (intro w hSw; (try dsimp only at hSw); go_simp; try (with_reducible rfl))
              try simp only [Act.put, List.setIfInBounds_toArray, List.set_cons_zero, List.set_cons_succ]
              refine wpAnyH_take (i := 1) (oi := { dst := some 46, op := Op.move (Operand.tmp 0), type := 27, pos := "ref.go:59", after := #[{ on := 6, ground := Ground.gcOnly Departure.lateStores }], guard := none }) (v := ?_) rfl (by kernel_rfl) (by kernel_rfl) (by kernel_rfl) (fun _ _ _ h => h) (Or.inl ⟨by rfl, ?_⟩) (by assumption) ?_
              rotate_left
              · (intro w hSw; (try dsimp only at hSw); go_simp; try (with_reducible rfl))
              try simp only [Act.put, List.setIfInBounds_toArray, List.set_cons_zero, List.set_cons_succ]
              refine wpAnyH_take (i := 2) (oi := { dst := some 47, op := Op.move (Operand.tmp 11), type := 3, pos := "ref.go:59", after := #[{ on := 6, ground := Ground.gcOnly Departure.lateStores }], guard := none }) (v := ?_) rfl (by kernel_rfl) (by kernel_rfl) (by kernel_rfl) (fun _ _ _ h => h) (Or.inl ⟨by rfl, ?_⟩) (by assumption) ?_
              rotate_left
              · (intro w hSw; (try dsimp only at hSw); go_simp; try (with_reducible rfl))
              try simp only [Act.put, List.setIfInBounds_toArray, List.set_cons_zero, List.set_cons_succ]
              refine wpAnyH_take (i := 3) (oi := { dst := some 48, op := Op.indexAddr 27 (Operand.tmp 46) (Operand.tmp 47), type := 0, pos := "ref.go:59", after := #[{ on := 1, ground := Ground.data }, { on := 2, ground := Ground.data }, { on := 6, ground := Ground.gcOnly Departure.lateStores }], guard := none }) (v := ?_) rfl (by kernel_rfl) (by kernel_rfl) (by kernel_rfl) (fun _ _ _ h => h) (Or.inl ⟨by rfl, ?_⟩) (by assumption) ?_
              rotate_left
              · (intro w hSw; (try dsimp only at hSw); go_simp; try (with_reducible rfl))
              try simp only [Act.put, List.setIfInBounds_toArray, List.set_cons_zero, List.set_cons_succ]
              refine wpAnyH_take (i := 4) (oi := { dst := some 49, op := Op.fieldAddr 53 (Operand.tmp 48) 0, type := 0, pos := "ref.go:59", after := #[{ on := 3, ground := Ground.data }, { on := 6, ground := Ground.gcOnly Departure.lateStores }], guard := none }) (v := ?_) rfl (by kernel_rfl) (by kernel_rfl) (by kernel_rfl) (fun _ _ _ h => h) (Or.inl ⟨by rfl, ?_⟩) (by assumption) ?_
              rotate_left
              · (intro w hSw; (try dsimp only at hSw); go_simp; try (with_reducible rfl))
              try simp only [Act.put, List.setIfInBounds_toArray, List.set_cons_zero, List.set_cons_succ]
              refine wpAnyH_take (i := 5) (oi := { dst := some 50, op := Op.load 9 (Operand.tmp 49), type := 9, pos := "ref.go:59", after := #[{ on := 4, ground := Ground.data }, { on := 6, ground := Ground.gcOnly Departure.lateStores }], guard := none }) (v := ?_) rfl (by kernel_rfl) (by kernel_rfl) (by kernel_rfl) (fun _ _ _ h => h) (Or.inl ⟨by rfl, ?_⟩) (by assumption) ?_
              rotate_left
              · (intro w hSw; (try dsimp only at hSw); go_simp; try (with_reducible rfl))
              try simp only [Act.put, List.setIfInBounds_toArray, List.set_cons_zero, List.set_cons_succ]
              refine wpAnyH_take (i := 6) (oi := { dst := some 8, op := Op.assign (Operand.tmp 45), type := 27, pos := "ref.go:59", after := #[{ on := 0, ground := Ground.data }, { on := 0, ground := Ground.phase }, { on := 1, ground := Ground.textOnly Departure.lateStores }, { on := 2, ground := Ground.textOnly Departure.lateStores }, { on := 3, ground := Ground.textOnly Departure.lateStores }, { on := 4, ground := Ground.textOnly Departure.lateStores }, { on := 5, ground := Ground.textOnly Departure.lateStores }], guard := none }) (v := ?_) rfl (by kernel_rfl) (by kernel_rfl) (by kernel_rfl) (fun _ _ _ h => h) (Or.inl ⟨by rfl, ?_⟩) (by assumption) ?_
              rotate_left
              · (intro w hSw; (try dsimp only at hSw); go_simp; try (with_reducible rfl))
              try simp only [Act.put, List.setIfInBounds_toArray, List.set_cons_zero, List.set_cons_succ]
              refine wpAnyH_take (i := 7) (oi := { dst := some 9, op := Op.assign (Operand.tmp 50), type := 9, pos := "ref.go:59", after := #[{ on := 5, ground := Ground.data }, { on := 6, ground := Ground.chain }, { on := 0, ground := Ground.phase }, { on := 1, ground := Ground.phase }, { on := 2, ground := Ground.phase }, { on := 3, ground := Ground.phase }, { on := 4, ground := Ground.phase }, { on := 5, ground := Ground.phase }, { on := 6, ground := Ground.phase }], guard := none }) (v := ?_) rfl (by kernel_rfl) (by kernel_rfl) (by kernel_rfl) (fun _ _ _ h => h) (Or.inl ⟨by rfl, ?_⟩) (by assumption) ?_
              rotate_left
              · (intro w hSw; (try dsimp only at hSw); go_simp; try (with_reducible rfl))
              try simp only [Act.put, List.setIfInBounds_toArray, List.set_cons_zero, List.set_cons_succ]
              refine wpAnyH_done (by kernel_rfl) ?_ _
              refine NoPanic.normal ?_
              go_wp2_with fail
              go_ret2
              exact HZ.out
            · have hfull3 : ¬ ((n4 : Int) = 16) := by omega
              have HS : Hid (pfil (xs.take k) lo hi ++ [x] = pfil (xs.take (k + 1)) lo hi) := by unfold Hid; rw [pfil_step HX.out, hin]; simp
              clear hin
              go_wp2_with (at_builtin; refine growN_append (.tmp 51) (.tmp 56) rfl _ _ (pfil (xs.take k) lo hi) [x] rfl rfl (by rfl) (HG.out.moves0 ((Moves.refl [] wr).alloc _)) (nams_new wr (.string x.name) (.slice a2 n2 c2) x ⟨_, rfl, HCx.out.moves (MW.out.then mr)⟩) (mr.alloc _).size hbd1 ?_; intro v9 w9 hG9 m9 s9 l9; have M9 := (mr.alloc (.cells #[.string x.name, .slice a2 n2 c2] 53)).trans m9 (fun b hb => .inr (HG.out.1 b (Option.mem_toList.1 hb))); have hsl9 := hG9.open; obtain ⟨ad9, n9, cap9, rfl, hn9, hc9⟩ := hsl9; have HG9 : Hid (GrowN w w9 (.slice ad9 n9 cap9) _) := hG9; clear hG9)
              have hGn := HG9.out
              rw [HS.out] at hGn
              have hLn : Hid ((pfil (xs.take (k + 1)) lo hi).length ≤ 16) := by
                unfold Hid
                rw [← HS.out, List.length_append, ← hn4.out]
                have h1 := HL.out
                rw [← hn4.out] at h1
                simp only [List.length_singleton]
                omega
              go_roundw
              case rel => exact ⟨k + 1, by omega, by go_num, M9, hGn, hLn⟩
              case measure => simp [intOf]; omega
          | false =>
            have hbl2 : Op.bytesLess x.name.toList hi.toList = false := hq2
            have hin : inR lo hi x = false := by unfold inR; rw [hq, HHE.out, hq2]; rfl
            clear hq hq2
            have HS : Hid (pfil (xs.take (k + 1)) lo hi = pfil (xs.take k) lo hi) := by unfold Hid; rw [pfil_step HX.out, hin]; simp
            clear hin
            go_wp2_with fail
            have hGn := HG.out
            rw [← HS.out] at hGn
            have hLn := HL.out
            rw [← HS.out] at hLn
            go_roundw
            case rel => exact ⟨k + 1, by omega, by go_num, mr, hGn, hLn⟩
            case measure => simp [intOf]; omega
    · have hk3 : ¬ (k : Int) < n := by omega
      obtain rfl : k = n := by omega
      have hgg := HG.out
      have hll := HL.out
      rw [HN.out, List.take_length] at hgg hll
      have HZ : Hid (NRange w (pfil xs lo hi) 16 (.returned (.tuple #[.slice ad4 n4 cap4, .string ByteArray.empty])) wr) := by
        refine ⟨_, _, _, ?_, by rw [List.take_of_length_le hll]; exact hgg, mr⟩
        unfold pnext
        rw [List.getElem?_eq_none hll]
      clear hgg hll
      go_wp2_with fail
      go_ret2
      exact HZ.out

theorem nrange_w (W w : World) (v : Value) (xs : List Pnam) (lo hi : ByteArray) (most : Int) (h : NamsAt W v xs) (hl : xs.length ≤ 1000) (m : Moves [] W w) :
    Calls Try.prog 19 #[v, .string lo, .string hi, .int .i64 most] w fun e w' => NRange w (pfil xs lo hi) (pmost most) e w' := by
  obtain ⟨ad, cap, rfl, hc⟩ := h.slice
  obtain ⟨K, hK⟩ : ∃ K : Nat, max most 0 = (K : Int) := ⟨(max most 0).toNat, by omega⟩
  rcases Nat.lt_or_ge 16 K with h16 | h16
  · have e : pmost most = 16 := by unfold pmost; omega
    rw [e]
    exact nrange_b W w ad _ cap xs lo hi most K h rfl hl m hK h16
  · have e : pmost most = K := by unfold pmost; omega
    rw [e]
    exact nrange_a W w ad _ cap xs lo hi most K h rfl hl m hK h16
end Go.Proofs.Ytcngllcifcpbkaa
/-
  The document's own Same of lists of rows that are the same.
-/
namespace Go.Proofs.Ytcngllcifcpbkaa
open Go.RowKit

set_option maxRecDepth 100000 in
set_option maxHeartbeats 8000000 in
theorem nsame_yes (W w : World) (u v : Value) (xs : List Pnam) (h : NamsAt W u xs) (h' : NamsAt W v xs) (m : Moves [] W w) (hl : xs.length ≤ 1000) (hs : ∀ x ∈ xs, x.r.length ≤ 1048576 ∧ ∀ c ∈ x.r, c.l.length ≤ 1048576) :
    Calls Try.prog 20 #[u, v] w fun e w' => e = .returned (.bool true) ∧ Moves [] w w' := by
  obtain ⟨ad, cap, hlu, hcap⟩ := h.slice
  obtain ⟨ad', cap', hlv, hcap'⟩ := h'.slice
  obtain ⟨n, HN⟩ : ∃ n, Hid (n = xs.length) := ⟨_, rfl⟩
  rw [← HN.out] at hlu hcap hlv hcap' hl
  subst hlu hlv
  have HS1 : Hid (∀ x ∈ xs, x.r.length ≤ 1048576 ∧ ∀ c ∈ x.r, c.l.length ≤ 1048576) := hs
  have HW : Hid (Moves [] W w) := m
  clear m hs
  go_enter Try.func20, Try.ntmps20
  go_wp2_with fail
  go_loopw [5] (fun i wr => ∃ k : Nat, k ≤ n ∧ i = .int .i64 k ∧ Moves [] w wr) (fun i _ => n - (intOf i).toNat)
  case atStart => exact ⟨0, Nat.zero_le _, rfl, Moves.refl _ _⟩
  case round =>
    obtain ⟨k, hk, rfl, mr⟩ := hrel
    by_cases hlt : k < n
    · have hk3 : (k : Int) < n := by omega
      obtain ⟨x, hx⟩ : ∃ x, xs[k]? = some x := ⟨_, List.getElem?_eq_getElem (by have := HN.out; omega)⟩
      obtain ⟨g, off, a2, n2, c2, rfl, f0, f1, en, hC⟩ := h.at hx
      obtain ⟨g', off', a2', n2', c2', rfl, i0, i1, en', hC'⟩ := h'.at hx
      have d0 := (HW.out.then mr).cell f0
      have d1 := (HW.out.then mr).cell f1
      have e0 := (HW.out.then mr).cell i0
      have e1 := (HW.out.then mr).cell i1
      have HX : Hid (xs[k]? = some x) := hx
      have HC : Hid (ColsAt W (.slice a2 n2 c2) x.r) := hC
      have HC' : Hid (ColsAt W (.slice a2' n2' c2') x.r) := hC'
      clear f0 f1 i0 i1 en en' hC hC' hx h h'
      go_wp2_with fail
      refine wp_region_noPanic ?_
      refine wp_region_held_drew (S := (fun w' => w'.cell? ⟨g, off + k * 2, none⟩ = some (.string x.name) ∧ w'.cell? ⟨g, off + k * 2 + 1, none⟩ = some (.slice a2 n2 c2) ∧ w'.cell? ⟨g', off' + k * 2, none⟩ = some (.string x.name) ∧ w'.cell? ⟨g', off' + k * 2 + 1, none⟩ = some (.slice a2' n2' c2'))) (by kernel_rfl) ?_ (fun hHeld => ?_)
      · first | (go_keep; done) | first | exact ⟨d0, d1, e0, e1⟩ | exact ⟨m5.cell d0, m5.cell d1, m5.cell e0, m5.cell e1⟩
      refine wpAnyH_take (i := 0) (oi := { dst := some 17, op := Op.move (Operand.tmp 0), type := 27, pos := "ref.go:80", after := #[], guard := none }) (v := ?_) rfl (by kernel_rfl) (by kernel_rfl) (by kernel_rfl) (fun _ _ _ h => h) (Or.inl ⟨by rfl, ?_⟩) (by assumption) ?_
      rotate_left
      · (intro w hSw; (try dsimp only at hSw); go_simp; try (with_reducible rfl))
      try simp only [Act.put, List.setIfInBounds_toArray, List.set_cons_zero, List.set_cons_succ]
      refine wpAnyH_take (i := 1) (oi := { dst := some 18, op := Op.move (Operand.tmp 5), type := 3, pos := "ref.go:80", after := #[], guard := none }) (v := ?_) rfl (by kernel_rfl) (by kernel_rfl) (by kernel_rfl) (fun _ _ _ h => h) (Or.inl ⟨by rfl, ?_⟩) (by assumption) ?_
      rotate_left
      · (intro w hSw; (try dsimp only at hSw); go_simp; try (with_reducible rfl))
      try simp only [Act.put, List.setIfInBounds_toArray, List.set_cons_zero, List.set_cons_succ]
      refine wpAnyH_take (i := 2) (oi := { dst := some 19, op := Op.indexAddr 27 (Operand.tmp 17) (Operand.tmp 18), type := 0, pos := "ref.go:80", after := #[{ on := 0, ground := Ground.data }, { on := 1, ground := Ground.data }], guard := none }) (v := ?_) rfl (by kernel_rfl) (by kernel_rfl) (by kernel_rfl) (fun _ _ _ h => h) (Or.inl ⟨by rfl, ?_⟩) (by assumption) ?_
      rotate_left
      · (intro w hSw; (try dsimp only at hSw); go_simp; try (with_reducible rfl))
      try simp only [Act.put, List.setIfInBounds_toArray, List.set_cons_zero, List.set_cons_succ]
      refine wpAnyH_take (i := 3) (oi := { dst := some 20, op := Op.fieldAddr 53 (Operand.tmp 19) 0, type := 0, pos := "ref.go:80", after := #[{ on := 2, ground := Ground.data }], guard := none }) (v := ?_) rfl (by kernel_rfl) (by kernel_rfl) (by kernel_rfl) (fun _ _ _ h => h) (Or.inl ⟨by rfl, ?_⟩) (by assumption) ?_
      rotate_left
      · (intro w hSw; (try dsimp only at hSw); go_simp; try (with_reducible rfl))
      try simp only [Act.put, List.setIfInBounds_toArray, List.set_cons_zero, List.set_cons_succ]
      refine wpAnyH_take (i := 4) (oi := { dst := some 21, op := Op.load 9 (Operand.tmp 20), type := 9, pos := "ref.go:80", after := #[{ on := 3, ground := Ground.data }], guard := none }) (v := ?_) rfl (by kernel_rfl) (by kernel_rfl) (by kernel_rfl) (fun _ _ _ h => h) (Or.inl ⟨by rfl, ?_⟩) (by assumption) ?_
      rotate_left
      · (intro w hSw; (try dsimp only at hSw); go_simp; try (with_reducible rfl))
      try simp only [Act.put, List.setIfInBounds_toArray, List.set_cons_zero, List.set_cons_succ]
      refine wpAnyH_take (i := 5) (oi := { dst := some 22, op := Op.move (Operand.tmp 1), type := 27, pos := "ref.go:80", after := #[], guard := none }) (v := ?_) rfl (by kernel_rfl) (by kernel_rfl) (by kernel_rfl) (fun _ _ _ h => h) (Or.inl ⟨by rfl, ?_⟩) (by assumption) ?_
      rotate_left
      · (intro w hSw; (try dsimp only at hSw); go_simp; try (with_reducible rfl))
      try simp only [Act.put, List.setIfInBounds_toArray, List.set_cons_zero, List.set_cons_succ]
      refine wpAnyH_take (i := 6) (oi := { dst := some 23, op := Op.move (Operand.tmp 5), type := 3, pos := "ref.go:80", after := #[], guard := none }) (v := ?_) rfl (by kernel_rfl) (by kernel_rfl) (by kernel_rfl) (fun _ _ _ h => h) (Or.inl ⟨by rfl, ?_⟩) (by assumption) ?_
      rotate_left
      · (intro w hSw; (try dsimp only at hSw); go_simp; try (with_reducible rfl))
      try simp only [Act.put, List.setIfInBounds_toArray, List.set_cons_zero, List.set_cons_succ]
      refine wpAnyH_take (i := 7) (oi := { dst := some 24, op := Op.indexAddr 27 (Operand.tmp 22) (Operand.tmp 23), type := 0, pos := "ref.go:80", after := #[{ on := 5, ground := Ground.data }, { on := 6, ground := Ground.data }], guard := none }) (v := ?_) rfl (by kernel_rfl) (by kernel_rfl) (by kernel_rfl) (fun _ _ _ h => h) (Or.inl ⟨by rfl, ?_⟩) (by assumption) ?_
      rotate_left
      · (intro w hSw; (try dsimp only at hSw); go_simp; try (with_reducible rfl))
      try simp only [Act.put, List.setIfInBounds_toArray, List.set_cons_zero, List.set_cons_succ]
      refine wpAnyH_take (i := 8) (oi := { dst := some 25, op := Op.fieldAddr 53 (Operand.tmp 24) 0, type := 0, pos := "ref.go:80", after := #[{ on := 7, ground := Ground.data }], guard := none }) (v := ?_) rfl (by kernel_rfl) (by kernel_rfl) (by kernel_rfl) (fun _ _ _ h => h) (Or.inl ⟨by rfl, ?_⟩) (by assumption) ?_
      rotate_left
      · (intro w hSw; (try dsimp only at hSw); go_simp; try (with_reducible rfl))
      try simp only [Act.put, List.setIfInBounds_toArray, List.set_cons_zero, List.set_cons_succ]
      refine wpAnyH_take (i := 9) (oi := { dst := some 26, op := Op.load 9 (Operand.tmp 25), type := 9, pos := "ref.go:80", after := #[{ on := 8, ground := Ground.data }], guard := none }) (v := ?_) rfl (by kernel_rfl) (by kernel_rfl) (by kernel_rfl) (fun _ _ _ h => h) (Or.inl ⟨by rfl, ?_⟩) (by assumption) ?_
      rotate_left
      · (intro w hSw; (try dsimp only at hSw); go_simp; try (with_reducible rfl))
      try simp only [Act.put, List.setIfInBounds_toArray, List.set_cons_zero, List.set_cons_succ]
      refine wpAnyH_take (i := 10) (oi := { dst := some 27, op := Op.binOp BinOp.neq 9 (Operand.tmp 21) (Operand.tmp 26) 9, type := 4, pos := "ref.go:80", after := #[{ on := 4, ground := Ground.data }, { on := 9, ground := Ground.data }], guard := none }) (v := ?_) rfl (by kernel_rfl) (by kernel_rfl) (by kernel_rfl) (fun _ _ _ h => h) (Or.inl ⟨by rfl, ?_⟩) (by assumption) ?_
      rotate_left
      · (intro w hSw; (try dsimp only at hSw); go_simp; try (with_reducible rfl))
      try simp only [Act.put, List.setIfInBounds_toArray, List.set_cons_zero, List.set_cons_succ]
      refine wpAnyH_take (i := 11) (oi := { dst := some 28, op := Op.move (Operand.tmp 27), type := 4, pos := "ref.go:80", after := #[{ on := 10, ground := Ground.data }], guard := none }) (v := ?_) rfl (by kernel_rfl) (by kernel_rfl) (by kernel_rfl) (fun _ _ _ h => h) (Or.inl ⟨by rfl, ?_⟩) (by assumption) ?_
      rotate_left
      · (intro w hSw; (try dsimp only at hSw); go_simp; try (with_reducible rfl))
      try simp only [Act.put, List.setIfInBounds_toArray, List.set_cons_zero, List.set_cons_succ]
      refine wpAnyH_take (i := 12) (oi := { dst := some 29, op := Op.move (Operand.tmp 0), type := 27, pos := "ref.go:80", after := #[{ on := 11, ground := Ground.guard }], guard := some (11, false) }) (v := ?_) rfl (by kernel_rfl) (by kernel_rfl) (by kernel_rfl) (fun _ _ _ h => h) (Or.inl ⟨by rfl, ?_⟩) (by assumption) ?_
      rotate_left
      · (intro w hSw; (try dsimp only at hSw); go_simp; try (with_reducible rfl))
      try simp only [Act.put, List.setIfInBounds_toArray, List.set_cons_zero, List.set_cons_succ]
      refine wpAnyH_take (i := 13) (oi := { dst := some 30, op := Op.move (Operand.tmp 5), type := 3, pos := "ref.go:80", after := #[{ on := 11, ground := Ground.guard }], guard := some (11, false) }) (v := ?_) rfl (by kernel_rfl) (by kernel_rfl) (by kernel_rfl) (fun _ _ _ h => h) (Or.inl ⟨by rfl, ?_⟩) (by assumption) ?_
      rotate_left
      · (intro w hSw; (try dsimp only at hSw); go_simp; try (with_reducible rfl))
      try simp only [Act.put, List.setIfInBounds_toArray, List.set_cons_zero, List.set_cons_succ]
      refine wpAnyH_take (i := 14) (oi := { dst := some 31, op := Op.indexAddr 27 (Operand.tmp 29) (Operand.tmp 30), type := 0, pos := "ref.go:80", after := #[{ on := 12, ground := Ground.data }, { on := 13, ground := Ground.data }, { on := 11, ground := Ground.guard }], guard := some (11, false) }) (v := ?_) rfl (by kernel_rfl) (by kernel_rfl) (by kernel_rfl) (fun _ _ _ h => h) (Or.inl ⟨by rfl, ?_⟩) (by assumption) ?_
      rotate_left
      · (intro w hSw; (try dsimp only at hSw); go_simp; try (with_reducible rfl))
      try simp only [Act.put, List.setIfInBounds_toArray, List.set_cons_zero, List.set_cons_succ]
      refine wpAnyH_take (i := 15) (oi := { dst := some 32, op := Op.fieldAddr 53 (Operand.tmp 31) 1, type := 0, pos := "ref.go:80", after := #[{ on := 14, ground := Ground.data }, { on := 11, ground := Ground.guard }], guard := some (11, false) }) (v := ?_) rfl (by kernel_rfl) (by kernel_rfl) (by kernel_rfl) (fun _ _ _ h => h) (Or.inl ⟨by rfl, ?_⟩) (by assumption) ?_
      rotate_left
      · (intro w hSw; (try dsimp only at hSw); go_simp; try (with_reducible rfl))
      try simp only [Act.put, List.setIfInBounds_toArray, List.set_cons_zero, List.set_cons_succ]
      refine wpAnyH_take (i := 16) (oi := { dst := some 33, op := Op.load 36 (Operand.tmp 32), type := 36, pos := "ref.go:80", after := #[{ on := 15, ground := Ground.data }, { on := 11, ground := Ground.guard }], guard := some (11, false) }) (v := ?_) rfl (by kernel_rfl) (by kernel_rfl) (by kernel_rfl) (fun _ _ _ h => h) (Or.inl ⟨by rfl, ?_⟩) (by assumption) ?_
      rotate_left
      · (intro w hSw; (try dsimp only at hSw); go_simp; try (with_reducible rfl))
      try simp only [Act.put, List.setIfInBounds_toArray, List.set_cons_zero, List.set_cons_succ]
      refine wpAnyH_take (i := 17) (oi := { dst := some 34, op := Op.move (Operand.tmp 1), type := 27, pos := "ref.go:80", after := #[{ on := 11, ground := Ground.guard }], guard := some (11, false) }) (v := ?_) rfl (by kernel_rfl) (by kernel_rfl) (by kernel_rfl) (fun _ _ _ h => h) (Or.inl ⟨by rfl, ?_⟩) (by assumption) ?_
      rotate_left
      · (intro w hSw; (try dsimp only at hSw); go_simp; try (with_reducible rfl))
      try simp only [Act.put, List.setIfInBounds_toArray, List.set_cons_zero, List.set_cons_succ]
      refine wpAnyH_take (i := 18) (oi := { dst := some 35, op := Op.move (Operand.tmp 5), type := 3, pos := "ref.go:80", after := #[{ on := 11, ground := Ground.guard }], guard := some (11, false) }) (v := ?_) rfl (by kernel_rfl) (by kernel_rfl) (by kernel_rfl) (fun _ _ _ h => h) (Or.inl ⟨by rfl, ?_⟩) (by assumption) ?_
      rotate_left
      · (intro w hSw; (try dsimp only at hSw); go_simp; try (with_reducible rfl))
      try simp only [Act.put, List.setIfInBounds_toArray, List.set_cons_zero, List.set_cons_succ]
      refine wpAnyH_take (i := 19) (oi := { dst := some 36, op := Op.indexAddr 27 (Operand.tmp 34) (Operand.tmp 35), type := 0, pos := "ref.go:80", after := #[{ on := 17, ground := Ground.data }, { on := 18, ground := Ground.data }, { on := 11, ground := Ground.guard }], guard := some (11, false) }) (v := ?_) rfl (by kernel_rfl) (by kernel_rfl) (by kernel_rfl) (fun _ _ _ h => h) (Or.inl ⟨by rfl, ?_⟩) (by assumption) ?_
      rotate_left
      · (intro w hSw; (try dsimp only at hSw); go_simp; try (with_reducible rfl))
      try simp only [Act.put, List.setIfInBounds_toArray, List.set_cons_zero, List.set_cons_succ]
      refine wpAnyH_take (i := 20) (oi := { dst := some 37, op := Op.fieldAddr 53 (Operand.tmp 36) 1, type := 0, pos := "ref.go:80", after := #[{ on := 19, ground := Ground.data }, { on := 11, ground := Ground.guard }], guard := some (11, false) }) (v := ?_) rfl (by kernel_rfl) (by kernel_rfl) (by kernel_rfl) (fun _ _ _ h => h) (Or.inl ⟨by rfl, ?_⟩) (by assumption) ?_
      rotate_left
      · (intro w hSw; (try dsimp only at hSw); go_simp; try (with_reducible rfl))
      try simp only [Act.put, List.setIfInBounds_toArray, List.set_cons_zero, List.set_cons_succ]
      refine wpAnyH_take (i := 21) (oi := { dst := some 38, op := Op.load 36 (Operand.tmp 37), type := 36, pos := "ref.go:80", after := #[{ on := 20, ground := Ground.data }, { on := 11, ground := Ground.guard }], guard := some (11, false) }) (v := ?_) rfl (by kernel_rfl) (by kernel_rfl) (by kernel_rfl) (fun _ _ _ h => h) (Or.inl ⟨by rfl, ?_⟩) (by assumption) ?_
      rotate_left
      · (intro w hSw; (try dsimp only at hSw); go_simp; try (with_reducible rfl))
      try simp only [Act.put, List.setIfInBounds_toArray, List.set_cons_zero, List.set_cons_succ]
      refine wpAnyH_ready (rs := [22]) (by kernel_rfl) (by simp) ?_
      refine AllReadyH.cons (o := { dst := some 39, op := Op.call { callee := Callee.value (Operand.func 22), args := #[Operand.tmp 33, Operand.tmp 38], argTypes := #[36, 36] }, type := 4, pos := "ref.go:80", after := #[{ on := 16, ground := Ground.data }, { on := 21, ground := Ground.data }, { on := 11, ground := Ground.chain }, { on := 11, ground := Ground.guard }], guard := some (11, false) }) rfl (fun K hK => ?_) AllReadyH.nil
      go_simp
      (go_at_call 22; refine (rfSame_yes W wr.drew _ _ x.r x.r ⟨_, rfl, HC.out⟩ ⟨_, rfl, HC'.out⟩ (HW.out.then mr.drew) (SameR.refl _) (HS1.out x (List.mem_of_getElem? HX.out)).1 (HS1.out x (List.mem_of_getElem? HX.out)).2).mono ?_; rintro _ w5 ⟨rfl, m5'⟩)
      have m5 : Moves [] wr w5 := (Moves.refl [] wr).drew.then m5'
      refine hK.out _ _ ?_ (fun hHeld => ?_)
      · first | exact ⟨d0, d1, e0, e1⟩ | exact ⟨m5.cell d0, m5.cell d1, m5.cell e0, m5.cell e1⟩
      clear hK K
      try simp only [Act.put, List.setIfInBounds_toArray, List.set_cons_zero, List.set_cons_succ]
      refine wpAnyH_take (i := 23) (oi := { dst := some 40, op := Op.unOp UnOp.not 4 (Operand.tmp 39), type := 4, pos := "ref.go:80", after := #[{ on := 22, ground := Ground.data }, { on := 11, ground := Ground.guard }], guard := some (11, false) }) (v := ?_) rfl (by kernel_rfl) (by kernel_rfl) (by kernel_rfl) (fun _ _ _ h => h) (Or.inl ⟨by rfl, ?_⟩) (by assumption) ?_
      rotate_left
      · (intro w hSw; (try dsimp only at hSw); go_simp; try (with_reducible rfl))
      try simp only [Act.put, List.setIfInBounds_toArray, List.set_cons_zero, List.set_cons_succ]
      refine wpAnyH_take (i := 24) (oi := { dst := some 41, op := Op.pick (Operand.tmp 28) (Operand.const (Value.bool true)) (Operand.tmp 40), type := 4, pos := "ref.go:80", after := #[{ on := 11, ground := Ground.data }, { on := 23, ground := Ground.data }], guard := none }) (v := ?_) rfl (by kernel_rfl) (by kernel_rfl) (by kernel_rfl) (fun _ _ _ h => h) (Or.inl ⟨by rfl, ?_⟩) (by assumption) ?_
      rotate_left
      · (intro w hSw; (try dsimp only at hSw); go_simp; try (with_reducible rfl))
      try simp only [Act.put, List.setIfInBounds_toArray, List.set_cons_zero, List.set_cons_succ]
      refine wpAnyH_done (by kernel_rfl) ?_ _
      refine NoPanic.normal ?_
      go_wp2_with fail
      go_roundw
      case rel => exact ⟨k + 1, by omega, by go_num, mr.then m5⟩
      case measure => simp [intOf]; omega
    · have hk3 : ¬ (k : Int) < n := by omega
      go_wp2_with fail
      go_ret
      exact ⟨rfl, mr⟩
end Go.Proofs.Ytcngllcifcpbkaa
