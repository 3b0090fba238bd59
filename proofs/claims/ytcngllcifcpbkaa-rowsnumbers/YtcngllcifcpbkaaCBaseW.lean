/-
  Ref0, RfRight, Ref1, Ref2, Ref3: our texts of these names, laid into one.
-/
import Derived.Test.YtcngllcifcpbkaaCBaseJ
import Derived.Test.YtcngllcifcpbkaaCSsaG
/-
  The document's own Name, and its Right of a value that lies in a row.
-/
namespace Go.Proofs.Ytcngllcifcpbkaa
open Go.RowKit

theorem refName_w (s : ByteArray) (w : World) : Calls Try.prog 32 #[.string s] w fun e w' => e = .returned (.bool (pname s)) ∧ w = w' := by
  unfold pname
  go_enter Try.func32, Try.ntmps32
  go_wp2
  · rename_i h
    have h1 : decide (1 ≤ s.size) = true := decide_eq_true (by omega)
    have h2 : decide ((s.size : Int) ≤ 16) = decide (s.size ≤ 16) := by rw [decide_eq_decide]; omega
    go_ret
    exact ⟨by rw [h1, Bool.true_and, ← h2]; rfl, rfl⟩
  · rename_i h
    have h1 : decide (1 ≤ s.size) = false := decide_eq_false (by omega)
    go_ret
    exact ⟨by rw [h1, Bool.false_and]; rfl, rfl⟩
theorem rright4_w (W w : World) (k : Int) (ad : Option Addr) (len cap n : Nat) (p : Pv) (h : VA W [.int .i64 k, .slice ad len cap, .float .f64 n] p) (m : Moves [] W w) :
    Calls Try.prog 33 #[.agg #[.int .i64 k, .slice ad len cap, .float .f64 n]] w fun e w' => e = .returned (.bool (pvr p)) ∧ Moves [] w w' := by
  obtain ⟨g, hV, hl⟩ := h.vis
  obtain ⟨e0, hI⟩ := hV.moves m
  have h1 := rRight_w _ w hI
  rw [← e0] at h1
  refine h1.mono ?_
  rintro e w' ⟨rfl, m2⟩
  exact ⟨by rw [pvr_vm], m2⟩
end Go.Proofs.Ytcngllcifcpbkaa
/-
  The document's own Right of rows: for every row the call tells whether it may be, and writes nothing that was there.
-/
namespace Go.Proofs.Ytcngllcifcpbkaa
open Go.RowKit

set_option maxRecDepth 100000 in
set_option maxHeartbeats 8000000 in
theorem refRight_w (W w : World) (v : Value) (xs : List Pcol) (h : RowAt W v xs) (m : Moves [] W w) :
    Calls Try.prog 42 #[v] w fun e w' => e = .returned (.bool (pright xs)) ∧ Moves [] w w' := by
  obtain ⟨lv, rfl, h⟩ := h
  obtain ⟨ad, cap, hlv, hcap⟩ := h.slice
  obtain ⟨n, HN⟩ : ∃ n, Hid (n = xs.length) := ⟨_, rfl⟩
  rw [← HN.out] at hlv hcap
  subst hlv
  have HW : Hid (Moves [] W w) := m
  clear m
  by_cases h1 : 4 < n
  · have hb : Hid (pright xs = false) := pright_len (by rw [← HN.out]; omega)
    have h1' : (4 : Int) < n := by omega
    go_enter Try.func42, Try.ntmps42
    go_wp2
    go_ret
    exact ⟨by rw [hb.out]; rfl, (Moves.refl _ _).alloc _⟩
  have h1' : ¬ (4 : Int) < n := by omega
  go_enter Try.func42, Try.ntmps42
  go_wp2_with fail
  have m1 : Moves [] w (w.alloc (.cells #[.slice ad n cap] 36)) := (Moves.refl _ _).alloc _
  obtain ⟨zz, _⟩ := one_cell (heap_alloc_new w (.cells #[.slice ad n cap] 36))
  go_loopw [3] (fun i wr => ∃ k : Nat, k ≤ n ∧ i = .int .i64 k ∧ Moves [] w wr ∧ wr.cell? ⟨w.heap.size, 0, none⟩ = some (.slice ad n cap) ∧ ∀ j, j < k → colGood xs j = true) (fun i _ => n - (intOf i).toNat)
  case atStart => exact ⟨0, Nat.zero_le _, rfl, m1, zz, fun j hj => absurd hj (by omega)⟩
  case round =>
    obtain ⟨k, hk, rfl, mr, rr, hall0⟩ := hrel
    have HALL : Hid (∀ j, j < k → colGood xs j = true) := hall0
    clear hall0
    by_cases hlt : k < n
    · have hk3 : (k : Int) < n := by omega
      have hkx : k < xs.length := by rw [← HN.out]; exact hlt
      obtain ⟨x, hx⟩ : ∃ x, xs[k]? = some x := ⟨_, List.getElem?_eq_getElem hkx⟩
      have h0 := h
      obtain ⟨g, off, a2, n2, c2, rfl, e0, e1, en, hle, hV⟩ := h0.at hx
      have d0 := (HW.out.then mr).cell e0
      have d1 := (HW.out.then mr).cell e1
      have HX : Hid (xs[k]? = some x) := hx
      have HL : Hid (n2 = x.l.length) := en
      have HV : Hid (VersAt W (.slice a2 n2 c2) x.l) := hV
      have HKX : Hid (k < xs.length) := hkx
      obtain ⟨y, hprev0⟩ : ∃ y : ByteArray, 0 < k → (∃ z, xs[k - 1]? = some z ∧ z.name = y) ∧ W.cell? ⟨g, off + (k - 1) * 2, none⟩ = some (.string y) := by
        by_cases hk0 : 0 < k
        · obtain ⟨z, hz⟩ : ∃ z, xs[k - 1]? = some z := ⟨_, List.getElem?_eq_getElem (by omega)⟩
          obtain ⟨g', off', _, _, _, eg, py0, _⟩ := h.at hz
          simp at eg
          obtain ⟨rfl, rfl⟩ := eg
          exact ⟨z.name, fun _ => ⟨⟨z, hz, rfl⟩, py0⟩⟩
        · exact ⟨⟨#[]⟩, fun h => absurd h hk0⟩
      obtain ⟨k', hk'⟩ : ∃ k', k' = k - 1 := ⟨_, rfl⟩
      rw [← hk'] at hprev0
      clear e0 e1 hkx en hV hx
      go_wp2_with fail
      obtain ⟨wc, hwc⟩ : ∃ wc, wr.alloc (.cells #[.string x.name, .slice a2 n2 c2] 33) = wc := ⟨_, rfl⟩
      have mc : Moves [] wr wc := by rw [← hwc]; exact (Moves.refl _ _).alloc _
      have qc : wc.heap[wr.heap.size]? = some (.cells #[.string x.name, .slice a2 n2 c2] 33 (0, 0)) := by rw [← hwc]; exact heap_alloc_new _ _
      rw [hwc]
      obtain ⟨b0, b1⟩ := pair_cells qc
      have r0 := mc.cell rr
      have HM : Hid (Moves [] w wc) := mr.then mc
      have MWc : Hid (Moves [] W wc) := (HW.out.then mr).then mc
      obtain ⟨nm, HP⟩ : ∃ nm, Hid (pname x.name = nm) := ⟨_, rfl⟩
      obtain ⟨b7, hb7⟩ : ∃ b, decide (0 < k) = b := ⟨_, rfl⟩
      obtain ⟨b17, hb17⟩ : ∃ b, (!Op.bytesLess y.toList x.name.toList) = b := ⟨_, rfl⟩
      obtain ⟨b24, hb24⟩ : ∃ b, decide ((n2 : Int) < 1) = b := ⟨_, rfl⟩
      obtain ⟨b30, hb30⟩ : ∃ b, decide ((2 : Int) < n2) = b := ⟨_, rfl⟩
      have hprev : b7 = true → (k' : Int) < n ∧ IntKind.i64.wrap ((k : Int) - 1) = (k' : Int) ∧ wc.cell? ⟨g, off + k' * 2, none⟩ = some (.string y) := by
        intro hb
        rw [hb] at hb7
        have h0 : 0 < k := of_decide_eq_true hb7
        refine ⟨by omega, by rw [IntWalk.i64_in _ (by omega)]; omega, MWc.out.cell (hprev0 h0).2⟩
      have HPREV : Hid (0 < k → ∃ z, xs[k - 1]? = some z ∧ z.name = y) := fun h => by rw [← hk']; exact (hprev0 h).1
      obtain ⟨pc, hpc⟩ : ∃ pc, wr.heap.size = pc := ⟨_, rfl⟩
      rw [hpc] at b0 b1 ⊢
      clear hwc qc d0 d1 rr hk' hprev0 h mc m1 zz hpc h0
      refine region_ssaQ (by kernel_rfl) (fun i => i + 22) [22, 23, 24, 25, 26, 27, 28, 29, 30, 31, 32, 33, 34, 35, 36, 37, 38, 39, 40, 41, 42, 43, 44, 45, 46, 47, 48, 49, 50, 51, 52, 53] (fun i (_ : World) (v : Value) => match i with | 0 => v = .pointer (some ⟨pc, 0, none⟩) | 1 => v = .string x.name | 2 => v = .bool nm | 3 => v = .bool (!nm) | 4 => v = .bool (!nm) | 5 => v = (if (true && ((!nm) == false)) then .int .i64 (k : Int) else undef) | 6 => v = (if (true && ((!nm) == false)) then .bool b7 else undef) | 7 => v = (if (true && ((!nm) == false)) then .bool b7 else undef) | 8 => v = (if ((true && ((!nm) == false)) && (b7 == true)) then .pointer (some ⟨w.heap.size, 0, none⟩) else undef) | 9 => v = (if ((true && ((!nm) == false)) && (b7 == true)) then .slice (some ⟨g, off, none⟩) n cap else undef) | 10 => v = (if ((true && ((!nm) == false)) && (b7 == true)) then .int .i64 (k : Int) else undef) | 11 => v = (if ((true && ((!nm) == false)) && (b7 == true)) then .int .i64 (k' : Int) else undef) | 12 => v = (if ((true && ((!nm) == false)) && (b7 == true)) then .pointer (some ⟨g, off + k' * 2, none⟩) else undef) | 13 => v = (if ((true && ((!nm) == false)) && (b7 == true)) then .pointer (some ⟨g, off + k' * 2, none⟩) else undef) | 14 => v = (if ((true && ((!nm) == false)) && (b7 == true)) then .string y else undef) | 15 => v = (if ((true && ((!nm) == false)) && (b7 == true)) then .pointer (some ⟨pc, 0, none⟩) else undef) | 16 => v = (if ((true && ((!nm) == false)) && (b7 == true)) then .string x.name else undef) | 17 => v = (if ((true && ((!nm) == false)) && (b7 == true)) then .bool b17 else undef) | 18 => v = (if (true && ((!nm) == false)) then .bool (b7 && b17) else undef) | 19 => v = .bool (!nm || (b7 && b17)) | 20 => v = .bool (!nm || (b7 && b17)) | 21 => v = (if (true && ((!nm || (b7 && b17)) == false)) then .pointer (some ⟨pc, 1, none⟩) else undef) | 22 => v = (if (true && ((!nm || (b7 && b17)) == false)) then .slice a2 n2 c2 else undef) | 23 => v = (if (true && ((!nm || (b7 && b17)) == false)) then .int .i64 (n2 : Int) else undef) | 24 => v = (if (true && ((!nm || (b7 && b17)) == false)) then .bool b24 else undef) | 25 => v = .bool ((!nm || (b7 && b17)) || b24) | 26 => v = .bool ((!nm || (b7 && b17)) || b24) | 27 => v = (if (true && (((!nm || (b7 && b17)) || b24) == false)) then .pointer (some ⟨pc, 1, none⟩) else undef) | 28 => v = (if (true && (((!nm || (b7 && b17)) || b24) == false)) then .slice a2 n2 c2 else undef) | 29 => v = (if (true && (((!nm || (b7 && b17)) || b24) == false)) then .int .i64 (n2 : Int) else undef) | 30 => v = (if (true && (((!nm || (b7 && b17)) || b24) == false)) then .bool b30 else undef) | 31 => v = .bool (((!nm || (b7 && b17)) || b24) || b30) | _ => True) (Moves []) (by kernel_rfl) ?_ ?_ ?_ ((Moves.refl _ _).drew) (fun _ _ _ => Moves.then) (fun i u u' v h _ => by exact h) ?_ ?_
      · intro i hi
        have hi : i < 32 := hi
        show _ < 107
        try dsimp only
        try split
        all_goals omega
      · intro i j hi hj hne
        have hi : i < 32 := hi
        have hj : j < 32 := hj
        try dsimp only
        try split
        all_goals (try split)
        all_goals omega
      · intro i hi
        have hi : i < 32 := hi
        match i, hi with
        | 0, _ => decide
        | 1, _ => decide
        | 2, _ => decide
        | 3, _ => decide
        | 4, _ => decide
        | 5, _ => decide
        | 6, _ => decide
        | 7, _ => decide
        | 8, _ => decide
        | 9, _ => decide
        | 10, _ => decide
        | 11, _ => decide
        | 12, _ => decide
        | 13, _ => decide
        | 14, _ => decide
        | 15, _ => decide
        | 16, _ => decide
        | 17, _ => decide
        | 18, _ => decide
        | 19, _ => decide
        | 20, _ => decide
        | 21, _ => decide
        | 22, _ => decide
        | 23, _ => decide
        | 24, _ => decide
        | 25, _ => decide
        | 26, _ => decide
        | 27, _ => decide
        | 28, _ => decide
        | 29, _ => decide
        | 30, _ => decide
        | 31, _ => decide
        | m + 32, h => exact absurd h (by omega)
      · intro i hi a u hR hsz hold hF K hK
        have hi : i < 32 := hi
        have c_b0 := (hR).cell b0
        have c_b1 := (hR).cell b1
        have c_r0 := (hR).cell r0
        match i, hi with
        | 0, _ =>
          have e4 : a.tmps.getD 4 undef = .pointer (some ⟨pc, 0, none⟩) := hold 4 (by intro kk hkk; have hkk : kk < 32 := hkk; (try dsimp only); (try split); all_goals omega)
          refine wpOp_val (v := .pointer (some ⟨pc, 0, none⟩)) rfl rfl ?_ (hK _ _ rfl (Moves.refl _ _))
          go_simp
          try rfl
        | 1, _ =>
          have f22 : a.tmps.getD 22 undef = .pointer (some ⟨pc, 0, none⟩) := hF 0 (by decide) (by kernel_rfl)
          have e22 : a.tmps.getD 22 undef = .pointer (some ⟨pc, 0, none⟩) := f22
          clear f22
          refine wpOp_val (v := .string x.name) rfl rfl ?_ (hK _ _ rfl (Moves.refl _ _))
          go_simp
          try rfl
        | 2, _ =>
          have f23 : a.tmps.getD 23 undef = .string x.name := hF 1 (by decide) (by kernel_rfl)
          have e23 : a.tmps.getD 23 undef = .string x.name := f23
          clear f23
          refine wpOp_of_wp rfl rfl ?_
          go_simp
          (go_at_call 32; refine (refName_w _ _).mono ?_; rintro _ _ ⟨rfl, rfl⟩; rw [HP.out]; exact hK _ _ rfl (Moves.refl _ _))
        | 3, _ =>
          have f24 : a.tmps.getD 24 undef = .bool nm := hF 2 (by decide) (by kernel_rfl)
          have e24 : a.tmps.getD 24 undef = .bool nm := f24
          clear f24
          refine wpOp_val (v := .bool (!nm)) rfl rfl ?_ (hK _ _ rfl (Moves.refl _ _))
          go_simp
          try rfl
        | 4, _ =>
          have f25 : a.tmps.getD 25 undef = .bool (!nm) := hF 3 (by decide) (by kernel_rfl)
          have e25 : a.tmps.getD 25 undef = .bool (!nm) := f25
          clear f25
          refine wpOp_val (v := .bool (!nm)) rfl rfl ?_ (hK _ _ rfl (Moves.refl _ _))
          go_simp
          try rfl
        | 5, _ =>
          have e3 : a.tmps.getD 3 undef = .int .i64 (k : Int) := hold 3 (by intro kk hkk; have hkk : kk < 32 := hkk; (try dsimp only); (try split); all_goals omega)
          have gd : a.tmps.getD 26 undef = (if true then .bool (!nm) else undef) := by rw [if_pos rfl]; exact hF 4 (by decide) (by kernel_rfl)
          refine wpOp_onval (v := .int .i64 (k : Int)) rfl rfl rfl rfl (by rw [hsz]; show _ < 107; omega) gd (fun e => ?_) (fun v' h' => hK _ _ h' (Moves.refl _ _))
          go_simp
          try rfl
        | 6, _ =>
          have f27 : a.tmps.getD 27 undef = (if (true && ((!nm) == false)) then .int .i64 (k : Int) else undef) := hF 5 (by decide) (by kernel_rfl)
          have gd : a.tmps.getD 26 undef = (if true then .bool (!nm) else undef) := by rw [if_pos rfl]; exact hF 4 (by decide) (by kernel_rfl)
          refine wpOp_onval (v := .bool b7) rfl rfl rfl rfl (by rw [hsz]; show _ < 107; omega) gd (fun e => ?_) (fun v' h' => hK _ _ h' (Moves.refl _ _))
          have e27 : a.tmps.getD 27 undef = .int .i64 (k : Int) := by rw [f27, if_pos e]
          clear f27
          go_simp
          try rfl
        | 7, _ =>
          have f28 : a.tmps.getD 28 undef = (if (true && ((!nm) == false)) then .bool b7 else undef) := hF 6 (by decide) (by kernel_rfl)
          have gd : a.tmps.getD 26 undef = (if true then .bool (!nm) else undef) := by rw [if_pos rfl]; exact hF 4 (by decide) (by kernel_rfl)
          refine wpOp_onval (v := .bool b7) rfl rfl rfl rfl (by rw [hsz]; show _ < 107; omega) gd (fun e => ?_) (fun v' h' => hK _ _ h' (Moves.refl _ _))
          have e28 : a.tmps.getD 28 undef = .bool b7 := by rw [f28, if_pos e]
          clear f28
          go_simp
          try rfl
        | 8, _ =>
          have e1 : a.tmps.getD 1 undef = .pointer (some ⟨w.heap.size, 0, none⟩) := hold 1 (by intro kk hkk; have hkk : kk < 32 := hkk; (try dsimp only); (try split); all_goals omega)
          have gd : a.tmps.getD 29 undef = (if (true && ((!nm) == false)) then .bool b7 else undef) := (hF 7 (by decide) (by kernel_rfl))
          refine wpOp_onval (v := .pointer (some ⟨w.heap.size, 0, none⟩)) rfl rfl rfl rfl (by rw [hsz]; show _ < 107; omega) gd (fun e => ?_) (fun v' h' => hK _ _ h' (Moves.refl _ _))
          go_simp
          try rfl
        | 9, _ =>
          have f30 : a.tmps.getD 30 undef = (if ((true && ((!nm) == false)) && (b7 == true)) then .pointer (some ⟨w.heap.size, 0, none⟩) else undef) := hF 8 (by decide) (by kernel_rfl)
          have gd : a.tmps.getD 29 undef = (if (true && ((!nm) == false)) then .bool b7 else undef) := (hF 7 (by decide) (by kernel_rfl))
          refine wpOp_onval (v := .slice (some ⟨g, off, none⟩) n cap) rfl rfl rfl rfl (by rw [hsz]; show _ < 107; omega) gd (fun e => ?_) (fun v' h' => hK _ _ h' (Moves.refl _ _))
          have e30 : a.tmps.getD 30 undef = .pointer (some ⟨w.heap.size, 0, none⟩) := by rw [f30, if_pos e]
          clear f30
          have hpos := hprev (by cases hb7 : b7 with | true => rfl | false => rw [hb7] at e; simp at e); have c_py := hR.cell hpos.2.2; have hk1 := hpos.1; have hw1 := hpos.2.1
          go_simp
          try rfl
        | 10, _ =>
          have e3 : a.tmps.getD 3 undef = .int .i64 (k : Int) := hold 3 (by intro kk hkk; have hkk : kk < 32 := hkk; (try dsimp only); (try split); all_goals omega)
          have gd : a.tmps.getD 29 undef = (if (true && ((!nm) == false)) then .bool b7 else undef) := (hF 7 (by decide) (by kernel_rfl))
          refine wpOp_onval (v := .int .i64 (k : Int)) rfl rfl rfl rfl (by rw [hsz]; show _ < 107; omega) gd (fun e => ?_) (fun v' h' => hK _ _ h' (Moves.refl _ _))
          go_simp
          try rfl
        | 11, _ =>
          have f32 : a.tmps.getD 32 undef = (if ((true && ((!nm) == false)) && (b7 == true)) then .int .i64 (k : Int) else undef) := hF 10 (by decide) (by kernel_rfl)
          have gd : a.tmps.getD 29 undef = (if (true && ((!nm) == false)) then .bool b7 else undef) := (hF 7 (by decide) (by kernel_rfl))
          refine wpOp_onval (v := .int .i64 (k' : Int)) rfl rfl rfl rfl (by rw [hsz]; show _ < 107; omega) gd (fun e => ?_) (fun v' h' => hK _ _ h' (Moves.refl _ _))
          have e32 : a.tmps.getD 32 undef = .int .i64 (k : Int) := by rw [f32, if_pos e]
          clear f32
          have hpos := hprev (by cases hb7 : b7 with | true => rfl | false => rw [hb7] at e; simp at e); have c_py := hR.cell hpos.2.2; have hk1 := hpos.1; have hw1 := hpos.2.1
          go_simp
          try rfl
        | 12, _ =>
          have f31 : a.tmps.getD 31 undef = (if ((true && ((!nm) == false)) && (b7 == true)) then .slice (some ⟨g, off, none⟩) n cap else undef) := hF 9 (by decide) (by kernel_rfl)
          have f33 : a.tmps.getD 33 undef = (if ((true && ((!nm) == false)) && (b7 == true)) then .int .i64 (k' : Int) else undef) := hF 11 (by decide) (by kernel_rfl)
          have gd : a.tmps.getD 29 undef = (if (true && ((!nm) == false)) then .bool b7 else undef) := (hF 7 (by decide) (by kernel_rfl))
          refine wpOp_onval (v := .pointer (some ⟨g, off + k' * 2, none⟩)) rfl rfl rfl rfl (by rw [hsz]; show _ < 107; omega) gd (fun e => ?_) (fun v' h' => hK _ _ h' (Moves.refl _ _))
          have e31 : a.tmps.getD 31 undef = .slice (some ⟨g, off, none⟩) n cap := by rw [f31, if_pos e]
          have e33 : a.tmps.getD 33 undef = .int .i64 (k' : Int) := by rw [f33, if_pos e]
          clear f31 f33
          have hpos := hprev (by cases hb7 : b7 with | true => rfl | false => rw [hb7] at e; simp at e); have c_py := hR.cell hpos.2.2; have hk1 := hpos.1; have hw1 := hpos.2.1
          go_simp
          try rfl
        | 13, _ =>
          have f34 : a.tmps.getD 34 undef = (if ((true && ((!nm) == false)) && (b7 == true)) then .pointer (some ⟨g, off + k' * 2, none⟩) else undef) := hF 12 (by decide) (by kernel_rfl)
          have gd : a.tmps.getD 29 undef = (if (true && ((!nm) == false)) then .bool b7 else undef) := (hF 7 (by decide) (by kernel_rfl))
          refine wpOp_onval (v := .pointer (some ⟨g, off + k' * 2, none⟩)) rfl rfl rfl rfl (by rw [hsz]; show _ < 107; omega) gd (fun e => ?_) (fun v' h' => hK _ _ h' (Moves.refl _ _))
          have e34 : a.tmps.getD 34 undef = .pointer (some ⟨g, off + k' * 2, none⟩) := by rw [f34, if_pos e]
          clear f34
          go_simp
          try rfl
        | 14, _ =>
          have f35 : a.tmps.getD 35 undef = (if ((true && ((!nm) == false)) && (b7 == true)) then .pointer (some ⟨g, off + k' * 2, none⟩) else undef) := hF 13 (by decide) (by kernel_rfl)
          have gd : a.tmps.getD 29 undef = (if (true && ((!nm) == false)) then .bool b7 else undef) := (hF 7 (by decide) (by kernel_rfl))
          refine wpOp_onval (v := .string y) rfl rfl rfl rfl (by rw [hsz]; show _ < 107; omega) gd (fun e => ?_) (fun v' h' => hK _ _ h' (Moves.refl _ _))
          have e35 : a.tmps.getD 35 undef = .pointer (some ⟨g, off + k' * 2, none⟩) := by rw [f35, if_pos e]
          clear f35
          have hpos := hprev (by cases hb7 : b7 with | true => rfl | false => rw [hb7] at e; simp at e); have c_py := hR.cell hpos.2.2; have hk1 := hpos.1; have hw1 := hpos.2.1
          go_simp
          try rfl
        | 15, _ =>
          have e4 : a.tmps.getD 4 undef = .pointer (some ⟨pc, 0, none⟩) := hold 4 (by intro kk hkk; have hkk : kk < 32 := hkk; (try dsimp only); (try split); all_goals omega)
          have gd : a.tmps.getD 29 undef = (if (true && ((!nm) == false)) then .bool b7 else undef) := (hF 7 (by decide) (by kernel_rfl))
          refine wpOp_onval (v := .pointer (some ⟨pc, 0, none⟩)) rfl rfl rfl rfl (by rw [hsz]; show _ < 107; omega) gd (fun e => ?_) (fun v' h' => hK _ _ h' (Moves.refl _ _))
          go_simp
          try rfl
        | 16, _ =>
          have f37 : a.tmps.getD 37 undef = (if ((true && ((!nm) == false)) && (b7 == true)) then .pointer (some ⟨pc, 0, none⟩) else undef) := hF 15 (by decide) (by kernel_rfl)
          have gd : a.tmps.getD 29 undef = (if (true && ((!nm) == false)) then .bool b7 else undef) := (hF 7 (by decide) (by kernel_rfl))
          refine wpOp_onval (v := .string x.name) rfl rfl rfl rfl (by rw [hsz]; show _ < 107; omega) gd (fun e => ?_) (fun v' h' => hK _ _ h' (Moves.refl _ _))
          have e37 : a.tmps.getD 37 undef = .pointer (some ⟨pc, 0, none⟩) := by rw [f37, if_pos e]
          clear f37
          have hpos := hprev (by cases hb7 : b7 with | true => rfl | false => rw [hb7] at e; simp at e); have c_py := hR.cell hpos.2.2; have hk1 := hpos.1; have hw1 := hpos.2.1
          go_simp
          try rfl
        | 17, _ =>
          have f36 : a.tmps.getD 36 undef = (if ((true && ((!nm) == false)) && (b7 == true)) then .string y else undef) := hF 14 (by decide) (by kernel_rfl)
          have f38 : a.tmps.getD 38 undef = (if ((true && ((!nm) == false)) && (b7 == true)) then .string x.name else undef) := hF 16 (by decide) (by kernel_rfl)
          have gd : a.tmps.getD 29 undef = (if (true && ((!nm) == false)) then .bool b7 else undef) := (hF 7 (by decide) (by kernel_rfl))
          refine wpOp_onval (v := .bool b17) rfl rfl rfl rfl (by rw [hsz]; show _ < 107; omega) gd (fun e => ?_) (fun v' h' => hK _ _ h' (Moves.refl _ _))
          have e36 : a.tmps.getD 36 undef = .string y := by rw [f36, if_pos e]
          have e38 : a.tmps.getD 38 undef = .string x.name := by rw [f38, if_pos e]
          clear f36 f38
          have hpos := hprev (by cases hb7 : b7 with | true => rfl | false => rw [hb7] at e; simp at e); have c_py := hR.cell hpos.2.2; have hk1 := hpos.1; have hw1 := hpos.2.1
          go_simp
          try rfl
        | 18, _ =>
          have f29 : a.tmps.getD 29 undef = (if (true && ((!nm) == false)) then .bool b7 else undef) := hF 7 (by decide) (by kernel_rfl)
          have f39 : a.tmps.getD 39 undef = (if ((true && ((!nm) == false)) && (b7 == true)) then .bool b17 else undef) := hF 17 (by decide) (by kernel_rfl)
          have gd : a.tmps.getD 26 undef = (if true then .bool (!nm) else undef) := by rw [if_pos rfl]; exact hF 4 (by decide) (by kernel_rfl)
          refine wpOp_onval (v := .bool (b7 && b17)) rfl rfl rfl rfl (by rw [hsz]; show _ < 107; omega) gd (fun e => ?_) (fun v' h' => hK _ _ h' (Moves.refl _ _))
          rw [if_pos e] at f29
          cases hb : b7 with
          | false =>
            rw [hb] at f29
            have e29 : a.tmps.getD 29 undef = .bool false := f29
            clear f29
            clear f39
            generalize hg39 : a.tmps.getD 39 undef = v39
            go_simp
            try rfl
          | true =>
            rw [hb] at f29
            have e29 : a.tmps.getD 29 undef = .bool true := f29
            clear f29
            rw [hb] at f39
            have e39 : a.tmps.getD 39 undef = .bool b17 := by rw [f39]; exact if_pos (by first | rfl | (rw [e]; rfl) | simp_all)
            clear f39
            go_simp
            try rfl
        | 19, _ =>
          have f26 : a.tmps.getD 26 undef = .bool (!nm) := hF 4 (by decide) (by kernel_rfl)
          have f40 : a.tmps.getD 40 undef = (if (true && ((!nm) == false)) then .bool (b7 && b17) else undef) := hF 18 (by decide) (by kernel_rfl)
          refine wpOp_val (v := .bool (!nm || (b7 && b17))) rfl rfl ?_ (hK _ _ rfl (Moves.refl _ _))
          cases hb : (!nm) with
          | false =>
            rw [hb] at f26
            have e26 : a.tmps.getD 26 undef = .bool false := f26
            clear f26
            rw [hb] at f40
            have e40 : a.tmps.getD 40 undef = .bool (b7 && b17) := by rw [f40]; exact if_pos (by first | rfl | (rw [e]; rfl) | simp_all)
            clear f40
            go_simp
            try rfl
          | true =>
            rw [hb] at f26
            have e26 : a.tmps.getD 26 undef = .bool true := f26
            clear f26
            clear f40
            generalize hg40 : a.tmps.getD 40 undef = v40
            go_simp
            try rfl
        | 20, _ =>
          have f41 : a.tmps.getD 41 undef = .bool (!nm || (b7 && b17)) := hF 19 (by decide) (by kernel_rfl)
          have e41 : a.tmps.getD 41 undef = .bool (!nm || (b7 && b17)) := f41
          clear f41
          refine wpOp_val (v := .bool (!nm || (b7 && b17))) rfl rfl ?_ (hK _ _ rfl (Moves.refl _ _))
          go_simp
          try rfl
        | 21, _ =>
          have e4 : a.tmps.getD 4 undef = .pointer (some ⟨pc, 0, none⟩) := hold 4 (by intro kk hkk; have hkk : kk < 32 := hkk; (try dsimp only); (try split); all_goals omega)
          have gd : a.tmps.getD 42 undef = (if true then .bool (!nm || (b7 && b17)) else undef) := by rw [if_pos rfl]; exact hF 20 (by decide) (by kernel_rfl)
          refine wpOp_onval (v := .pointer (some ⟨pc, 1, none⟩)) rfl rfl rfl rfl (by rw [hsz]; show _ < 107; omega) gd (fun e => ?_) (fun v' h' => hK _ _ h' (Moves.refl _ _))
          go_simp
          try rfl
        | 22, _ =>
          have f43 : a.tmps.getD 43 undef = (if (true && ((!nm || (b7 && b17)) == false)) then .pointer (some ⟨pc, 1, none⟩) else undef) := hF 21 (by decide) (by kernel_rfl)
          have gd : a.tmps.getD 42 undef = (if true then .bool (!nm || (b7 && b17)) else undef) := by rw [if_pos rfl]; exact hF 20 (by decide) (by kernel_rfl)
          refine wpOp_onval (v := .slice a2 n2 c2) rfl rfl rfl rfl (by rw [hsz]; show _ < 107; omega) gd (fun e => ?_) (fun v' h' => hK _ _ h' (Moves.refl _ _))
          have e43 : a.tmps.getD 43 undef = .pointer (some ⟨pc, 1, none⟩) := by rw [f43, if_pos e]
          clear f43
          go_simp
          try rfl
        | 23, _ =>
          have f44 : a.tmps.getD 44 undef = (if (true && ((!nm || (b7 && b17)) == false)) then .slice a2 n2 c2 else undef) := hF 22 (by decide) (by kernel_rfl)
          have gd : a.tmps.getD 42 undef = (if true then .bool (!nm || (b7 && b17)) else undef) := by rw [if_pos rfl]; exact hF 20 (by decide) (by kernel_rfl)
          refine wpOp_onval (v := .int .i64 (n2 : Int)) rfl rfl rfl rfl (by rw [hsz]; show _ < 107; omega) gd (fun e => ?_) (fun v' h' => hK _ _ h' (Moves.refl _ _))
          have e44 : a.tmps.getD 44 undef = .slice a2 n2 c2 := by rw [f44, if_pos e]
          clear f44
          go_simp
          try rfl
        | 24, _ =>
          have f45 : a.tmps.getD 45 undef = (if (true && ((!nm || (b7 && b17)) == false)) then .int .i64 (n2 : Int) else undef) := hF 23 (by decide) (by kernel_rfl)
          have gd : a.tmps.getD 42 undef = (if true then .bool (!nm || (b7 && b17)) else undef) := by rw [if_pos rfl]; exact hF 20 (by decide) (by kernel_rfl)
          refine wpOp_onval (v := .bool b24) rfl rfl rfl rfl (by rw [hsz]; show _ < 107; omega) gd (fun e => ?_) (fun v' h' => hK _ _ h' (Moves.refl _ _))
          have e45 : a.tmps.getD 45 undef = .int .i64 (n2 : Int) := by rw [f45, if_pos e]
          clear f45
          go_simp
          try rfl
        | 25, _ =>
          have f42 : a.tmps.getD 42 undef = .bool (!nm || (b7 && b17)) := hF 20 (by decide) (by kernel_rfl)
          have f46 : a.tmps.getD 46 undef = (if (true && ((!nm || (b7 && b17)) == false)) then .bool b24 else undef) := hF 24 (by decide) (by kernel_rfl)
          refine wpOp_val (v := .bool ((!nm || (b7 && b17)) || b24)) rfl rfl ?_ (hK _ _ rfl (Moves.refl _ _))
          cases hb : (!nm || (b7 && b17)) with
          | false =>
            rw [hb] at f42
            have e42 : a.tmps.getD 42 undef = .bool false := f42
            clear f42
            rw [hb] at f46
            have e46 : a.tmps.getD 46 undef = .bool b24 := by rw [f46]; exact if_pos (by first | rfl | (rw [e]; rfl) | simp_all)
            clear f46
            go_simp
            try rfl
          | true =>
            rw [hb] at f42
            have e42 : a.tmps.getD 42 undef = .bool true := f42
            clear f42
            clear f46
            generalize hg46 : a.tmps.getD 46 undef = v46
            go_simp
            try rfl
        | 26, _ =>
          have f47 : a.tmps.getD 47 undef = .bool ((!nm || (b7 && b17)) || b24) := hF 25 (by decide) (by kernel_rfl)
          have e47 : a.tmps.getD 47 undef = .bool ((!nm || (b7 && b17)) || b24) := f47
          clear f47
          refine wpOp_val (v := .bool ((!nm || (b7 && b17)) || b24)) rfl rfl ?_ (hK _ _ rfl (Moves.refl _ _))
          go_simp
          try rfl
        | 27, _ =>
          have e4 : a.tmps.getD 4 undef = .pointer (some ⟨pc, 0, none⟩) := hold 4 (by intro kk hkk; have hkk : kk < 32 := hkk; (try dsimp only); (try split); all_goals omega)
          have gd : a.tmps.getD 48 undef = (if true then .bool ((!nm || (b7 && b17)) || b24) else undef) := by rw [if_pos rfl]; exact hF 26 (by decide) (by kernel_rfl)
          refine wpOp_onval (v := .pointer (some ⟨pc, 1, none⟩)) rfl rfl rfl rfl (by rw [hsz]; show _ < 107; omega) gd (fun e => ?_) (fun v' h' => hK _ _ h' (Moves.refl _ _))
          go_simp
          try rfl
        | 28, _ =>
          have f49 : a.tmps.getD 49 undef = (if (true && (((!nm || (b7 && b17)) || b24) == false)) then .pointer (some ⟨pc, 1, none⟩) else undef) := hF 27 (by decide) (by kernel_rfl)
          have gd : a.tmps.getD 48 undef = (if true then .bool ((!nm || (b7 && b17)) || b24) else undef) := by rw [if_pos rfl]; exact hF 26 (by decide) (by kernel_rfl)
          refine wpOp_onval (v := .slice a2 n2 c2) rfl rfl rfl rfl (by rw [hsz]; show _ < 107; omega) gd (fun e => ?_) (fun v' h' => hK _ _ h' (Moves.refl _ _))
          have e49 : a.tmps.getD 49 undef = .pointer (some ⟨pc, 1, none⟩) := by rw [f49, if_pos e]
          clear f49
          go_simp
          try rfl
        | 29, _ =>
          have f50 : a.tmps.getD 50 undef = (if (true && (((!nm || (b7 && b17)) || b24) == false)) then .slice a2 n2 c2 else undef) := hF 28 (by decide) (by kernel_rfl)
          have gd : a.tmps.getD 48 undef = (if true then .bool ((!nm || (b7 && b17)) || b24) else undef) := by rw [if_pos rfl]; exact hF 26 (by decide) (by kernel_rfl)
          refine wpOp_onval (v := .int .i64 (n2 : Int)) rfl rfl rfl rfl (by rw [hsz]; show _ < 107; omega) gd (fun e => ?_) (fun v' h' => hK _ _ h' (Moves.refl _ _))
          have e50 : a.tmps.getD 50 undef = .slice a2 n2 c2 := by rw [f50, if_pos e]
          clear f50
          go_simp
          try rfl
        | 30, _ =>
          have f51 : a.tmps.getD 51 undef = (if (true && (((!nm || (b7 && b17)) || b24) == false)) then .int .i64 (n2 : Int) else undef) := hF 29 (by decide) (by kernel_rfl)
          have gd : a.tmps.getD 48 undef = (if true then .bool ((!nm || (b7 && b17)) || b24) else undef) := by rw [if_pos rfl]; exact hF 26 (by decide) (by kernel_rfl)
          refine wpOp_onval (v := .bool b30) rfl rfl rfl rfl (by rw [hsz]; show _ < 107; omega) gd (fun e => ?_) (fun v' h' => hK _ _ h' (Moves.refl _ _))
          have e51 : a.tmps.getD 51 undef = .int .i64 (n2 : Int) := by rw [f51, if_pos e]
          clear f51
          go_simp
          try rfl
        | 31, _ =>
          have f48 : a.tmps.getD 48 undef = .bool ((!nm || (b7 && b17)) || b24) := hF 26 (by decide) (by kernel_rfl)
          have f52 : a.tmps.getD 52 undef = (if (true && (((!nm || (b7 && b17)) || b24) == false)) then .bool b30 else undef) := hF 30 (by decide) (by kernel_rfl)
          refine wpOp_val (v := .bool (((!nm || (b7 && b17)) || b24) || b30)) rfl rfl ?_ (hK _ _ rfl (Moves.refl _ _))
          cases hb : ((!nm || (b7 && b17)) || b24) with
          | false =>
            rw [hb] at f48
            have e48 : a.tmps.getD 48 undef = .bool false := f48
            clear f48
            rw [hb] at f52
            have e52 : a.tmps.getD 52 undef = .bool b30 := by rw [f52]; exact if_pos (by first | rfl | (rw [e]; rfl) | simp_all)
            clear f52
            go_simp
            try rfl
          | true =>
            rw [hb] at f48
            have e48 : a.tmps.getD 48 undef = .bool true := f48
            clear f48
            clear f52
            generalize hg52 : a.tmps.getD 52 undef = v52
            go_simp
            try rfl
        | m + 32, h => exact absurd h (by omega)
      · intro v u hall hR
        have v53 : v 53 = .bool (((!nm || (b7 && b17)) || b24) || b30) := hall 31 (by decide)
        simp only [List.foldl_cons, List.foldl_nil, List.setIfInBounds_toArray, List.set_cons_zero, List.set_cons_succ, v53]
        clear v53 hall
        generalize v 22 = u22
        generalize v 23 = u23
        generalize v 24 = u24
        generalize v 25 = u25
        generalize v 26 = u26
        generalize v 27 = u27
        generalize v 28 = u28
        generalize v 29 = u29
        generalize v 30 = u30
        generalize v 31 = u31
        generalize v 32 = u32
        generalize v 33 = u33
        generalize v 34 = u34
        generalize v 35 = u35
        generalize v 36 = u36
        generalize v 37 = u37
        generalize v 38 = u38
        generalize v 39 = u39
        generalize v 40 = u40
        generalize v 41 = u41
        generalize v 42 = u42
        generalize v 43 = u43
        generalize v 44 = u44
        generalize v 45 = u45
        generalize v 46 = u46
        generalize v 47 = u47
        generalize v 48 = u48
        generalize v 49 = u49
        generalize v 50 = u50
        generalize v 51 = u51
        generalize v 52 = u52
        have H7 : Hid (decide (0 < k) = b7) := hb7
        have H17 : Hid ((!Op.bytesLess y.toList x.name.toList) = b17) := hb17
        have H24 : Hid (decide ((n2 : Int) < 1) = b24) := hb24
        have H30 : Hid (decide ((2 : Int) < n2) = b30) := hb30
        have hMu : Moves [] w u := HM.out.then hR
        have ru := hR.cell r0
        have f1 := hR.cell b1
        have HMW : Hid (Moves [] W u) := MWc.out.then hR
        clear hb7 hb17 hb24 hb30 hprev b0 b1 r0 hR
        cases hB : (((!nm || (b7 && b17)) || b24) || b30) with
        | true =>
          have hbad : Hid (pright xs = false) := by
            refine pright_no HKX.out ?_
            unfold colGood
            rw [HX.out]
            simp only
            cases hn : pname x.name with
            | false => simp
            | true =>
              cases hpv : prightV x.l with
              | false => simp
              | true =>
                have h2 := prightV_two hpv
                have hL := HL.out
                have e24 : b24 = false := by rw [← H24.out]; exact decide_eq_false (by omega)
                have e30 : b30 = false := by rw [← H30.out]; exact decide_eq_false (by omega)
                have en : nm = true := by rw [← HP.out]; exact hn
                rw [e24, e30, en] at hB
                simp only [Bool.not_true, Bool.false_or, Bool.or_false, Bool.and_eq_true] at hB
                have e7 := H7.out
                rw [hB.1] at e7
                have hk0 : 0 < k := of_decide_eq_true e7
                have e17 := H17.out
                rw [hB.2] at e17
                obtain ⟨z, hz, hzn⟩ := HPREV.out hk0
                have hk1 : (k == 0) = false := by simp; omega
                simp only [hk1, hz, Bool.false_or, Bool.true_and, nlt, hzn]
                simpa using e17
          clear H7 H17 H24 H30
          go_wp2_with fail
          go_ret
          exact ⟨by rw [hbad.out]; rfl, hMu⟩
        | false =>
          simp only [Bool.or_eq_false_iff, Bool.not_eq_false'] at hB
          obtain ⟨⟨⟨hnm, h717⟩, h24⟩, h30⟩ := hB
          have hn2a : 1 ≤ n2 := by have := H24.out; rw [h24] at this; have := of_decide_eq_false this; omega
          have hn2b : n2 ≤ 2 := by have := H30.out; rw [h30] at this; have := of_decide_eq_false this; omega
          have HNM : Hid (pname x.name = true) := by unfold Hid; rw [HP.out, hnm]
          have HORD : Hid (0 < k → ∃ z, xs[k - 1]? = some z ∧ nlt z.name x.name = true) := by
            intro hk0
            obtain ⟨z, hz, hzn⟩ := HPREV.out hk0
            have e7 : b7 = true := by rw [← H7.out]; exact decide_eq_true hk0
            rw [e7, Bool.true_and] at h717
            have e17 := H17.out
            rw [h717] at e17
            exact ⟨z, hz, by unfold nlt; rw [hzn]; simpa using e17⟩
          clear H7 H17 H24 H30 hnm h717 h24 h30 HPREV HP
          go_wp2_with fail
          obtain ⟨w0, hw0⟩ : ∃ w0, w0 = u := ⟨_, rfl⟩
          subst hw0
          go_loopw [5] (fun i wq => ∃ j : Nat, j ≤ n2 ∧ i = .int .i64 j ∧ Moves [] w0 wq ∧ ∀ i, i < j → verGood x.l i = true) (fun i _ => n2 - (intOf i).toNat)
          case atStart => exact ⟨0, Nat.zero_le _, rfl, Moves.refl _ _, fun i hi => absurd hi (by omega)⟩
          case round =>
            obtain ⟨j, hj, rfl, mq, hallj⟩ := hrel
            have HALJ : Hid (∀ i, i < j → verGood x.l i = true) := hallj
            clear hallj
            have f1q := mq.cell f1
            by_cases hjt : j < n2
            · have hj3 : (j : Int) < n2 := by omega
              obtain ⟨z, hz⟩ : ∃ z, x.l[j]? = some z := ⟨_, List.getElem?_eq_getElem (by have := HL.out; omega)⟩
              obtain ⟨g5, off5, a6, n6, c6, rfl, v0, v1, v2, v3, hV6⟩ := HV.out.at hz
              have Mz := HMW.out.then mq
              have z0 := Mz.cell v0
              have z1 := Mz.cell v1
              have z2 := Mz.cell v2
              have z3 := Mz.cell v3
              have z2b : wr.cell? ⟨g5, off5 + j * 4 + 1 + 1, none⟩ = some (.slice a6 n6 c6) := z2
              have z3b : wr.cell? ⟨g5, off5 + j * 4 + 1 + 2, none⟩ = some (.float .f64 z.v.n) := z3
              have HVC : Hid (VA wr [.int .i64 z.v.kind, .slice a6 n6 c6, .float .f64 z.v.n] z.v) := hV6.va.moves Mz
              have HZ : Hid (x.l[j]? = some z) := hz
              obtain ⟨yt, hprev0⟩ : ∃ yt : Int, 0 < j → (∃ q, x.l[j - 1]? = some q ∧ q.t = yt) ∧ wr.cell? ⟨g5, off5 + (j - 1) * 4, none⟩ = some (.int .i64 yt) := by
                by_cases hj0 : 0 < j
                · obtain ⟨q, hq⟩ : ∃ q, x.l[j - 1]? = some q := ⟨_, List.getElem?_eq_getElem (by have := HL.out; omega)⟩
                  obtain ⟨g', off', _, _, _, eg, py0, _⟩ := HV.out.at hq
                  simp at eg
                  obtain ⟨rfl, rfl⟩ := eg
                  exact ⟨q.t, fun _ => ⟨⟨q, hq, rfl⟩, Mz.cell py0⟩⟩
                · exact ⟨0, fun h => absurd h hj0⟩
              obtain ⟨j', hj'⟩ : ∃ j', j' = j - 1 := ⟨_, rfl⟩
              rw [← hj'] at hprev0
              obtain ⟨vr, HR⟩ : ∃ vr, Hid (pvr z.v = vr) := ⟨_, rfl⟩
              obtain ⟨tl, htl⟩ : ∃ b, decide (z.t < 0) = b := ⟨_, rfl⟩
              obtain ⟨tg, htg⟩ : ∃ b, decide ((1099511627776 : Int) < z.t) = b := ⟨_, rfl⟩
              obtain ⟨j0, hj0⟩ : ∃ b, decide (0 < j) = b := ⟨_, rfl⟩
              obtain ⟨pl, hpl⟩ : ∃ b, decide (yt ≤ z.t) = b := ⟨_, rfl⟩
              have hprev : j0 = true → (j' : Int) < n2 ∧ IntKind.i64.wrap ((j : Int) - 1) = (j' : Int) ∧ wr.cell? ⟨g5, off5 + j' * 4, none⟩ = some (.int .i64 yt) := by
                intro hb
                rw [hb] at hj0
                have h0 : 0 < j := of_decide_eq_true hj0
                refine ⟨by omega, by rw [IntWalk.i64_in _ (by omega)]; omega, (hprev0 h0).2⟩
              have HPREV : Hid (0 < j → ∃ q, x.l[j - 1]? = some q ∧ q.t = yt) := fun h => by rw [← hj']; exact (hprev0 h).1
              clear v0 v1 v2 v3 hV6 hz hj' hprev0 Mz f1
              rename wr.cell? ⟨pc, 1, none⟩ = _ => b1
              go_wp2_with fail
              try (have hj3 : (j : Int) < n2 := by omega)
              refine region_ssaQ (by kernel_rfl) (fun i => i + 61) [61, 62, 63, 64, 65, 66, 67, 68, 69, 70, 71, 72, 73, 74, 75, 76, 77, 78, 79, 80, 81, 82, 83, 84, 85, 86, 87, 88, 89, 90, 91, 92, 93, 94, 95, 96, 97, 98, 99, 100, 101, 102, 103, 104, 105, 106] (fun i (_ : World) (v : Value) => match i with | 0 => v = .pointer (some ⟨pc, 1, none⟩) | 1 => v = .slice (some ⟨g5, off5, none⟩) n2 c2 | 2 => v = .int .i64 (j : Int) | 3 => v = .pointer (some ⟨g5, off5 + j * 4, none⟩) | 4 => v = .pointer (some ⟨g5, off5 + j * 4, none⟩) | 5 => v = .int .i64 z.t | 6 => v = .bool tl | 7 => v = .bool tl | 8 => v = (if (true && (tl == false)) then .pointer (some ⟨pc, 1, none⟩) else undef) | 9 => v = (if (true && (tl == false)) then .slice (some ⟨g5, off5, none⟩) n2 c2 else undef) | 10 => v = (if (true && (tl == false)) then .int .i64 (j : Int) else undef) | 11 => v = (if (true && (tl == false)) then .pointer (some ⟨g5, off5 + j * 4, none⟩) else undef) | 12 => v = (if (true && (tl == false)) then .pointer (some ⟨g5, off5 + j * 4, none⟩) else undef) | 13 => v = (if (true && (tl == false)) then .int .i64 z.t else undef) | 14 => v = (if (true && (tl == false)) then .bool tg else undef) | 15 => v = .bool (tl || tg) | 16 => v = .bool (tl || tg) | 17 => v = (if (true && ((tl || tg) == false)) then .int .i64 (j : Int) else undef) | 18 => v = (if (true && ((tl || tg) == false)) then .bool j0 else undef) | 19 => v = (if (true && ((tl || tg) == false)) then .bool j0 else undef) | 20 => v = (if ((true && ((tl || tg) == false)) && (j0 == true)) then .pointer (some ⟨pc, 1, none⟩) else undef) | 21 => v = (if ((true && ((tl || tg) == false)) && (j0 == true)) then .slice (some ⟨g5, off5, none⟩) n2 c2 else undef) | 22 => v = (if ((true && ((tl || tg) == false)) && (j0 == true)) then .int .i64 (j : Int) else undef) | 23 => v = (if ((true && ((tl || tg) == false)) && (j0 == true)) then .int .i64 (j' : Int) else undef) | 24 => v = (if ((true && ((tl || tg) == false)) && (j0 == true)) then .pointer (some ⟨g5, off5 + j' * 4, none⟩) else undef) | 25 => v = (if ((true && ((tl || tg) == false)) && (j0 == true)) then .pointer (some ⟨g5, off5 + j' * 4, none⟩) else undef) | 26 => v = (if ((true && ((tl || tg) == false)) && (j0 == true)) then .int .i64 yt else undef) | 27 => v = (if ((true && ((tl || tg) == false)) && (j0 == true)) then .pointer (some ⟨pc, 1, none⟩) else undef) | 28 => v = (if ((true && ((tl || tg) == false)) && (j0 == true)) then .slice (some ⟨g5, off5, none⟩) n2 c2 else undef) | 29 => v = (if ((true && ((tl || tg) == false)) && (j0 == true)) then .int .i64 (j : Int) else undef) | 30 => v = (if ((true && ((tl || tg) == false)) && (j0 == true)) then .pointer (some ⟨g5, off5 + j * 4, none⟩) else undef) | 31 => v = (if ((true && ((tl || tg) == false)) && (j0 == true)) then .pointer (some ⟨g5, off5 + j * 4, none⟩) else undef) | 32 => v = (if ((true && ((tl || tg) == false)) && (j0 == true)) then .int .i64 z.t else undef) | 33 => v = (if ((true && ((tl || tg) == false)) && (j0 == true)) then .bool pl else undef) | 34 => v = (if (true && ((tl || tg) == false)) then .bool (j0 && pl) else undef) | 35 => v = .bool ((tl || tg) || (j0 && pl)) | 36 => v = .bool ((tl || tg) || (j0 && pl)) | 37 => v = (if (true && (((tl || tg) || (j0 && pl)) == false)) then .pointer (some ⟨pc, 1, none⟩) else undef) | 38 => v = (if (true && (((tl || tg) || (j0 && pl)) == false)) then .slice (some ⟨g5, off5, none⟩) n2 c2 else undef) | 39 => v = (if (true && (((tl || tg) || (j0 && pl)) == false)) then .int .i64 (j : Int) else undef) | 40 => v = (if (true && (((tl || tg) || (j0 && pl)) == false)) then .pointer (some ⟨g5, off5 + j * 4, none⟩) else undef) | 41 => v = (if (true && (((tl || tg) || (j0 && pl)) == false)) then .pointer (some ⟨g5, off5 + j * 4 + 1, none⟩) else undef) | 42 => v = (if (true && (((tl || tg) || (j0 && pl)) == false)) then .agg #[.int .i64 z.v.kind, .slice a6 n6 c6, .float .f64 z.v.n] else undef) | 43 => v = (if (true && (((tl || tg) || (j0 && pl)) == false)) then .bool vr else undef) | 44 => v = (if (true && (((tl || tg) || (j0 && pl)) == false)) then .bool (!vr) else undef) | 45 => v = .bool (((tl || tg) || (j0 && pl)) || !vr) | _ => True) (Moves []) (by kernel_rfl) ?_ ?_ ?_ ((Moves.refl _ _).drew) (fun _ _ _ => Moves.then) (fun i u u' v h _ => by exact h) ?_ ?_
              · intro i hi
                have hi : i < 46 := hi
                show _ < 107
                try dsimp only
                try split
                all_goals omega
              · intro i j hi hj hne
                have hi : i < 46 := hi
                have hj : j < 46 := hj
                try dsimp only
                try split
                all_goals (try split)
                all_goals omega
              · intro i hi
                have hi : i < 46 := hi
                match i, hi with
                | 0, _ => decide
                | 1, _ => decide
                | 2, _ => decide
                | 3, _ => decide
                | 4, _ => decide
                | 5, _ => decide
                | 6, _ => decide
                | 7, _ => decide
                | 8, _ => decide
                | 9, _ => decide
                | 10, _ => decide
                | 11, _ => decide
                | 12, _ => decide
                | 13, _ => decide
                | 14, _ => decide
                | 15, _ => decide
                | 16, _ => decide
                | 17, _ => decide
                | 18, _ => decide
                | 19, _ => decide
                | 20, _ => decide
                | 21, _ => decide
                | 22, _ => decide
                | 23, _ => decide
                | 24, _ => decide
                | 25, _ => decide
                | 26, _ => decide
                | 27, _ => decide
                | 28, _ => decide
                | 29, _ => decide
                | 30, _ => decide
                | 31, _ => decide
                | 32, _ => decide
                | 33, _ => decide
                | 34, _ => decide
                | 35, _ => decide
                | 36, _ => decide
                | 37, _ => decide
                | 38, _ => decide
                | 39, _ => decide
                | 40, _ => decide
                | 41, _ => decide
                | 42, _ => decide
                | 43, _ => decide
                | 44, _ => decide
                | 45, _ => decide
                | m + 46, h => exact absurd h (by omega)
              · intro i hi a u hR hsz hold hF K hK
                have hi : i < 46 := hi
                have c_b1 := (hR).cell b1
                have c_z0 := (hR).cell z0
                have c_z1 := (hR).cell z1
                have c_z2 := (hR).cell z2
                have c_z3 := (hR).cell z3
                have c_z2b := (hR).cell z2b
                have c_z3b := (hR).cell z3b
                match i, hi with
                | 0, _ =>
                  have e4 : a.tmps.getD 4 undef = .pointer (some ⟨pc, 0, none⟩) := hold 4 (by intro kk hkk; have hkk : kk < 46 := hkk; (try dsimp only); (try split); all_goals omega)
                  refine wpOp_val (v := .pointer (some ⟨pc, 1, none⟩)) rfl rfl ?_ (hK _ _ rfl (Moves.refl _ _))
                  go_simp
                  try rfl
                | 1, _ =>
                  have f61 : a.tmps.getD 61 undef = .pointer (some ⟨pc, 1, none⟩) := hF 0 (by decide) (by kernel_rfl)
                  have e61 : a.tmps.getD 61 undef = .pointer (some ⟨pc, 1, none⟩) := f61
                  clear f61
                  refine wpOp_val (v := .slice (some ⟨g5, off5, none⟩) n2 c2) rfl rfl ?_ (hK _ _ rfl (Moves.refl _ _))
                  go_simp
                  try rfl
                | 2, _ =>
                  have e5 : a.tmps.getD 5 undef = .int .i64 (j : Int) := hold 5 (by intro kk hkk; have hkk : kk < 46 := hkk; (try dsimp only); (try split); all_goals omega)
                  refine wpOp_val (v := .int .i64 (j : Int)) rfl rfl ?_ (hK _ _ rfl (Moves.refl _ _))
                  go_simp
                  try rfl
                | 3, _ =>
                  have f62 : a.tmps.getD 62 undef = .slice (some ⟨g5, off5, none⟩) n2 c2 := hF 1 (by decide) (by kernel_rfl)
                  have f63 : a.tmps.getD 63 undef = .int .i64 (j : Int) := hF 2 (by decide) (by kernel_rfl)
                  have e62 : a.tmps.getD 62 undef = .slice (some ⟨g5, off5, none⟩) n2 c2 := f62
                  have e63 : a.tmps.getD 63 undef = .int .i64 (j : Int) := f63
                  clear f62 f63
                  refine wpOp_val (v := .pointer (some ⟨g5, off5 + j * 4, none⟩)) rfl rfl ?_ (hK _ _ rfl (Moves.refl _ _))
                  go_simp
                  try rfl
                | 4, _ =>
                  have f64 : a.tmps.getD 64 undef = .pointer (some ⟨g5, off5 + j * 4, none⟩) := hF 3 (by decide) (by kernel_rfl)
                  have e64 : a.tmps.getD 64 undef = .pointer (some ⟨g5, off5 + j * 4, none⟩) := f64
                  clear f64
                  refine wpOp_val (v := .pointer (some ⟨g5, off5 + j * 4, none⟩)) rfl rfl ?_ (hK _ _ rfl (Moves.refl _ _))
                  go_simp
                  try rfl
                | 5, _ =>
                  have f65 : a.tmps.getD 65 undef = .pointer (some ⟨g5, off5 + j * 4, none⟩) := hF 4 (by decide) (by kernel_rfl)
                  have e65 : a.tmps.getD 65 undef = .pointer (some ⟨g5, off5 + j * 4, none⟩) := f65
                  clear f65
                  refine wpOp_val (v := .int .i64 z.t) rfl rfl ?_ (hK _ _ rfl (Moves.refl _ _))
                  go_simp
                  try rfl
                | 6, _ =>
                  have f66 : a.tmps.getD 66 undef = .int .i64 z.t := hF 5 (by decide) (by kernel_rfl)
                  have e66 : a.tmps.getD 66 undef = .int .i64 z.t := f66
                  clear f66
                  refine wpOp_val (v := .bool tl) rfl rfl ?_ (hK _ _ rfl (Moves.refl _ _))
                  go_simp
                  try rfl
                | 7, _ =>
                  have f67 : a.tmps.getD 67 undef = .bool tl := hF 6 (by decide) (by kernel_rfl)
                  have e67 : a.tmps.getD 67 undef = .bool tl := f67
                  clear f67
                  refine wpOp_val (v := .bool tl) rfl rfl ?_ (hK _ _ rfl (Moves.refl _ _))
                  go_simp
                  try rfl
                | 8, _ =>
                  have e4 : a.tmps.getD 4 undef = .pointer (some ⟨pc, 0, none⟩) := hold 4 (by intro kk hkk; have hkk : kk < 46 := hkk; (try dsimp only); (try split); all_goals omega)
                  have gd : a.tmps.getD 68 undef = (if true then .bool tl else undef) := by rw [if_pos rfl]; exact hF 7 (by decide) (by kernel_rfl)
                  refine wpOp_onval (v := .pointer (some ⟨pc, 1, none⟩)) rfl rfl rfl rfl (by rw [hsz]; show _ < 107; omega) gd (fun e => ?_) (fun v' h' => hK _ _ h' (Moves.refl _ _))
                  go_simp
                  try rfl
                | 9, _ =>
                  have f69 : a.tmps.getD 69 undef = (if (true && (tl == false)) then .pointer (some ⟨pc, 1, none⟩) else undef) := hF 8 (by decide) (by kernel_rfl)
                  have gd : a.tmps.getD 68 undef = (if true then .bool tl else undef) := by rw [if_pos rfl]; exact hF 7 (by decide) (by kernel_rfl)
                  refine wpOp_onval (v := .slice (some ⟨g5, off5, none⟩) n2 c2) rfl rfl rfl rfl (by rw [hsz]; show _ < 107; omega) gd (fun e => ?_) (fun v' h' => hK _ _ h' (Moves.refl _ _))
                  have e69 : a.tmps.getD 69 undef = .pointer (some ⟨pc, 1, none⟩) := by rw [f69, if_pos e]
                  clear f69
                  go_simp
                  try rfl
                | 10, _ =>
                  have e5 : a.tmps.getD 5 undef = .int .i64 (j : Int) := hold 5 (by intro kk hkk; have hkk : kk < 46 := hkk; (try dsimp only); (try split); all_goals omega)
                  have gd : a.tmps.getD 68 undef = (if true then .bool tl else undef) := by rw [if_pos rfl]; exact hF 7 (by decide) (by kernel_rfl)
                  refine wpOp_onval (v := .int .i64 (j : Int)) rfl rfl rfl rfl (by rw [hsz]; show _ < 107; omega) gd (fun e => ?_) (fun v' h' => hK _ _ h' (Moves.refl _ _))
                  go_simp
                  try rfl
                | 11, _ =>
                  have f70 : a.tmps.getD 70 undef = (if (true && (tl == false)) then .slice (some ⟨g5, off5, none⟩) n2 c2 else undef) := hF 9 (by decide) (by kernel_rfl)
                  have f71 : a.tmps.getD 71 undef = (if (true && (tl == false)) then .int .i64 (j : Int) else undef) := hF 10 (by decide) (by kernel_rfl)
                  have gd : a.tmps.getD 68 undef = (if true then .bool tl else undef) := by rw [if_pos rfl]; exact hF 7 (by decide) (by kernel_rfl)
                  refine wpOp_onval (v := .pointer (some ⟨g5, off5 + j * 4, none⟩)) rfl rfl rfl rfl (by rw [hsz]; show _ < 107; omega) gd (fun e => ?_) (fun v' h' => hK _ _ h' (Moves.refl _ _))
                  have e70 : a.tmps.getD 70 undef = .slice (some ⟨g5, off5, none⟩) n2 c2 := by rw [f70, if_pos e]
                  have e71 : a.tmps.getD 71 undef = .int .i64 (j : Int) := by rw [f71, if_pos e]
                  clear f70 f71
                  go_simp
                  try rfl
                | 12, _ =>
                  have f72 : a.tmps.getD 72 undef = (if (true && (tl == false)) then .pointer (some ⟨g5, off5 + j * 4, none⟩) else undef) := hF 11 (by decide) (by kernel_rfl)
                  have gd : a.tmps.getD 68 undef = (if true then .bool tl else undef) := by rw [if_pos rfl]; exact hF 7 (by decide) (by kernel_rfl)
                  refine wpOp_onval (v := .pointer (some ⟨g5, off5 + j * 4, none⟩)) rfl rfl rfl rfl (by rw [hsz]; show _ < 107; omega) gd (fun e => ?_) (fun v' h' => hK _ _ h' (Moves.refl _ _))
                  have e72 : a.tmps.getD 72 undef = .pointer (some ⟨g5, off5 + j * 4, none⟩) := by rw [f72, if_pos e]
                  clear f72
                  go_simp
                  try rfl
                | 13, _ =>
                  have f73 : a.tmps.getD 73 undef = (if (true && (tl == false)) then .pointer (some ⟨g5, off5 + j * 4, none⟩) else undef) := hF 12 (by decide) (by kernel_rfl)
                  have gd : a.tmps.getD 68 undef = (if true then .bool tl else undef) := by rw [if_pos rfl]; exact hF 7 (by decide) (by kernel_rfl)
                  refine wpOp_onval (v := .int .i64 z.t) rfl rfl rfl rfl (by rw [hsz]; show _ < 107; omega) gd (fun e => ?_) (fun v' h' => hK _ _ h' (Moves.refl _ _))
                  have e73 : a.tmps.getD 73 undef = .pointer (some ⟨g5, off5 + j * 4, none⟩) := by rw [f73, if_pos e]
                  clear f73
                  go_simp
                  try rfl
                | 14, _ =>
                  have f74 : a.tmps.getD 74 undef = (if (true && (tl == false)) then .int .i64 z.t else undef) := hF 13 (by decide) (by kernel_rfl)
                  have gd : a.tmps.getD 68 undef = (if true then .bool tl else undef) := by rw [if_pos rfl]; exact hF 7 (by decide) (by kernel_rfl)
                  refine wpOp_onval (v := .bool tg) rfl rfl rfl rfl (by rw [hsz]; show _ < 107; omega) gd (fun e => ?_) (fun v' h' => hK _ _ h' (Moves.refl _ _))
                  have e74 : a.tmps.getD 74 undef = .int .i64 z.t := by rw [f74, if_pos e]
                  clear f74
                  go_simp
                  try rfl
                | 15, _ =>
                  have f68 : a.tmps.getD 68 undef = .bool tl := hF 7 (by decide) (by kernel_rfl)
                  have f75 : a.tmps.getD 75 undef = (if (true && (tl == false)) then .bool tg else undef) := hF 14 (by decide) (by kernel_rfl)
                  refine wpOp_val (v := .bool (tl || tg)) rfl rfl ?_ (hK _ _ rfl (Moves.refl _ _))
                  cases hb : tl with
                  | false =>
                    rw [hb] at f68
                    have e68 : a.tmps.getD 68 undef = .bool false := f68
                    clear f68
                    rw [hb] at f75
                    have e75 : a.tmps.getD 75 undef = .bool tg := by rw [f75]; exact if_pos (by first | rfl | (rw [e]; rfl) | simp_all)
                    clear f75
                    go_simp
                    try rfl
                  | true =>
                    rw [hb] at f68
                    have e68 : a.tmps.getD 68 undef = .bool true := f68
                    clear f68
                    clear f75
                    generalize hg75 : a.tmps.getD 75 undef = v75
                    go_simp
                    try rfl
                | 16, _ =>
                  have f76 : a.tmps.getD 76 undef = .bool (tl || tg) := hF 15 (by decide) (by kernel_rfl)
                  have e76 : a.tmps.getD 76 undef = .bool (tl || tg) := f76
                  clear f76
                  refine wpOp_val (v := .bool (tl || tg)) rfl rfl ?_ (hK _ _ rfl (Moves.refl _ _))
                  go_simp
                  try rfl
                | 17, _ =>
                  have e5 : a.tmps.getD 5 undef = .int .i64 (j : Int) := hold 5 (by intro kk hkk; have hkk : kk < 46 := hkk; (try dsimp only); (try split); all_goals omega)
                  have gd : a.tmps.getD 77 undef = (if true then .bool (tl || tg) else undef) := by rw [if_pos rfl]; exact hF 16 (by decide) (by kernel_rfl)
                  refine wpOp_onval (v := .int .i64 (j : Int)) rfl rfl rfl rfl (by rw [hsz]; show _ < 107; omega) gd (fun e => ?_) (fun v' h' => hK _ _ h' (Moves.refl _ _))
                  go_simp
                  try rfl
                | 18, _ =>
                  have f78 : a.tmps.getD 78 undef = (if (true && ((tl || tg) == false)) then .int .i64 (j : Int) else undef) := hF 17 (by decide) (by kernel_rfl)
                  have gd : a.tmps.getD 77 undef = (if true then .bool (tl || tg) else undef) := by rw [if_pos rfl]; exact hF 16 (by decide) (by kernel_rfl)
                  refine wpOp_onval (v := .bool j0) rfl rfl rfl rfl (by rw [hsz]; show _ < 107; omega) gd (fun e => ?_) (fun v' h' => hK _ _ h' (Moves.refl _ _))
                  have e78 : a.tmps.getD 78 undef = .int .i64 (j : Int) := by rw [f78, if_pos e]
                  clear f78
                  go_simp
                  try rfl
                | 19, _ =>
                  have f79 : a.tmps.getD 79 undef = (if (true && ((tl || tg) == false)) then .bool j0 else undef) := hF 18 (by decide) (by kernel_rfl)
                  have gd : a.tmps.getD 77 undef = (if true then .bool (tl || tg) else undef) := by rw [if_pos rfl]; exact hF 16 (by decide) (by kernel_rfl)
                  refine wpOp_onval (v := .bool j0) rfl rfl rfl rfl (by rw [hsz]; show _ < 107; omega) gd (fun e => ?_) (fun v' h' => hK _ _ h' (Moves.refl _ _))
                  have e79 : a.tmps.getD 79 undef = .bool j0 := by rw [f79, if_pos e]
                  clear f79
                  go_simp
                  try rfl
                | 20, _ =>
                  have e4 : a.tmps.getD 4 undef = .pointer (some ⟨pc, 0, none⟩) := hold 4 (by intro kk hkk; have hkk : kk < 46 := hkk; (try dsimp only); (try split); all_goals omega)
                  have gd : a.tmps.getD 80 undef = (if (true && ((tl || tg) == false)) then .bool j0 else undef) := (hF 19 (by decide) (by kernel_rfl))
                  refine wpOp_onval (v := .pointer (some ⟨pc, 1, none⟩)) rfl rfl rfl rfl (by rw [hsz]; show _ < 107; omega) gd (fun e => ?_) (fun v' h' => hK _ _ h' (Moves.refl _ _))
                  go_simp
                  try rfl
                | 21, _ =>
                  have f81 : a.tmps.getD 81 undef = (if ((true && ((tl || tg) == false)) && (j0 == true)) then .pointer (some ⟨pc, 1, none⟩) else undef) := hF 20 (by decide) (by kernel_rfl)
                  have gd : a.tmps.getD 80 undef = (if (true && ((tl || tg) == false)) then .bool j0 else undef) := (hF 19 (by decide) (by kernel_rfl))
                  refine wpOp_onval (v := .slice (some ⟨g5, off5, none⟩) n2 c2) rfl rfl rfl rfl (by rw [hsz]; show _ < 107; omega) gd (fun e => ?_) (fun v' h' => hK _ _ h' (Moves.refl _ _))
                  have e81 : a.tmps.getD 81 undef = .pointer (some ⟨pc, 1, none⟩) := by rw [f81, if_pos e]
                  clear f81
                  have hpos := hprev (by cases hj0 : j0 with | true => rfl | false => rw [hj0] at e; simp at e); have c_py := hR.cell hpos.2.2; have hk1 := hpos.1; have hw1 := hpos.2.1
                  go_simp
                  try rfl
                | 22, _ =>
                  have e5 : a.tmps.getD 5 undef = .int .i64 (j : Int) := hold 5 (by intro kk hkk; have hkk : kk < 46 := hkk; (try dsimp only); (try split); all_goals omega)
                  have gd : a.tmps.getD 80 undef = (if (true && ((tl || tg) == false)) then .bool j0 else undef) := (hF 19 (by decide) (by kernel_rfl))
                  refine wpOp_onval (v := .int .i64 (j : Int)) rfl rfl rfl rfl (by rw [hsz]; show _ < 107; omega) gd (fun e => ?_) (fun v' h' => hK _ _ h' (Moves.refl _ _))
                  go_simp
                  try rfl
                | 23, _ =>
                  have f83 : a.tmps.getD 83 undef = (if ((true && ((tl || tg) == false)) && (j0 == true)) then .int .i64 (j : Int) else undef) := hF 22 (by decide) (by kernel_rfl)
                  have gd : a.tmps.getD 80 undef = (if (true && ((tl || tg) == false)) then .bool j0 else undef) := (hF 19 (by decide) (by kernel_rfl))
                  refine wpOp_onval (v := .int .i64 (j' : Int)) rfl rfl rfl rfl (by rw [hsz]; show _ < 107; omega) gd (fun e => ?_) (fun v' h' => hK _ _ h' (Moves.refl _ _))
                  have e83 : a.tmps.getD 83 undef = .int .i64 (j : Int) := by rw [f83, if_pos e]
                  clear f83
                  have hpos := hprev (by cases hj0 : j0 with | true => rfl | false => rw [hj0] at e; simp at e); have c_py := hR.cell hpos.2.2; have hk1 := hpos.1; have hw1 := hpos.2.1
                  go_simp
                  try rfl
                | 24, _ =>
                  have f82 : a.tmps.getD 82 undef = (if ((true && ((tl || tg) == false)) && (j0 == true)) then .slice (some ⟨g5, off5, none⟩) n2 c2 else undef) := hF 21 (by decide) (by kernel_rfl)
                  have f84 : a.tmps.getD 84 undef = (if ((true && ((tl || tg) == false)) && (j0 == true)) then .int .i64 (j' : Int) else undef) := hF 23 (by decide) (by kernel_rfl)
                  have gd : a.tmps.getD 80 undef = (if (true && ((tl || tg) == false)) then .bool j0 else undef) := (hF 19 (by decide) (by kernel_rfl))
                  refine wpOp_onval (v := .pointer (some ⟨g5, off5 + j' * 4, none⟩)) rfl rfl rfl rfl (by rw [hsz]; show _ < 107; omega) gd (fun e => ?_) (fun v' h' => hK _ _ h' (Moves.refl _ _))
                  have e82 : a.tmps.getD 82 undef = .slice (some ⟨g5, off5, none⟩) n2 c2 := by rw [f82, if_pos e]
                  have e84 : a.tmps.getD 84 undef = .int .i64 (j' : Int) := by rw [f84, if_pos e]
                  clear f82 f84
                  have hpos := hprev (by cases hj0 : j0 with | true => rfl | false => rw [hj0] at e; simp at e); have c_py := hR.cell hpos.2.2; have hk1 := hpos.1; have hw1 := hpos.2.1
                  go_simp
                  try rfl
                | 25, _ =>
                  have f85 : a.tmps.getD 85 undef = (if ((true && ((tl || tg) == false)) && (j0 == true)) then .pointer (some ⟨g5, off5 + j' * 4, none⟩) else undef) := hF 24 (by decide) (by kernel_rfl)
                  have gd : a.tmps.getD 80 undef = (if (true && ((tl || tg) == false)) then .bool j0 else undef) := (hF 19 (by decide) (by kernel_rfl))
                  refine wpOp_onval (v := .pointer (some ⟨g5, off5 + j' * 4, none⟩)) rfl rfl rfl rfl (by rw [hsz]; show _ < 107; omega) gd (fun e => ?_) (fun v' h' => hK _ _ h' (Moves.refl _ _))
                  have e85 : a.tmps.getD 85 undef = .pointer (some ⟨g5, off5 + j' * 4, none⟩) := by rw [f85, if_pos e]
                  clear f85
                  go_simp
                  try rfl
                | 26, _ =>
                  have f86 : a.tmps.getD 86 undef = (if ((true && ((tl || tg) == false)) && (j0 == true)) then .pointer (some ⟨g5, off5 + j' * 4, none⟩) else undef) := hF 25 (by decide) (by kernel_rfl)
                  have gd : a.tmps.getD 80 undef = (if (true && ((tl || tg) == false)) then .bool j0 else undef) := (hF 19 (by decide) (by kernel_rfl))
                  refine wpOp_onval (v := .int .i64 yt) rfl rfl rfl rfl (by rw [hsz]; show _ < 107; omega) gd (fun e => ?_) (fun v' h' => hK _ _ h' (Moves.refl _ _))
                  have e86 : a.tmps.getD 86 undef = .pointer (some ⟨g5, off5 + j' * 4, none⟩) := by rw [f86, if_pos e]
                  clear f86
                  have hpos := hprev (by cases hj0 : j0 with | true => rfl | false => rw [hj0] at e; simp at e); have c_py := hR.cell hpos.2.2; have hk1 := hpos.1; have hw1 := hpos.2.1
                  go_simp
                  try rfl
                | 27, _ =>
                  have e4 : a.tmps.getD 4 undef = .pointer (some ⟨pc, 0, none⟩) := hold 4 (by intro kk hkk; have hkk : kk < 46 := hkk; (try dsimp only); (try split); all_goals omega)
                  have gd : a.tmps.getD 80 undef = (if (true && ((tl || tg) == false)) then .bool j0 else undef) := (hF 19 (by decide) (by kernel_rfl))
                  refine wpOp_onval (v := .pointer (some ⟨pc, 1, none⟩)) rfl rfl rfl rfl (by rw [hsz]; show _ < 107; omega) gd (fun e => ?_) (fun v' h' => hK _ _ h' (Moves.refl _ _))
                  go_simp
                  try rfl
                | 28, _ =>
                  have f88 : a.tmps.getD 88 undef = (if ((true && ((tl || tg) == false)) && (j0 == true)) then .pointer (some ⟨pc, 1, none⟩) else undef) := hF 27 (by decide) (by kernel_rfl)
                  have gd : a.tmps.getD 80 undef = (if (true && ((tl || tg) == false)) then .bool j0 else undef) := (hF 19 (by decide) (by kernel_rfl))
                  refine wpOp_onval (v := .slice (some ⟨g5, off5, none⟩) n2 c2) rfl rfl rfl rfl (by rw [hsz]; show _ < 107; omega) gd (fun e => ?_) (fun v' h' => hK _ _ h' (Moves.refl _ _))
                  have e88 : a.tmps.getD 88 undef = .pointer (some ⟨pc, 1, none⟩) := by rw [f88, if_pos e]
                  clear f88
                  have hpos := hprev (by cases hj0 : j0 with | true => rfl | false => rw [hj0] at e; simp at e); have c_py := hR.cell hpos.2.2; have hk1 := hpos.1; have hw1 := hpos.2.1
                  go_simp
                  try rfl
                | 29, _ =>
                  have e5 : a.tmps.getD 5 undef = .int .i64 (j : Int) := hold 5 (by intro kk hkk; have hkk : kk < 46 := hkk; (try dsimp only); (try split); all_goals omega)
                  have gd : a.tmps.getD 80 undef = (if (true && ((tl || tg) == false)) then .bool j0 else undef) := (hF 19 (by decide) (by kernel_rfl))
                  refine wpOp_onval (v := .int .i64 (j : Int)) rfl rfl rfl rfl (by rw [hsz]; show _ < 107; omega) gd (fun e => ?_) (fun v' h' => hK _ _ h' (Moves.refl _ _))
                  go_simp
                  try rfl
                | 30, _ =>
                  have f89 : a.tmps.getD 89 undef = (if ((true && ((tl || tg) == false)) && (j0 == true)) then .slice (some ⟨g5, off5, none⟩) n2 c2 else undef) := hF 28 (by decide) (by kernel_rfl)
                  have f90 : a.tmps.getD 90 undef = (if ((true && ((tl || tg) == false)) && (j0 == true)) then .int .i64 (j : Int) else undef) := hF 29 (by decide) (by kernel_rfl)
                  have gd : a.tmps.getD 80 undef = (if (true && ((tl || tg) == false)) then .bool j0 else undef) := (hF 19 (by decide) (by kernel_rfl))
                  refine wpOp_onval (v := .pointer (some ⟨g5, off5 + j * 4, none⟩)) rfl rfl rfl rfl (by rw [hsz]; show _ < 107; omega) gd (fun e => ?_) (fun v' h' => hK _ _ h' (Moves.refl _ _))
                  have e89 : a.tmps.getD 89 undef = .slice (some ⟨g5, off5, none⟩) n2 c2 := by rw [f89, if_pos e]
                  have e90 : a.tmps.getD 90 undef = .int .i64 (j : Int) := by rw [f90, if_pos e]
                  clear f89 f90
                  have hpos := hprev (by cases hj0 : j0 with | true => rfl | false => rw [hj0] at e; simp at e); have c_py := hR.cell hpos.2.2; have hk1 := hpos.1; have hw1 := hpos.2.1
                  go_simp
                  try rfl
                | 31, _ =>
                  have f91 : a.tmps.getD 91 undef = (if ((true && ((tl || tg) == false)) && (j0 == true)) then .pointer (some ⟨g5, off5 + j * 4, none⟩) else undef) := hF 30 (by decide) (by kernel_rfl)
                  have gd : a.tmps.getD 80 undef = (if (true && ((tl || tg) == false)) then .bool j0 else undef) := (hF 19 (by decide) (by kernel_rfl))
                  refine wpOp_onval (v := .pointer (some ⟨g5, off5 + j * 4, none⟩)) rfl rfl rfl rfl (by rw [hsz]; show _ < 107; omega) gd (fun e => ?_) (fun v' h' => hK _ _ h' (Moves.refl _ _))
                  have e91 : a.tmps.getD 91 undef = .pointer (some ⟨g5, off5 + j * 4, none⟩) := by rw [f91, if_pos e]
                  clear f91
                  go_simp
                  try rfl
                | 32, _ =>
                  have f92 : a.tmps.getD 92 undef = (if ((true && ((tl || tg) == false)) && (j0 == true)) then .pointer (some ⟨g5, off5 + j * 4, none⟩) else undef) := hF 31 (by decide) (by kernel_rfl)
                  have gd : a.tmps.getD 80 undef = (if (true && ((tl || tg) == false)) then .bool j0 else undef) := (hF 19 (by decide) (by kernel_rfl))
                  refine wpOp_onval (v := .int .i64 z.t) rfl rfl rfl rfl (by rw [hsz]; show _ < 107; omega) gd (fun e => ?_) (fun v' h' => hK _ _ h' (Moves.refl _ _))
                  have e92 : a.tmps.getD 92 undef = .pointer (some ⟨g5, off5 + j * 4, none⟩) := by rw [f92, if_pos e]
                  clear f92
                  have hpos := hprev (by cases hj0 : j0 with | true => rfl | false => rw [hj0] at e; simp at e); have c_py := hR.cell hpos.2.2; have hk1 := hpos.1; have hw1 := hpos.2.1
                  go_simp
                  try rfl
                | 33, _ =>
                  have f87 : a.tmps.getD 87 undef = (if ((true && ((tl || tg) == false)) && (j0 == true)) then .int .i64 yt else undef) := hF 26 (by decide) (by kernel_rfl)
                  have f93 : a.tmps.getD 93 undef = (if ((true && ((tl || tg) == false)) && (j0 == true)) then .int .i64 z.t else undef) := hF 32 (by decide) (by kernel_rfl)
                  have gd : a.tmps.getD 80 undef = (if (true && ((tl || tg) == false)) then .bool j0 else undef) := (hF 19 (by decide) (by kernel_rfl))
                  refine wpOp_onval (v := .bool pl) rfl rfl rfl rfl (by rw [hsz]; show _ < 107; omega) gd (fun e => ?_) (fun v' h' => hK _ _ h' (Moves.refl _ _))
                  have e87 : a.tmps.getD 87 undef = .int .i64 yt := by rw [f87, if_pos e]
                  have e93 : a.tmps.getD 93 undef = .int .i64 z.t := by rw [f93, if_pos e]
                  clear f87 f93
                  have hpos := hprev (by cases hj0 : j0 with | true => rfl | false => rw [hj0] at e; simp at e); have c_py := hR.cell hpos.2.2; have hk1 := hpos.1; have hw1 := hpos.2.1
                  go_simp
                  try rfl
                | 34, _ =>
                  have f80 : a.tmps.getD 80 undef = (if (true && ((tl || tg) == false)) then .bool j0 else undef) := hF 19 (by decide) (by kernel_rfl)
                  have f94 : a.tmps.getD 94 undef = (if ((true && ((tl || tg) == false)) && (j0 == true)) then .bool pl else undef) := hF 33 (by decide) (by kernel_rfl)
                  have gd : a.tmps.getD 77 undef = (if true then .bool (tl || tg) else undef) := by rw [if_pos rfl]; exact hF 16 (by decide) (by kernel_rfl)
                  refine wpOp_onval (v := .bool (j0 && pl)) rfl rfl rfl rfl (by rw [hsz]; show _ < 107; omega) gd (fun e => ?_) (fun v' h' => hK _ _ h' (Moves.refl _ _))
                  rw [if_pos e] at f80
                  cases hb : j0 with
                  | false =>
                    rw [hb] at f80
                    have e80 : a.tmps.getD 80 undef = .bool false := f80
                    clear f80
                    clear f94
                    generalize hg94 : a.tmps.getD 94 undef = v94
                    go_simp
                    try rfl
                  | true =>
                    rw [hb] at f80
                    have e80 : a.tmps.getD 80 undef = .bool true := f80
                    clear f80
                    rw [hb] at f94
                    have e94 : a.tmps.getD 94 undef = .bool pl := by rw [f94]; exact if_pos (by first | rfl | (rw [e]; rfl) | simp_all)
                    clear f94
                    go_simp
                    try rfl
                | 35, _ =>
                  have f77 : a.tmps.getD 77 undef = .bool (tl || tg) := hF 16 (by decide) (by kernel_rfl)
                  have f95 : a.tmps.getD 95 undef = (if (true && ((tl || tg) == false)) then .bool (j0 && pl) else undef) := hF 34 (by decide) (by kernel_rfl)
                  refine wpOp_val (v := .bool ((tl || tg) || (j0 && pl))) rfl rfl ?_ (hK _ _ rfl (Moves.refl _ _))
                  cases hb : (tl || tg) with
                  | false =>
                    rw [hb] at f77
                    have e77 : a.tmps.getD 77 undef = .bool false := f77
                    clear f77
                    rw [hb] at f95
                    have e95 : a.tmps.getD 95 undef = .bool (j0 && pl) := by rw [f95]; exact if_pos (by first | rfl | (rw [e]; rfl) | simp_all)
                    clear f95
                    go_simp
                    try rfl
                  | true =>
                    rw [hb] at f77
                    have e77 : a.tmps.getD 77 undef = .bool true := f77
                    clear f77
                    clear f95
                    generalize hg95 : a.tmps.getD 95 undef = v95
                    go_simp
                    try rfl
                | 36, _ =>
                  have f96 : a.tmps.getD 96 undef = .bool ((tl || tg) || (j0 && pl)) := hF 35 (by decide) (by kernel_rfl)
                  have e96 : a.tmps.getD 96 undef = .bool ((tl || tg) || (j0 && pl)) := f96
                  clear f96
                  refine wpOp_val (v := .bool ((tl || tg) || (j0 && pl))) rfl rfl ?_ (hK _ _ rfl (Moves.refl _ _))
                  go_simp
                  try rfl
                | 37, _ =>
                  have e4 : a.tmps.getD 4 undef = .pointer (some ⟨pc, 0, none⟩) := hold 4 (by intro kk hkk; have hkk : kk < 46 := hkk; (try dsimp only); (try split); all_goals omega)
                  have gd : a.tmps.getD 97 undef = (if true then .bool ((tl || tg) || (j0 && pl)) else undef) := by rw [if_pos rfl]; exact hF 36 (by decide) (by kernel_rfl)
                  refine wpOp_onval (v := .pointer (some ⟨pc, 1, none⟩)) rfl rfl rfl rfl (by rw [hsz]; show _ < 107; omega) gd (fun e => ?_) (fun v' h' => hK _ _ h' (Moves.refl _ _))
                  go_simp
                  try rfl
                | 38, _ =>
                  have f98 : a.tmps.getD 98 undef = (if (true && (((tl || tg) || (j0 && pl)) == false)) then .pointer (some ⟨pc, 1, none⟩) else undef) := hF 37 (by decide) (by kernel_rfl)
                  have gd : a.tmps.getD 97 undef = (if true then .bool ((tl || tg) || (j0 && pl)) else undef) := by rw [if_pos rfl]; exact hF 36 (by decide) (by kernel_rfl)
                  refine wpOp_onval (v := .slice (some ⟨g5, off5, none⟩) n2 c2) rfl rfl rfl rfl (by rw [hsz]; show _ < 107; omega) gd (fun e => ?_) (fun v' h' => hK _ _ h' (Moves.refl _ _))
                  have e98 : a.tmps.getD 98 undef = .pointer (some ⟨pc, 1, none⟩) := by rw [f98, if_pos e]
                  clear f98
                  go_simp
                  try rfl
                | 39, _ =>
                  have e5 : a.tmps.getD 5 undef = .int .i64 (j : Int) := hold 5 (by intro kk hkk; have hkk : kk < 46 := hkk; (try dsimp only); (try split); all_goals omega)
                  have gd : a.tmps.getD 97 undef = (if true then .bool ((tl || tg) || (j0 && pl)) else undef) := by rw [if_pos rfl]; exact hF 36 (by decide) (by kernel_rfl)
                  refine wpOp_onval (v := .int .i64 (j : Int)) rfl rfl rfl rfl (by rw [hsz]; show _ < 107; omega) gd (fun e => ?_) (fun v' h' => hK _ _ h' (Moves.refl _ _))
                  go_simp
                  try rfl
                | 40, _ =>
                  have f99 : a.tmps.getD 99 undef = (if (true && (((tl || tg) || (j0 && pl)) == false)) then .slice (some ⟨g5, off5, none⟩) n2 c2 else undef) := hF 38 (by decide) (by kernel_rfl)
                  have f100 : a.tmps.getD 100 undef = (if (true && (((tl || tg) || (j0 && pl)) == false)) then .int .i64 (j : Int) else undef) := hF 39 (by decide) (by kernel_rfl)
                  have gd : a.tmps.getD 97 undef = (if true then .bool ((tl || tg) || (j0 && pl)) else undef) := by rw [if_pos rfl]; exact hF 36 (by decide) (by kernel_rfl)
                  refine wpOp_onval (v := .pointer (some ⟨g5, off5 + j * 4, none⟩)) rfl rfl rfl rfl (by rw [hsz]; show _ < 107; omega) gd (fun e => ?_) (fun v' h' => hK _ _ h' (Moves.refl _ _))
                  have e99 : a.tmps.getD 99 undef = .slice (some ⟨g5, off5, none⟩) n2 c2 := by rw [f99, if_pos e]
                  have e100 : a.tmps.getD 100 undef = .int .i64 (j : Int) := by rw [f100, if_pos e]
                  clear f99 f100
                  go_simp
                  try rfl
                | 41, _ =>
                  have f101 : a.tmps.getD 101 undef = (if (true && (((tl || tg) || (j0 && pl)) == false)) then .pointer (some ⟨g5, off5 + j * 4, none⟩) else undef) := hF 40 (by decide) (by kernel_rfl)
                  have gd : a.tmps.getD 97 undef = (if true then .bool ((tl || tg) || (j0 && pl)) else undef) := by rw [if_pos rfl]; exact hF 36 (by decide) (by kernel_rfl)
                  refine wpOp_onval (v := .pointer (some ⟨g5, off5 + j * 4 + 1, none⟩)) rfl rfl rfl rfl (by rw [hsz]; show _ < 107; omega) gd (fun e => ?_) (fun v' h' => hK _ _ h' (Moves.refl _ _))
                  have e101 : a.tmps.getD 101 undef = .pointer (some ⟨g5, off5 + j * 4, none⟩) := by rw [f101, if_pos e]
                  clear f101
                  go_simp
                  try rfl
                | 42, _ =>
                  have f102 : a.tmps.getD 102 undef = (if (true && (((tl || tg) || (j0 && pl)) == false)) then .pointer (some ⟨g5, off5 + j * 4 + 1, none⟩) else undef) := hF 41 (by decide) (by kernel_rfl)
                  have gd : a.tmps.getD 97 undef = (if true then .bool ((tl || tg) || (j0 && pl)) else undef) := by rw [if_pos rfl]; exact hF 36 (by decide) (by kernel_rfl)
                  refine wpOp_onval (v := .agg #[.int .i64 z.v.kind, .slice a6 n6 c6, .float .f64 z.v.n]) rfl rfl rfl rfl (by rw [hsz]; show _ < 107; omega) gd (fun e => ?_) (fun v' h' => hK _ _ h' (Moves.refl _ _))
                  have e102 : a.tmps.getD 102 undef = .pointer (some ⟨g5, off5 + j * 4 + 1, none⟩) := by rw [f102, if_pos e]
                  clear f102
                  go_simp
                  try rfl
                | 43, _ =>
                  have f103 : a.tmps.getD 103 undef = (if (true && (((tl || tg) || (j0 && pl)) == false)) then .agg #[.int .i64 z.v.kind, .slice a6 n6 c6, .float .f64 z.v.n] else undef) := hF 42 (by decide) (by kernel_rfl)
                  have gd : a.tmps.getD 97 undef = (if true then .bool ((tl || tg) || (j0 && pl)) else undef) := by rw [if_pos rfl]; exact hF 36 (by decide) (by kernel_rfl)
                  refine wpOp_on rfl rfl rfl rfl (by rw [hsz]; show _ < 107; omega) gd (fun e => ?_) (fun e => hK undef _ (by rw [e]; rfl) (Moves.refl _ _))
                  have e103 : a.tmps.getD 103 undef = .agg #[.int .i64 z.v.kind, .slice a6 n6 c6, .float .f64 z.v.n] := by rw [f103, if_pos e]
                  clear f103
                  go_simp
                  (go_at_call 33; refine (rright4_w u _ _ _ _ _ _ z.v (HVC.out.moves hR) (Moves.refl _ _)).mono ?_; rintro _ u5 ⟨rfl, m5⟩; rw [HR.out]; exact hK _ _ (by rw [e]; rfl) m5)
                | 44, _ =>
                  have f104 : a.tmps.getD 104 undef = (if (true && (((tl || tg) || (j0 && pl)) == false)) then .bool vr else undef) := hF 43 (by decide) (by kernel_rfl)
                  have gd : a.tmps.getD 97 undef = (if true then .bool ((tl || tg) || (j0 && pl)) else undef) := by rw [if_pos rfl]; exact hF 36 (by decide) (by kernel_rfl)
                  refine wpOp_onval (v := .bool (!vr)) rfl rfl rfl rfl (by rw [hsz]; show _ < 107; omega) gd (fun e => ?_) (fun v' h' => hK _ _ h' (Moves.refl _ _))
                  have e104 : a.tmps.getD 104 undef = .bool vr := by rw [f104, if_pos e]
                  clear f104
                  go_simp
                  try rfl
                | 45, _ =>
                  have f97 : a.tmps.getD 97 undef = .bool ((tl || tg) || (j0 && pl)) := hF 36 (by decide) (by kernel_rfl)
                  have f105 : a.tmps.getD 105 undef = (if (true && (((tl || tg) || (j0 && pl)) == false)) then .bool (!vr) else undef) := hF 44 (by decide) (by kernel_rfl)
                  refine wpOp_val (v := .bool (((tl || tg) || (j0 && pl)) || !vr)) rfl rfl ?_ (hK _ _ rfl (Moves.refl _ _))
                  cases hb : ((tl || tg) || (j0 && pl)) with
                  | false =>
                    rw [hb] at f97
                    have e97 : a.tmps.getD 97 undef = .bool false := f97
                    clear f97
                    rw [hb] at f105
                    have e105 : a.tmps.getD 105 undef = .bool (!vr) := by rw [f105]; exact if_pos (by first | rfl | (rw [e]; rfl) | simp_all)
                    clear f105
                    go_simp
                    try rfl
                  | true =>
                    rw [hb] at f97
                    have e97 : a.tmps.getD 97 undef = .bool true := f97
                    clear f97
                    clear f105
                    generalize hg105 : a.tmps.getD 105 undef = v105
                    go_simp
                    try rfl
                | m + 46, h => exact absurd h (by omega)
              intro v u hall hR
              have v106 : v 106 = .bool (((tl || tg) || (j0 && pl)) || !vr) := hall 45 (by decide)
              simp only [List.foldl_cons, List.foldl_nil, List.setIfInBounds_toArray, List.set_cons_zero, List.set_cons_succ, v106]
              clear v106 hall
              generalize v 61 = u61
              generalize v 62 = u62
              generalize v 63 = u63
              generalize v 64 = u64
              generalize v 65 = u65
              generalize v 66 = u66
              generalize v 67 = u67
              generalize v 68 = u68
              generalize v 69 = u69
              generalize v 70 = u70
              generalize v 71 = u71
              generalize v 72 = u72
              generalize v 73 = u73
              generalize v 74 = u74
              generalize v 75 = u75
              generalize v 76 = u76
              generalize v 77 = u77
              generalize v 78 = u78
              generalize v 79 = u79
              generalize v 80 = u80
              generalize v 81 = u81
              generalize v 82 = u82
              generalize v 83 = u83
              generalize v 84 = u84
              generalize v 85 = u85
              generalize v 86 = u86
              generalize v 87 = u87
              generalize v 88 = u88
              generalize v 89 = u89
              generalize v 90 = u90
              generalize v 91 = u91
              generalize v 92 = u92
              generalize v 93 = u93
              generalize v 94 = u94
              generalize v 95 = u95
              generalize v 96 = u96
              generalize v 97 = u97
              generalize v 98 = u98
              generalize v 99 = u99
              generalize v 100 = u100
              generalize v 101 = u101
              generalize v 102 = u102
              generalize v 103 = u103
              generalize v 104 = u104
              generalize v 105 = u105
              have HTL : Hid (decide (z.t < 0) = tl) := htl
              have HTG : Hid (decide ((1099511627776 : Int) < z.t) = tg) := htg
              have HJ0 : Hid (decide (0 < j) = j0) := hj0
              have HPL : Hid (decide (yt ≤ z.t) = pl) := hpl
              have mqu := mq.then hR
              clear htl htg hj0 hpl hprev z0 z1 z2 z3 z2b z3b hR
              have hvg : verGood x.l j = (!(((tl || tg) || (j0 && pl)) || !vr)) := by
                unfold verGood
                rw [HZ.out]
                simp only
                have e1 : ptime z.t = (!(tl || tg)) := by
                  unfold ptime
                  rw [← HTL.out, ← HTG.out]
                  by_cases q1 : z.t < 0 <;> by_cases q2 : (1099511627776 : Int) < z.t <;> simp [q1, q2] <;> omega
                rw [e1, HR.out, ← HJ0.out, ← HPL.out]
                by_cases q1 : 0 < j
                · obtain ⟨q, hq, rfl⟩ := HPREV.out q1
                  have hj1 : (j == 0) = false := by simp; omega
                  have e3 : decide (z.t < q.t) = !decide (q.t ≤ z.t) := by by_cases q2 : q.t ≤ z.t <;> simp [q2] <;> omega
                  rw [hq, hj1, decide_eq_true q1]
                  simp only [e3]
                  generalize decide (q.t ≤ z.t) = pl'
                  cases tl <;> cases tg <;> cases pl' <;> cases vr <;> rfl
                · have hj1 : (j == 0) = true := by simp; omega
                  rw [hj1, decide_eq_false q1]
                  cases tl <;> cases tg <;> cases vr <;> rfl
              have HVG : Hid (verGood x.l j = (!(((tl || tg) || (j0 && pl)) || !vr))) := hvg
              clear hvg HTL HTG HJ0 HPL HPREV HR
              cases hB : (((tl || tg) || (j0 && pl)) || !vr) with
              | true =>
                have hbad : Hid (pright xs = false) := by
                  refine pright_no HKX.out ?_
                  unfold colGood
                  rw [HX.out]
                  have : prightV x.l = false := prightV_no (k := j) (by have := HL.out; omega) (by rw [HVG.out, hB]; rfl)
                  simp [this]
                go_wp2_with fail
                go_ret
                exact ⟨by rw [hbad.out]; rfl, hMu.then mqu⟩
              | false =>
                go_wp2_with fail
                go_roundw
                case rel => exact ⟨j + 1, by omega, by go_num, mqu, fun i hi => by rcases Nat.lt_succ_iff_lt_or_eq.1 hi with h | h; exact HALJ.out i h; rw [h, HVG.out, hB]; rfl⟩
                case measure => simp [intOf]; omega
            · have hj3 : ¬ (j : Int) < n2 := by omega
              have hgood : colGood xs k = true := by
                unfold colGood
                rw [HX.out]
                have h1 : prightV x.l = true := prightV_yes (by have := HL.out; omega) (by have := HL.out; omega) (fun i hi => HALJ.out i (by have := HL.out; omega))
                simp only [HNM.out, h1, Bool.true_and]
                by_cases q1 : 0 < k
                · obtain ⟨q, hq, hlt'⟩ := HORD.out q1
                  simp [hq, hlt']
                · have : k = 0 := by omega
                  subst this
                  rfl
              have HGOOD : Hid (colGood xs k = true) := hgood
              clear hgood
              go_wp2_with fail
              go_roundw
              case rel => exact ⟨k + 1, by omega, by go_num, hMu.then mq, mq.cell ru, fun i hi => by rcases Nat.lt_succ_iff_lt_or_eq.1 hi with h | h; exact HALL.out i h; rw [h]; exact HGOOD.out⟩
              case measure => simp [intOf]; omega
    · have hk3 : ¬ (k : Int) < n := by omega
      have hyes : Hid (pright xs = true) := pright_yes (by rw [← HN.out]; omega) (fun j hj => HALL.out j (by have := HN.out; omega))
      go_wp2_with fail
      go_ret
      exact ⟨by rw [hyes.out]; rfl, mr⟩
end Go.Proofs.Ytcngllcifcpbkaa
/-
  The document's own Right of rows: of a row that may be the call tells so, and writes nothing that was there.
-/
namespace Go.Proofs.Ytcngllcifcpbkaa
open Go.RowKit

theorem refRight_yes (W w : World) (v : Value) (xs : List Pcol) (h : RowAt W v xs) (m : Moves [] W w) (hr : pright xs = true) :
    Calls Try.prog 42 #[v] w fun e w' => e = .returned (.bool true) ∧ Moves [] w w' := by
  have := refRight_w W w v xs h m
  rw [hr] at this
  exact this
end Go.Proofs.Ytcngllcifcpbkaa
/-
  The document's own Copy of rows: of a row that may be the call returns a row of its own, what the chapter says, and writes nothing that was there.
-/
namespace Go.Proofs.Ytcngllcifcpbkaa
open Go.RowKit

/-- ref3's Canon, of a value that lies in a row. -/
theorem rcanonC_w (W w : World) (k : Int) (ad : Option Addr) (len cap n : Nat) (p : Pv) (h : VA W [.int .i64 k, .slice ad len cap, .float .f64 n] p) (m : Moves [] W w) :
    Calls Try.prog 36 #[.agg #[.int .i64 k, .slice ad len cap, .float .f64 n]] w fun e w' => ∃ ad' len' cap', e = .returned (.agg #[.int .i64 (pcanon p).kind, .slice ad' len' cap', .float .f64 (pcanon p).n]) ∧ VC w' [.int .i64 (pcanon p).kind, .slice ad' len' cap', .float .f64 (pcanon p).n] (pcanon p) ∧ Moves [] w w' ∧ Moves [] W w' := by
  obtain ⟨g, hV, hl⟩ := h.vis
  obtain ⟨e0, hI⟩ := hV.moves m
  have h1 := rCanon_w _ w hI (by show p.bs.length ≤ _; omega)
  rw [← e0] at h1
  refine h1.mono ?_
  rintro e w' ⟨c, rfl, hC⟩
  have hV2 : VIs w' c.val c := ⟨rfl, hC.isIn⟩
  obtain ⟨ad', len', cap', e1, e2⟩ := hV2.open
  have hk : c.kind = (pcanon p).kind := hC.kind
  have hb : c.bs = (pcanon p).bs := hC.bs
  have hn : c.n = (pcanon p).n := hC.n
  refine ⟨ad', len', cap', by rw [← hk, ← hn, e2], ⟨ad', len', cap', c.g, rfl, ?_, ?_, ?_, ?_, ?_⟩, hC.moves, m.then hC.moves⟩
  · rw [← e1, ← hb]; exact hC.isIn.isB
  · rw [← hn]; exact hC.isIn.fits
  · rw [← hb]; exact hC.isIn.oct
  · rw [← hb, hC.bs]
    split
    · exact hl
    · simp
  · rw [← hb]
    have := hC.own
    by_cases hz : c.bs = []
    · exact .inl hz
    · have hI := hC.isIn.isB
      rcases this.2 with ⟨_, h1⟩ | ⟨g', cap3, cur, h1, _, h3, _⟩
      · exact absurd (List.eq_nil_of_length_eq_zero h1) hz
      · obtain ⟨ad4, n4, cap4, f1, _, _, _, f5⟩ := hI
        rw [h1] at f1
        simp at f1
        rcases f5 with f5 | ⟨off, f5, _⟩
        · exact absurd f5 hz
        · rw [← f1.1] at f5
          simp at f5
          rw [← f5.1]
          exact .inr ⟨_, _, h3⟩

theorem pair_frozen {w : World} {p : Nat} {a b : Value} {t : TypeId} (h : w.heap[p]? = some (.cells #[a, b] t (0, 0))) : w.cell? ⟨p, 0, none⟩ = some a ∧ w.cell? ⟨p, 1, none⟩ = some b ∧ w.frozen? ⟨p, 0, none⟩ = false ∧ w.frozen? ⟨p, 1, none⟩ = false := by
  simp [World.cell?, World.frozen?, h]
/-- A store into a column's box. -/
theorem GrowV.setCol {W w : World} {v : Value} {xs : List Pver} (h : GrowV W w v xs) {p i : Nat} {c : Array Value} {fz : Nat × Nat} (hp : w.heap[p]? = some (.cells c 33 fz)) (u : Value) : GrowV W (w.setCell ⟨p, i, none⟩ u) v xs := by
  refine h.moves (moves_set _ _ _ _) (fun b hb hbs => ?_) (Stay.set hp (by decide) _)
  simp at hbs
  subst hbs
  exact h.neT hp (by decide) (by rw [hb]; simp)

set_option maxRecDepth 100000 in
set_option maxHeartbeats 8000000 in
theorem refCopy_yes (W w : World) (v : Value) (R : List Pcol) (h : RowAt W v R) (m : Moves [] W w) (hr : pright R = true) :
    Calls Try.prog 34 #[v] w fun e w' => ∃ ad n cap, e = .returned (.agg #[.slice ad n cap]) ∧ GrowC w w' (.slice ad n cap) (R.map pcanonC) ∧ Moves [] w w' ∧ Hid (R = [] → ad = none ∧ cap = 0) := by
  have hRt := fun w1 (m1 : Moves [] W w1) => refRight_yes W w1 v R h m1 hr
  obtain ⟨lv, rfl, hl⟩ := h
  obtain ⟨ad, cap, hlv, hc⟩ := hl.slice
  obtain ⟨n, HN⟩ : ∃ n, Hid (n = R.length) := ⟨_, rfl⟩
  rw [← HN.out] at hlv hc
  subst hlv
  have hn4 : n ≤ 4 := by rw [HN.out]; exact pright_len4 hr
  have HL : Hid (∀ x ∈ R, x.l.length ≤ 2) := fun x hx => (prightV_two (pright_at hr hx).2).2
  have hm3 : Moves [] W (((w.alloc (.cells #[.slice ad n cap] 36)).alloc (.cells #[.slice none 0 0] 36)).alloc (.cells #[.slice none 0 0] 36)) := ((m.alloc _).alloc _).alloc _
  have HA : Hid (ColsAt W (.slice ad n cap) R) := hl
  have MW : Hid (Moves [] W w) := m
  clear hl m hr
  go_enter Try.func34, Try.ntmps34
  go_wp2_with (go_at_call 42; refine (hRt _ hm3).mono ?_; rintro _ w2 ⟨rfl, m2⟩; obtain ⟨p1, p2, p3, m0⟩ := boxes3 m2)
  have M0 : Hid (Moves [] w w2) := m0
  clear hRt hm3 m2 m0
  go_loopw [4] (fun i wr => ∃ (k : Nat) (lv : Value), k ≤ n ∧ i = .int .i64 k ∧ Moves [] w wr ∧ wr.heap[w.heap.size]? = some (.cells #[.slice ad n cap] 36 (0, 0)) ∧ wr.heap[w.heap.size + 1]? = some (.cells #[.slice none 0 0] 36 (0, 0)) ∧ wr.heap[w.heap.size + 1 + 1]? = some (.cells #[lv] 36 (0, 0)) ∧ GrowC w wr lv ((R.take k).map pcanonC) ∧ (k = 0 → lv = .slice none 0 0)) (fun i _ => n - (intOf i).toNat)
  case atStart => exact ⟨0, _, Nat.zero_le _, rfl, M0.out, p1, p2, p3, by simpa using GrowC.nil _ _, fun _ => rfl⟩
  case round =>
    obtain ⟨k, lv, hk, rfl, mr, q1, q2, q3, hG, hz⟩ := hrel
    obtain ⟨wo, hwo⟩ : ∃ wo, wo = wr := ⟨_, rfl⟩
    subst hwo
    have HG : Hid (GrowC w wo lv ((R.take k).map pcanonC)) := hG
    obtain ⟨ad3, n3, cap3, rfl, hn3'⟩ := hG.open
    obtain ⟨r0, _⟩ := one_cell q1
    have HZ : Hid (k = 0 → Value.slice ad3 n3 cap3 = .slice none 0 0) := hz
    clear hG p1 p2 p3 hz
    by_cases hlt : k < n
    · have hk3 : (k : Int) < n := by omega
      obtain ⟨x, hx⟩ : ∃ x, R[k]? = some x := ⟨_, List.getElem?_eq_getElem (by rw [← HN.out]; exact hlt)⟩
      obtain ⟨g, off, a2, n2, c2, rfl, e0, e1, en, hle, hV⟩ := HA.out.at hx
      have MR := MW.out.then mr
      have d0 := MR.cell e0
      have d1 := MR.cell e1
      have HV : Hid (VersAt W (.slice a2 n2 c2) x.l) := hV
      have Hn : Hid (n2 = x.l.length) := en
      have hn2b : n2 ≤ 2 := by rw [en]; exact HL.out x (List.mem_of_getElem? hx)
      have HX : Hid (R[k]? = some x) := hx
      clear hV en e0 hx
      go_wp2_with fail
      obtain ⟨wb, hwb⟩ : ∃ wb, wo.alloc (.cells #[.string x.name, .slice none 0 0] 33) = wb := ⟨_, rfl⟩
      have mb : Moves [] wo wb := by rw [← hwb]; exact (Moves.refl _ _).alloc _
      have qb : wb.heap[wo.heap.size]? = some (.cells #[.string x.name, .slice none 0 0] 33 (0, 0)) := by rw [← hwb]; exact heap_alloc_new _ _
      rw [hwb]
      clear hwb
      go_loopw [6] (fun i wq => ∃ (j : Nat) (l : Value), j ≤ n2 ∧ i = .int .i64 j ∧ Moves [] wo wq ∧ wq.heap[wo.heap.size]? = some (.cells #[.string x.name, l] 33 (0, 0)) ∧ GrowV wo wq l ((x.l.take j).map pcanonV)) (fun i _ => n2 - (intOf i).toNat)
      case atStart => exact ⟨0, _, Nat.zero_le _, rfl, mb, qb, by simpa using GrowV.nil _ _⟩
      case round =>
        obtain ⟨j, l, hj, rfl, mq, qc, hGV⟩ := hrel
        obtain ⟨ad4, n4, cap4, rfl, hn4⟩ := hGV.open
        have HGV : Hid (GrowV wo wr (.slice ad4 n4 cap4) ((x.l.take j).map pcanonV)) := hGV
        clear hGV
        obtain ⟨f0, f1⟩ := pair_cells qc
        have rr0 := mq.cell r0
        have dd1 := mq.cell d1
        have hsz1 := lt_of_block q3
        by_cases hjt : j < n2
        · have hj3 : (j : Int) < n2 := by omega
          obtain ⟨y, hy⟩ : ∃ y, x.l[j]? = some y := ⟨_, List.getElem?_eq_getElem (by have := Hn.out; omega)⟩
          obtain ⟨g5, off5, a5, n5, c5, rfl, y0, y1, y2, y3, hVC⟩ := HV.out.at hy
          have zo0 := MR.cell y0
          have zo1 := MR.cell y1
          have zo2 := MR.cell y2
          have zo3 := MR.cell y3
          have z0 := mq.cell zo0
          have z1 := mq.cell zo1
          have z2 := mq.cell zo2
          have z3 := mq.cell zo3
          have HVC : Hid (VA wr [.int .i64 y.v.kind, .slice a5 n5 c5, .float .f64 y.v.n] y.v) := hVC.va.moves (MR.then mq)
          have hbd : ((x.l.take j).map pcanonV).length + [pcanonV y].length ≤ 1048576 := by
            have := Hn.out
            simp
            omega
          have md : Moves [] wr wr.drew := (Moves.refl _ _).drew
          have mo : Moves [] wo wr.drew := mq.drew
          have hneb := HGV.out.neT qc (by decide)
          clear hVC y0 y1 y2 y3 f0
          go_wp2_with fail
          have hS : ∀ w', Moves [] wo w' → w'.cell? ⟨w.heap.size, 0, none⟩ = some (.slice (some ⟨g, off, none⟩) n cap) ∧ w'.cell? ⟨g, off + k * 2 + 1, none⟩ = some (.slice (some ⟨g5, off5, none⟩) n2 c2) ∧ w'.cell? ⟨g5, off5 + j * 4, none⟩ = some (.int .i64 y.t) ∧ w'.cell? ⟨g5, off5 + j * 4 + 1, none⟩ = some (.int .i64 y.v.kind) ∧ w'.cell? ⟨g5, off5 + j * 4 + 1 + 1, none⟩ = some (.slice a5 n5 c5) ∧ w'.cell? ⟨g5, off5 + j * 4 + 1 + 2, none⟩ = some (.float .f64 y.v.n) ∧ w'.cell? ⟨g5, off5 + j * 4 + 2, none⟩ = some (.slice a5 n5 c5) ∧ w'.cell? ⟨g5, off5 + j * 4 + 3, none⟩ = some (.float .f64 y.v.n) := fun w' m' => ⟨m'.cell r0, m'.cell d1, m'.cell zo0, m'.cell zo1, m'.cell zo2, m'.cell zo3, m'.cell zo2, m'.cell zo3⟩
          refine wp_region_noPanic ?_
          refine wp_region_held_drew (S := (fun w' => w'.cell? ⟨w.heap.size, 0, none⟩ = some (.slice (some ⟨g, off, none⟩) n cap) ∧ w'.cell? ⟨g, off + k * 2 + 1, none⟩ = some (.slice (some ⟨g5, off5, none⟩) n2 c2) ∧ w'.cell? ⟨g5, off5 + j * 4, none⟩ = some (.int .i64 y.t) ∧ w'.cell? ⟨g5, off5 + j * 4 + 1, none⟩ = some (.int .i64 y.v.kind) ∧ w'.cell? ⟨g5, off5 + j * 4 + 1 + 1, none⟩ = some (.slice a5 n5 c5) ∧ w'.cell? ⟨g5, off5 + j * 4 + 1 + 2, none⟩ = some (.float .f64 y.v.n) ∧ w'.cell? ⟨g5, off5 + j * 4 + 2, none⟩ = some (.slice a5 n5 c5) ∧ w'.cell? ⟨g5, off5 + j * 4 + 3, none⟩ = some (.float .f64 y.v.n))) (by kernel_rfl) ?_ (fun hHeld => ?_)
          · first | (go_keep; done) | (refine hS _ ?_; first | with_reducible assumption | exact Moves.alloc (by with_reducible assumption) _ | exact Moves.setCell (by with_reducible assumption) (.inr (Nat.le_refl _)) _)
          refine wpAnyH_take (i := 0) (oi := { dst := some 37, op := Op.fieldAddr 33 (Operand.tmp 5) 1, type := 0, pos := "ref.go:38", after := #[], guard := none }) (v := ?_) rfl (by kernel_rfl) (by kernel_rfl) (by kernel_rfl) (fun _ _ _ h => h) (Or.inl ⟨by rfl, ?_⟩) (by assumption) ?_
          rotate_left
          · (intro w hSw; (try dsimp only at hSw); go_simp; try (with_reducible rfl))
          try simp only [Act.put, List.setIfInBounds_toArray, List.set_cons_zero, List.set_cons_succ]
          refine wpAnyH_take (i := 2) (oi := { dst := some 39, op := Op.fieldAddr 36 (Operand.tmp 1) 0, type := 0, pos := "ref.go:38", after := #[], guard := none }) (v := ?_) rfl (by kernel_rfl) (by kernel_rfl) (by kernel_rfl) (fun _ _ _ h => h) (Or.inl ⟨by rfl, ?_⟩) (by assumption) ?_
          rotate_left
          · (intro w hSw; (try dsimp only at hSw); go_simp; try (with_reducible rfl))
          try simp only [Act.put, List.setIfInBounds_toArray, List.set_cons_zero, List.set_cons_succ]
          refine wpAnyH_take (i := 3) (oi := { dst := some 40, op := Op.load 34 (Operand.tmp 39), type := 34, pos := "ref.go:38", after := #[{ on := 2, ground := Ground.data }], guard := none }) (v := ?_) rfl (by kernel_rfl) (by kernel_rfl) (by kernel_rfl) (fun _ _ _ h => h) (Or.inl ⟨by rfl, ?_⟩) (by assumption) ?_
          rotate_left
          · (intro w hSw; (try dsimp only at hSw); go_simp; try (with_reducible rfl))
          try simp only [Act.put, List.setIfInBounds_toArray, List.set_cons_zero, List.set_cons_succ]
          refine wpAnyH_take (i := 4) (oi := { dst := some 41, op := Op.move (Operand.tmp 4), type := 3, pos := "ref.go:38", after := #[], guard := none }) (v := ?_) rfl (by kernel_rfl) (by kernel_rfl) (by kernel_rfl) (fun _ _ _ h => h) (Or.inl ⟨by rfl, ?_⟩) (by assumption) ?_
          rotate_left
          · (intro w hSw; (try dsimp only at hSw); go_simp; try (with_reducible rfl))
          try simp only [Act.put, List.setIfInBounds_toArray, List.set_cons_zero, List.set_cons_succ]
          refine wpAnyH_take (i := 5) (oi := { dst := some 42, op := Op.indexAddr 34 (Operand.tmp 40) (Operand.tmp 41), type := 0, pos := "ref.go:38", after := #[{ on := 3, ground := Ground.data }, { on := 4, ground := Ground.data }], guard := none }) (v := ?_) rfl (by kernel_rfl) (by kernel_rfl) (by kernel_rfl) (fun _ _ _ h => h) (Or.inl ⟨by rfl, ?_⟩) (by assumption) ?_
          rotate_left
          · (intro w hSw; (try dsimp only at hSw); go_simp; try (with_reducible rfl))
          try simp only [Act.put, List.setIfInBounds_toArray, List.set_cons_zero, List.set_cons_succ]
          refine wpAnyH_take (i := 6) (oi := { dst := some 43, op := Op.fieldAddr 33 (Operand.tmp 42) 1, type := 0, pos := "ref.go:38", after := #[{ on := 5, ground := Ground.data }], guard := none }) (v := ?_) rfl (by kernel_rfl) (by kernel_rfl) (by kernel_rfl) (fun _ _ _ h => h) (Or.inl ⟨by rfl, ?_⟩) (by assumption) ?_
          rotate_left
          · (intro w hSw; (try dsimp only at hSw); go_simp; try (with_reducible rfl))
          try simp only [Act.put, List.setIfInBounds_toArray, List.set_cons_zero, List.set_cons_succ]
          refine wpAnyH_take (i := 7) (oi := { dst := some 44, op := Op.load 31 (Operand.tmp 43), type := 31, pos := "ref.go:38", after := #[{ on := 6, ground := Ground.data }], guard := none }) (v := ?_) rfl (by kernel_rfl) (by kernel_rfl) (by kernel_rfl) (fun _ _ _ h => h) (Or.inl ⟨by rfl, ?_⟩) (by assumption) ?_
          rotate_left
          · (intro w hSw; (try dsimp only at hSw); go_simp; try (with_reducible rfl))
          try simp only [Act.put, List.setIfInBounds_toArray, List.set_cons_zero, List.set_cons_succ]
          refine wpAnyH_take (i := 8) (oi := { dst := some 45, op := Op.move (Operand.tmp 6), type := 3, pos := "ref.go:38", after := #[], guard := none }) (v := ?_) rfl (by kernel_rfl) (by kernel_rfl) (by kernel_rfl) (fun _ _ _ h => h) (Or.inl ⟨by rfl, ?_⟩) (by assumption) ?_
          rotate_left
          · (intro w hSw; (try dsimp only at hSw); go_simp; try (with_reducible rfl))
          try simp only [Act.put, List.setIfInBounds_toArray, List.set_cons_zero, List.set_cons_succ]
          refine wpAnyH_take (i := 9) (oi := { dst := some 46, op := Op.indexAddr 31 (Operand.tmp 44) (Operand.tmp 45), type := 0, pos := "ref.go:38", after := #[{ on := 7, ground := Ground.data }, { on := 8, ground := Ground.data }], guard := none }) (v := ?_) rfl (by kernel_rfl) (by kernel_rfl) (by kernel_rfl) (fun _ _ _ h => h) (Or.inl ⟨by rfl, ?_⟩) (by assumption) ?_
          rotate_left
          · (intro w hSw; (try dsimp only at hSw); go_simp; try (with_reducible rfl))
          try simp only [Act.put, List.setIfInBounds_toArray, List.set_cons_zero, List.set_cons_succ]
          refine wpAnyH_take (i := 10) (oi := { dst := some 47, op := Op.fieldAddr 79 (Operand.tmp 46) 0, type := 0, pos := "ref.go:38", after := #[{ on := 9, ground := Ground.data }], guard := none }) (v := ?_) rfl (by kernel_rfl) (by kernel_rfl) (by kernel_rfl) (fun _ _ _ h => h) (Or.inl ⟨by rfl, ?_⟩) (by assumption) ?_
          rotate_left
          · (intro w hSw; (try dsimp only at hSw); go_simp; try (with_reducible rfl))
          try simp only [Act.put, List.setIfInBounds_toArray, List.set_cons_zero, List.set_cons_succ]
          refine wpAnyH_take (i := 11) (oi := { dst := some 48, op := Op.load 2 (Operand.tmp 47), type := 2, pos := "ref.go:38", after := #[{ on := 10, ground := Ground.data }], guard := none }) (v := ?_) rfl (by kernel_rfl) (by kernel_rfl) (by kernel_rfl) (fun _ _ _ h => h) (Or.inl ⟨by rfl, ?_⟩) (by assumption) ?_
          rotate_left
          · (intro w hSw; (try dsimp only at hSw); go_simp; try (with_reducible rfl))
          try simp only [Act.put, List.setIfInBounds_toArray, List.set_cons_zero, List.set_cons_succ]
          refine wpAnyH_take (i := 12) (oi := { dst := some 49, op := Op.fieldAddr 36 (Operand.tmp 1) 0, type := 0, pos := "ref.go:38", after := #[], guard := none }) (v := ?_) rfl (by kernel_rfl) (by kernel_rfl) (by kernel_rfl) (fun _ _ _ h => h) (Or.inl ⟨by rfl, ?_⟩) (by assumption) ?_
          rotate_left
          · (intro w hSw; (try dsimp only at hSw); go_simp; try (with_reducible rfl))
          try simp only [Act.put, List.setIfInBounds_toArray, List.set_cons_zero, List.set_cons_succ]
          refine wpAnyH_take (i := 13) (oi := { dst := some 50, op := Op.load 34 (Operand.tmp 49), type := 34, pos := "ref.go:38", after := #[{ on := 12, ground := Ground.data }], guard := none }) (v := ?_) rfl (by kernel_rfl) (by kernel_rfl) (by kernel_rfl) (fun _ _ _ h => h) (Or.inl ⟨by rfl, ?_⟩) (by assumption) ?_
          rotate_left
          · (intro w hSw; (try dsimp only at hSw); go_simp; try (with_reducible rfl))
          try simp only [Act.put, List.setIfInBounds_toArray, List.set_cons_zero, List.set_cons_succ]
          refine wpAnyH_take (i := 14) (oi := { dst := some 51, op := Op.move (Operand.tmp 4), type := 3, pos := "ref.go:38", after := #[], guard := none }) (v := ?_) rfl (by kernel_rfl) (by kernel_rfl) (by kernel_rfl) (fun _ _ _ h => h) (Or.inl ⟨by rfl, ?_⟩) (by assumption) ?_
          rotate_left
          · (intro w hSw; (try dsimp only at hSw); go_simp; try (with_reducible rfl))
          try simp only [Act.put, List.setIfInBounds_toArray, List.set_cons_zero, List.set_cons_succ]
          refine wpAnyH_take (i := 15) (oi := { dst := some 52, op := Op.indexAddr 34 (Operand.tmp 50) (Operand.tmp 51), type := 0, pos := "ref.go:38", after := #[{ on := 13, ground := Ground.data }, { on := 14, ground := Ground.data }], guard := none }) (v := ?_) rfl (by kernel_rfl) (by kernel_rfl) (by kernel_rfl) (fun _ _ _ h => h) (Or.inl ⟨by rfl, ?_⟩) (by assumption) ?_
          rotate_left
          · (intro w hSw; (try dsimp only at hSw); go_simp; try (with_reducible rfl))
          try simp only [Act.put, List.setIfInBounds_toArray, List.set_cons_zero, List.set_cons_succ]
          refine wpAnyH_take (i := 16) (oi := { dst := some 53, op := Op.fieldAddr 33 (Operand.tmp 52) 1, type := 0, pos := "ref.go:38", after := #[{ on := 15, ground := Ground.data }], guard := none }) (v := ?_) rfl (by kernel_rfl) (by kernel_rfl) (by kernel_rfl) (fun _ _ _ h => h) (Or.inl ⟨by rfl, ?_⟩) (by assumption) ?_
          rotate_left
          · (intro w hSw; (try dsimp only at hSw); go_simp; try (with_reducible rfl))
          try simp only [Act.put, List.setIfInBounds_toArray, List.set_cons_zero, List.set_cons_succ]
          refine wpAnyH_take (i := 17) (oi := { dst := some 54, op := Op.load 31 (Operand.tmp 53), type := 31, pos := "ref.go:38", after := #[{ on := 16, ground := Ground.data }], guard := none }) (v := ?_) rfl (by kernel_rfl) (by kernel_rfl) (by kernel_rfl) (fun _ _ _ h => h) (Or.inl ⟨by rfl, ?_⟩) (by assumption) ?_
          rotate_left
          · (intro w hSw; (try dsimp only at hSw); go_simp; try (with_reducible rfl))
          try simp only [Act.put, List.setIfInBounds_toArray, List.set_cons_zero, List.set_cons_succ]
          refine wpAnyH_take (i := 18) (oi := { dst := some 55, op := Op.move (Operand.tmp 6), type := 3, pos := "ref.go:38", after := #[], guard := none }) (v := ?_) rfl (by kernel_rfl) (by kernel_rfl) (by kernel_rfl) (fun _ _ _ h => h) (Or.inl ⟨by rfl, ?_⟩) (by assumption) ?_
          rotate_left
          · (intro w hSw; (try dsimp only at hSw); go_simp; try (with_reducible rfl))
          try simp only [Act.put, List.setIfInBounds_toArray, List.set_cons_zero, List.set_cons_succ]
          refine wpAnyH_take (i := 19) (oi := { dst := some 56, op := Op.indexAddr 31 (Operand.tmp 54) (Operand.tmp 55), type := 0, pos := "ref.go:38", after := #[{ on := 17, ground := Ground.data }, { on := 18, ground := Ground.data }], guard := none }) (v := ?_) rfl (by kernel_rfl) (by kernel_rfl) (by kernel_rfl) (fun _ _ _ h => h) (Or.inl ⟨by rfl, ?_⟩) (by assumption) ?_
          rotate_left
          · (intro w hSw; (try dsimp only at hSw); go_simp; try (with_reducible rfl))
          try simp only [Act.put, List.setIfInBounds_toArray, List.set_cons_zero, List.set_cons_succ]
          refine wpAnyH_take (i := 20) (oi := { dst := some 57, op := Op.fieldAddr 79 (Operand.tmp 56) 1, type := 0, pos := "ref.go:38", after := #[{ on := 19, ground := Ground.data }], guard := none }) (v := ?_) rfl (by kernel_rfl) (by kernel_rfl) (by kernel_rfl) (fun _ _ _ h => h) (Or.inl ⟨by rfl, ?_⟩) (by assumption) ?_
          rotate_left
          · (intro w hSw; (try dsimp only at hSw); go_simp; try (with_reducible rfl))
          try simp only [Act.put, List.setIfInBounds_toArray, List.set_cons_zero, List.set_cons_succ]
          refine wpAnyH_take (i := 21) (oi := { dst := some 58, op := Op.load 49 (Operand.tmp 57), type := 49, pos := "ref.go:38", after := #[{ on := 20, ground := Ground.data }], guard := none }) (v := ?_) rfl (by kernel_rfl) (by kernel_rfl) (by kernel_rfl) (fun _ _ _ h => h) (Or.inl ⟨by rfl, ?_⟩) (by assumption) ?_
          rotate_left
          · (intro w hSw; (try dsimp only at hSw); go_simp; try (with_reducible rfl))
          try simp only [Act.put, List.setIfInBounds_toArray, List.set_cons_zero, List.set_cons_succ]
          refine wpAnyH_ready (rs := [1, 22]) (by kernel_rfl) (by simp) ?_
          refine AllReadyH.cons (o := { dst := some 38, op := Op.load 31 (Operand.tmp 37), type := 31, pos := "ref.go:38", after := #[{ on := 0, ground := Ground.data }], guard := none }) rfl (fun K hK => ?_) (AllReadyH.cons (o := { dst := some 59, op := Op.call { callee := Callee.value (Operand.func 36), args := #[Operand.tmp 58], argTypes := #[49] }, type := 49, pos := "ref.go:38", after := #[{ on := 21, ground := Ground.data }], guard := none }) rfl (fun K hK => ?_) AllReadyH.nil)
          · go_simp
            refine hK.out _ _ ?_ (fun hHeld => ?_)
            · (refine hS _ ?_; first | with_reducible assumption | exact Moves.alloc (by with_reducible assumption) _ | exact Moves.setCell (by with_reducible assumption) (.inr (Nat.le_refl _)) _)
            clear hK K
            try simp only [Act.put, List.setIfInBounds_toArray, List.set_cons_zero, List.set_cons_succ]
            refine wpAnyH_ready (rs := [22]) (by kernel_rfl) (by simp) ?_
            refine AllReadyH.cons (o := { dst := some 59, op := Op.call { callee := Callee.value (Operand.func 36), args := #[Operand.tmp 58], argTypes := #[49] }, type := 49, pos := "ref.go:38", after := #[{ on := 21, ground := Ground.data }], guard := none }) rfl (fun K hK => ?_) AllReadyH.nil
            go_simp
            refine (rcanonC_w wr _ _ _ _ _ _ _ HVC.out md).mono ?_
            rintro _ w5 ⟨ad6, n6, c6, rfl, hC5, m5, m6⟩
            have mo5 : Moves [] wo w5 := mo.then m5
            have f5 := m6.cell f1
            have f6 := (m6.alloc (.cells #[.int .i64 y.t, .int .i64 (pcanon y.v).kind, .slice ad6 n6 c6, .float .f64 (pcanon y.v).n] 79)).cell f1
            have hvn := vers_new w5 (.int .i64 y.t) _ _ _ (pcanonV y) ⟨_, rfl, hC5⟩
            have hG7 := HGV.out.moves0 (m6.alloc (.cells #[.int .i64 y.t, .int .i64 (pcanon y.v).kind, .slice ad6 n6 c6, .float .f64 (pcanon y.v).n] 79))
            have hM7 := mo5.alloc (.cells #[.int .i64 y.t, .int .i64 (pcanon y.v).kind, .slice ad6 n6 c6, .float .f64 (pcanon y.v).n] 79)
            have qc7 := (m6.alloc (.cells #[.int .i64 y.t, .int .i64 (pcanon y.v).kind, .slice ad6 n6 c6, .float .f64 (pcanon y.v).n] 79)).at qc (by simp)
            refine hK.out _ _ ?_ (fun hHeld => ?_)
            · (refine hS _ ?_; first | with_reducible assumption | exact Moves.alloc (by with_reducible assumption) _ | exact Moves.setCell (by with_reducible assumption) (.inr (Nat.le_refl _)) _)
            clear hK K
            try simp only [Act.put, List.setIfInBounds_toArray, List.set_cons_zero, List.set_cons_succ]
            refine wpAnyH_take (i := 23) (oi := { dst := some 60, op := Op.build 79 #[(0, Operand.tmp 48), (1, Operand.tmp 59)], type := 79, pos := "ref.go:38", after := #[{ on := 11, ground := Ground.data }, { on := 22, ground := Ground.data }], guard := none }) (v := ?_) rfl (by kernel_rfl) (by kernel_rfl) (by kernel_rfl) (fun _ _ _ h => h) (Or.inl ⟨by rfl, ?_⟩) (by assumption) ?_
            rotate_left
            · (intro w hSw; (try dsimp only at hSw); go_simp; try (with_reducible rfl))
            try simp only [Act.put, List.setIfInBounds_toArray, List.set_cons_zero, List.set_cons_succ]
            refine wpAnyH_ready (rs := [24]) (by kernel_rfl) (by simp) ?_
            refine AllReadyH.cons (o := { dst := some 61, op := Op.buildSlice 31 1 #[(0, Operand.tmp 60)], type := 31, pos := "ref.go:38", after := #[{ on := 23, ground := Ground.data }], guard := none }) rfl (fun K hK => ?_) AllReadyH.nil
            go_simp
            refine hK.out _ _ ?_ (fun hHeld => ?_)
            · (refine hS _ ?_; first | with_reducible assumption | exact Moves.alloc (by with_reducible assumption) _ | exact Moves.setCell (by with_reducible assumption) (.inr (Nat.le_refl _)) _)
            clear hK K
            try simp only [Act.put, List.setIfInBounds_toArray, List.set_cons_zero, List.set_cons_succ]
            refine wpAnyH_ready (rs := [25]) (by kernel_rfl) (by simp) ?_
            refine AllReadyH.cons (o := { dst := some 62, op := Op.call { callee := Callee.builtin Builtin.append, args := #[Operand.tmp 38, Operand.tmp 61], argTypes := #[31, 31] }, type := 31, pos := "ref.go:38", after := #[{ on := 1, ground := Ground.data }, { on := 24, ground := Ground.data }, { on := 22, ground := Ground.chain }], guard := none }) rfl (fun K hK => ?_) AllReadyH.nil
            refine growV_step (.tmp 38) (.tmp 61) rfl _ _ ((x.l.take j).map pcanonV) [pcanonV y] rfl rfl (by rfl) hG7 hvn hM7 hbd ?_
            intro v8 w8 hG8 M8 m8 s8 l8
            have hsl := hG8.open
            obtain ⟨ad8, n8, cap8, rfl, hn8⟩ := hsl
            have qc8 := m8.at qc7 hneb
            obtain ⟨e80, e81, fz0, fz1⟩ := pair_frozen qc8
            refine hK.out _ _ ?_ (fun hHeld => ?_)
            · (refine hS _ ?_; first | with_reducible assumption | exact Moves.alloc (by with_reducible assumption) _ | exact Moves.setCell (by with_reducible assumption) (.inr (Nat.le_refl _)) _)
            clear hK K
            try simp only [Act.put, List.setIfInBounds_toArray, List.set_cons_zero, List.set_cons_succ]
            refine wpAnyH_take (i := 26) (oi := { dst := some 63, op := Op.fieldAddr 33 (Operand.tmp 5) 1, type := 0, pos := "ref.go:38", after := #[{ on := 0, ground := Ground.phase }, { on := 1, ground := Ground.phase }, { on := 2, ground := Ground.phase }, { on := 3, ground := Ground.phase }, { on := 4, ground := Ground.phase }, { on := 5, ground := Ground.phase }, { on := 6, ground := Ground.phase }, { on := 7, ground := Ground.phase }, { on := 8, ground := Ground.phase }, { on := 9, ground := Ground.phase }, { on := 10, ground := Ground.phase }, { on := 11, ground := Ground.phase }, { on := 12, ground := Ground.phase }, { on := 13, ground := Ground.phase }, { on := 14, ground := Ground.phase }, { on := 15, ground := Ground.phase }, { on := 16, ground := Ground.phase }, { on := 17, ground := Ground.phase }, { on := 18, ground := Ground.phase }, { on := 19, ground := Ground.phase }, { on := 20, ground := Ground.phase }, { on := 21, ground := Ground.phase }, { on := 22, ground := Ground.phase }, { on := 23, ground := Ground.phase }, { on := 24, ground := Ground.phase }, { on := 25, ground := Ground.phase }], guard := none }) (v := ?_) rfl (by kernel_rfl) (by kernel_rfl) (by kernel_rfl) (fun _ _ _ h => h) (Or.inl ⟨by rfl, ?_⟩) (by assumption) ?_
            rotate_left
            · (intro w hSw; (try dsimp only at hSw); go_simp; try (with_reducible rfl))
            try simp only [Act.put, List.setIfInBounds_toArray, List.set_cons_zero, List.set_cons_succ]
            refine wpAnyH_ready (rs := [27]) (by kernel_rfl) (by simp) ?_
            refine AllReadyH.cons (o := { dst := none, op := Op.store 31 (Operand.tmp 63) (Operand.tmp 62), type := 0, pos := "ref.go:38", after := #[{ on := 26, ground := Ground.data }, { on := 25, ground := Ground.data }, { on := 25, ground := Ground.chain }, { on := 0, ground := Ground.phase }, { on := 1, ground := Ground.phase }, { on := 2, ground := Ground.phase }, { on := 3, ground := Ground.phase }, { on := 4, ground := Ground.phase }, { on := 5, ground := Ground.phase }, { on := 6, ground := Ground.phase }, { on := 7, ground := Ground.phase }, { on := 8, ground := Ground.phase }, { on := 9, ground := Ground.phase }, { on := 10, ground := Ground.phase }, { on := 11, ground := Ground.phase }, { on := 12, ground := Ground.phase }, { on := 13, ground := Ground.phase }, { on := 14, ground := Ground.phase }, { on := 15, ground := Ground.phase }, { on := 16, ground := Ground.phase }, { on := 17, ground := Ground.phase }, { on := 18, ground := Ground.phase }, { on := 19, ground := Ground.phase }, { on := 20, ground := Ground.phase }, { on := 21, ground := Ground.phase }, { on := 22, ground := Ground.phase }, { on := 23, ground := Ground.phase }, { on := 24, ground := Ground.phase }, { on := 25, ground := Ground.phase }], guard := none }) rfl (fun K hK => ?_) AllReadyH.nil
            go_simp
            refine hK.out _ _ ?_ (fun hHeld => ?_)
            · (refine hS _ ?_; first | with_reducible assumption | exact Moves.alloc (by with_reducible assumption) _ | exact Moves.setCell (by with_reducible assumption) (.inr (Nat.le_refl _)) _)
            clear hK K
            try simp only [Act.put, List.setIfInBounds_toArray, List.set_cons_zero, List.set_cons_succ]
            refine wpAnyH_done (by kernel_rfl) ?_ _
            refine NoPanic.normal ?_
            rw [take_map _ hy] at hG8
            go_wp2_with fail
            go_roundw
            case rel => exact ⟨j + 1, _, by omega, by go_num, M8.setCell (.inr (Nat.le_refl _)) _, heap_set (i := 1) qc8 _, hG8.setCol qc8 _⟩
            case measure => simp [intOf]; omega
          · go_simp
            refine (rcanonC_w wr _ _ _ _ _ _ _ HVC.out md).mono ?_
            rintro _ w5 ⟨ad6, n6, c6, rfl, hC5, m5, m6⟩
            have mo5 : Moves [] wo w5 := mo.then m5
            have f5 := m6.cell f1
            have f6 := (m6.alloc (.cells #[.int .i64 y.t, .int .i64 (pcanon y.v).kind, .slice ad6 n6 c6, .float .f64 (pcanon y.v).n] 79)).cell f1
            have hvn := vers_new w5 (.int .i64 y.t) _ _ _ (pcanonV y) ⟨_, rfl, hC5⟩
            have hG7 := HGV.out.moves0 (m6.alloc (.cells #[.int .i64 y.t, .int .i64 (pcanon y.v).kind, .slice ad6 n6 c6, .float .f64 (pcanon y.v).n] 79))
            have hM7 := mo5.alloc (.cells #[.int .i64 y.t, .int .i64 (pcanon y.v).kind, .slice ad6 n6 c6, .float .f64 (pcanon y.v).n] 79)
            have qc7 := (m6.alloc (.cells #[.int .i64 y.t, .int .i64 (pcanon y.v).kind, .slice ad6 n6 c6, .float .f64 (pcanon y.v).n] 79)).at qc (by simp)
            refine hK.out _ _ ?_ (fun hHeld => ?_)
            · (refine hS _ ?_; first | with_reducible assumption | exact Moves.alloc (by with_reducible assumption) _ | exact Moves.setCell (by with_reducible assumption) (.inr (Nat.le_refl _)) _)
            clear hK K
            try simp only [Act.put, List.setIfInBounds_toArray, List.set_cons_zero, List.set_cons_succ]
            refine wpAnyH_take (i := 23) (oi := { dst := some 60, op := Op.build 79 #[(0, Operand.tmp 48), (1, Operand.tmp 59)], type := 79, pos := "ref.go:38", after := #[{ on := 11, ground := Ground.data }, { on := 22, ground := Ground.data }], guard := none }) (v := ?_) rfl (by kernel_rfl) (by kernel_rfl) (by kernel_rfl) (fun _ _ _ h => h) (Or.inl ⟨by rfl, ?_⟩) (by assumption) ?_
            rotate_left
            · (intro w hSw; (try dsimp only at hSw); go_simp; try (with_reducible rfl))
            try simp only [Act.put, List.setIfInBounds_toArray, List.set_cons_zero, List.set_cons_succ]
            refine wpAnyH_ready (rs := [1, 24]) (by kernel_rfl) (by simp) ?_
            refine AllReadyH.cons (o := { dst := some 38, op := Op.load 31 (Operand.tmp 37), type := 31, pos := "ref.go:38", after := #[{ on := 0, ground := Ground.data }], guard := none }) rfl (fun K hK => ?_) (AllReadyH.cons (o := { dst := some 61, op := Op.buildSlice 31 1 #[(0, Operand.tmp 60)], type := 31, pos := "ref.go:38", after := #[{ on := 23, ground := Ground.data }], guard := none }) rfl (fun K hK => ?_) AllReadyH.nil)
            · go_simp
              refine hK.out _ _ ?_ (fun hHeld => ?_)
              · (refine hS _ ?_; first | with_reducible assumption | exact Moves.alloc (by with_reducible assumption) _ | exact Moves.setCell (by with_reducible assumption) (.inr (Nat.le_refl _)) _)
              clear hK K
              try simp only [Act.put, List.setIfInBounds_toArray, List.set_cons_zero, List.set_cons_succ]
              refine wpAnyH_ready (rs := [24]) (by kernel_rfl) (by simp) ?_
              refine AllReadyH.cons (o := { dst := some 61, op := Op.buildSlice 31 1 #[(0, Operand.tmp 60)], type := 31, pos := "ref.go:38", after := #[{ on := 23, ground := Ground.data }], guard := none }) rfl (fun K hK => ?_) AllReadyH.nil
              go_simp
              refine hK.out _ _ ?_ (fun hHeld => ?_)
              · (refine hS _ ?_; first | with_reducible assumption | exact Moves.alloc (by with_reducible assumption) _ | exact Moves.setCell (by with_reducible assumption) (.inr (Nat.le_refl _)) _)
              clear hK K
              try simp only [Act.put, List.setIfInBounds_toArray, List.set_cons_zero, List.set_cons_succ]
              refine wpAnyH_ready (rs := [25]) (by kernel_rfl) (by simp) ?_
              refine AllReadyH.cons (o := { dst := some 62, op := Op.call { callee := Callee.builtin Builtin.append, args := #[Operand.tmp 38, Operand.tmp 61], argTypes := #[31, 31] }, type := 31, pos := "ref.go:38", after := #[{ on := 1, ground := Ground.data }, { on := 24, ground := Ground.data }, { on := 22, ground := Ground.chain }], guard := none }) rfl (fun K hK => ?_) AllReadyH.nil
              refine growV_step (.tmp 38) (.tmp 61) rfl _ _ ((x.l.take j).map pcanonV) [pcanonV y] rfl rfl (by rfl) hG7 hvn hM7 hbd ?_
              intro v8 w8 hG8 M8 m8 s8 l8
              have hsl := hG8.open
              obtain ⟨ad8, n8, cap8, rfl, hn8⟩ := hsl
              have qc8 := m8.at qc7 hneb
              obtain ⟨e80, e81, fz0, fz1⟩ := pair_frozen qc8
              refine hK.out _ _ ?_ (fun hHeld => ?_)
              · (refine hS _ ?_; first | with_reducible assumption | exact Moves.alloc (by with_reducible assumption) _ | exact Moves.setCell (by with_reducible assumption) (.inr (Nat.le_refl _)) _)
              clear hK K
              try simp only [Act.put, List.setIfInBounds_toArray, List.set_cons_zero, List.set_cons_succ]
              refine wpAnyH_take (i := 26) (oi := { dst := some 63, op := Op.fieldAddr 33 (Operand.tmp 5) 1, type := 0, pos := "ref.go:38", after := #[{ on := 0, ground := Ground.phase }, { on := 1, ground := Ground.phase }, { on := 2, ground := Ground.phase }, { on := 3, ground := Ground.phase }, { on := 4, ground := Ground.phase }, { on := 5, ground := Ground.phase }, { on := 6, ground := Ground.phase }, { on := 7, ground := Ground.phase }, { on := 8, ground := Ground.phase }, { on := 9, ground := Ground.phase }, { on := 10, ground := Ground.phase }, { on := 11, ground := Ground.phase }, { on := 12, ground := Ground.phase }, { on := 13, ground := Ground.phase }, { on := 14, ground := Ground.phase }, { on := 15, ground := Ground.phase }, { on := 16, ground := Ground.phase }, { on := 17, ground := Ground.phase }, { on := 18, ground := Ground.phase }, { on := 19, ground := Ground.phase }, { on := 20, ground := Ground.phase }, { on := 21, ground := Ground.phase }, { on := 22, ground := Ground.phase }, { on := 23, ground := Ground.phase }, { on := 24, ground := Ground.phase }, { on := 25, ground := Ground.phase }], guard := none }) (v := ?_) rfl (by kernel_rfl) (by kernel_rfl) (by kernel_rfl) (fun _ _ _ h => h) (Or.inl ⟨by rfl, ?_⟩) (by assumption) ?_
              rotate_left
              · (intro w hSw; (try dsimp only at hSw); go_simp; try (with_reducible rfl))
              try simp only [Act.put, List.setIfInBounds_toArray, List.set_cons_zero, List.set_cons_succ]
              refine wpAnyH_ready (rs := [27]) (by kernel_rfl) (by simp) ?_
              refine AllReadyH.cons (o := { dst := none, op := Op.store 31 (Operand.tmp 63) (Operand.tmp 62), type := 0, pos := "ref.go:38", after := #[{ on := 26, ground := Ground.data }, { on := 25, ground := Ground.data }, { on := 25, ground := Ground.chain }, { on := 0, ground := Ground.phase }, { on := 1, ground := Ground.phase }, { on := 2, ground := Ground.phase }, { on := 3, ground := Ground.phase }, { on := 4, ground := Ground.phase }, { on := 5, ground := Ground.phase }, { on := 6, ground := Ground.phase }, { on := 7, ground := Ground.phase }, { on := 8, ground := Ground.phase }, { on := 9, ground := Ground.phase }, { on := 10, ground := Ground.phase }, { on := 11, ground := Ground.phase }, { on := 12, ground := Ground.phase }, { on := 13, ground := Ground.phase }, { on := 14, ground := Ground.phase }, { on := 15, ground := Ground.phase }, { on := 16, ground := Ground.phase }, { on := 17, ground := Ground.phase }, { on := 18, ground := Ground.phase }, { on := 19, ground := Ground.phase }, { on := 20, ground := Ground.phase }, { on := 21, ground := Ground.phase }, { on := 22, ground := Ground.phase }, { on := 23, ground := Ground.phase }, { on := 24, ground := Ground.phase }, { on := 25, ground := Ground.phase }], guard := none }) rfl (fun K hK => ?_) AllReadyH.nil
              go_simp
              refine hK.out _ _ ?_ (fun hHeld => ?_)
              · (refine hS _ ?_; first | with_reducible assumption | exact Moves.alloc (by with_reducible assumption) _ | exact Moves.setCell (by with_reducible assumption) (.inr (Nat.le_refl _)) _)
              clear hK K
              try simp only [Act.put, List.setIfInBounds_toArray, List.set_cons_zero, List.set_cons_succ]
              refine wpAnyH_done (by kernel_rfl) ?_ _
              refine NoPanic.normal ?_
              rw [take_map _ hy] at hG8
              go_wp2_with fail
              go_roundw
              case rel => exact ⟨j + 1, _, by omega, by go_num, M8.setCell (.inr (Nat.le_refl _)) _, heap_set (i := 1) qc8 _, hG8.setCol qc8 _⟩
              case measure => simp [intOf]; omega
            · go_simp
              refine hK.out _ _ ?_ (fun hHeld => ?_)
              · (refine hS _ ?_; first | with_reducible assumption | exact Moves.alloc (by with_reducible assumption) _ | exact Moves.setCell (by with_reducible assumption) (.inr (Nat.le_refl _)) _)
              clear hK K
              try simp only [Act.put, List.setIfInBounds_toArray, List.set_cons_zero, List.set_cons_succ]
              refine wpAnyH_ready (rs := [1]) (by kernel_rfl) (by simp) ?_
              refine AllReadyH.cons (o := { dst := some 38, op := Op.load 31 (Operand.tmp 37), type := 31, pos := "ref.go:38", after := #[{ on := 0, ground := Ground.data }], guard := none }) rfl (fun K hK => ?_) AllReadyH.nil
              go_simp
              refine hK.out _ _ ?_ (fun hHeld => ?_)
              · (refine hS _ ?_; first | with_reducible assumption | exact Moves.alloc (by with_reducible assumption) _ | exact Moves.setCell (by with_reducible assumption) (.inr (Nat.le_refl _)) _)
              clear hK K
              try simp only [Act.put, List.setIfInBounds_toArray, List.set_cons_zero, List.set_cons_succ]
              refine wpAnyH_ready (rs := [25]) (by kernel_rfl) (by simp) ?_
              refine AllReadyH.cons (o := { dst := some 62, op := Op.call { callee := Callee.builtin Builtin.append, args := #[Operand.tmp 38, Operand.tmp 61], argTypes := #[31, 31] }, type := 31, pos := "ref.go:38", after := #[{ on := 1, ground := Ground.data }, { on := 24, ground := Ground.data }, { on := 22, ground := Ground.chain }], guard := none }) rfl (fun K hK => ?_) AllReadyH.nil
              refine growV_step (.tmp 38) (.tmp 61) rfl _ _ ((x.l.take j).map pcanonV) [pcanonV y] rfl rfl (by rfl) hG7 hvn hM7 hbd ?_
              intro v8 w8 hG8 M8 m8 s8 l8
              have hsl := hG8.open
              obtain ⟨ad8, n8, cap8, rfl, hn8⟩ := hsl
              have qc8 := m8.at qc7 hneb
              obtain ⟨e80, e81, fz0, fz1⟩ := pair_frozen qc8
              refine hK.out _ _ ?_ (fun hHeld => ?_)
              · (refine hS _ ?_; first | with_reducible assumption | exact Moves.alloc (by with_reducible assumption) _ | exact Moves.setCell (by with_reducible assumption) (.inr (Nat.le_refl _)) _)
              clear hK K
              try simp only [Act.put, List.setIfInBounds_toArray, List.set_cons_zero, List.set_cons_succ]
              refine wpAnyH_take (i := 26) (oi := { dst := some 63, op := Op.fieldAddr 33 (Operand.tmp 5) 1, type := 0, pos := "ref.go:38", after := #[{ on := 0, ground := Ground.phase }, { on := 1, ground := Ground.phase }, { on := 2, ground := Ground.phase }, { on := 3, ground := Ground.phase }, { on := 4, ground := Ground.phase }, { on := 5, ground := Ground.phase }, { on := 6, ground := Ground.phase }, { on := 7, ground := Ground.phase }, { on := 8, ground := Ground.phase }, { on := 9, ground := Ground.phase }, { on := 10, ground := Ground.phase }, { on := 11, ground := Ground.phase }, { on := 12, ground := Ground.phase }, { on := 13, ground := Ground.phase }, { on := 14, ground := Ground.phase }, { on := 15, ground := Ground.phase }, { on := 16, ground := Ground.phase }, { on := 17, ground := Ground.phase }, { on := 18, ground := Ground.phase }, { on := 19, ground := Ground.phase }, { on := 20, ground := Ground.phase }, { on := 21, ground := Ground.phase }, { on := 22, ground := Ground.phase }, { on := 23, ground := Ground.phase }, { on := 24, ground := Ground.phase }, { on := 25, ground := Ground.phase }], guard := none }) (v := ?_) rfl (by kernel_rfl) (by kernel_rfl) (by kernel_rfl) (fun _ _ _ h => h) (Or.inl ⟨by rfl, ?_⟩) (by assumption) ?_
              rotate_left
              · (intro w hSw; (try dsimp only at hSw); go_simp; try (with_reducible rfl))
              try simp only [Act.put, List.setIfInBounds_toArray, List.set_cons_zero, List.set_cons_succ]
              refine wpAnyH_ready (rs := [27]) (by kernel_rfl) (by simp) ?_
              refine AllReadyH.cons (o := { dst := none, op := Op.store 31 (Operand.tmp 63) (Operand.tmp 62), type := 0, pos := "ref.go:38", after := #[{ on := 26, ground := Ground.data }, { on := 25, ground := Ground.data }, { on := 25, ground := Ground.chain }, { on := 0, ground := Ground.phase }, { on := 1, ground := Ground.phase }, { on := 2, ground := Ground.phase }, { on := 3, ground := Ground.phase }, { on := 4, ground := Ground.phase }, { on := 5, ground := Ground.phase }, { on := 6, ground := Ground.phase }, { on := 7, ground := Ground.phase }, { on := 8, ground := Ground.phase }, { on := 9, ground := Ground.phase }, { on := 10, ground := Ground.phase }, { on := 11, ground := Ground.phase }, { on := 12, ground := Ground.phase }, { on := 13, ground := Ground.phase }, { on := 14, ground := Ground.phase }, { on := 15, ground := Ground.phase }, { on := 16, ground := Ground.phase }, { on := 17, ground := Ground.phase }, { on := 18, ground := Ground.phase }, { on := 19, ground := Ground.phase }, { on := 20, ground := Ground.phase }, { on := 21, ground := Ground.phase }, { on := 22, ground := Ground.phase }, { on := 23, ground := Ground.phase }, { on := 24, ground := Ground.phase }, { on := 25, ground := Ground.phase }], guard := none }) rfl (fun K hK => ?_) AllReadyH.nil
              go_simp
              refine hK.out _ _ ?_ (fun hHeld => ?_)
              · (refine hS _ ?_; first | with_reducible assumption | exact Moves.alloc (by with_reducible assumption) _ | exact Moves.setCell (by with_reducible assumption) (.inr (Nat.le_refl _)) _)
              clear hK K
              try simp only [Act.put, List.setIfInBounds_toArray, List.set_cons_zero, List.set_cons_succ]
              refine wpAnyH_done (by kernel_rfl) ?_ _
              refine NoPanic.normal ?_
              rw [take_map _ hy] at hG8
              go_wp2_with fail
              go_roundw
              case rel => exact ⟨j + 1, _, by omega, by go_num, M8.setCell (.inr (Nat.le_refl _)) _, heap_set (i := 1) qc8 _, hG8.setCol qc8 _⟩
              case measure => simp [intOf]; omega
        · have hj3 : ¬ (j : Int) < n2 := by omega
          obtain rfl : j = n2 := by omega
          have hfull : (x.l.take j).map pcanonV = (pcanonC x).l := by rw [Hn.out, List.take_length]; rfl
          have hGF := HGV.out
          rw [hfull] at hGF
          obtain ⟨s0, s1⟩ := one_cell (mq.at q3 (by simp))
          obtain ⟨g0, g1⟩ := pair_cells qc
          have hcn := cols_new wr (.string x.name) _ (pcanonC x) ⟨_, rfl, hGF.at⟩
          have ma : Moves [] wr (wr.alloc (.cells #[.string x.name, .slice ad4 n4 cap4] 33)) := (Moves.refl _ _).alloc _
          have hGC := HG.out.moves0 (mq.then ma)
          have hbd : ((R.take k).map pcanonC).length + [pcanonC x].length ≤ 1048576 := by simp; omega
          have hb3 := ma.at (mq.at q3 (by simp)) (by simp)
          have hb2 := ma.at (mq.at q2 (by simp)) (by simp)
          have hb1 := ma.at (mq.at q1 (by simp)) (by simp)
          have hn3 := hGC.neT hb3 (by decide)
          have hn2 := hGC.neT hb2 (by decide)
          have hn1 := hGC.neT hb1 (by decide)
          have MR2 := mr.then (mq.then ma)
          clear HV hfull
          go_wp2_with (at_builtin; refine growC_append (.tmp 65) (.tmp 67) rfl _ _ ((R.take k).map pcanonC) [pcanonC x] rfl rfl (by rfl) hGC hcn MR2 hbd ?_; intro v8 w8 hG8 M8 m8 s8 l8; have k8 := m8.at hb3 hn3; have k7 := m8.at hb2 hn2; have k6 := m8.at hb1 hn1; obtain ⟨f0, f1⟩ := one_cell k8; have hsl := hG8.open; obtain ⟨ad9, n9, cap9, rfl, hn9⟩ := hsl)
          rw [take_map _ HX.out] at hG8
          go_roundw
          case rel => exact ⟨k + 1, _, by omega, by go_num, M8.setCell (.inr (by show _ ≤ _ + 1 + 1; omega)) _, (moves_set _ _ _ _).at k6 (by simp; omega), (moves_set _ _ _ _).at k7 (by simp), set_one k8 _, hG8.setRow k8 _, fun h => absurd h (by omega)⟩
          case measure => simp [intOf]; omega
    · have hk3 : ¬ (k : Int) < n := by omega
      obtain rfl : k = n := by omega
      have hG := HG.out
      rw [HN.out, List.take_length] at hG
      obtain ⟨s0, s1⟩ := one_cell q3
      obtain ⟨t0, t1⟩ := one_cell q2
      have HG2 : Hid (GrowC w wo (.slice ad3 n3 cap3) (R.map pcanonC)) := hG
      clear hG HG
      go_wp2_with fail
      try simp only [Exit.inBlock, Exit.then]
      exact bodyPost_ret (ret_row rfl _ _ _ _ rfl (set_one q2 _)) rfl ⟨_, _, _, rfl, HG2.out.setRow q2 _, mr.setCell (.inr (by show _ ≤ _ + 1; omega)) _, fun hR => by have h0 := HZ.out (by rw [HN.out, hR]; rfl); simp at h0; exact ⟨h0.1, h0.2.2⟩⟩
end Go.Proofs.Ytcngllcifcpbkaa
/-
  The document's own find: the place of a column, or where it would be.
-/
namespace Go.Proofs.Ytcngllcifcpbkaa
open Go.RowKit

/-- Where a column is, or would be. -/
def pidx (R : List Pcol) (s : ByteArray) : Nat := (R.takeWhile (fun c => nlt c.name s)).length
def phas (R : List Pcol) (s : ByteArray) : Bool := match R[pidx R s]? with
  | none => false
  | some c => neq c.name s

theorem pidx_at {R : List Pcol} {s : ByteArray} {k : Nat} {x : Pcol} (hk : ∀ j y, j < k → R[j]? = some y → nlt y.name s = true) (hx : R[k]? = some x) (hn : nlt x.name s = false) : pidx R s = k := by
  unfold pidx
  induction R generalizing k with
  | nil => simp at hx
  | cons a t ih =>
    cases k with
    | zero =>
      simp at hx
      subst hx
      simp [hn]
    | succ k =>
      have ha := hk 0 a (by omega) rfl
      rw [List.takeWhile_cons, if_pos ha, List.length_cons, ih (k := k) (fun j y hj hy => hk (j + 1) y (by omega) (by simpa using hy)) (by simpa using hx)]
theorem pidx_end {R : List Pcol} {s : ByteArray} (hk : ∀ j y, j < R.length → R[j]? = some y → nlt y.name s = true) : pidx R s = R.length := by
  unfold pidx
  induction R with
  | nil => rfl
  | cons a t ih =>
    have ha := hk 0 a (by simp) rfl
    rw [List.takeWhile_cons, if_pos ha, List.length_cons, ih (fun j y hj hy => hk (j + 1) y (by simp; omega) (by simpa using hy)), List.length_cons]

set_option maxRecDepth 100000 in
set_option maxHeartbeats 4000000 in
theorem find_w (W w : World) (v : Value) (R : List Pcol) (s : ByteArray) (h : RowAt W v R) (m : Moves [] W w) (hsm : R.length ≤ 1048576) :
    Calls Try.prog 35 #[v, .string s] w fun e w' => e = .returned (.tuple #[.int .i64 (pidx R s), .bool (phas R s)]) ∧ Moves [] w w' := by
  obtain ⟨lv, rfl, h⟩ := h
  obtain ⟨ad, cap, hlv, hcap⟩ := h.slice
  obtain ⟨n, HN⟩ : ∃ n, Hid (n = R.length) := ⟨_, rfl⟩
  rw [← HN.out] at hlv hcap hsm
  subst hlv
  go_enter Try.func35, Try.ntmps35
  go_wp2_with fail
  have m1 : Moves [] w (w.alloc (.cells #[.slice ad n cap] 36)) := (Moves.refl _ _).alloc _
  obtain ⟨zz, _⟩ := one_cell (heap_alloc_new w (.cells #[.slice ad n cap] 36))
  go_loopw [6] (fun i wr => ∃ k : Nat, k ≤ n ∧ i = .int .i64 k ∧ Moves [] w wr ∧ wr.cell? ⟨w.heap.size, 0, none⟩ = some (.slice ad n cap) ∧ ∀ j y, j < k → R[j]? = some y → nlt y.name s = true) (fun i _ => n - (intOf i).toNat)
  case atStart => exact ⟨0, Nat.zero_le _, rfl, m1, zz, fun j y hj => absurd hj (by omega)⟩
  case round =>
    obtain ⟨k, hk, rfl, mr, rr, hall⟩ := hrel
    have HA : Hid (∀ j y, j < k → R[j]? = some y → nlt y.name s = true) := hall
    clear hall
    by_cases hlt : k < n
    · have hk3 : (k : Int) < n := by omega
      obtain ⟨x, hx⟩ : ∃ x, R[k]? = some x := ⟨_, List.getElem?_eq_getElem (by rw [← HN.out]; exact hlt)⟩
      obtain ⟨g, off, a2, n2, c2, rfl, e0, e1, en, hle, hV⟩ := h.at hx
      have d0 := (m.then mr).cell e0
      have HX : Hid (R[k]? = some x) := hx
      clear e0 e1 hx en hV h
      cases hq : nlt x.name s with
      | true =>
        have hbl : Op.bytesLess x.name.toList s.toList = true := hq
        have HF : Hid (∀ j y, j < k + 1 → R[j]? = some y → nlt y.name s = true) := fun j y hj hy => by
          rcases Nat.lt_succ_iff_lt_or_eq.1 hj with h | h
          · exact HA.out j y h hy
          · subst h
            rw [HX.out] at hy
            simp at hy
            rw [← hy]
            exact hq
        clear hq
        go_wp2_with fail
        go_roundw
        case rel => exact ⟨k + 1, by omega, by go_num, mr, rr, HF.out⟩
        case measure => simp [intOf]; omega
      | false =>
        have hbl : Op.bytesLess x.name.toList s.toList = false := hq
        have hpi := pidx_at HA.out HX.out hq
        have hph : Hid (phas R s = neq x.name s) := by unfold Hid phas; rw [hpi, HX.out]
        have HPI : Hid (pidx R s = k) := hpi
        clear hq hpi
        cases hqe : neq x.name s with
        | true =>
          have hbe : (x.name.toList == s.toList) = true := hqe
          have HE : Hid (phas R s = true) := hph.out.trans hqe
          clear hqe
          go_wp2_with fail
          refine wp_region_noPanic ?_
          refine wp_region_held_drew (S := (fun w' => w'.cell? ⟨w.heap.size, 0, none⟩ = some (.slice (some ⟨g, off, none⟩) n cap) ∧ w'.cell? ⟨g, off + k * 2, none⟩ = some (.string x.name))) (by kernel_rfl) ?_ (fun hHeld => ?_)
          · first | (go_keep; done) | exact ⟨rr, d0⟩
          refine wpAnyH_take (i := 0) (oi := { dst := some 24, op := Op.move (Operand.tmp 6), type := 3, pos := "ref.go:51", after := #[], guard := none }) (v := ?_) rfl (by kernel_rfl) (by kernel_rfl) (by kernel_rfl) (fun _ _ _ h => h) (Or.inl ⟨by rfl, ?_⟩) (by assumption) ?_
          rotate_left
          · (intro w hSw; (try dsimp only at hSw); go_simp; try (with_reducible rfl))
          try simp only [Act.put, List.setIfInBounds_toArray, List.set_cons_zero, List.set_cons_succ]
          refine wpAnyH_take (i := 1) (oi := { dst := some 25, op := Op.move (Operand.tmp 6), type := 3, pos := "ref.go:51", after := #[], guard := none }) (v := ?_) rfl (by kernel_rfl) (by kernel_rfl) (by kernel_rfl) (fun _ _ _ h => h) (Or.inl ⟨by rfl, ?_⟩) (by assumption) ?_
          rotate_left
          · (intro w hSw; (try dsimp only at hSw); go_simp; try (with_reducible rfl))
          try simp only [Act.put, List.setIfInBounds_toArray, List.set_cons_zero, List.set_cons_succ]
          refine wpAnyH_take (i := 2) (oi := { dst := some 26, op := Op.fieldAddr 36 (Operand.tmp 2) 0, type := 0, pos := "ref.go:51", after := #[], guard := none }) (v := ?_) rfl (by kernel_rfl) (by kernel_rfl) (by kernel_rfl) (fun _ _ _ h => h) (Or.inl ⟨by rfl, ?_⟩) (by assumption) ?_
          rotate_left
          · (intro w hSw; (try dsimp only at hSw); go_simp; try (with_reducible rfl))
          try simp only [Act.put, List.setIfInBounds_toArray, List.set_cons_zero, List.set_cons_succ]
          refine wpAnyH_take (i := 3) (oi := { dst := some 27, op := Op.load 34 (Operand.tmp 26), type := 34, pos := "ref.go:51", after := #[{ on := 2, ground := Ground.data }], guard := none }) (v := ?_) rfl (by kernel_rfl) (by kernel_rfl) (by kernel_rfl) (fun _ _ _ h => h) (Or.inl ⟨by rfl, ?_⟩) (by assumption) ?_
          rotate_left
          · (intro w hSw; (try dsimp only at hSw); go_simp; try (with_reducible rfl))
          try simp only [Act.put, List.setIfInBounds_toArray, List.set_cons_zero, List.set_cons_succ]
          refine wpAnyH_take (i := 4) (oi := { dst := some 28, op := Op.call { callee := Callee.builtin Builtin.len, args := #[Operand.tmp 27], argTypes := #[34] }, type := 3, pos := "ref.go:51", after := #[{ on := 3, ground := Ground.data }], guard := none }) (v := ?_) rfl (by kernel_rfl) (by kernel_rfl) (by kernel_rfl) (fun _ _ _ h => h) (Or.inl ⟨by rfl, ?_⟩) (by assumption) ?_
          rotate_left
          · (intro w hSw; (try dsimp only at hSw); go_simp; try (with_reducible rfl))
          try simp only [Act.put, List.setIfInBounds_toArray, List.set_cons_zero, List.set_cons_succ]
          refine wpAnyH_take (i := 5) (oi := { dst := some 29, op := Op.binOp BinOp.lss 3 (Operand.tmp 25) (Operand.tmp 28) 3, type := 4, pos := "ref.go:51", after := #[{ on := 1, ground := Ground.data }, { on := 4, ground := Ground.data }], guard := none }) (v := ?_) rfl (by kernel_rfl) (by kernel_rfl) (by kernel_rfl) (fun _ _ _ h => h) (Or.inl ⟨by rfl, ?_⟩) (by assumption) ?_
          rotate_left
          · (intro w hSw; (try dsimp only at hSw); go_simp; try (with_reducible rfl))
          try simp only [Act.put, List.setIfInBounds_toArray, List.set_cons_zero, List.set_cons_succ]
          refine wpAnyH_take (i := 6) (oi := { dst := some 30, op := Op.move (Operand.tmp 29), type := 4, pos := "ref.go:51", after := #[{ on := 5, ground := Ground.data }], guard := none }) (v := ?_) rfl (by kernel_rfl) (by kernel_rfl) (by kernel_rfl) (fun _ _ _ h => h) (Or.inl ⟨by rfl, ?_⟩) (by assumption) ?_
          rotate_left
          · (intro w hSw; (try dsimp only at hSw); go_simp; try (with_reducible rfl))
          try simp only [Act.put, List.setIfInBounds_toArray, List.set_cons_zero, List.set_cons_succ]
          refine wpAnyH_take (i := 7) (oi := { dst := some 31, op := Op.fieldAddr 36 (Operand.tmp 2) 0, type := 0, pos := "ref.go:51", after := #[{ on := 6, ground := Ground.guard }, { on := 16, ground := Ground.gcOnly Departure.lateStores }], guard := some (6, true) }) (v := ?_) rfl (by kernel_rfl) (by kernel_rfl) (by kernel_rfl) (fun _ _ _ h => h) (Or.inl ⟨by rfl, ?_⟩) (by assumption) ?_
          rotate_left
          · (intro w hSw; (try dsimp only at hSw); go_simp; try (with_reducible rfl))
          try simp only [Act.put, List.setIfInBounds_toArray, List.set_cons_zero, List.set_cons_succ]
          refine wpAnyH_take (i := 8) (oi := { dst := some 32, op := Op.load 34 (Operand.tmp 31), type := 34, pos := "ref.go:51", after := #[{ on := 7, ground := Ground.data }, { on := 6, ground := Ground.guard }, { on := 16, ground := Ground.gcOnly Departure.lateStores }], guard := some (6, true) }) (v := ?_) rfl (by kernel_rfl) (by kernel_rfl) (by kernel_rfl) (fun _ _ _ h => h) (Or.inl ⟨by rfl, ?_⟩) (by assumption) ?_
          rotate_left
          · (intro w hSw; (try dsimp only at hSw); go_simp; try (with_reducible rfl))
          try simp only [Act.put, List.setIfInBounds_toArray, List.set_cons_zero, List.set_cons_succ]
          refine wpAnyH_take (i := 9) (oi := { dst := some 33, op := Op.move (Operand.tmp 6), type := 3, pos := "ref.go:51", after := #[{ on := 6, ground := Ground.guard }, { on := 16, ground := Ground.gcOnly Departure.lateStores }], guard := some (6, true) }) (v := ?_) rfl (by kernel_rfl) (by kernel_rfl) (by kernel_rfl) (fun _ _ _ h => h) (Or.inl ⟨by rfl, ?_⟩) (by assumption) ?_
          rotate_left
          · (intro w hSw; (try dsimp only at hSw); go_simp; try (with_reducible rfl))
          try simp only [Act.put, List.setIfInBounds_toArray, List.set_cons_zero, List.set_cons_succ]
          refine wpAnyH_take (i := 10) (oi := { dst := some 34, op := Op.indexAddr 34 (Operand.tmp 32) (Operand.tmp 33), type := 0, pos := "ref.go:51", after := #[{ on := 8, ground := Ground.data }, { on := 9, ground := Ground.data }, { on := 6, ground := Ground.guard }, { on := 16, ground := Ground.gcOnly Departure.lateStores }], guard := some (6, true) }) (v := ?_) rfl (by kernel_rfl) (by kernel_rfl) (by kernel_rfl) (fun _ _ _ h => h) (Or.inl ⟨by rfl, ?_⟩) (by assumption) ?_
          rotate_left
          · (intro w hSw; (try dsimp only at hSw); go_simp; try (with_reducible rfl))
          try simp only [Act.put, List.setIfInBounds_toArray, List.set_cons_zero, List.set_cons_succ]
          refine wpAnyH_take (i := 11) (oi := { dst := some 35, op := Op.fieldAddr 33 (Operand.tmp 34) 0, type := 0, pos := "ref.go:51", after := #[{ on := 10, ground := Ground.data }, { on := 6, ground := Ground.guard }, { on := 16, ground := Ground.gcOnly Departure.lateStores }], guard := some (6, true) }) (v := ?_) rfl (by kernel_rfl) (by kernel_rfl) (by kernel_rfl) (fun _ _ _ h => h) (Or.inl ⟨by rfl, ?_⟩) (by assumption) ?_
          rotate_left
          · (intro w hSw; (try dsimp only at hSw); go_simp; try (with_reducible rfl))
          try simp only [Act.put, List.setIfInBounds_toArray, List.set_cons_zero, List.set_cons_succ]
          refine wpAnyH_take (i := 12) (oi := { dst := some 36, op := Op.load 9 (Operand.tmp 35), type := 9, pos := "ref.go:51", after := #[{ on := 11, ground := Ground.data }, { on := 6, ground := Ground.guard }, { on := 16, ground := Ground.gcOnly Departure.lateStores }], guard := some (6, true) }) (v := ?_) rfl (by kernel_rfl) (by kernel_rfl) (by kernel_rfl) (fun _ _ _ h => h) (Or.inl ⟨by rfl, ?_⟩) (by assumption) ?_
          rotate_left
          · (intro w hSw; (try dsimp only at hSw); go_simp; try (with_reducible rfl))
          try simp only [Act.put, List.setIfInBounds_toArray, List.set_cons_zero, List.set_cons_succ]
          refine wpAnyH_take (i := 13) (oi := { dst := some 37, op := Op.move (Operand.tmp 1), type := 9, pos := "ref.go:51", after := #[{ on := 6, ground := Ground.guard }, { on := 16, ground := Ground.gcOnly Departure.lateStores }], guard := some (6, true) }) (v := ?_) rfl (by kernel_rfl) (by kernel_rfl) (by kernel_rfl) (fun _ _ _ h => h) (Or.inl ⟨by rfl, ?_⟩) (by assumption) ?_
          rotate_left
          · (intro w hSw; (try dsimp only at hSw); go_simp; try (with_reducible rfl))
          try simp only [Act.put, List.setIfInBounds_toArray, List.set_cons_zero, List.set_cons_succ]
          refine wpAnyH_take (i := 14) (oi := { dst := some 38, op := Op.binOp BinOp.eql 9 (Operand.tmp 36) (Operand.tmp 37) 9, type := 4, pos := "ref.go:51", after := #[{ on := 12, ground := Ground.data }, { on := 13, ground := Ground.data }, { on := 6, ground := Ground.guard }, { on := 16, ground := Ground.gcOnly Departure.lateStores }], guard := some (6, true) }) (v := ?_) rfl (by kernel_rfl) (by kernel_rfl) (by kernel_rfl) (fun _ _ _ h => h) (Or.inl ⟨by rfl, ?_⟩) (by assumption) ?_
          rotate_left
          · (intro w hSw; (try dsimp only at hSw); go_simp; try (with_reducible rfl))
          try simp only [Act.put, List.setIfInBounds_toArray, List.set_cons_zero, List.set_cons_succ]
          refine wpAnyH_take (i := 15) (oi := { dst := some 39, op := Op.pick (Operand.tmp 30) (Operand.tmp 38) (Operand.const (Value.bool false)), type := 4, pos := "ref.go:51", after := #[{ on := 6, ground := Ground.data }, { on := 14, ground := Ground.data }, { on := 16, ground := Ground.gcOnly Departure.lateStores }], guard := none }) (v := ?_) rfl (by kernel_rfl) (by kernel_rfl) (by kernel_rfl) (fun _ _ _ h => h) (Or.inl ⟨by rfl, ?_⟩) (by assumption) ?_
          rotate_left
          · (intro w hSw; (try dsimp only at hSw); go_simp; try (with_reducible rfl))
          try simp only [Act.put, List.setIfInBounds_toArray, List.set_cons_zero, List.set_cons_succ]
          refine wpAnyH_take (i := 16) (oi := { dst := some 4, op := Op.assign (Operand.tmp 24), type := 3, pos := "ref.go:51", after := #[{ on := 0, ground := Ground.data }, { on := 6, ground := Ground.chain }, { on := 0, ground := Ground.phase }, { on := 1, ground := Ground.textOnly Departure.lateStores }, { on := 2, ground := Ground.textOnly Departure.lateStores }, { on := 3, ground := Ground.textOnly Departure.lateStores }, { on := 4, ground := Ground.textOnly Departure.lateStoresUnsure }, { on := 5, ground := Ground.textOnly Departure.lateStores }, { on := 6, ground := Ground.textOnly Departure.lateStores }, { on := 7, ground := Ground.textOnly Departure.lateStores }, { on := 8, ground := Ground.textOnly Departure.lateStores }, { on := 9, ground := Ground.textOnly Departure.lateStores }, { on := 10, ground := Ground.textOnly Departure.lateStores }, { on := 11, ground := Ground.textOnly Departure.lateStores }, { on := 12, ground := Ground.textOnly Departure.lateStores }, { on := 13, ground := Ground.textOnly Departure.lateStores }, { on := 14, ground := Ground.textOnly Departure.lateStores }, { on := 15, ground := Ground.textOnly Departure.lateStores }], guard := none }) (v := ?_) rfl (by kernel_rfl) (by kernel_rfl) (by kernel_rfl) (fun _ _ _ h => h) (Or.inl ⟨by rfl, ?_⟩) (by assumption) ?_
          rotate_left
          · (intro w hSw; (try dsimp only at hSw); go_simp; try (with_reducible rfl))
          try simp only [Act.put, List.setIfInBounds_toArray, List.set_cons_zero, List.set_cons_succ]
          refine wpAnyH_take (i := 17) (oi := { dst := some 5, op := Op.assign (Operand.tmp 39), type := 4, pos := "ref.go:51", after := #[{ on := 15, ground := Ground.data }, { on := 16, ground := Ground.chain }, { on := 0, ground := Ground.phase }, { on := 1, ground := Ground.phase }, { on := 2, ground := Ground.phase }, { on := 3, ground := Ground.phase }, { on := 4, ground := Ground.phase }, { on := 5, ground := Ground.phase }, { on := 6, ground := Ground.phase }, { on := 7, ground := Ground.phase }, { on := 8, ground := Ground.phase }, { on := 9, ground := Ground.phase }, { on := 10, ground := Ground.phase }, { on := 11, ground := Ground.phase }, { on := 12, ground := Ground.phase }, { on := 13, ground := Ground.phase }, { on := 14, ground := Ground.phase }, { on := 15, ground := Ground.phase }, { on := 16, ground := Ground.phase }], guard := none }) (v := ?_) rfl (by kernel_rfl) (by kernel_rfl) (by kernel_rfl) (fun _ _ _ h => h) (Or.inl ⟨by rfl, ?_⟩) (by assumption) ?_
          rotate_left
          · (intro w hSw; (try dsimp only at hSw); go_simp; try (with_reducible rfl))
          try simp only [Act.put, List.setIfInBounds_toArray, List.set_cons_zero, List.set_cons_succ]
          refine wpAnyH_done (by kernel_rfl) ?_ _
          refine NoPanic.normal ?_
          go_wp2_with fail
          go_ret2
          exact ⟨by rw [HPI.out, HE.out]; rfl, mr.drew⟩
        | false =>
          have hbe : (x.name.toList == s.toList) = false := hqe
          have HE : Hid (phas R s = false) := hph.out.trans hqe
          clear hqe
          go_wp2_with fail
          refine wp_region_noPanic ?_
          refine wp_region_held_drew (S := (fun w' => w'.cell? ⟨w.heap.size, 0, none⟩ = some (.slice (some ⟨g, off, none⟩) n cap) ∧ w'.cell? ⟨g, off + k * 2, none⟩ = some (.string x.name))) (by kernel_rfl) ?_ (fun hHeld => ?_)
          · first | (go_keep; done) | exact ⟨rr, d0⟩
          refine wpAnyH_take (i := 0) (oi := { dst := some 24, op := Op.move (Operand.tmp 6), type := 3, pos := "ref.go:51", after := #[], guard := none }) (v := ?_) rfl (by kernel_rfl) (by kernel_rfl) (by kernel_rfl) (fun _ _ _ h => h) (Or.inl ⟨by rfl, ?_⟩) (by assumption) ?_
          rotate_left
          · (intro w hSw; (try dsimp only at hSw); go_simp; try (with_reducible rfl))
          try simp only [Act.put, List.setIfInBounds_toArray, List.set_cons_zero, List.set_cons_succ]
          refine wpAnyH_take (i := 1) (oi := { dst := some 25, op := Op.move (Operand.tmp 6), type := 3, pos := "ref.go:51", after := #[], guard := none }) (v := ?_) rfl (by kernel_rfl) (by kernel_rfl) (by kernel_rfl) (fun _ _ _ h => h) (Or.inl ⟨by rfl, ?_⟩) (by assumption) ?_
          rotate_left
          · (intro w hSw; (try dsimp only at hSw); go_simp; try (with_reducible rfl))
          try simp only [Act.put, List.setIfInBounds_toArray, List.set_cons_zero, List.set_cons_succ]
          refine wpAnyH_take (i := 2) (oi := { dst := some 26, op := Op.fieldAddr 36 (Operand.tmp 2) 0, type := 0, pos := "ref.go:51", after := #[], guard := none }) (v := ?_) rfl (by kernel_rfl) (by kernel_rfl) (by kernel_rfl) (fun _ _ _ h => h) (Or.inl ⟨by rfl, ?_⟩) (by assumption) ?_
          rotate_left
          · (intro w hSw; (try dsimp only at hSw); go_simp; try (with_reducible rfl))
          try simp only [Act.put, List.setIfInBounds_toArray, List.set_cons_zero, List.set_cons_succ]
          refine wpAnyH_take (i := 3) (oi := { dst := some 27, op := Op.load 34 (Operand.tmp 26), type := 34, pos := "ref.go:51", after := #[{ on := 2, ground := Ground.data }], guard := none }) (v := ?_) rfl (by kernel_rfl) (by kernel_rfl) (by kernel_rfl) (fun _ _ _ h => h) (Or.inl ⟨by rfl, ?_⟩) (by assumption) ?_
          rotate_left
          · (intro w hSw; (try dsimp only at hSw); go_simp; try (with_reducible rfl))
          try simp only [Act.put, List.setIfInBounds_toArray, List.set_cons_zero, List.set_cons_succ]
          refine wpAnyH_take (i := 4) (oi := { dst := some 28, op := Op.call { callee := Callee.builtin Builtin.len, args := #[Operand.tmp 27], argTypes := #[34] }, type := 3, pos := "ref.go:51", after := #[{ on := 3, ground := Ground.data }], guard := none }) (v := ?_) rfl (by kernel_rfl) (by kernel_rfl) (by kernel_rfl) (fun _ _ _ h => h) (Or.inl ⟨by rfl, ?_⟩) (by assumption) ?_
          rotate_left
          · (intro w hSw; (try dsimp only at hSw); go_simp; try (with_reducible rfl))
          try simp only [Act.put, List.setIfInBounds_toArray, List.set_cons_zero, List.set_cons_succ]
          refine wpAnyH_take (i := 5) (oi := { dst := some 29, op := Op.binOp BinOp.lss 3 (Operand.tmp 25) (Operand.tmp 28) 3, type := 4, pos := "ref.go:51", after := #[{ on := 1, ground := Ground.data }, { on := 4, ground := Ground.data }], guard := none }) (v := ?_) rfl (by kernel_rfl) (by kernel_rfl) (by kernel_rfl) (fun _ _ _ h => h) (Or.inl ⟨by rfl, ?_⟩) (by assumption) ?_
          rotate_left
          · (intro w hSw; (try dsimp only at hSw); go_simp; try (with_reducible rfl))
          try simp only [Act.put, List.setIfInBounds_toArray, List.set_cons_zero, List.set_cons_succ]
          refine wpAnyH_take (i := 6) (oi := { dst := some 30, op := Op.move (Operand.tmp 29), type := 4, pos := "ref.go:51", after := #[{ on := 5, ground := Ground.data }], guard := none }) (v := ?_) rfl (by kernel_rfl) (by kernel_rfl) (by kernel_rfl) (fun _ _ _ h => h) (Or.inl ⟨by rfl, ?_⟩) (by assumption) ?_
          rotate_left
          · (intro w hSw; (try dsimp only at hSw); go_simp; try (with_reducible rfl))
          try simp only [Act.put, List.setIfInBounds_toArray, List.set_cons_zero, List.set_cons_succ]
          refine wpAnyH_take (i := 7) (oi := { dst := some 31, op := Op.fieldAddr 36 (Operand.tmp 2) 0, type := 0, pos := "ref.go:51", after := #[{ on := 6, ground := Ground.guard }, { on := 16, ground := Ground.gcOnly Departure.lateStores }], guard := some (6, true) }) (v := ?_) rfl (by kernel_rfl) (by kernel_rfl) (by kernel_rfl) (fun _ _ _ h => h) (Or.inl ⟨by rfl, ?_⟩) (by assumption) ?_
          rotate_left
          · (intro w hSw; (try dsimp only at hSw); go_simp; try (with_reducible rfl))
          try simp only [Act.put, List.setIfInBounds_toArray, List.set_cons_zero, List.set_cons_succ]
          refine wpAnyH_take (i := 8) (oi := { dst := some 32, op := Op.load 34 (Operand.tmp 31), type := 34, pos := "ref.go:51", after := #[{ on := 7, ground := Ground.data }, { on := 6, ground := Ground.guard }, { on := 16, ground := Ground.gcOnly Departure.lateStores }], guard := some (6, true) }) (v := ?_) rfl (by kernel_rfl) (by kernel_rfl) (by kernel_rfl) (fun _ _ _ h => h) (Or.inl ⟨by rfl, ?_⟩) (by assumption) ?_
          rotate_left
          · (intro w hSw; (try dsimp only at hSw); go_simp; try (with_reducible rfl))
          try simp only [Act.put, List.setIfInBounds_toArray, List.set_cons_zero, List.set_cons_succ]
          refine wpAnyH_take (i := 9) (oi := { dst := some 33, op := Op.move (Operand.tmp 6), type := 3, pos := "ref.go:51", after := #[{ on := 6, ground := Ground.guard }, { on := 16, ground := Ground.gcOnly Departure.lateStores }], guard := some (6, true) }) (v := ?_) rfl (by kernel_rfl) (by kernel_rfl) (by kernel_rfl) (fun _ _ _ h => h) (Or.inl ⟨by rfl, ?_⟩) (by assumption) ?_
          rotate_left
          · (intro w hSw; (try dsimp only at hSw); go_simp; try (with_reducible rfl))
          try simp only [Act.put, List.setIfInBounds_toArray, List.set_cons_zero, List.set_cons_succ]
          refine wpAnyH_take (i := 10) (oi := { dst := some 34, op := Op.indexAddr 34 (Operand.tmp 32) (Operand.tmp 33), type := 0, pos := "ref.go:51", after := #[{ on := 8, ground := Ground.data }, { on := 9, ground := Ground.data }, { on := 6, ground := Ground.guard }, { on := 16, ground := Ground.gcOnly Departure.lateStores }], guard := some (6, true) }) (v := ?_) rfl (by kernel_rfl) (by kernel_rfl) (by kernel_rfl) (fun _ _ _ h => h) (Or.inl ⟨by rfl, ?_⟩) (by assumption) ?_
          rotate_left
          · (intro w hSw; (try dsimp only at hSw); go_simp; try (with_reducible rfl))
          try simp only [Act.put, List.setIfInBounds_toArray, List.set_cons_zero, List.set_cons_succ]
          refine wpAnyH_take (i := 11) (oi := { dst := some 35, op := Op.fieldAddr 33 (Operand.tmp 34) 0, type := 0, pos := "ref.go:51", after := #[{ on := 10, ground := Ground.data }, { on := 6, ground := Ground.guard }, { on := 16, ground := Ground.gcOnly Departure.lateStores }], guard := some (6, true) }) (v := ?_) rfl (by kernel_rfl) (by kernel_rfl) (by kernel_rfl) (fun _ _ _ h => h) (Or.inl ⟨by rfl, ?_⟩) (by assumption) ?_
          rotate_left
          · (intro w hSw; (try dsimp only at hSw); go_simp; try (with_reducible rfl))
          try simp only [Act.put, List.setIfInBounds_toArray, List.set_cons_zero, List.set_cons_succ]
          refine wpAnyH_take (i := 12) (oi := { dst := some 36, op := Op.load 9 (Operand.tmp 35), type := 9, pos := "ref.go:51", after := #[{ on := 11, ground := Ground.data }, { on := 6, ground := Ground.guard }, { on := 16, ground := Ground.gcOnly Departure.lateStores }], guard := some (6, true) }) (v := ?_) rfl (by kernel_rfl) (by kernel_rfl) (by kernel_rfl) (fun _ _ _ h => h) (Or.inl ⟨by rfl, ?_⟩) (by assumption) ?_
          rotate_left
          · (intro w hSw; (try dsimp only at hSw); go_simp; try (with_reducible rfl))
          try simp only [Act.put, List.setIfInBounds_toArray, List.set_cons_zero, List.set_cons_succ]
          refine wpAnyH_take (i := 13) (oi := { dst := some 37, op := Op.move (Operand.tmp 1), type := 9, pos := "ref.go:51", after := #[{ on := 6, ground := Ground.guard }, { on := 16, ground := Ground.gcOnly Departure.lateStores }], guard := some (6, true) }) (v := ?_) rfl (by kernel_rfl) (by kernel_rfl) (by kernel_rfl) (fun _ _ _ h => h) (Or.inl ⟨by rfl, ?_⟩) (by assumption) ?_
          rotate_left
          · (intro w hSw; (try dsimp only at hSw); go_simp; try (with_reducible rfl))
          try simp only [Act.put, List.setIfInBounds_toArray, List.set_cons_zero, List.set_cons_succ]
          refine wpAnyH_take (i := 14) (oi := { dst := some 38, op := Op.binOp BinOp.eql 9 (Operand.tmp 36) (Operand.tmp 37) 9, type := 4, pos := "ref.go:51", after := #[{ on := 12, ground := Ground.data }, { on := 13, ground := Ground.data }, { on := 6, ground := Ground.guard }, { on := 16, ground := Ground.gcOnly Departure.lateStores }], guard := some (6, true) }) (v := ?_) rfl (by kernel_rfl) (by kernel_rfl) (by kernel_rfl) (fun _ _ _ h => h) (Or.inl ⟨by rfl, ?_⟩) (by assumption) ?_
          rotate_left
          · (intro w hSw; (try dsimp only at hSw); go_simp; try (with_reducible rfl))
          try simp only [Act.put, List.setIfInBounds_toArray, List.set_cons_zero, List.set_cons_succ]
          refine wpAnyH_take (i := 15) (oi := { dst := some 39, op := Op.pick (Operand.tmp 30) (Operand.tmp 38) (Operand.const (Value.bool false)), type := 4, pos := "ref.go:51", after := #[{ on := 6, ground := Ground.data }, { on := 14, ground := Ground.data }, { on := 16, ground := Ground.gcOnly Departure.lateStores }], guard := none }) (v := ?_) rfl (by kernel_rfl) (by kernel_rfl) (by kernel_rfl) (fun _ _ _ h => h) (Or.inl ⟨by rfl, ?_⟩) (by assumption) ?_
          rotate_left
          · (intro w hSw; (try dsimp only at hSw); go_simp; try (with_reducible rfl))
          try simp only [Act.put, List.setIfInBounds_toArray, List.set_cons_zero, List.set_cons_succ]
          refine wpAnyH_take (i := 16) (oi := { dst := some 4, op := Op.assign (Operand.tmp 24), type := 3, pos := "ref.go:51", after := #[{ on := 0, ground := Ground.data }, { on := 6, ground := Ground.chain }, { on := 0, ground := Ground.phase }, { on := 1, ground := Ground.textOnly Departure.lateStores }, { on := 2, ground := Ground.textOnly Departure.lateStores }, { on := 3, ground := Ground.textOnly Departure.lateStores }, { on := 4, ground := Ground.textOnly Departure.lateStoresUnsure }, { on := 5, ground := Ground.textOnly Departure.lateStores }, { on := 6, ground := Ground.textOnly Departure.lateStores }, { on := 7, ground := Ground.textOnly Departure.lateStores }, { on := 8, ground := Ground.textOnly Departure.lateStores }, { on := 9, ground := Ground.textOnly Departure.lateStores }, { on := 10, ground := Ground.textOnly Departure.lateStores }, { on := 11, ground := Ground.textOnly Departure.lateStores }, { on := 12, ground := Ground.textOnly Departure.lateStores }, { on := 13, ground := Ground.textOnly Departure.lateStores }, { on := 14, ground := Ground.textOnly Departure.lateStores }, { on := 15, ground := Ground.textOnly Departure.lateStores }], guard := none }) (v := ?_) rfl (by kernel_rfl) (by kernel_rfl) (by kernel_rfl) (fun _ _ _ h => h) (Or.inl ⟨by rfl, ?_⟩) (by assumption) ?_
          rotate_left
          · (intro w hSw; (try dsimp only at hSw); go_simp; try (with_reducible rfl))
          try simp only [Act.put, List.setIfInBounds_toArray, List.set_cons_zero, List.set_cons_succ]
          refine wpAnyH_take (i := 17) (oi := { dst := some 5, op := Op.assign (Operand.tmp 39), type := 4, pos := "ref.go:51", after := #[{ on := 15, ground := Ground.data }, { on := 16, ground := Ground.chain }, { on := 0, ground := Ground.phase }, { on := 1, ground := Ground.phase }, { on := 2, ground := Ground.phase }, { on := 3, ground := Ground.phase }, { on := 4, ground := Ground.phase }, { on := 5, ground := Ground.phase }, { on := 6, ground := Ground.phase }, { on := 7, ground := Ground.phase }, { on := 8, ground := Ground.phase }, { on := 9, ground := Ground.phase }, { on := 10, ground := Ground.phase }, { on := 11, ground := Ground.phase }, { on := 12, ground := Ground.phase }, { on := 13, ground := Ground.phase }, { on := 14, ground := Ground.phase }, { on := 15, ground := Ground.phase }, { on := 16, ground := Ground.phase }], guard := none }) (v := ?_) rfl (by kernel_rfl) (by kernel_rfl) (by kernel_rfl) (fun _ _ _ h => h) (Or.inl ⟨by rfl, ?_⟩) (by assumption) ?_
          rotate_left
          · (intro w hSw; (try dsimp only at hSw); go_simp; try (with_reducible rfl))
          try simp only [Act.put, List.setIfInBounds_toArray, List.set_cons_zero, List.set_cons_succ]
          refine wpAnyH_done (by kernel_rfl) ?_ _
          refine NoPanic.normal ?_
          go_wp2_with fail
          go_ret2
          exact ⟨by rw [HPI.out, HE.out]; rfl, mr.drew⟩
    · have hk3 : ¬ (k : Int) < n := by omega
      obtain rfl : k = n := by omega
      have hpi : pidx R s = R.length := pidx_end (fun j y hj hy => HA.out j y (by have := HN.out; omega) hy)
      have HPI : Hid (pidx R s = k) := by unfold Hid; rw [hpi, ← HN.out]
      have HE : Hid (phas R s = false) := by unfold Hid phas; rw [hpi]; simp
      clear hpi h
      go_wp2_with fail
      refine wp_region_noPanic ?_
      refine wp_region_held_drew (S := (fun w' => w'.cell? ⟨w.heap.size, 0, none⟩ = some (.slice ad k cap))) (by kernel_rfl) ?_ (fun hHeld => ?_)
      · first | (go_keep; done) | exact rr
      refine wpAnyH_take (i := 0) (oi := { dst := some 24, op := Op.move (Operand.tmp 6), type := 3, pos := "ref.go:51", after := #[], guard := none }) (v := ?_) rfl (by kernel_rfl) (by kernel_rfl) (by kernel_rfl) (fun _ _ _ h => h) (Or.inl ⟨by rfl, ?_⟩) (by assumption) ?_
      rotate_left
      · (intro w hSw; (try dsimp only at hSw); go_simp; try (with_reducible rfl))
      try simp only [Act.put, List.setIfInBounds_toArray, List.set_cons_zero, List.set_cons_succ]
      refine wpAnyH_take (i := 1) (oi := { dst := some 25, op := Op.move (Operand.tmp 6), type := 3, pos := "ref.go:51", after := #[], guard := none }) (v := ?_) rfl (by kernel_rfl) (by kernel_rfl) (by kernel_rfl) (fun _ _ _ h => h) (Or.inl ⟨by rfl, ?_⟩) (by assumption) ?_
      rotate_left
      · (intro w hSw; (try dsimp only at hSw); go_simp; try (with_reducible rfl))
      try simp only [Act.put, List.setIfInBounds_toArray, List.set_cons_zero, List.set_cons_succ]
      refine wpAnyH_take (i := 2) (oi := { dst := some 26, op := Op.fieldAddr 36 (Operand.tmp 2) 0, type := 0, pos := "ref.go:51", after := #[], guard := none }) (v := ?_) rfl (by kernel_rfl) (by kernel_rfl) (by kernel_rfl) (fun _ _ _ h => h) (Or.inl ⟨by rfl, ?_⟩) (by assumption) ?_
      rotate_left
      · (intro w hSw; (try dsimp only at hSw); go_simp; try (with_reducible rfl))
      try simp only [Act.put, List.setIfInBounds_toArray, List.set_cons_zero, List.set_cons_succ]
      refine wpAnyH_take (i := 3) (oi := { dst := some 27, op := Op.load 34 (Operand.tmp 26), type := 34, pos := "ref.go:51", after := #[{ on := 2, ground := Ground.data }], guard := none }) (v := ?_) rfl (by kernel_rfl) (by kernel_rfl) (by kernel_rfl) (fun _ _ _ h => h) (Or.inl ⟨by rfl, ?_⟩) (by assumption) ?_
      rotate_left
      · (intro w hSw; (try dsimp only at hSw); go_simp; try (with_reducible rfl))
      try simp only [Act.put, List.setIfInBounds_toArray, List.set_cons_zero, List.set_cons_succ]
      refine wpAnyH_take (i := 4) (oi := { dst := some 28, op := Op.call { callee := Callee.builtin Builtin.len, args := #[Operand.tmp 27], argTypes := #[34] }, type := 3, pos := "ref.go:51", after := #[{ on := 3, ground := Ground.data }], guard := none }) (v := ?_) rfl (by kernel_rfl) (by kernel_rfl) (by kernel_rfl) (fun _ _ _ h => h) (Or.inl ⟨by rfl, ?_⟩) (by assumption) ?_
      rotate_left
      · (intro w hSw; (try dsimp only at hSw); go_simp; try (with_reducible rfl))
      try simp only [Act.put, List.setIfInBounds_toArray, List.set_cons_zero, List.set_cons_succ]
      refine wpAnyH_take (i := 5) (oi := { dst := some 29, op := Op.binOp BinOp.lss 3 (Operand.tmp 25) (Operand.tmp 28) 3, type := 4, pos := "ref.go:51", after := #[{ on := 1, ground := Ground.data }, { on := 4, ground := Ground.data }], guard := none }) (v := ?_) rfl (by kernel_rfl) (by kernel_rfl) (by kernel_rfl) (fun _ _ _ h => h) (Or.inl ⟨by rfl, ?_⟩) (by assumption) ?_
      rotate_left
      · (intro w hSw; (try dsimp only at hSw); go_simp; try (with_reducible rfl))
      try simp only [Act.put, List.setIfInBounds_toArray, List.set_cons_zero, List.set_cons_succ]
      refine wpAnyH_take (i := 6) (oi := { dst := some 30, op := Op.move (Operand.tmp 29), type := 4, pos := "ref.go:51", after := #[{ on := 5, ground := Ground.data }], guard := none }) (v := ?_) rfl (by kernel_rfl) (by kernel_rfl) (by kernel_rfl) (fun _ _ _ h => h) (Or.inl ⟨by rfl, ?_⟩) (by assumption) ?_
      rotate_left
      · (intro w hSw; (try dsimp only at hSw); go_simp; try (with_reducible rfl))
      try simp only [Act.put, List.setIfInBounds_toArray, List.set_cons_zero, List.set_cons_succ]
      refine wpAnyH_take (i := 7) (oi := { dst := some 31, op := Op.fieldAddr 36 (Operand.tmp 2) 0, type := 0, pos := "ref.go:51", after := #[{ on := 6, ground := Ground.guard }, { on := 16, ground := Ground.gcOnly Departure.lateStores }], guard := some (6, true) }) rfl (by kernel_rfl) (by kernel_rfl) (by kernel_rfl) (fun _ _ _ h => h) (Or.inr ⟨by rfl, rfl⟩) (by assumption) ?_
      try simp only [Act.put, List.setIfInBounds_toArray, List.set_cons_zero, List.set_cons_succ]
      refine wpAnyH_take (i := 8) (oi := { dst := some 32, op := Op.load 34 (Operand.tmp 31), type := 34, pos := "ref.go:51", after := #[{ on := 7, ground := Ground.data }, { on := 6, ground := Ground.guard }, { on := 16, ground := Ground.gcOnly Departure.lateStores }], guard := some (6, true) }) rfl (by kernel_rfl) (by kernel_rfl) (by kernel_rfl) (fun _ _ _ h => h) (Or.inr ⟨by rfl, rfl⟩) (by assumption) ?_
      try simp only [Act.put, List.setIfInBounds_toArray, List.set_cons_zero, List.set_cons_succ]
      refine wpAnyH_take (i := 9) (oi := { dst := some 33, op := Op.move (Operand.tmp 6), type := 3, pos := "ref.go:51", after := #[{ on := 6, ground := Ground.guard }, { on := 16, ground := Ground.gcOnly Departure.lateStores }], guard := some (6, true) }) rfl (by kernel_rfl) (by kernel_rfl) (by kernel_rfl) (fun _ _ _ h => h) (Or.inr ⟨by rfl, rfl⟩) (by assumption) ?_
      try simp only [Act.put, List.setIfInBounds_toArray, List.set_cons_zero, List.set_cons_succ]
      refine wpAnyH_take (i := 10) (oi := { dst := some 34, op := Op.indexAddr 34 (Operand.tmp 32) (Operand.tmp 33), type := 0, pos := "ref.go:51", after := #[{ on := 8, ground := Ground.data }, { on := 9, ground := Ground.data }, { on := 6, ground := Ground.guard }, { on := 16, ground := Ground.gcOnly Departure.lateStores }], guard := some (6, true) }) rfl (by kernel_rfl) (by kernel_rfl) (by kernel_rfl) (fun _ _ _ h => h) (Or.inr ⟨by rfl, rfl⟩) (by assumption) ?_
      try simp only [Act.put, List.setIfInBounds_toArray, List.set_cons_zero, List.set_cons_succ]
      refine wpAnyH_take (i := 11) (oi := { dst := some 35, op := Op.fieldAddr 33 (Operand.tmp 34) 0, type := 0, pos := "ref.go:51", after := #[{ on := 10, ground := Ground.data }, { on := 6, ground := Ground.guard }, { on := 16, ground := Ground.gcOnly Departure.lateStores }], guard := some (6, true) }) rfl (by kernel_rfl) (by kernel_rfl) (by kernel_rfl) (fun _ _ _ h => h) (Or.inr ⟨by rfl, rfl⟩) (by assumption) ?_
      try simp only [Act.put, List.setIfInBounds_toArray, List.set_cons_zero, List.set_cons_succ]
      refine wpAnyH_take (i := 12) (oi := { dst := some 36, op := Op.load 9 (Operand.tmp 35), type := 9, pos := "ref.go:51", after := #[{ on := 11, ground := Ground.data }, { on := 6, ground := Ground.guard }, { on := 16, ground := Ground.gcOnly Departure.lateStores }], guard := some (6, true) }) rfl (by kernel_rfl) (by kernel_rfl) (by kernel_rfl) (fun _ _ _ h => h) (Or.inr ⟨by rfl, rfl⟩) (by assumption) ?_
      try simp only [Act.put, List.setIfInBounds_toArray, List.set_cons_zero, List.set_cons_succ]
      refine wpAnyH_take (i := 13) (oi := { dst := some 37, op := Op.move (Operand.tmp 1), type := 9, pos := "ref.go:51", after := #[{ on := 6, ground := Ground.guard }, { on := 16, ground := Ground.gcOnly Departure.lateStores }], guard := some (6, true) }) rfl (by kernel_rfl) (by kernel_rfl) (by kernel_rfl) (fun _ _ _ h => h) (Or.inr ⟨by rfl, rfl⟩) (by assumption) ?_
      try simp only [Act.put, List.setIfInBounds_toArray, List.set_cons_zero, List.set_cons_succ]
      refine wpAnyH_take (i := 14) (oi := { dst := some 38, op := Op.binOp BinOp.eql 9 (Operand.tmp 36) (Operand.tmp 37) 9, type := 4, pos := "ref.go:51", after := #[{ on := 12, ground := Ground.data }, { on := 13, ground := Ground.data }, { on := 6, ground := Ground.guard }, { on := 16, ground := Ground.gcOnly Departure.lateStores }], guard := some (6, true) }) rfl (by kernel_rfl) (by kernel_rfl) (by kernel_rfl) (fun _ _ _ h => h) (Or.inr ⟨by rfl, rfl⟩) (by assumption) ?_
      try simp only [Act.put, List.setIfInBounds_toArray, List.set_cons_zero, List.set_cons_succ]
      refine wpAnyH_take (i := 15) (oi := { dst := some 39, op := Op.pick (Operand.tmp 30) (Operand.tmp 38) (Operand.const (Value.bool false)), type := 4, pos := "ref.go:51", after := #[{ on := 6, ground := Ground.data }, { on := 14, ground := Ground.data }, { on := 16, ground := Ground.gcOnly Departure.lateStores }], guard := none }) (v := ?_) rfl (by kernel_rfl) (by kernel_rfl) (by kernel_rfl) (fun _ _ _ h => h) (Or.inl ⟨by rfl, ?_⟩) (by assumption) ?_
      rotate_left
      · (intro w hSw; (try dsimp only at hSw); go_simp; try (with_reducible rfl))
      try simp only [Act.put, List.setIfInBounds_toArray, List.set_cons_zero, List.set_cons_succ]
      refine wpAnyH_take (i := 16) (oi := { dst := some 4, op := Op.assign (Operand.tmp 24), type := 3, pos := "ref.go:51", after := #[{ on := 0, ground := Ground.data }, { on := 6, ground := Ground.chain }, { on := 0, ground := Ground.phase }, { on := 1, ground := Ground.textOnly Departure.lateStores }, { on := 2, ground := Ground.textOnly Departure.lateStores }, { on := 3, ground := Ground.textOnly Departure.lateStores }, { on := 4, ground := Ground.textOnly Departure.lateStoresUnsure }, { on := 5, ground := Ground.textOnly Departure.lateStores }, { on := 6, ground := Ground.textOnly Departure.lateStores }, { on := 7, ground := Ground.textOnly Departure.lateStores }, { on := 8, ground := Ground.textOnly Departure.lateStores }, { on := 9, ground := Ground.textOnly Departure.lateStores }, { on := 10, ground := Ground.textOnly Departure.lateStores }, { on := 11, ground := Ground.textOnly Departure.lateStores }, { on := 12, ground := Ground.textOnly Departure.lateStores }, { on := 13, ground := Ground.textOnly Departure.lateStores }, { on := 14, ground := Ground.textOnly Departure.lateStores }, { on := 15, ground := Ground.textOnly Departure.lateStores }], guard := none }) (v := ?_) rfl (by kernel_rfl) (by kernel_rfl) (by kernel_rfl) (fun _ _ _ h => h) (Or.inl ⟨by rfl, ?_⟩) (by assumption) ?_
      rotate_left
      · (intro w hSw; (try dsimp only at hSw); go_simp; try (with_reducible rfl))
      try simp only [Act.put, List.setIfInBounds_toArray, List.set_cons_zero, List.set_cons_succ]
      refine wpAnyH_take (i := 17) (oi := { dst := some 5, op := Op.assign (Operand.tmp 39), type := 4, pos := "ref.go:51", after := #[{ on := 15, ground := Ground.data }, { on := 16, ground := Ground.chain }, { on := 0, ground := Ground.phase }, { on := 1, ground := Ground.phase }, { on := 2, ground := Ground.phase }, { on := 3, ground := Ground.phase }, { on := 4, ground := Ground.phase }, { on := 5, ground := Ground.phase }, { on := 6, ground := Ground.phase }, { on := 7, ground := Ground.phase }, { on := 8, ground := Ground.phase }, { on := 9, ground := Ground.phase }, { on := 10, ground := Ground.phase }, { on := 11, ground := Ground.phase }, { on := 12, ground := Ground.phase }, { on := 13, ground := Ground.phase }, { on := 14, ground := Ground.phase }, { on := 15, ground := Ground.phase }, { on := 16, ground := Ground.phase }], guard := none }) (v := ?_) rfl (by kernel_rfl) (by kernel_rfl) (by kernel_rfl) (fun _ _ _ h => h) (Or.inl ⟨by rfl, ?_⟩) (by assumption) ?_
      rotate_left
      · (intro w hSw; (try dsimp only at hSw); go_simp; try (with_reducible rfl))
      try simp only [Act.put, List.setIfInBounds_toArray, List.set_cons_zero, List.set_cons_succ]
      refine wpAnyH_done (by kernel_rfl) ?_ _
      refine NoPanic.normal ?_
      go_wp2_with fail
      go_ret2
      exact ⟨by rw [HPI.out, HE.out]; rfl, mr.drew⟩
end Go.Proofs.Ytcngllcifcpbkaa
