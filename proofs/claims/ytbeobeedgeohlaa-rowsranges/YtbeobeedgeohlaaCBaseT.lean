/-
  Open6, RR6: our texts of these names, laid into one.
-/
import Derived.Test.YtbeobeedgeohlaaCPlay6
import Derived.Test.YtbeobeedgeohlaaCOpen5
/-
  Lists of law6's calls, opened.
-/
namespace Go.Proofs.Ytbeobeedgeohlaa
open Go.RowKit
open Go.ChangeShapes Go.WideShapes

set_option maxRecDepth 100000 in
theorem aargs_of_raw {H : Type} {enc : TypeId × Value → H} {W : World} {base fuel : Nat} {spare : Nat → Bool} {held : Bool} {v : Value} {x : DataW H × List MemPlace}
    (h : DataW.trod enc Try.prog W base spare held fuel 22 [v] = some x) : AArgs W v := by
  have c5 : Try.prog.cellsOf 25 = 5 := by kernel_rfl
  rcases Go.Deep.open_slice Try.underlying22 h with ⟨hcs, _⟩ | ⟨ad, len, cap, m, n, D, Pls, hcs, _, hl, hm, hmm, _, hx⟩
  · simp at hcs
    subst hcs
    exact ⟨none, 0, 0, rfl, Nat.le_refl _, fun k hk => absurd hk (by omega)⟩
  · simp at hcs
    subst hcs
    have hlm : len ≤ m := by rw [hmm]; split <;> omega
    refine ⟨_, _, _, rfl, hl, fun k hk => ?_⟩
    obtain ⟨cs', h1, h2⟩ := hx k (by omega)
    obtain ⟨cs0, h01, _⟩ := hx 0 (by omega)
    rw [c5] at h1 h01
    obtain ⟨b, off, rfl, hlen, hcell⟩ := struct_cells (by omega) h01 h1
    obtain ⟨xs, q, hk, hxy, _, hxl, hf⟩ := DataW.trod_struct Try.underlying25 h2
    have c3 : Try.prog.cellsOf 3 = 1 := by kernel_rfl
    have c4 : Try.prog.cellsOf 4 = 1 := by kernel_rfl
    have c9 : Try.prog.cellsOf 9 = 1 := by kernel_rfl
    have cC : Try.prog.cellsOf 23 = 1 := by kernel_rfl
    match xs, hxl, cs', hlen with
    | [y0, y1, y2, y3, y4], _, [v0, v1, v2, v3, v4], _ =>
      have g0 := hf 0 _ rfl
      have g1 := hf 1 _ rfl
      have g2 := hf 2 _ rfl
      have g3 := hf 3 _ rfl
      have g4 := hf 4 _ rfl
      simp [c3, c4, c9, cC] at g0 g1 g2 g3 g4
      obtain ⟨z0, hz0, _, _⟩ := DataW.trod_int Try.underlying3 g0
      obtain ⟨z1, hz1, _, _⟩ := DataW.trod_int Try.underlying3 g1
      obtain ⟨b2, rfl⟩ := bool_of_trod g2
      obtain ⟨s3, rfl⟩ := str_of_trod g3
      have hC := chargs_of_raw g4
      obtain ⟨a4, l4, cc4, rfl, _⟩ := id hC
      simp at hz0 hz1
      subst hz0 hz1
      exact ⟨b, off, z0, z1, b2, s3, a4, l4, cc4, rfl, hcell 0 _ rfl, hcell 1 _ rfl, hcell 2 _ rfl, hcell 3 _ rfl, hcell 4 _ rfl, hC⟩
set_option maxRecDepth 100000 in
theorem aargs_of_trod {H : Type} {enc : TypeId × Value → H} {W : World} {base b0 : Nat} {r : Reach} {spare : Nat → Bool} {held : Bool} {v : Value} {d : DataW H} {p : List MemPlace}
    (hv : Value.okWide Try.prog W r b0 22 v) (h : DataW.Trod enc Try.prog W base spare held 22 v d p) : AArgs W v := by
  obtain ⟨a, len, cap, rfl⟩ := okWide_slice Try.underlying22 hv
  obtain ⟨fuel, hf⟩ := h
  exact aargs_of_raw (by simpa [Value.cells] using hf)

end Go.Proofs.Ytbeobeedgeohlaa
/-
  RowsRanges: plain facts, and the walk.
-/
namespace Go.Proofs.Ytbeobeedgeohlaa
open Go.RowKit

theorem own_at {xs : List Pnam} (h : InvN xs) {ys : List Pnam} (hs : ∀ y ∈ ys, y ∈ xs) : pownX ys = ys := by
  unfold pownX
  conv => rhs; rw [← List.map_id ys]
  refine List.map_congr_left (fun y hy => ?_)
  unfold pown
  rw [h.copy (hs y hy)]
  rfl
theorem place_is {xs : List Pnam} (h : RiseN xs) {j : Nat} {x : Pnam} (hx : xs[j]? = some x) : PlaceIs xs x.name j :=
  ⟨Nat.le_of_lt (List.getElem?_eq_some_iff.1 hx).1, fun k y hy hk => h.lt hy hx hk, fun k y hy hk => by
    by_cases e : k = j
    · subst e; rw [hx] at hy; simp at hy; subst hy; exact nlt_self _
    · exact nlt_asymm (h.lt hx hy (by omega))⟩
theorem place_first (xs : List Pnam) : PlaceIs xs ⟨#[]⟩ 0 :=
  ⟨Nat.zero_le _, fun k _ _ hk => absurd hk (by omega), fun k y _ _ => by
    unfold nlt; rw [bytesLess_eq]; exact decide_eq_false (by rw [ByteArray.toList_eq, ByteArray.toList_eq]; simp)⟩
theorem k_range (most : Int) : ∃ k : Nat, 1 ≤ k ∧ k ≤ 7 ∧ wrap64 (1 + (wrap64 (most.tmod 7 + 7)).tmod 7) = (k : Int) := by
  have h1 : -7 < most.tmod 7 ∧ most.tmod 7 < 7 := by
    rcases Int.le_total 0 most with h | h
    · rw [Int.tmod_eq_emod_of_nonneg h]; omega
    · have e : most.tmod 7 = -((-most).tmod 7) := by rw [Int.neg_tmod, Int.neg_neg]
      rw [e, Int.tmod_eq_emod_of_nonneg (by omega)]; omega
  generalize most.tmod 7 = m at h1
  have e1 : wrap64 (m + 7) = m + 7 := by unfold wrap64; omega
  rw [e1, Int.tmod_eq_emod_of_nonneg (by omega)]
  refine ⟨(1 + (m + 7) % 7).toNat, by omega, by omega, ?_⟩
  unfold wrap64
  omega

set_option maxRecDepth 100000 in
set_option maxHeartbeats 8000000 in
theorem rowsRanges_w (u0 u1 : Value) (w : World) (h0 : AArgs w u0) (h1 : IArg u1) : Calls Try.prog 5 #[u0, u1] w fun e w' => e = .returned (.bool true) ∧ Moves [] w w' := by
  obtain ⟨most, rfl⟩ := h1
  obtain ⟨k, hk1, hk7, hkk⟩ := k_range most
  have hp := play6_w w w u0 h0 (Moves.refl _ _)
  have hpm : Hid (pmost (k : Int) = k) := by show pmost (k : Int) = k; unfold pmost; omega
  clear h0
  go_enter Try.func5, Try.ntmps5
  go_wp2_with (go_at_call 6; refine hp.mono ?_; rintro _ w2 ⟨p, a, xs, ad, n, cap, rfl, hT, hN, hI, m2⟩; have HT : Hid (TabIs w w2 p a xs) := hT; have HN : Hid (NamsAt w2 (.slice ad n cap) xs) := hN; have HI : Hid (InvN xs) := hI; clear hT hN hI hp)
  rw [hkk]
  go_loopw [9, 10, 11] (fun vl vf vi wr => ∃ (i j : Nat) (f : ByteArray), (i ≤ j ∧ (j < xs.length ∨ j = 0)) ∧ (vf = .string f ∧ vi = .int .i64 (i : Nat)) ∧ Moves [] w2 wr ∧ GrowN w2 wr vl (xs.take j) ∧ Hid (PlaceIs xs f j) ∧ Hid ((f = ⟨#[]⟩ ∧ j = 0) ∨ ∃ x, xs[j]? = some x ∧ x.name = f)) (fun _ _ vi _ => 40 - (intOf vi).toNat)
  case atStart => exact ⟨0, 0, ⟨#[]⟩, ⟨Nat.le_refl _, .inr rfl⟩, ⟨rfl, rfl⟩, Moves.refl _ _, GrowN.nil _ _, place_first xs, .inl ⟨rfl, rfl⟩⟩
  case round =>
    obtain ⟨i, j, f, ⟨hij, hjl⟩, ⟨rfl, rfl⟩, mr, hG, hPl, hFrom⟩ := hrel
    have hI := HI.out
    have hlen := hI.len
    have hjx : j ≤ xs.length := by omega
    have hi40 : (i : Int) < 40 := by omega
    have hR := trange_w w wr p a xs f ⟨#[]⟩ (k : Int) (HT.out.moves0 mr) hI.rise (by omega)
    rw [pfil_open hPl.out rfl, hpm.out] at hR
    rw [own_at hI (fun y hy => List.mem_of_mem_drop (List.mem_of_mem_take hy))] at hR
    have HG : Hid (GrowN w2 wr u9 (xs.take j)) := hG
    have hxs : xs.take j ++ (xs.drop j).take k = xs.take (j + k) := by rw [List.take_add]
    by_cases hjk : j + k < xs.length
    · obtain ⟨x, hx⟩ : ∃ x, xs[j + k]? = some x := ⟨_, List.getElem?_eq_getElem hjk⟩
      have hnx : pnext (xs.drop j) k = x.name := by unfold pnext; rw [List.getElem?_drop, hx]
      rw [hnx] at hR
      have hne : x.name.toList.isEmpty = false := by
        have := hI.name x (List.mem_of_getElem? hx)
        unfold pname at this
        simp at this
        rw [ByteArray.toList_eq]
        cases hq : x.name.data.toList with
        | nil =>
          have : x.name.size = 0 := by rw [ByteArray.size]; rw [← Array.length_toList, hq]; rfl
          omega
        | cons _ _ => rfl
      have hgt : nlt f x.name = true := by
        rcases hFrom.out with ⟨rfl, rfl⟩ | ⟨y, hy, rfl⟩
        · unfold nlt
          rw [bytesLess_eq, ByteArray.toList_eq, ByteArray.toList_eq]
          rw [ByteArray.toList_eq] at hne
          cases hq : x.name.data.toList with
          | nil => rw [hq] at hne; simp at hne
          | cons _ _ => simp
        · exact hI.rise.lt hy hx (by omega)
      have hle : (Op.bytesLess x.name.toList f.toList || x.name.toList == f.toList) = false := by
        have e1 : Op.bytesLess x.name.toList f.toList = false := nlt_asymm hgt
        have e2 : (x.name.toList == f.toList) = false := nlt_neq hgt
        rw [e1, e2]; rfl
      have hln : ((xs.drop j).take k).length = k := by rw [List.length_take, List.length_drop]; omega
      have HX : Hid (xs[j + k]? = some x) := hx
      have HXS : Hid (xs.take j ++ (xs.drop j).take k = xs.take (j + k)) := hxs
      have HLN : Hid (((xs.drop j).take k).length = k) := hln
      have HB : Hid ((xs.take j).length + ((xs.drop j).take k).length ≤ 1048576) := by show _ ≤ _; rw [hln, List.length_take]; omega
      obtain ⟨Y, hY⟩ : ∃ Y, (xs.drop j).take k = Y := ⟨_, rfl⟩
      rw [hY] at hR HXS HLN HB
      clear hG hxs hx hnx hgt hln hI hY
      go_wp2_with (first | (go_at_call 15; refine hR.mono ?_; rintro _ w3 ⟨ad3, n3, cap3, rfl, hG3, m3⟩; clear hR; (obtain ⟨ad4, cap4, e4, hc4⟩ := hG3.slice); simp only [Value.slice.injEq] at e4; (obtain ⟨rfl, e5, rfl⟩ := e4); rw [HLN.out] at e5; subst e5; have HG3 : Hid (NamsAt w3 (.slice ad3 n3 cap3) Y) := hG3.at; have HG4 : Hid (GrowN w2 w3 u9 (xs.take j)) := HG.out.moves0 m3; clear hG3 hc4) | (at_builtin; refine growN_append (W := w2) (.tmp 38) (.tmp 39) rfl _ _ (xs.take j) Y rfl rfl rfl HG4.out HG3.out (mr.then m3).size HB.out ?_; intro v' w4 hG5 m4 st4 hL))
      go_roundw
      case rel =>
        have hfr := HG4.out.1
        have hG6 := hG5
        rw [HXS.out] at hG6
        have hfin : ∃ (i' j' : Nat) (f' : ByteArray), (i' ≤ j' ∧ (j' < xs.length ∨ j' = 0)) ∧ (Value.string x.name = .string f' ∧ Value.int .i64 ((i : Int) + 1) = .int .i64 (i' : Nat)) ∧ Moves [] w2 w4 ∧ GrowN w2 w4 v' (xs.take j') ∧ Hid (PlaceIs xs f' j') ∧ Hid ((f' = ⟨#[]⟩ ∧ j' = 0) ∨ ∃ x, xs[j']? = some x ∧ x.name = f') := ⟨i + 1, j + n3, x.name, ⟨by omega, .inl hjk⟩, ⟨rfl, by go_num⟩, (mr.then m3).trans m4 (fun y hy => .inr (hfr y (Option.mem_toList.1 hy))), hG6, place_is HI.out.rise HX.out, .inr ⟨x, HX.out, rfl⟩⟩
        exact hfin
      case measure => simp [intOf]; omega
    · have hnx : pnext (xs.drop j) k = ⟨#[]⟩ := by unfold pnext; rw [List.getElem?_drop, List.getElem?_eq_none (by omega)]; rfl
      rw [hnx] at hR
      have hall : xs.take j ++ (xs.drop j).take k = xs := by rw [hxs, List.take_of_length_le (by omega)]
      have HXS : Hid (xs.take j ++ (xs.drop j).take k = xs) := hall
      have HB : Hid ((xs.take j).length + ((xs.drop j).take k).length ≤ 1048576) := by show _ ≤ _; rw [List.length_take, List.length_take, List.length_drop]; omega
      obtain ⟨Y, hY⟩ : ∃ Y, (xs.drop j).take k = Y := ⟨_, rfl⟩
      rw [hY] at hR HXS HB
      have HS : Hid (∀ x ∈ xs, x.r.length ≤ 1048576 ∧ ∀ c ∈ x.r, c.l.length ≤ 1048576) := fun x hx => pright_sizes (hI.right x hx)
      have HL : Hid (xs.length ≤ 1000) := by show _ ≤ _; omega
      clear hG hxs hnx hI hY hall
      go_wp2_with (first | (go_at_call 15; refine hR.mono ?_; rintro _ w3 ⟨ad3, n3, cap3, rfl, hG3, m3⟩; clear hR; have HG3 : Hid (NamsAt w3 (.slice ad3 n3 cap3) Y) := hG3.at; have HG4 : Hid (GrowN w2 w3 u9 (xs.take j)) := HG.out.moves0 m3; clear hG3) | (at_builtin; refine growN_append (W := w2) (.tmp 38) (.tmp 39) rfl _ _ (xs.take j) Y rfl rfl rfl HG4.out HG3.out (mr.then m3).size HB.out ?_; intro v' w4 hG5 m4 st4 hL; rw [HXS.out] at hG5; have hfr := HG4.out.1; have M4 : Moves [] w2 w4 := (mr.then m3).trans m4 (fun y hy => .inr (hfr y (Option.mem_toList.1 hy))); have HG5 : Hid (NamsAt w4 v' xs) := hG5.at; clear hG5 hL hfr) | (go_at_call 16; refine (nsame_yes w4 _ _ _ xs HG5.out (HN.out.moves M4) (Moves.refl _ _) HL.out HS.out).mono ?_; rintro _ w5 ⟨rfl, m5⟩) | (go_at_call 11; refine (known6_w _).mono ?_; rintro _ w6 ⟨rfl, m6⟩))
      go_ret
      exact ⟨rfl, ((m2.then M4).then m5).then m6⟩
end Go.Proofs.Ytbeobeedgeohlaa
