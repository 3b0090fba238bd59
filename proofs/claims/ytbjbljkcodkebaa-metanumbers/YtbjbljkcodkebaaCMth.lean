/-
  law11's spans, right; what New and the document's own test say of the same tablets.
-/
import Derived.Test.YtbjbljkcodkebaaCMtd
namespace Go.Proofs.Ytbjbljkcodkebaa
open Go.RowKit

set_option maxRecDepth 100000 in
set_option maxHeartbeats 4000000 in
theorem lawSpans_w (w : World) (g : Nat) (v : Value) (xs : List Ptb) (h : TbL w g v xs) (hl : xs.length ≤ 1000) :
    Calls Try.prog 16 #[v] w fun e w' => ∃ v', e = .returned v' ∧ OwnS w' v' (xs.map Ptb.sp) ∧ Moves [] w w' := by
  obtain ⟨ad, n, cap, rfl, hn, hc, HL⟩ := h.open
  clear h
  have HB : Hid (xs.length ≤ 1000) := hl
  clear hl
  go_enter Try.func16, Try.ntmps16
  go_wp2_with fail
  go_loopw [3, 4] (fun vu vi wr => ∃ (i : Nat) (vo : Value), i ≤ n ∧ vo = vu ∧ vi = .int .i64 (i : Nat) ∧ Moves [] w wr ∧ OwnS wr vo ((xs.take i).map Ptb.sp) ∧ Fresh w vo) (fun _ vi _ => n - (intOf vi).toNat)
  case atStart => exact ⟨0, _, Nat.zero_le _, rfl, rfl, Moves.refl _ _, OwnS.nil _, Fresh.nil _⟩
  case round =>
    obtain ⟨i, vo, hin, rfl, rfl, mr, hO, hF⟩ := hrel
    have HO : Hid (OwnS wr vo ((xs.take i).map Ptb.sp)) := hO
    by_cases hlt : i < n
    · have hk3 : (i : Int) < n := by omega
      have hi3 : i < 1000 := by have := hn.out; have := HB.out; omega
      obtain ⟨x, hx⟩ : ∃ x, xs[i]? = some x := ⟨_, List.getElem?_eq_getElem (by have := hn.out; omega)⟩
      obtain ⟨off, rfl, y0, y1, _, _⟩ := HL.out.at hx
      replace y0 := mr.cell y0
      replace y1 := mr.cell y1
      have HX : Hid (xs[i]? = some x) := hx
      have mB : Moves [] wr (wr.alloc (.cells #[.string x.lo, .string x.hi] 23)) := (Moves.refl _ _).alloc _
      have hO2 : Hid (OwnS (wr.alloc (.cells #[.string x.lo, .string x.hi] 23)) vo ((xs.take i).map Ptb.sp)) := hO.moves mB (by simp)
      have hsp : Hid (SpsAt (wr.alloc (.cells #[.string x.lo, .string x.hi] 23)) (some ⟨wr.heap.size, 0, none⟩) [x.sp]) := SpsAt.block (xs := [x.sp]) (heap_alloc_new _ _)
      clear hx hO
      go_wp2_with (refine spans_append _ _ rfl _ _ _ _ ((xs.take i).map Ptb.sp) [x.sp] rfl rfl rfl hO2.out hsp.out rfl (by simp) (by have := HB.out; simp; omega) ?_; intro v' w1 hO1 m1 hla; obtain ⟨ad', n', cap', rfl, hn'⟩ := hO1.open)
      go_roundw
      case rel =>
        refine ⟨i + 1, _, by omega, rfl, by go_num, fresh_trans (mr.then mB) hF m1, ?_, lain_fresh hF (mr.then mB).size hla⟩
        rw [List.take_add_one, HX.out]
        simpa using hO1
      case measure => simp [intOf]; omega
    · obtain rfl : i = n := by omega
      have hk3 : ¬ (i : Int) < i := by omega
      have e : xs.take i = xs := List.take_of_length_le (by have := hn.out; omega)
      rw [e] at HO
      obtain ⟨ad', n', cap', rfl, hn'⟩ := HO.out.open
      go_wp2_with fail
      go_ret
      exact ⟨_, rfl, HO.out, mr⟩

set_option maxRecDepth 100000 in
set_option maxHeartbeats 4000000 in
theorem lawRight_w (w : World) (g : Nat) (v : Value) (xs : List Ptb) (h : TbL w g v xs) (hl : xs.length ≤ 1000) :
    Calls Try.prog 17 #[v] w fun e w' => e = .returned (.bool (!xs.any tbBad)) ∧ Moves [] w w' := by
  obtain ⟨ad, n, cap, rfl, hn, hc, HL⟩ := h.open
  have HB : n ≤ 1000 := by rw [hn.out]; exact hl
  obtain ⟨q, hq⟩ : ∃ q, Hid ((!xs.any tbBad) = q) := ⟨_, rfl⟩
  rw [hq.out]
  clear h hl
  go_enter Try.func17, Try.ntmps17
  go_wp2_with fail
  go_loopw [3] (fun vi wr => ∃ (i : Nat), i ≤ n ∧ vi = .int .i64 (i : Nat) ∧ Hid ((xs.take i).any tbBad = false) ∧ w = wr) (fun vi _ => n - (intOf vi).toNat)
  case atStart => exact ⟨0, Nat.zero_le _, rfl, rfl, rfl⟩
  case round =>
    obtain ⟨i, hin, rfl, hO, rfl⟩ := hrel
    by_cases hlt : i < n
    · have hk3 : (i : Int) < n := by omega
      obtain ⟨x, hx⟩ : ∃ x, xs[i]? = some x := ⟨_, List.getElem?_eq_getElem (by have := hn.out; omega)⟩
      obtain ⟨off, rfl, _, _, y2, y3⟩ := HL.out.at hx
      have HX : Hid (xs[i]? = some x) := hx
      have hbad : tbBad x = true → Hid (q = false) := by
        intro hb
        unfold Hid
        rw [← hq.out, List.any_eq_true.2 ⟨x, List.mem_of_getElem? hx, hb⟩]
        rfl
      clear hx
      by_cases h1 : x.g < 0
      · have HQ := hbad (by unfold tbBad; rw [decide_eq_true h1]; rfl)
        clear hbad
        go_wp2_with fail
        go_ret
        exact ⟨by rw [HQ.out]; rfl, Moves.refl _ _⟩
      · by_cases h2 : 255 < x.g
        · have HQ := hbad (by unfold tbBad; rw [decide_eq_true h2]; simp)
          clear hbad
          go_wp2_with fail
          go_ret
          exact ⟨by rw [HQ.out]; rfl, Moves.refl _ _⟩
        · by_cases h3 : x.n < 1
          · have HQ := hbad (by unfold tbBad; rw [decide_eq_true h3]; simp)
            clear hbad
            go_wp2_with fail
            go_ret
            exact ⟨by rw [HQ.out]; rfl, Moves.refl _ _⟩
          · by_cases h4 : 1073741824 < x.n
            · have HQ := hbad (by unfold tbBad; rw [decide_eq_true h4]; simp)
              clear hbad
              go_wp2_with fail
              go_ret
              exact ⟨by rw [HQ.out]; rfl, Moves.refl _ _⟩
            · have HG : Hid (tbBad x = false) := by unfold Hid tbBad; rw [decide_eq_false h1, decide_eq_false h2, decide_eq_false h3, decide_eq_false h4]; rfl
              clear hbad
              go_wp2_with fail
              go_roundw
              case rel =>
                refine ⟨i + 1, by omega, by go_num, ?_, by trivial⟩
                unfold Hid
                rw [List.take_add_one, HX.out]
                simp only [Option.toList_some, List.any_append, hO.out, List.any_cons, HG.out, List.any_nil]
                rfl
              case measure => simp [intOf]; omega
    · obtain rfl : i = n := by omega
      have hk3 : ¬ (i : Int) < i := by omega
      have e : xs.take i = xs := List.take_of_length_le (by have := hn.out; omega)
      rw [e] at hO
      have HQ : Hid (q = true) := by unfold Hid; rw [← hq.out, hO.out]; rfl
      go_wp2_with fail
      go_ret
      exact ⟨by rw [HQ.out]; rfl, Moves.refl _ _⟩

end Go.Proofs.Ytbjbljkcodkebaa
