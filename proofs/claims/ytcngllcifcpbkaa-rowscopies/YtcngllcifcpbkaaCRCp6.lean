/-
  RowsCopies: plain facts, and the walk.
-/
import Derived.Test.YtcngllcifcpbkaaCPlay6
import Derived.Test.YtcngllcifcpbkaaCTabF
import Derived.Test.YtcngllcifcpbkaaCTab7
namespace Go.Proofs.Ytcngllcifcpbkaa
open Go.RowKit

def bNew : ByteArray := ⟨#[97, 46, 110, 101, 119, 46, 114, 111, 119]⟩
def trow : List Pcol := pPut [] bTurned 1 ⟨1, [], 0⟩
theorem trow_e : pPutE [] bTurned 1 ⟨1, [], 0⟩ = 0 := by decide
theorem trow_is : ∃ l, trow.map pcanonC = [⟨bTurned, l⟩] := ⟨_, rfl⟩
theorem new_set {xs : List Pnam} (hlt : xs.length < 32) : psetE xs bNew trow = 0 ∧ psetN xs bNew trow = pputN xs bNew (trow.map pcanonC) :=
  psetE_ok (by decide) (pPut_right _ _ _ _) (by simp; omega)
theorem tsame_new (W W' w : World) (p q : Nat) (a b : Option Nat) (xs : List Pnam) (h : TabIs W w p a (psetN xs bNew trow)) (h' : TabIs W' w q b xs) (hI : InvN xs) (hN : NTs xs) (hlt : xs.length < 32) :
    Calls Try.prog 12 #[.pointer (some ⟨p, 0, none⟩), .pointer (some ⟨q, 0, none⟩)] w fun e w' => e = .returned (.bool false) ∧ Moves [] w w' := by
  obtain ⟨l, hl⟩ := trow_is
  rw [(new_set hlt).2, hl] at h
  obtain ⟨i, hP, e1, e2, e3⟩ := place_ex hI.rise bNew
  unfold pputN at h
  rw [e1, e2] at h
  have hile := hP.le
  cases hh : hasAt xs bNew i with
  | false =>
    rw [hh] at h
    refine tsame_no W W' w p q a b _ xs h h' ?_
    simp
    omega
  | true =>
    rw [hh] at h
    unfold hasAt at hh
    cases hx : xs[i]? with
    | none => rw [hx] at hh; simp at hh
    | some x =>
      rw [hx] at hh
      have hnm : x.name = bNew := neq_iff.1 hh
      have hi := (List.getElem?_eq_some_iff.1 hx).1
      have hti : (xs.take i).length = i := by rw [List.length_take]; omega
      refine tsame_at W W' w p q a b _ xs i l x h h' ?_ (by omega) (fun x hx => pright_sizes (hI.right x hx)) (fun k hk => ?_) hx ?_ (hN x (List.mem_of_getElem? hx))
      · simp
        omega
      · rw [List.getElem?_append_left (by omega), List.getElem?_take, if_pos hk]
      · rw [List.getElem?_append_right (by omega), hti, Nat.sub_self, hnm]
        simp
theorem GrowF.get {W w : World} {v : Value} {xs : List Pnam} (h : GrowF W w v xs) {k : Nat} {x : Pnam} (hx : xs[k]? = some x) : ∃ g n cap cur a2 n2 c2, v = .slice (some ⟨g, 0, none⟩) n cap ∧ w.heap[g]? = some (.cells cur 53 (0, 0)) ∧ w.cell? ⟨g, k * 2 + 1, none⟩ = some (.slice a2 n2 c2) ∧ GrowC W w (.slice a2 n2 c2) x.r ∧ Hid (n2 = x.r.length) := by
  have hb := fun kk => h.blk (k := kk)
  obtain ⟨hf, css, hO, hE⟩ := h
  obtain ⟨c, hc, lv, rfl, hG⟩ := hE.get hx
  obtain ⟨g, cap, rfl, _, hcell⟩ := hO.cell hc
  obtain ⟨cur, hcur⟩ := hb g rfl
  obtain ⟨a2, n2, c2, rfl, hn2⟩ := hG.open
  exact ⟨g, _, cap, cur, a2, n2, c2, rfl, hcur, hcell 1 _ rfl, hG, hn2⟩
/-- Behind wb only names of columns were written that are younger than W. -/
structure WrC (W wb w : World) : Prop where
  moves : Moves [] W w
  stay : Stay (· ≠ 33) wb w
  cols : ∀ (g : Nat) (c : Array Value), wb.heap[g]? = some (.cells c 33 (0, 0)) → ∃ c' : Array Value, w.heap[g]? = some (.cells c' 33 (0, 0)) ∧ c'.size = c.size
theorem WrC.refl {W wb : World} (m : Moves [] W wb) : WrC W wb wb := ⟨m, fun _ _ _ fz h _ => ⟨fz, h⟩, fun _ c h => ⟨c, h, rfl⟩⟩
theorem WrC.named {W wb w : World} (h : WrC W wb w) {g j : Nat} {cur : Array Value} {v : Value} (hb : wb.heap[g]? = some (.cells cur 53 (0, 0))) (hc : wb.cell? ⟨g, j, none⟩ = some v) : w.cell? ⟨g, j, none⟩ = some v := by
  obtain ⟨fz, h2⟩ := h.stay g cur _ _ hb (by decide)
  unfold World.cell? at hc ⊢
  simp only [hb] at hc
  simp only [h2]
  exact hc
theorem WrC.col {W wb w : World} (h : WrC W wb w) {g j : Nat} {cur : Array Value} {v : Value} (hb : wb.heap[g]? = some (.cells cur 33 (0, 0))) (hc : wb.cell? ⟨g, j, none⟩ = some v) : (∃ v', w.cell? ⟨g, j, none⟩ = some v') ∧ w.frozen? ⟨g, j, none⟩ = false := by
  obtain ⟨c', h2, hs⟩ := h.cols g cur hb
  unfold World.cell? at hc ⊢
  simp only [hb] at hc
  simp only [h2]
  refine ⟨?_, by simp [World.frozen?, h2]⟩
  simp at hc ⊢
  obtain ⟨hj, _⟩ := Array.getElem?_eq_some_iff.1 hc
  exact ⟨_, Array.getElem?_eq_getElem (by omega)⟩
theorem WrC.set {W wb w : World} (h : WrC W wb w) {g : Nat} {cur : Array Value} (hb : wb.heap[g]? = some (.cells cur 33 (0, 0))) (hW : W.heap.size ≤ g) (j : Nat) (u : Value) : WrC W wb (w.setCell ⟨g, j, none⟩ u) := by
  obtain ⟨c', h2, hs⟩ := h.cols g cur hb
  refine ⟨h.moves.setCell (.inr hW) _, Stay.trans h.stay (Stay.set h2 (by simp) u), fun k c hk => ?_⟩
  obtain ⟨d, h3, h4⟩ := h.cols k c hk
  by_cases e : k = g
  · subst e
    rw [h2] at h3
    simp at h3
    subst h3
    exact ⟨_, heap_set h2 u, by simpa using h4⟩
  · exact ⟨d, (moves_set _ _ _ _).at h3 (by simp; omega), h4⟩

set_option maxRecDepth 100000 in
set_option maxHeartbeats 16000000 in
theorem rowsCopies_w (u0 u1 : Value) (w : World) (h0 : AArgs w u0) (h1 : IArg u1) : Calls Try.prog 4 #[u0, u1] w fun e w' => e = .returned (.bool true) ∧ Moves [] w w' := by
  obtain ⟨most, rfl⟩ := h1
  have hp := play6_n w w u0 h0 (Moves.refl _ _)
  have hone : True := trivial
  clear h0
  go_enter Try.func4, Try.ntmps4
  go_wp2_with (first
    | (go_at_call 5; refine hp.mono ?_; rintro _ w2 ⟨p, a, xs, ad, n, cap, rfl, hT, hN, hI, hNT, m2⟩; have HT : Hid (TabIs w w2 p a xs) := hT; have HN : Hid (NamsAt w2 (.slice ad n cap) xs) := hN; have HI : Hid (InvN xs) := hI; have HNT : Hid (NTs xs) := hNT; clear hT hN hI hNT hp)
    | (go_at_call 11; refine (tcopy_w w w2 p a xs HT.out (by have := HI.out.len; omega)).mono ?_; rintro _ w3 ⟨q, b, rfl, hTq, hq, m3⟩; rw [HI.out.own (fun y hy => hy)] at hTq; have HTQ : Hid (TabIs w2 w3 q b xs) := hTq; clear hTq)
    | (go_at_call 12; revert hone; intro hone; refine (tsame_yes w2 w w3 q p b a xs HTQ.out (HT.out.moves0 m3) (by have := HI.out.len; omega) (fun x hx => pright_sizes (HI.out.right x hx))).mono ?_; rintro _ w4 ⟨rfl, m4⟩; have M4 : Moves [] w2 w4 := m3.then m4; clear hone)
    | (go_at_call 13; refine (refPut_p w4 w4 _ [] bTurned 1 1 none 0 0 0 ⟨1, [], 0⟩ (RowAt.nil _) ⟨none, 0, 0, 0, rfl, isB_nil _ _, fits_zero, by simp, by simp⟩ (Moves.refl _ _) pright_nil).mono ?_; rw [trow_e]; rintro _ w5 ⟨adT, nT, capT, rfl, hCT, m5⟩; have HCT : Hid (ColsAt w5 (.slice adT nT capT) trow) := hCT; clear hCT))
  obtain ⟨w6, hw6⟩ : ∃ w6, w5.alloc (.cells #[.slice adT nT capT] 36) = w6 := ⟨_, rfl⟩
  have b6 : w6.heap[w5.heap.size]? = some (.cells #[.slice adT nT capT] 36 (0, 0)) := by rw [← hw6]; exact heap_alloc_new _ _
  have m6 : Moves [] w5 w6 := by rw [← hw6]; exact (Moves.refl _ _).alloc _
  rw [hw6]
  have M6 : Moves [] w2 w6 := (M4.then m5).then m6
  have HRT : Hid (RowAt w6 (.agg #[.slice adT nT capT]) trow) := ⟨_, rfl, HCT.out.moves m6⟩
  have m36 : Moves [] w3 w6 := (m4.then m5).then m6
  have hTq6 := HTQ.out.moves0 m36
  obtain ⟨nx, hnx⟩ : ∃ nx, xs.length = nx := ⟨_, rfl⟩
  have hlq := tlen_w w2 w6 q b xs hTq6
  rw [hnx] at hlq
  have hlen := HI.out.len
  obtain ⟨z6, _⟩ := one_cell b6
  clear hw6
  by_cases hlt : nx < 32
  · have hltI : (nx : Int) < 32 := by omega
    obtain ⟨hE, hS⟩ := new_set (xs := xs) (by omega)
    have hset := tset_w w2 w6 q b xs bNew _ trow hTq6 HI.out.rise (by omega) HRT.out M6.size
    rw [hE] at hset
    have HXL : Hid (xs.length < 32) := by show _ < _; omega
    have HTQ6 : Hid (TabIs w2 w6 q b xs) := hTq6
    clear hE hS hnx hTq6 hlen
    go_wp2_with (first
      | (go_at_call 7; refine hlq.mono ?_; rintro _ _ ⟨rfl, rfl⟩)
      | (go_at_call 8; refine hset.mono ?_; rintro _ w7 ⟨rfl, a7, ⟨hT7, m7, hb7⟩, st7⟩; have M7 : Moves [] w2 w7 := tab_moves HTQ6.out hq M6 m7; have HT7 : Hid (TabIs w2 w7 q a7 (psetN xs bNew trow)) := hT7; clear hT7 m7 hb7 st7 hset)
      | (go_at_call 12; refine (tsame_new w2 w w7 q p a7 a xs HT7.out (HT.out.moves0 M7) HI.out HNT.out HXL.out).mono ?_; rintro _ w8 ⟨rfl, m8⟩; have M8 : Moves [] w2 w8 := M7.then m8))
    have hl32 := HI.out.len
    have hR := trange_f w w8 p a xs ⟨#[]⟩ ⟨#[]⟩ 16 (HT.out.moves0 M8) HI.out.rise (by omega)
    obtain ⟨Y, hY⟩ : ∃ Y, pownX ((pfil xs ⟨#[]⟩ ⟨#[]⟩).take (pmost 16)) = Y := ⟨_, rfl⟩
    obtain ⟨nx2, hnx2⟩ : ∃ nx2, pnext (pfil xs ⟨#[]⟩ ⟨#[]⟩) (pmost 16) = nx2 := ⟨_, rfl⟩
    have hYl : Y.length ≤ 32 := by
      rw [← hY]
      unfold pownX
      rw [List.length_map, List.length_take]
      have := pfil_len xs ⟨#[]⟩ ⟨#[]⟩
      omega
    have HYR : Hid (∀ y ∈ Y, y.r.length ≤ 4) := by
      intro y hy
      rw [← hY] at hy
      unfold pownX at hy
      obtain ⟨x, _, rfl⟩ := List.mem_map.1 hy
      exact pright_len4 (pcopy_right x.r)
    rw [hY, hnx2] at hR
    have HYL : Hid (Y.length ≤ 32) := hYl
    clear hY hnx2 hYl hl32
    go_wp2_with (go_at_call 14; refine hR.mono ?_; rintro _ w9 ⟨ad9, n9, cap9, rfl, hG9, m9⟩; have HG9 : Hid (GrowF w8 w9 (.slice ad9 n9 cap9) Y) := hG9; clear hG9 hR)
    have hn9 : Hid (n9 = Y.length) := by
      obtain ⟨_, _, _, e, h, _⟩ := HG9.out.open
      simp at e
      show n9 = Y.length
      rw [e.2.1]
      exact h.out
    have hn9b : n9 ≤ 32 := by have := hn9.out; have := HYL.out; omega
    go_loopw [13, 14] (fun vi _ wr => ∃ i : Nat, i ≤ n9 ∧ vi = .int .i64 (i : Nat) ∧ WrC w8 w9 wr) (fun vi _ _ => n9 - (intOf vi).toNat)
    case atStart => exact ⟨0, Nat.zero_le _, rfl, WrC.refl m9⟩
    case round =>
      obtain ⟨i, hi, rfl, hwr⟩ := hrel
      obtain ⟨wo, hwo⟩ : ∃ wo, wo = wr := ⟨_, rfl⟩
      subst hwo
      by_cases hin : i < n9
      · have hiI : (i : Int) < n9 := by omega
        obtain ⟨y, hy⟩ : ∃ y, Y[i]? = some y := ⟨_, List.getElem?_eq_getElem (by have := hn9.out; omega)⟩
        obtain ⟨g, n0, cap0, cur, a2, n2, c2, ev, hb, hcell, hGC, hn2⟩ := HG9.out.get hy
        simp at ev
        obtain ⟨rfl, rfl, rfl⟩ := ev
        have HGC : Hid (GrowC w8 w9 (.slice a2 n2 c2) y.r) := hGC
        have HBN : Hid (w9.heap[g]? = some (.cells cur 53 (0, 0)) ∧ w9.cell? ⟨g, i * 2 + 1, none⟩ = some (.slice a2 n2 c2)) := ⟨hb, hcell⟩
        have hn2b : n2 ≤ 4 := by have := hn2.out; have := HYR.out y (List.mem_of_getElem? hy); omega
        clear hb hcell hGC hy
        go_wp2_with fail
        go_loopw [14] (fun vk wq => ∃ k : Nat, k ≤ n2 ∧ vk = .int .i64 (k : Nat) ∧ WrC w8 w9 wq) (fun vk _ => n2 - (intOf vk).toNat)
        case atStart => exact ⟨0, Nat.zero_le _, rfl, hwr⟩
        case round =>
          obtain ⟨k, hk, rfl, hwq⟩ := hrel
          have q1 := hwq.named HBN.out.1 HBN.out.2
          by_cases hkn : k < n2
          · have hkI : (k : Int) < n2 := by omega
            obtain ⟨gl, nl, capl, arr, el, _, _, hbl, hWl, hcs⟩ := HGC.out.own (by have := hn2.out; omega)
            simp at el
            obtain ⟨rfl, rfl, rfl⟩ := el
            obtain ⟨x, hx⟩ : ∃ x, y.r[k]? = some x := ⟨_, List.getElem?_eq_getElem (by have := hn2.out; omega)⟩
            obtain ⟨_, _, _, f0, _⟩ := hcs k x hx
            obtain ⟨⟨v0, s0⟩, s1⟩ := hwq.col hbl f0
            have hfin := hwq.set hbl hWl (k * 2) (.string ⟨#[116, 117, 114, 110, 101, 100]⟩)
            clear hcs hx f0 hbl hwq
            go_wp2_with fail
            go_roundw
            case rel => exact ⟨k + 1, by omega, by go_num, hfin⟩
            case measure => simp [intOf]; omega
          · have hkI : ¬ (k : Int) < n2 := by omega
            go_wp2_with fail
            go_roundw
            case rel => exact ⟨i + 1, by omega, by go_num, hwq⟩
            case measure => simp [intOf]; omega
      · have hiI : ¬ (i : Int) < n9 := by omega
        have M9 : Moves [] w2 wo := M8.then hwr.moves
        have hT9 := HT.out.moves0 M9
        have hN9 := HN.out.moves M9
        have htl := tells6_w w wo p a xs _ ⟨#[]⟩ ⟨#[]⟩ most hT9 hN9 HI.out
        clear hT9 hN9
        go_wp2_with (first | (go_at_call 6; refine htl.mono ?_; rintro _ w10 ⟨rfl, m10⟩) | (go_at_call 10; refine (known6_w _).mono ?_; rintro _ w11 ⟨rfl, m11⟩))
        go_ret
        exact ⟨rfl, ((m2.then M9).then m10).then m11⟩
  · have hltI : ¬ (nx : Int) < 32 := by omega
    obtain ⟨w8, hw8⟩ : ∃ w8, w8 = w6 := ⟨_, rfl⟩
    subst hw8
    have M8 := M6
    clear hnx hTq6 hlen
    go_wp2_with (go_at_call 7; refine hlq.mono ?_; rintro _ _ ⟨rfl, rfl⟩)
    have hl32 := HI.out.len
    have hR := trange_f w w8 p a xs ⟨#[]⟩ ⟨#[]⟩ 16 (HT.out.moves0 M8) HI.out.rise (by omega)
    obtain ⟨Y, hY⟩ : ∃ Y, pownX ((pfil xs ⟨#[]⟩ ⟨#[]⟩).take (pmost 16)) = Y := ⟨_, rfl⟩
    obtain ⟨nx2, hnx2⟩ : ∃ nx2, pnext (pfil xs ⟨#[]⟩ ⟨#[]⟩) (pmost 16) = nx2 := ⟨_, rfl⟩
    have hYl : Y.length ≤ 32 := by
      rw [← hY]
      unfold pownX
      rw [List.length_map, List.length_take]
      have := pfil_len xs ⟨#[]⟩ ⟨#[]⟩
      omega
    have HYR : Hid (∀ y ∈ Y, y.r.length ≤ 4) := by
      intro y hy
      rw [← hY] at hy
      unfold pownX at hy
      obtain ⟨x, _, rfl⟩ := List.mem_map.1 hy
      exact pright_len4 (pcopy_right x.r)
    rw [hY, hnx2] at hR
    have HYL : Hid (Y.length ≤ 32) := hYl
    clear hY hnx2 hYl hl32
    go_wp2_with (go_at_call 14; refine hR.mono ?_; rintro _ w9 ⟨ad9, n9, cap9, rfl, hG9, m9⟩; have HG9 : Hid (GrowF w8 w9 (.slice ad9 n9 cap9) Y) := hG9; clear hG9 hR)
    have hn9 : Hid (n9 = Y.length) := by
      obtain ⟨_, _, _, e, h, _⟩ := HG9.out.open
      simp at e
      show n9 = Y.length
      rw [e.2.1]
      exact h.out
    have hn9b : n9 ≤ 32 := by have := hn9.out; have := HYL.out; omega
    go_loopw [13, 14] (fun vi _ wr => ∃ i : Nat, i ≤ n9 ∧ vi = .int .i64 (i : Nat) ∧ WrC w8 w9 wr) (fun vi _ _ => n9 - (intOf vi).toNat)
    case atStart => exact ⟨0, Nat.zero_le _, rfl, WrC.refl m9⟩
    case round =>
      obtain ⟨i, hi, rfl, hwr⟩ := hrel
      obtain ⟨wo, hwo⟩ : ∃ wo, wo = wr := ⟨_, rfl⟩
      subst hwo
      by_cases hin : i < n9
      · have hiI : (i : Int) < n9 := by omega
        obtain ⟨y, hy⟩ : ∃ y, Y[i]? = some y := ⟨_, List.getElem?_eq_getElem (by have := hn9.out; omega)⟩
        obtain ⟨g, n0, cap0, cur, a2, n2, c2, ev, hb, hcell, hGC, hn2⟩ := HG9.out.get hy
        simp at ev
        obtain ⟨rfl, rfl, rfl⟩ := ev
        have HGC : Hid (GrowC w8 w9 (.slice a2 n2 c2) y.r) := hGC
        have HBN : Hid (w9.heap[g]? = some (.cells cur 53 (0, 0)) ∧ w9.cell? ⟨g, i * 2 + 1, none⟩ = some (.slice a2 n2 c2)) := ⟨hb, hcell⟩
        have hn2b : n2 ≤ 4 := by have := hn2.out; have := HYR.out y (List.mem_of_getElem? hy); omega
        clear hb hcell hGC hy
        go_wp2_with fail
        go_loopw [14] (fun vk wq => ∃ k : Nat, k ≤ n2 ∧ vk = .int .i64 (k : Nat) ∧ WrC w8 w9 wq) (fun vk _ => n2 - (intOf vk).toNat)
        case atStart => exact ⟨0, Nat.zero_le _, rfl, hwr⟩
        case round =>
          obtain ⟨k, hk, rfl, hwq⟩ := hrel
          have q1 := hwq.named HBN.out.1 HBN.out.2
          by_cases hkn : k < n2
          · have hkI : (k : Int) < n2 := by omega
            obtain ⟨gl, nl, capl, arr, el, _, _, hbl, hWl, hcs⟩ := HGC.out.own (by have := hn2.out; omega)
            simp at el
            obtain ⟨rfl, rfl, rfl⟩ := el
            obtain ⟨x, hx⟩ : ∃ x, y.r[k]? = some x := ⟨_, List.getElem?_eq_getElem (by have := hn2.out; omega)⟩
            obtain ⟨_, _, _, f0, _⟩ := hcs k x hx
            obtain ⟨⟨v0, s0⟩, s1⟩ := hwq.col hbl f0
            have hfin := hwq.set hbl hWl (k * 2) (.string ⟨#[116, 117, 114, 110, 101, 100]⟩)
            clear hcs hx f0 hbl hwq
            go_wp2_with fail
            go_roundw
            case rel => exact ⟨k + 1, by omega, by go_num, hfin⟩
            case measure => simp [intOf]; omega
          · have hkI : ¬ (k : Int) < n2 := by omega
            go_wp2_with fail
            go_roundw
            case rel => exact ⟨i + 1, by omega, by go_num, hwq⟩
            case measure => simp [intOf]; omega
      · have hiI : ¬ (i : Int) < n9 := by omega
        have M9 : Moves [] w2 wo := M8.then hwr.moves
        have hT9 := HT.out.moves0 M9
        have hN9 := HN.out.moves M9
        have htl := tells6_w w wo p a xs _ ⟨#[]⟩ ⟨#[]⟩ most hT9 hN9 HI.out
        clear hT9 hN9
        go_wp2_with (first | (go_at_call 6; refine htl.mono ?_; rintro _ w10 ⟨rfl, m10⟩) | (go_at_call 10; refine (known6_w _).mono ?_; rintro _ w11 ⟨rfl, m11⟩))
        go_ret
        exact ⟨rfl, ((m2.then M9).then m10).then m11⟩
end Go.Proofs.Ytcngllcifcpbkaa
