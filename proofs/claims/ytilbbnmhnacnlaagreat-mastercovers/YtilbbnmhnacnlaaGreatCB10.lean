/- ours -/
import Derived.Test.YtilbbnmhnacnlaaGreatCB04
import Derived.Test.YtilbbnmhnacnlaaGreatCB09
import Derived.Test.YtilbbnmhnacnlaaGreatCB01
import Derived.Deep.Slices
import Derived.Deep.Fields
import Derived.ChangeShapes
import Derived.Test.YtilbbnmhnacnlaaGreatCB00
import Derived.WalkLawsBesides
import Derived.Sort.Walk0
/-
  The document's own Look and Keep of entries.
-/
namespace Go.Proofs.YtilbbnmhnacnlaaGreat
open Go.RowKit

theorem lookT_one {x : Pt} {q : Int} : lookT x q = 1 ↔ 1 ≤ q ∧ x.s < q := by
  unfold lookT
  by_cases h1 : q < 1 ∨ q < x.s
  · rw [if_pos h1]
    constructor
    · intro h; omega
    · intro h; omega
  · rw [if_neg h1]
    by_cases h2 : q = x.s
    · rw [if_pos h2]
      constructor
      · intro h; omega
      · intro h; omega
    · rw [if_neg h2]
      constructor
      · intro _; omega
      · intro _; rfl

set_option maxRecDepth 100000 in
set_option maxHeartbeats 4000000 in
theorem reLook_w (v : Value) (m : List Pt) (c q : Int) (w : World) (h : EntsAt w v m) (h1 : OneT m) (hl : m.length ≤ 1000000) (hb : ∀ x ∈ m, x.a.size ≤ 1048576) :
    Calls Tryz.prog 27 #[v, .int .i64 c, .int .i64 q] w fun e w' => ∃ v', e = .returned (.tuple #[v', .int .i64 (lookT (ofT m c) q)]) ∧ (∃ g, IsB w' g v' (sayT (ofT m c) q)) ∧ Moves [] w w' := by
  obtain ⟨ad, n, cap, rfl, hn, hcap⟩ := h.open
  have HH : Hid (EntsAt w (.slice ad n cap) m) := h
  have nilB : ∀ w' : World, IsB w' 0 (.slice none 0 0) [] := fun w' => ⟨_, _, _, rfl, rfl, Nat.le_refl _, fun _ => rfl, .inl rfl⟩
  have hln : n ≤ 1000000 := by have := hn.out; omega
  clear h
  by_cases hq : q < 1
  · have e1 : lookT (ofT m c) q = 3 := by unfold lookT; rw [if_pos (.inl hq)]
    have e2 : sayT (ofT m c) q = [] := by unfold sayT; rw [e1]; rfl
    rw [e1, e2]
    clear e1 e2
    go_enter Tryz.func27, Tryz.ntmps27
    go_wp2_with fail
    go_ret2
    exact ⟨_, rfl, ⟨0, nilB _⟩, Moves.refl _ _⟩
  · go_enter Tryz.func27, Tryz.ntmps27
    go_wp2_with fail
    go_loop [8] (fun iv => ∃ k : Nat, k ≤ n ∧ iv = .int .i64 (k : Int) ∧ ∀ j x, m[j]? = some x → j < k → x.c = c → x.s < q) (fun iv => (n - intOf iv).toNat)
    case atStart => exact ⟨0, Nat.zero_le _, rfl, fun j x _ hj => absurd hj (by omega)⟩
    case round =>
      obtain ⟨k, hk, rfl, hseen⟩ := hrel
      have HS : Hid (∀ j x, m[j]? = some x → j < k → x.c = c → x.s < q) := hseen
      clear hseen
      by_cases hkn : k < n
      · have hkn' : (k : Int) < (n : Int) := by omega
        obtain ⟨x, hx⟩ : ∃ x, m[k]? = some x := ⟨_, List.getElem?_eq_getElem (by have := hn.out; omega)⟩
        obtain ⟨g, off, a2, n2, c2, rfl, y0, y1, y2, hE⟩ := HH.out.at hx
        have HX : Hid (m[k]? = some x) := hx
        have HE : Hid (EntC w [.int .i64 x.c, .int .i64 x.s, .slice a2 n2 c2] x) := hE
        clear hx hE
        by_cases hc : x.c = c
        · have hof : ofT m c = x := by rw [← hc]; exact ofT_mem h1 (List.mem_of_getElem? HX.out)
          have HOF : Hid (ofT m c = x) := hof
          have HC : Hid (x.c = c) := hc
          rw [hc] at y0
          clear hc hof
          by_cases hs : x.s = q
          · have e1 : lookT (ofT m c) q = 2 := by rw [HOF.out]; unfold lookT; rw [if_neg (by omega), if_pos hs.symm]
            have e2 : sayT (ofT m c) q = zbs x.a := by unfold sayT; rw [e1, HOF.out]; rfl
            have E1 : Hid (lookT (ofT m c) q = 2) := e1
            have E2 : Hid (sayT (ofT m c) q = zbs x.a) := e2
            rw [hs] at y1
            clear e1 e2 nilB hs
            obtain ⟨g2, hB2⟩ := HE.out.isB
            have hsz : x.a.size ≤ 1048576 := hb x (List.mem_of_getElem? HX.out)
            have hlz : ([] : List Nat).length + (zbs x.a).length ≤ 1099511627776 := by rw [zbs_length, List.length_nil]; omega
            have ma : Moves [] w (w.alloc (.cells #[] 5)) := (Moves.refl [] w).alloc _
            have hB2' := hB2.moves ma (by simp)
            have y2' := ma.cell y2
            go_wp2_with (at_builtin; refine append_law (.tmp 32) (.tmp 37) rfl _ _ [] (zbs x.a) g2 rfl rfl rfl (own_empty w) hB2' hlz ?_; intro v3 w3 ho3 m3 hat3; rw [List.nil_append] at ho3; have hA3 := appended ma (fresh_empty w) m3 hat3)
            go_ret2
            exact ⟨v3, by rw [E1.out]; rfl, ⟨_, by rw [E2.out]; exact ho3.isB⟩, hA3.1⟩
          · by_cases hs2 : q < x.s
            · have e1 : lookT (ofT m c) q = 3 := by rw [HOF.out]; unfold lookT; rw [if_pos (.inr hs2)]
              have e2 : sayT (ofT m c) q = [] := by unfold sayT; rw [e1]; rfl
              have E1 : Hid (lookT (ofT m c) q = 3) := e1
              have E2 : Hid (sayT (ofT m c) q = []) := e2
              clear e1 e2
              go_wp2_with fail
              go_ret2
              exact ⟨_, by rw [E1.out]; rfl, ⟨0, by rw [E2.out]; exact nilB _⟩, Moves.refl _ _⟩
            · go_wp2_with fail
              go_round
              case rel =>
                refine ⟨k + 1, by omega, by go_num, fun j y hy hj hyc => ?_⟩
                by_cases e : j = k
                · subst e; rw [HX.out] at hy; simp at hy; subst hy; omega
                · exact HS.out j y hy (by omega) hyc
              case measure => simp [intOf]; omega
        · go_wp2_with fail
          go_round
          case rel =>
            refine ⟨k + 1, by omega, by go_num, fun j y hy hj hyc => ?_⟩
            by_cases e : j = k
            · subst e; rw [HX.out] at hy; simp at hy; subst hy; exact absurd hyc hc
            · exact HS.out j y hy (by omega) hyc
          case measure => simp [intOf]; omega
      · have hkn' : ¬ (k : Int) < (n : Int) := by omega
        have e1 : lookT (ofT m c) q = 1 := by
          rw [lookT_one]
          refine ⟨by omega, ?_⟩
          rcases ofT_cases m c with ⟨k1, k2⟩ | ⟨k1, _⟩
          · obtain ⟨j, hj, e⟩ := List.getElem_of_mem k1
            refine HS.out j _ ?_ (by have := hn.out; omega) k2
            rw [← e]
            exact List.getElem?_eq_getElem hj
          · rw [k1]; show (0 : Int) < q; omega
        have e2 : sayT (ofT m c) q = [] := by unfold sayT; rw [e1]; rfl
        have E1 : Hid (lookT (ofT m c) q = 1) := e1
        have E2 : Hid (sayT (ofT m c) q = []) := e2
        clear e1 e2
        go_wp2_with fail
        go_ret2
        exact ⟨_, by rw [E1.out]; rfl, ⟨0, by rw [E2.out]; exact nilB _⟩, Moves.refl _ _⟩

theorem filterE_take {m : List Pt} {c : Int} {k : Nat} {x : Pt} (h : m[k]? = some x) : (m.take (k + 1)).filter (fun y => decide (y.c ≠ c)) = (m.take k).filter (fun y => decide (y.c ≠ c)) ++ (if x.c = c then [] else [x]) := by
  rw [List.take_add_one, h, List.filter_append]
  by_cases e : x.c = c
  · simp [e]
  · simp [e]

set_option maxRecDepth 100000 in
set_option maxHeartbeats 8000000 in
theorem reKeep_w (v : Value) (m : List Pt) (c q : Int) (av : Value) (g : Nat) (bs : List Nat) (w : World) (h : EntsAt w v m) (h1 : OneT m) (hl : m.length ≤ 100000) (hb : ∀ x ∈ m, x.a.size ≤ 1048576) (ha : IsB w g av bs) (ho : ∀ b ∈ bs, b < 256) :
    Calls Tryz.prog 30 #[v, .int .i64 c, .int .i64 q, av] w fun e w' => ∃ v', e = .returned (.tuple #[v', .bool (mayK c q bs.length && decide ((ofT m c).s < q))]) ∧ EntsAt w' v' (if mayK c q bs.length then keepE m ⟨c, q, strOf bs⟩ else m) ∧ Moves [] w w' := by
  have hL := reLook_w v m c q w h h1 (by omega) hb
  obtain ⟨ad, n, cap, rfl, hn, hcap⟩ := h.open
  have HH : Hid (EntsAt w (.slice ad n cap) m) := h
  have ha' := ha
  obtain ⟨a4, n4, c4, rfl, hn4, _⟩ := ha'
  have HB : Hid (IsB w g (.slice a4 n4 c4) bs) := ha
  have hln : n ≤ 100000 := by have := hn.out; omega
  clear h ha
  cases hok : (mayK c q bs.length && decide ((ofT m c).s < q)) with
  | false =>
    have e0 : (if mayK c q bs.length then keepE m ⟨c, q, strOf bs⟩ else m) = m := by
      cases hm : mayK c q bs.length with
      | false => simp
      | true =>
        rw [hm, Bool.true_and] at hok
        unfold keepE
        dsimp only
        rw [if_neg (of_decide_eq_false hok)]
        simp
    rw [e0]
    by_cases hc0 : c < 0
    · go_enter Tryz.func30, Tryz.ntmps30
      go_wp2_with (go_at_call 27; refine hL.mono ?_; rintro _ w2 ⟨v2, rfl, -, m2⟩)
      go_ret2
      exact ⟨_, rfl, HH.out.moves m2, m2⟩
    · by_cases hc1 : 255 < c
      · go_enter Tryz.func30, Tryz.ntmps30
        go_wp2_with (go_at_call 27; refine hL.mono ?_; rintro _ w2 ⟨v2, rfl, -, m2⟩)
        go_ret2
        exact ⟨_, rfl, HH.out.moves m2, m2⟩
      · by_cases hq1 : 1073741824 < q
        · go_enter Tryz.func30, Tryz.ntmps30
          go_wp2_with (go_at_call 27; refine hL.mono ?_; rintro _ w2 ⟨v2, rfl, -, m2⟩)
          go_ret2
          exact ⟨_, rfl, HH.out.moves m2, m2⟩
        · by_cases hn1 : 1048576 < n4
          · have hn1' : (1048576 : Int) < (n4 : Int) := by omega
            go_enter Tryz.func30, Tryz.ntmps30
            go_wp2_with (go_at_call 27; refine hL.mono ?_; rintro _ w2 ⟨v2, rfl, -, m2⟩)
            go_ret2
            exact ⟨_, rfl, HH.out.moves m2, m2⟩
          · have hn1' : ¬ (1048576 : Int) < (n4 : Int) := by omega
            have hlk : ¬ lookT (ofT m c) q = 1 := by
              intro e
              rw [lookT_one] at e
              have : mayK c q bs.length = true := mayK_iff.2 ⟨by omega, by omega, e.1, by omega, by omega⟩
              rw [this, decide_eq_true e.2] at hok
              simp at hok
            obtain ⟨lk, hlk'⟩ : ∃ lk, lookT (ofT m c) q = lk := ⟨_, rfl⟩
            rw [hlk'] at hlk hL
            have hlk2 : (lk == 1) = false := by simpa using hlk
            have hlk3 : (lk != 1) = true := by simpa using hlk
            clear hlk'
            go_enter Tryz.func30, Tryz.ntmps30
            go_wp2_with (go_at_call 27; refine hL.mono ?_; rintro _ w2 ⟨v2, rfl, -, m2⟩)
            go_ret2
            exact ⟨_, rfl, HH.out.moves m2, m2⟩
  | true =>
    obtain ⟨hmay, hlt⟩ : mayK c q bs.length = true ∧ (ofT m c).s < q := by
      rw [Bool.and_eq_true] at hok
      exact ⟨hok.1, of_decide_eq_true hok.2⟩
    obtain ⟨k1, k2, k3, k4, k5⟩ := mayK_iff.1 hmay
    have HK : Hid (keepE m ⟨c, q, strOf bs⟩ = m.filter (fun y => decide (y.c ≠ c)) ++ [⟨c, q, strOf bs⟩]) := by
      unfold keepE Hid
      dsimp only
      rw [if_pos hlt]
    have e0 : (if mayK c q bs.length then keepE m ⟨c, q, strOf bs⟩ else m) = keepE m ⟨c, q, strOf bs⟩ := by rw [hmay, if_pos rfl]
    have hl1 : lookT (ofT m c) q = 1 := lookT_one.2 ⟨k3, hlt⟩
    rw [e0]
    rw [hl1] at hL
    have hc0 : ¬ c < 0 := by omega
    have hc1 : ¬ 255 < c := by omega
    have hq1 : ¬ 1073741824 < q := by omega
    have hn1' : ¬ (1048576 : Int) < (n4 : Int) := by omega
    have HL5 : Hid (bs.length ≤ 1048576) := k5
    have HN4 : Hid (bs.length = n4) := hn4
    clear e0 hl1 hlt hmay hok k1 k2 k3 k4 k5 hn4
    go_enter Tryz.func30, Tryz.ntmps30
    go_wp2_with (go_at_call 27; refine hL.mono ?_; rintro _ w2 ⟨v2, rfl, -, m2⟩)
    clear hL
    go_loopw [12, 13] (fun ov iv wr => ∃ k : Nat, k ≤ n ∧ iv = .int .i64 (k : Int) ∧ GrowE w2 wr ov ((m.take k).filter (fun y => decide (y.c ≠ c))) ∧ Moves [] w2 wr) (fun _ iv _ => (n - intOf iv).toNat)
    case atStart => exact ⟨0, Nat.zero_le _, rfl, by simpa using GrowE.nil w2 w2, Moves.refl _ _⟩
    case round =>
      obtain ⟨k, hk, rfl, hG, mr⟩ := hrel
      obtain ⟨ad5, n5, cap5, rfl, hn5, hc5⟩ := hG.open
      have HG : Hid (GrowE w2 wr (.slice ad5 n5 cap5) ((m.take k).filter (fun y => decide (y.c ≠ c)))) := hG
      have hfl : ((m.take k).filter (fun y => decide (y.c ≠ c))).length ≤ n := by
        have h1 := List.length_filter_le (fun y : Pt => decide (y.c ≠ c)) (m.take k)
        have h2 := List.length_take_le k m
        omega
      have HF : Hid (((m.take k).filter (fun y => decide (y.c ≠ c))).length ≤ n) := hfl
      clear hG hfl
      by_cases hkn : k < n
      · have hkn' : (k : Int) < (n : Int) := by omega
        obtain ⟨x, hx⟩ : ∃ x, m[k]? = some x := ⟨_, List.getElem?_eq_getElem (by have := hn.out; omega)⟩
        have hE0 := (HH.out.moves (m2.then mr)).at hx
        obtain ⟨g3, off3, a3, n3, c3, rfl, y0, y1, y2, hE⟩ := hE0
        have HFT := filterE_take (c := c) hx
        have HFT' : Hid ((m.take (k + 1)).filter (fun y => decide (y.c ≠ c)) = (m.take k).filter (fun y => decide (y.c ≠ c)) ++ (if x.c = c then [] else [x])) := HFT
        have HE : Hid (EntC wr [.int .i64 x.c, .int .i64 x.s, .slice a3 n3 c3] x) := hE
        clear hx hE HFT
        by_cases hxc : x.c = c
        · rw [hxc] at y0
          have HXC : Hid (x.c = c) := hxc
          clear hxc
          go_wp2_with fail
          go_roundw
          case rel => exact ⟨k + 1, by omega, by go_num, by rw [HFT'.out, if_pos HXC.out, List.append_nil]; exact HG.out, mr⟩
          case measure => simp [intOf]; omega
        · have hy := ents_new wr _ _ _ x HE.out
          have ma : Moves [] w2 (wr.alloc (.cells #[.int .i64 x.c, .int .i64 x.s, .slice a3 n3 c3] 116)) := mr.alloc _
          have hbd : ((m.take k).filter (fun y => decide (y.c ≠ c))).length + [x].length ≤ 1048576 := by have := HF.out; simp only [List.length_singleton]; omega
          have HG2 : Hid (GrowE w2 (wr.alloc (.cells #[.int .i64 x.c, .int .i64 x.s, .slice a3 n3 c3] 116)) (.slice ad5 n5 cap5) ((m.take k).filter (fun y => decide (y.c ≠ c)))) := HG.out.moves0 ((Moves.refl [] wr).alloc _)
          go_wp2_with (at_builtin; refine growE_append (.tmp 54) (.tmp 59) rfl (.slice ad5 n5 cap5) _ _ [x] rfl rfl (by rfl) HG2.out hy ma hbd ?_; intro v8 w8 hG8 mm8 m8 s8 l8; have HG8 : Hid (GrowE w2 w8 v8 _) := hG8; clear hG8)
          go_roundw
          case rel => exact ⟨k + 1, by omega, by go_num, by rw [HFT'.out, if_neg hxc]; exact HG8.out, mm8⟩
          case measure => simp [intOf]; omega
      · have hkn' : ¬ (k : Int) < (n : Int) := by omega
        have HT : Hid (m.take k = m) := List.take_of_length_le (by have := hn.out; omega)
        have HZ : Hid (zbs (strOf bs) = bs) := zbs_strOf ho
        have ma : Moves [] wr (wr.alloc (.cells #[] 5)) := (Moves.refl [] wr).alloc _
        have hB2' := HB.out.moves ((m2.then mr).then ma) (by simp)
        have hlz : ([] : List Nat).length + bs.length ≤ 1099511627776 := by have := HL5.out; rw [List.length_nil]; omega
        have hbd : ((m.take k).filter (fun y => decide (y.c ≠ c))).length + [(⟨c, q, strOf bs⟩ : Pt)].length ≤ 1048576 := by have := HF.out; simp only [List.length_singleton]; omega
        go_wp2_with (first | (at_builtin; refine append_law (.tmp 64) (.tmp 65) rfl _ _ [] bs g rfl rfl rfl (own_empty wr) hB2' hlz ?_; intro v3 w3 ho3 m3 hat3; rw [List.nil_append] at ho3; have hA3 := appended ma (fresh_empty wr) m3 hat3; obtain ⟨g6, hB6, hU6⟩ := ho3.u8; obtain ⟨ad6, n6, cap6, rfl, hn6⟩ : ∃ ad n cap, v3 = Value.slice ad n cap ∧ True := (by obtain ⟨ad, n, cap, e, _⟩ := hB6; exact ⟨ad, n, cap, e, trivial⟩); have hEn : EntC w3 [.int .i64 c, .int .i64 q, .slice ad6 n6 cap6] ⟨c, q, strOf bs⟩ := ⟨ad6, n6, cap6, g6, rfl, (by rw [HZ.out]; exact hB6), (by rw [HZ.out]; exact hU6)⟩; have HEN : Hid (EntC w3 [.int .i64 c, .int .i64 q, .slice ad6 n6 cap6] ⟨c, q, strOf bs⟩) := hEn; have hyE := ents_new w3 _ _ _ _ hEn; have maE : Moves [] w2 (w3.alloc (.cells #[.int .i64 c, .int .i64 q, .slice ad6 n6 cap6] 116)) := (mr.then hA3.1).alloc _; have HGE : Hid (GrowE w2 (w3.alloc (.cells #[.int .i64 c, .int .i64 q, .slice ad6 n6 cap6] 116)) (.slice ad5 n5 cap5) ((m.take k).filter (fun y => decide (y.c ≠ c)))) := HG.out.moves0 (hA3.1.alloc _); clear hEn hB6 hU6 ho3 hn6) | (at_builtin; refine growE_append (.tmp 61) (.tmp 68) rfl (.slice ad5 n5 cap5) _ _ [⟨c, q, strOf bs⟩] rfl rfl (by rfl) HGE.out hyE maE hbd ?_; intro v8 w8 hG8 mm8 m8 s8 l8; have HG8 : Hid (GrowE w2 w8 v8 _) := hG8; clear hG8))
        go_ret2
        exact ⟨_, rfl, by have e := HG8.out.at; rw [HT.out, ← HK.out] at e; exact e, m2.then mm8⟩
end Go.Proofs.YtilbbnmhnacnlaaGreat
/-
  Arguments opened: integers, lists of integers, strings, lists of strings.
-/
namespace Go.Proofs.YtilbbnmhnacnlaaGreat
open Go.RowKit
open Go.ChangeShapes Go.WideShapes

theorem str_of_trod {H : Type} {enc : TypeId × Value → H} {W : World} {base : Nat} {spare : Nat → Bool} {held : Bool} {fuel : Nat} {v : Value} {x : DataW H × List MemPlace}
    (h : DataW.trod enc Tryz.prog W base spare held fuel 9 [v] = some x) : ∃ s : ByteArray, v = .string s := by
  cases fuel with
  | zero => simp [DataW.trod] at h
  | succ n =>
    simp only [DataW.trod, Tryz.underlying9] at h
    cases v <;> simp at h
    rename_i b
    exact ⟨b, rfl⟩

theorem struct_cells {W : World} {base i sz : Nat} {ad : Addr} {cs0 cs' : List Value} (hsz : 0 < sz) (h0 : W.cells? base (ad.add (0 * sz)) sz = some cs0) (h1 : W.cells? base (ad.add (i * sz)) sz = some cs') : ∃ b off, ad = ⟨b, off, none⟩ ∧ cs'.length = sz ∧ ∀ j u, cs'[j]? = some u → W.cell? ⟨b, off + i * sz + j, none⟩ = some u := by
  obtain ⟨_, hlen, hcell⟩ := World.cells?_some h1
  have hsp : ad.spot = none := by
    obtain ⟨_, hlen, hcell⟩ := World.cells?_some h0
    have e0 := hcell 0 hsz
    cases cs0 with
    | nil => simp at hlen; omega
    | cons v t =>
      have := World.cell?_spot e0
      simpa [Addr.add] using this
  obtain ⟨b, off, spot⟩ := ad
  simp at hsp
  subst hsp
  refine ⟨b, off, rfl, hlen, fun j u hj => ?_⟩
  have hjl : j < sz := by
    have := (List.getElem?_eq_some_iff.1 hj).1
    omega
  have e := hcell j hjl
  rw [Go.Deep.add_add] at e
  have ea : (⟨b, off, none⟩ : Addr).add (i * sz + j) = ⟨b, off + i * sz + j, none⟩ := by
    unfold Addr.add; split <;> simp_all [Nat.add_assoc]
  rw [ea, hj] at e
  exact e

end Go.Proofs.YtilbbnmhnacnlaaGreat
/-
  A span that was handed in, opened.
-/
namespace Go.Proofs.YtilbbnmhnacnlaaGreat
open Go.RowKit
open Go.ChangeShapes Go.WideShapes

end Go.Proofs.YtilbbnmhnacnlaaGreat
/-
  keep's Head and Row, book's Within, as plain functions.
-/
namespace Go.Proofs.YtilbbnmhnacnlaaGreat
open Go.RowKit

def pwithin (n : Int) : Int := if 0 ≤ n ∧ n ≤ 1048576 then n else if n.tmod 1048577 < 0 then n.tmod 1048577 + 1048577 else n.tmod 1048577
theorem pwithin_b (n : Int) : 0 ≤ pwithin n ∧ pwithin n ≤ 1048576 := by
  have t := tmod_bounds n
  unfold pwithin
  generalize n.tmod 1048577 = m at *
  split
  · assumption
  · split <;> omega
theorem within_d (n : Int) (w : World) : Calls Tryz.prog 23 #[.int .i64 n, .int .i64 0, .int .i64 1048576] w fun e w' => e = .returned (.int .i64 (pwithin n)) ∧ w = w' := by
  have t := tmod_bounds n
  obtain ⟨q, hq⟩ : ∃ q, Hid (pwithin n = q) := ⟨_, rfl⟩
  rw [hq.out]
  have hq' := hq.out
  unfold pwithin at hq'
  have HQ : Hid ((if 0 ≤ n ∧ n ≤ 1048576 then n else if n.tmod 1048577 < 0 then n.tmod 1048577 + 1048577 else n.tmod 1048577) = q) := hq'
  clear hq'
  go_enter Tryz.func23, Tryz.ntmps23
  go_wp2
  all_goals go_ret
  all_goals refine ⟨congrArg (fun z => Ending.returned (.int .i64 z)) ?_, rfl⟩
  all_goals have hz := HQ.out
  all_goals have hte : 0 ≤ n → n.tmod 1048577 = n % 1048577 := Int.tmod_eq_emod_of_nonneg
  all_goals generalize n.tmod 1048577 = m at *
  all_goals try unfold wrap64
  all_goals (split at hz)
  all_goals try (split at hz)
  all_goals omega
def rowNames : List ByteArray := [⟨#[97]⟩, ⟨#[98]⟩, ⟨#[109]⟩, ⟨#[110]⟩, ⟨#[122]⟩, ⟨#[109, 97]⟩, ⟨#[122, 122]⟩, ⟨#[48]⟩]
set_option maxRecDepth 100000 in
set_option maxHeartbeats 1000000 in
theorem row_ds (n : Int) : ∃ s, (1 ≤ s.size ∧ s.size ≤ 2) ∧ ∀ w, Calls Tryz.prog 24 #[.int .i64 n] w fun e w' => e = .returned (.string s) ∧ Moves [] w w' := by
  have hb := pwithin_b n
  obtain ⟨j, hj, hje⟩ : ∃ j : Nat, j < 8 ∧ (pwithin n).tmod 8 = (j : Int) := by
    refine ⟨((pwithin n).tmod 8).toNat, ?_, ?_⟩ <;> rw [Int.tmod_eq_emod_of_nonneg hb.1] <;> omega
  have hsz : ∀ s ∈ rowNames, 1 ≤ s.size ∧ s.size ≤ 2 := by decide
  refine ⟨rowNames[j]'(by simpa [rowNames] using hj), hsz _ (List.getElem_mem _), fun w => ?_⟩
  clear hsz
  have hcell : (w.alloc (.cells #[.string ⟨#[97]⟩, .string ⟨#[98]⟩, .string ⟨#[109]⟩, .string ⟨#[110]⟩, .string ⟨#[122]⟩, .string ⟨#[109, 97]⟩, .string ⟨#[122, 122]⟩, .string ⟨#[48]⟩] 9)).cell? ⟨w.heap.size, j, none⟩ = some (.string (rowNames[j]'(by simpa [rowNames] using hj))) := by
    simp only [World.cell?, heap_alloc_new]
    match j, hj with
    | 0, _ => rfl
    | 1, _ => rfl
    | 2, _ => rfl
    | 3, _ => rfl
    | 4, _ => rfl
    | 5, _ => rfl
    | 6, _ => rfl
    | 7, _ => rfl
  generalize rowNames[j]'(by simpa [rowNames] using hj) = s at hcell ⊢
  have m1 : Moves [] w (w.alloc (.cells #[.string ⟨#[97]⟩, .string ⟨#[98]⟩, .string ⟨#[109]⟩, .string ⟨#[110]⟩, .string ⟨#[122]⟩, .string ⟨#[109, 97]⟩, .string ⟨#[122, 122]⟩, .string ⟨#[48]⟩] 9)) := (Moves.refl _ _).alloc _
  have hj3 : (j : Int) < 8 := by omega
  have hj0 : (0 : Int) ≤ j := by omega
  have hpick : ∀ cap, Calls Tryz.prog 45 #[.slice (some ⟨w.heap.size, 0, none⟩) 8 cap, .int .i64 n] (w.alloc (.cells #[.string ⟨#[97]⟩, .string ⟨#[98]⟩, .string ⟨#[109]⟩, .string ⟨#[110]⟩, .string ⟨#[122]⟩, .string ⟨#[109, 97]⟩, .string ⟨#[122, 122]⟩, .string ⟨#[48]⟩] 9)) fun e w' => e = .returned (.string s) ∧ Moves [] w w' := by
    intro cap
    generalize w.alloc _ = w1 at hcell m1 ⊢
    go_enter Tryz.func45, Tryz.ntmps45
    go_wp2_with (go_at_call 23; refine (within_d _ _).mono ?_; rintro _ _ ⟨rfl, rfl⟩)
    go_ret
    exact ⟨rfl, m1⟩
  clear hcell m1
  go_enter Tryz.func24, Tryz.ntmps24
  go_wp2_with (go_at_call 45; refine (hpick _).mono ?_; rintro _ w2 ⟨rfl, m2⟩)
  go_ret
  exact ⟨rfl, m2⟩

end Go.Proofs.YtilbbnmhnacnlaaGreat
/-
  Spans as plain data: Right, Has, Meet, Split, Join of two texts, and what follows of them.
-/
namespace Go.Proofs.YtilbbnmhnacnlaaGreat
open Go.RowKit Go

structure Psp where
  lo : ByteArray
  hi : ByteArray
def zlt (a b : ByteArray) : Bool := Op.bytesLess a.toList b.toList
def zeq (a b : ByteArray) : Bool := a.toList == b.toList
def bz (a : ByteArray) : Bool := a.toList.isEmpty
def spB (s : Psp) (n : ByteArray) : Bool := bz s.hi || zlt n s.hi
def spE (a : ByteArray) : Bool := decide (a.size ≤ 16)
def spR (s : Psp) : Bool := spE s.lo && spE s.hi && spB s s.lo
def spH (s : Psp) (n : ByteArray) : Bool := !zlt n s.lo && spB s n
def spM (a b : Psp) : Bool := spR a && spR b && (spH a b.lo || spH b a.lo)
def spC (s : Psp) (t : ByteArray) : Bool := spR s && spE t && !zeq t s.lo && spH s t
def spJ (a b : Psp) : Bool := spR a && spR b && !bz a.hi && zeq a.hi b.lo
def Psp.zero : Psp := ⟨⟨#[]⟩, ⟨#[]⟩⟩

theorem zlt_iff (a b : ByteArray) : zlt a b = decide (a.data.toList < b.data.toList) := by
  unfold zlt
  rw [bytesLess_eq, ByteArray.toList_eq, ByteArray.toList_eq]
theorem zeq_iff {a b : ByteArray} : zeq a b = true ↔ a = b := by
  unfold zeq
  rw [ByteArray.toList_eq, ByteArray.toList_eq, beq_iff_eq]
  exact ⟨fun h => by cases a; cases b; simpa using h, fun h => by rw [h]⟩
theorem zlt_self (a : ByteArray) : zlt a a = false := by rw [zlt_iff]; exact decide_eq_false (List.lt_irrefl _)
theorem zlt_trans {a b c : ByteArray} (h1 : zlt a b = true) (h2 : zlt b c = true) : zlt a c = true := by
  rw [zlt_iff, decide_eq_true_eq] at *
  exact List.lt_trans h1 h2
theorem zlt_asymm {a b : ByteArray} (h : zlt a b = true) : zlt b a = false := by
  cases hq : zlt b a with
  | false => rfl
  | true => have := zlt_trans h hq; rw [zlt_self] at this; simp at this
theorem zlt_total {a b : ByteArray} (h1 : zlt a b = false) (h2 : zlt b a = false) : a = b := by
  rw [zlt_iff, decide_eq_false_iff_not] at *
  have := List.le_antisymm (List.not_lt.1 h2) (List.not_lt.1 h1)
  cases a; cases b; simpa using this
theorem zle_trans {a b c : ByteArray} (h1 : zlt b a = false) (h2 : zlt c b = false) : zlt c a = false := by
  cases h : zlt c a with
  | false => rfl
  | true =>
    cases h3 : zlt a b with
    | true => rw [zlt_trans h h3] at h2; simp at h2
    | false => have := zlt_total h3 h1; subst this; rw [h2] at h; simp at h
theorem zlt_le {a b c : ByteArray} (h1 : zlt a b = true) (h2 : zlt c b = false) : zlt a c = true := by
  cases h : zlt a c with
  | true => rfl
  | false => rw [zle_trans h2 h] at h1; simp at h1
theorem zle_lt {a b c : ByteArray} (h1 : zlt b a = false) (h2 : zlt b c = true) : zlt a c = true := by
  cases h : zlt a c with
  | true => rfl
  | false => rw [zle_trans h h1] at h2; simp at h2
theorem bz_iff {a : ByteArray} : bz a = true ↔ a = ⟨#[]⟩ := by
  unfold bz
  rw [ByteArray.toList_eq, List.isEmpty_iff]
  exact ⟨fun h => by cases a; simpa using h, fun h => by rw [h]⟩
theorem zlt_nil (a : ByteArray) : zlt a ⟨#[]⟩ = false := by rw [zlt_iff]; exact decide_eq_false (by simp)
theorem nil_zlt (a : ByteArray) : zlt ⟨#[]⟩ a = !bz a := by
  rw [zlt_iff]; unfold bz; rw [ByteArray.toList_eq]
  cases a.data.toList <;> simp
theorem zero_R : spR Psp.zero = true := by
  unfold spR spE spB Psp.zero
  simp [bz_iff, ByteArray.size]
theorem spM_eq (a b : Psp) (ha : spR a = true) (hb : spR b = true) : (spH a b.lo || spH b a.lo) = ((bz a.hi || zlt b.lo a.hi) && (bz b.hi || zlt a.lo b.hi)) := by
  unfold spR at ha hb
  unfold spH
  have ha' : spB a a.lo = true := by simp at ha; exact ha.2
  have hb' : spB b b.lo = true := by simp at hb; exact hb.2
  unfold spB at *
  cases h1 : zlt b.lo a.lo with
  | true =>
    have h2 := zlt_asymm h1
    rw [h2]
    have h3 : (bz a.hi || zlt b.lo a.hi) = true := by
      cases hz : bz a.hi with
      | true => rfl
      | false => rw [hz] at ha'; simp at ha' ⊢; exact zlt_trans h1 ha'
    rw [h3]; simp
  | false =>
    cases h2 : zlt a.lo b.lo with
    | true =>
      have h3 : (bz b.hi || zlt a.lo b.hi) = true := by
        cases hz : bz b.hi with
        | true => rfl
        | false => rw [hz] at hb'; simp at hb' ⊢; exact zlt_trans h2 hb'
      rw [h3]; simp
    | false =>
      have e := zlt_total h1 h2
      rw [e] at hb' ⊢
      rw [ha', hb']; rfl
theorem spC_split {s : Psp} {t : ByteArray} (h : spC s t = true) : spR s = true ∧ spE t = true ∧ zlt s.lo t = true ∧ spB s t = true ∧ bz t = false := by
  unfold spC spH at h
  simp only [Bool.and_eq_true, Bool.not_eq_true'] at h
  obtain ⟨⟨⟨h1, h2⟩, h3⟩, h4, h5⟩ := h
  have h6 : zlt s.lo t = true := by
    cases h6 : zlt s.lo t with
    | true => rfl
    | false => have := zlt_total h6 h4; rw [← this] at h3; rw [(zeq_iff (a := s.lo)).2 rfl] at h3; simp at h3
  refine ⟨h1, h2, h6, h5, ?_⟩
  cases h7 : bz t with
  | false => rfl
  | true => rw [bz_iff.1 h7, zlt_nil] at h6; simp at h6
theorem spC_iff (s : Psp) (t : ByteArray) : spC s t = (spR s && spE t && zlt s.lo t && spB s t) := by
  cases h : spC s t with
  | true => obtain ⟨h1, h2, h3, h4, _⟩ := spC_split h; rw [h1, h2, h3, h4]; rfl
  | false =>
    symm
    unfold spC at h
    cases h1 : (spR s && spE t && zlt s.lo t && spB s t) with
    | false => rfl
    | true =>
      simp only [Bool.and_eq_true] at h1
      obtain ⟨⟨⟨h1, h2⟩, h3⟩, h4⟩ := h1
      rw [h1, h2] at h
      unfold spH at h
      rw [zlt_asymm h3, h4] at h
      simp at h
      have := zeq_iff.1 h
      rw [this, zlt_self] at h3; simp at h3
theorem spR_parts {s : Psp} (h : spR s = true) : spE s.lo = true ∧ spE s.hi = true ∧ spB s s.lo = true := by
  unfold spR at h; simp only [Bool.and_eq_true] at h; exact ⟨h.1.1, h.1.2, h.2⟩
theorem spR_mk {s : Psp} (h1 : spE s.lo = true) (h2 : spE s.hi = true) (h3 : spB s s.lo = true) : spR s = true := by
  unfold spR; rw [h1, h2, h3]; rfl
theorem split_R {s : Psp} {t : ByteArray} (h : spC s t = true) : spR ⟨s.lo, t⟩ = true ∧ spR ⟨t, s.hi⟩ = true := by
  obtain ⟨h1, h2, h3, h4, h5⟩ := spC_split h
  obtain ⟨r1, r2, r3⟩ := spR_parts h1
  refine ⟨spR_mk r1 h2 ?_, spR_mk h2 r2 ?_⟩
  · unfold spB; simp [h3]
  · exact h4
theorem spJ_parts {a b : Psp} (h : spJ a b = true) : spR a = true ∧ spR b = true ∧ bz a.hi = false ∧ a.hi = b.lo := by
  unfold spJ at h
  simp only [Bool.and_eq_true, Bool.not_eq_true'] at h
  exact ⟨h.1.1.1, h.1.1.2, h.1.2, zeq_iff.1 h.2⟩
theorem join_R {a b : Psp} (h : spJ a b = true) : spR ⟨a.lo, b.hi⟩ = true := by
  obtain ⟨h1, h2, h3, h4⟩ := spJ_parts h
  obtain ⟨r1, r2, r3⟩ := spR_parts h1
  obtain ⟨q1, q2, q3⟩ := spR_parts h2
  refine spR_mk r1 q2 ?_
  unfold spB at *
  rw [h3] at r3
  simp only [Bool.false_or] at r3
  cases hz : bz b.hi with
  | true => rfl
  | false => rw [hz] at q3; simp at q3 ⊢; rw [h4] at r3; exact zlt_trans r3 q3
end Go.Proofs.YtilbbnmhnacnlaaGreat
