/-
  The document's own Look and Keep of entries.
-/
import Derived.Test.YtoijkdknjbgebaaCOe0
namespace Go.Proofs.Ytoijkdknjbgebaa
open Go.RowKit

theorem zbs_strOf {bs : List Nat} (h : ∀ b ∈ bs, b < 256) : zbs (strOf bs) = bs := by
  unfold zbs strOf
  simp only [List.map_map]
  conv => rhs; rw [← List.map_id bs]
  exact List.map_congr_left fun b hb => UInt8.toNat_ofNat_of_lt (h b hb)
theorem lookT_one {x : Pt} {q : Int} : lookT x q = 1 ↔ 1 ≤ q ∧ x.s < q := by
  unfold lookT
  by_cases h1 : q < 1 ∨ q < x.s
  · rw [if_pos h1]
    constructor
    · intro h; omega
    · intro h; omega
  · rw [if_neg h1]
    by_cases h2 : q = x.s
    · rw [if_pos h2]
      constructor
      · intro h; omega
      · intro h; omega
    · rw [if_neg h2]
      constructor
      · intro _; omega
      · intro _; rfl

set_option maxRecDepth 100000 in
set_option maxHeartbeats 4000000 in
theorem reLook_w (v : Value) (m : List Pt) (c q : Int) (w : World) (h : EntsAt w v m) (h1 : OneT m) (hl : m.length ≤ 1000000) (hb : ∀ x ∈ m, x.a.size ≤ 1048576) :
    Calls Try.prog 33 #[v, .int .i64 c, .int .i64 q] w fun e w' => ∃ v', e = .returned (.tuple #[v', .int .i64 (lookT (ofT m c) q)]) ∧ (∃ g, IsB w' g v' (sayT (ofT m c) q)) ∧ Moves [] w w' := by
  obtain ⟨ad, n, cap, rfl, hn, hcap⟩ := h.open
  have HH : Hid (EntsAt w (.slice ad n cap) m) := h
  have nilB : ∀ w' : World, IsB w' 0 (.slice none 0 0) [] := fun w' => ⟨_, _, _, rfl, rfl, Nat.le_refl _, fun _ => rfl, .inl rfl⟩
  have hln : n ≤ 1000000 := by have := hn.out; omega
  clear h
  by_cases hq : q < 1
  · have e1 : lookT (ofT m c) q = 3 := by unfold lookT; rw [if_pos (.inl hq)]
    have e2 : sayT (ofT m c) q = [] := by unfold sayT; rw [e1]; rfl
    rw [e1, e2]
    clear e1 e2
    go_enter Try.func33, Try.ntmps33
    go_wp2_with fail
    go_ret2
    exact ⟨_, rfl, ⟨0, nilB _⟩, Moves.refl _ _⟩
  · go_enter Try.func33, Try.ntmps33
    go_wp2_with fail
    go_loop [8] (fun iv => ∃ k : Nat, k ≤ n ∧ iv = .int .i64 (k : Int) ∧ ∀ j x, m[j]? = some x → j < k → x.c = c → x.s < q) (fun iv => (n - intOf iv).toNat)
    case atStart => exact ⟨0, Nat.zero_le _, rfl, fun j x _ hj => absurd hj (by omega)⟩
    case round =>
      obtain ⟨k, hk, rfl, hseen⟩ := hrel
      have HS : Hid (∀ j x, m[j]? = some x → j < k → x.c = c → x.s < q) := hseen
      clear hseen
      by_cases hkn : k < n
      · have hkn' : (k : Int) < (n : Int) := by omega
        obtain ⟨x, hx⟩ : ∃ x, m[k]? = some x := ⟨_, List.getElem?_eq_getElem (by have := hn.out; omega)⟩
        obtain ⟨g, off, a2, n2, c2, rfl, y0, y1, y2, hE⟩ := HH.out.at hx
        have HX : Hid (m[k]? = some x) := hx
        have HE : Hid (EntC w [.int .i64 x.c, .int .i64 x.s, .slice a2 n2 c2] x) := hE
        clear hx hE
        by_cases hc : x.c = c
        · have hof : ofT m c = x := by rw [← hc]; exact ofT_mem h1 (List.mem_of_getElem? HX.out)
          have HOF : Hid (ofT m c = x) := hof
          have HC : Hid (x.c = c) := hc
          rw [hc] at y0
          clear hc hof
          by_cases hs : x.s = q
          · have e1 : lookT (ofT m c) q = 2 := by rw [HOF.out]; unfold lookT; rw [if_neg (by omega), if_pos hs.symm]
            have e2 : sayT (ofT m c) q = zbs x.a := by unfold sayT; rw [e1, HOF.out]; rfl
            have E1 : Hid (lookT (ofT m c) q = 2) := e1
            have E2 : Hid (sayT (ofT m c) q = zbs x.a) := e2
            rw [hs] at y1
            clear e1 e2 nilB hs
            obtain ⟨g2, hB2⟩ := HE.out.isB
            have hsz : x.a.size ≤ 1048576 := hb x (List.mem_of_getElem? HX.out)
            have hlz : ([] : List Nat).length + (zbs x.a).length ≤ 1099511627776 := by rw [zbs_length, List.length_nil]; omega
            have ma : Moves [] w (w.alloc (.cells #[] 5)) := (Moves.refl [] w).alloc _
            have hB2' := hB2.moves ma (by simp)
            have y2' := ma.cell y2
            go_wp2_with (at_builtin; refine append_law (.tmp 32) (.tmp 37) rfl _ _ [] (zbs x.a) g2 rfl rfl rfl (own_empty w) hB2' hlz ?_; intro v3 w3 ho3 m3 hat3; rw [List.nil_append] at ho3; have hA3 := appended ma (fresh_empty w) m3 hat3)
            go_ret2
            exact ⟨v3, by rw [E1.out]; rfl, ⟨_, by rw [E2.out]; exact ho3.isB⟩, hA3.1⟩
          · by_cases hs2 : q < x.s
            · have e1 : lookT (ofT m c) q = 3 := by rw [HOF.out]; unfold lookT; rw [if_pos (.inr hs2)]
              have e2 : sayT (ofT m c) q = [] := by unfold sayT; rw [e1]; rfl
              have E1 : Hid (lookT (ofT m c) q = 3) := e1
              have E2 : Hid (sayT (ofT m c) q = []) := e2
              clear e1 e2
              go_wp2_with fail
              go_ret2
              exact ⟨_, by rw [E1.out]; rfl, ⟨0, by rw [E2.out]; exact nilB _⟩, Moves.refl _ _⟩
            · go_wp2_with fail
              go_round
              case rel =>
                refine ⟨k + 1, by omega, by go_num, fun j y hy hj hyc => ?_⟩
                by_cases e : j = k
                · subst e; rw [HX.out] at hy; simp at hy; subst hy; omega
                · exact HS.out j y hy (by omega) hyc
              case measure => simp [intOf]; omega
        · go_wp2_with fail
          go_round
          case rel =>
            refine ⟨k + 1, by omega, by go_num, fun j y hy hj hyc => ?_⟩
            by_cases e : j = k
            · subst e; rw [HX.out] at hy; simp at hy; subst hy; exact absurd hyc hc
            · exact HS.out j y hy (by omega) hyc
          case measure => simp [intOf]; omega
      · have hkn' : ¬ (k : Int) < (n : Int) := by omega
        have e1 : lookT (ofT m c) q = 1 := by
          rw [lookT_one]
          refine ⟨by omega, ?_⟩
          rcases ofT_cases m c with ⟨k1, k2⟩ | ⟨k1, _⟩
          · obtain ⟨j, hj, e⟩ := List.getElem_of_mem k1
            refine HS.out j _ ?_ (by have := hn.out; omega) k2
            rw [← e]
            exact List.getElem?_eq_getElem hj
          · rw [k1]; show (0 : Int) < q; omega
        have e2 : sayT (ofT m c) q = [] := by unfold sayT; rw [e1]; rfl
        have E1 : Hid (lookT (ofT m c) q = 1) := e1
        have E2 : Hid (sayT (ofT m c) q = []) := e2
        clear e1 e2
        go_wp2_with fail
        go_ret2
        exact ⟨_, by rw [E1.out]; rfl, ⟨0, by rw [E2.out]; exact nilB _⟩, Moves.refl _ _⟩

/-- The entries but those of one client. -/
theorem filter_take {m : List Pt} {c : Int} {k : Nat} {x : Pt} (h : m[k]? = some x) : (m.take (k + 1)).filter (fun y => decide (y.c ≠ c)) = (m.take k).filter (fun y => decide (y.c ≠ c)) ++ (if x.c = c then [] else [x]) := by
  rw [List.take_add_one, h, List.filter_append]
  by_cases e : x.c = c
  · simp [e]
  · simp [e]

set_option maxRecDepth 100000 in
set_option maxHeartbeats 8000000 in
theorem reKeep_w (v : Value) (m : List Pt) (c q : Int) (av : Value) (g : Nat) (bs : List Nat) (w : World) (h : EntsAt w v m) (h1 : OneT m) (hl : m.length ≤ 100000) (hb : ∀ x ∈ m, x.a.size ≤ 1048576) (ha : IsB w g av bs) (ho : ∀ b ∈ bs, b < 256) :
    Calls Try.prog 10 #[v, .int .i64 c, .int .i64 q, av] w fun e w' => ∃ v', e = .returned (.tuple #[v', .bool (mayK c q bs.length && decide ((ofT m c).s < q))]) ∧ EntsAt w' v' (if mayK c q bs.length then keepE m ⟨c, q, strOf bs⟩ else m) ∧ Moves [] w w' := by
  have hL := reLook_w v m c q w h h1 (by omega) hb
  obtain ⟨ad, n, cap, rfl, hn, hcap⟩ := h.open
  have HH : Hid (EntsAt w (.slice ad n cap) m) := h
  have ha' := ha
  obtain ⟨a4, n4, c4, rfl, hn4, _⟩ := ha'
  have HB : Hid (IsB w g (.slice a4 n4 c4) bs) := ha
  have hln : n ≤ 100000 := by have := hn.out; omega
  clear h ha
  cases hok : (mayK c q bs.length && decide ((ofT m c).s < q)) with
  | false =>
    have e0 : (if mayK c q bs.length then keepE m ⟨c, q, strOf bs⟩ else m) = m := by
      cases hm : mayK c q bs.length with
      | false => simp
      | true =>
        rw [hm, Bool.true_and] at hok
        unfold keepE
        dsimp only
        rw [if_neg (of_decide_eq_false hok)]
        simp
    rw [e0]
    by_cases hc0 : c < 0
    · go_enter Try.func10, Try.ntmps10
      go_wp2_with (go_at_call 33; refine hL.mono ?_; rintro _ w2 ⟨v2, rfl, -, m2⟩)
      go_ret2
      exact ⟨_, rfl, HH.out.moves m2, m2⟩
    · by_cases hc1 : 255 < c
      · go_enter Try.func10, Try.ntmps10
        go_wp2_with (go_at_call 33; refine hL.mono ?_; rintro _ w2 ⟨v2, rfl, -, m2⟩)
        go_ret2
        exact ⟨_, rfl, HH.out.moves m2, m2⟩
      · by_cases hq1 : 1073741824 < q
        · go_enter Try.func10, Try.ntmps10
          go_wp2_with (go_at_call 33; refine hL.mono ?_; rintro _ w2 ⟨v2, rfl, -, m2⟩)
          go_ret2
          exact ⟨_, rfl, HH.out.moves m2, m2⟩
        · by_cases hn1 : 1048576 < n4
          · have hn1' : (1048576 : Int) < (n4 : Int) := by omega
            go_enter Try.func10, Try.ntmps10
            go_wp2_with (go_at_call 33; refine hL.mono ?_; rintro _ w2 ⟨v2, rfl, -, m2⟩)
            go_ret2
            exact ⟨_, rfl, HH.out.moves m2, m2⟩
          · have hn1' : ¬ (1048576 : Int) < (n4 : Int) := by omega
            have hlk : ¬ lookT (ofT m c) q = 1 := by
              intro e
              rw [lookT_one] at e
              have : mayK c q bs.length = true := mayK_iff.2 ⟨by omega, by omega, e.1, by omega, by omega⟩
              rw [this, decide_eq_true e.2] at hok
              simp at hok
            obtain ⟨lk, hlk'⟩ : ∃ lk, lookT (ofT m c) q = lk := ⟨_, rfl⟩
            rw [hlk'] at hlk hL
            have hlk2 : (lk == 1) = false := by simpa using hlk
            have hlk3 : (lk != 1) = true := by simpa using hlk
            clear hlk'
            go_enter Try.func10, Try.ntmps10
            go_wp2_with (go_at_call 33; refine hL.mono ?_; rintro _ w2 ⟨v2, rfl, -, m2⟩)
            go_ret2
            exact ⟨_, rfl, HH.out.moves m2, m2⟩
  | true =>
    obtain ⟨hmay, hlt⟩ : mayK c q bs.length = true ∧ (ofT m c).s < q := by
      rw [Bool.and_eq_true] at hok
      exact ⟨hok.1, of_decide_eq_true hok.2⟩
    obtain ⟨k1, k2, k3, k4, k5⟩ := mayK_iff.1 hmay
    have HK : Hid (keepE m ⟨c, q, strOf bs⟩ = m.filter (fun y => decide (y.c ≠ c)) ++ [⟨c, q, strOf bs⟩]) := by
      unfold keepE Hid
      dsimp only
      rw [if_pos hlt]
    have e0 : (if mayK c q bs.length then keepE m ⟨c, q, strOf bs⟩ else m) = keepE m ⟨c, q, strOf bs⟩ := by rw [hmay, if_pos rfl]
    have hl1 : lookT (ofT m c) q = 1 := lookT_one.2 ⟨k3, hlt⟩
    rw [e0]
    rw [hl1] at hL
    have hc0 : ¬ c < 0 := by omega
    have hc1 : ¬ 255 < c := by omega
    have hq1 : ¬ 1073741824 < q := by omega
    have hn1' : ¬ (1048576 : Int) < (n4 : Int) := by omega
    have HL5 : Hid (bs.length ≤ 1048576) := k5
    have HN4 : Hid (bs.length = n4) := hn4
    clear e0 hl1 hlt hmay hok k1 k2 k3 k4 k5 hn4
    go_enter Try.func10, Try.ntmps10
    go_wp2_with (go_at_call 33; refine hL.mono ?_; rintro _ w2 ⟨v2, rfl, -, m2⟩)
    clear hL
    go_loopw [12, 13] (fun ov iv wr => ∃ k : Nat, k ≤ n ∧ iv = .int .i64 (k : Int) ∧ GrowE w2 wr ov ((m.take k).filter (fun y => decide (y.c ≠ c))) ∧ Moves [] w2 wr) (fun _ iv _ => (n - intOf iv).toNat)
    case atStart => exact ⟨0, Nat.zero_le _, rfl, by simpa using GrowE.nil w2 w2, Moves.refl _ _⟩
    case round =>
      obtain ⟨k, hk, rfl, hG, mr⟩ := hrel
      obtain ⟨ad5, n5, cap5, rfl, hn5, hc5⟩ := hG.open
      have HG : Hid (GrowE w2 wr (.slice ad5 n5 cap5) ((m.take k).filter (fun y => decide (y.c ≠ c)))) := hG
      have hfl : ((m.take k).filter (fun y => decide (y.c ≠ c))).length ≤ n := by
        have h1 := List.length_filter_le (fun y : Pt => decide (y.c ≠ c)) (m.take k)
        have h2 := List.length_take_le k m
        omega
      have HF : Hid (((m.take k).filter (fun y => decide (y.c ≠ c))).length ≤ n) := hfl
      clear hG hfl
      by_cases hkn : k < n
      · have hkn' : (k : Int) < (n : Int) := by omega
        obtain ⟨x, hx⟩ : ∃ x, m[k]? = some x := ⟨_, List.getElem?_eq_getElem (by have := hn.out; omega)⟩
        have hE0 := (HH.out.moves (m2.then mr)).at hx
        obtain ⟨g3, off3, a3, n3, c3, rfl, y0, y1, y2, hE⟩ := hE0
        have HFT := filter_take (c := c) hx
        have HFT' : Hid ((m.take (k + 1)).filter (fun y => decide (y.c ≠ c)) = (m.take k).filter (fun y => decide (y.c ≠ c)) ++ (if x.c = c then [] else [x])) := HFT
        have HE : Hid (EntC wr [.int .i64 x.c, .int .i64 x.s, .slice a3 n3 c3] x) := hE
        clear hx hE HFT
        by_cases hxc : x.c = c
        · rw [hxc] at y0
          have HXC : Hid (x.c = c) := hxc
          clear hxc
          go_wp2_with fail
          go_roundw
          case rel => exact ⟨k + 1, by omega, by go_num, by rw [HFT'.out, if_pos HXC.out, List.append_nil]; exact HG.out, mr⟩
          case measure => simp [intOf]; omega
        · have hy := ents_new wr _ _ _ x HE.out
          have ma : Moves [] w2 (wr.alloc (.cells #[.int .i64 x.c, .int .i64 x.s, .slice a3 n3 c3] 50)) := mr.alloc _
          have hbd : ((m.take k).filter (fun y => decide (y.c ≠ c))).length + [x].length ≤ 1048576 := by have := HF.out; simp only [List.length_singleton]; omega
          have HG2 : Hid (GrowE w2 (wr.alloc (.cells #[.int .i64 x.c, .int .i64 x.s, .slice a3 n3 c3] 50)) (.slice ad5 n5 cap5) ((m.take k).filter (fun y => decide (y.c ≠ c)))) := HG.out.moves0 ((Moves.refl [] wr).alloc _)
          go_wp2_with (at_builtin; refine growE_append (.tmp 54) (.tmp 59) rfl (.slice ad5 n5 cap5) _ _ [x] rfl rfl (by rfl) HG2.out hy ma hbd ?_; intro v8 w8 hG8 mm8 m8 s8 l8; have HG8 : Hid (GrowE w2 w8 v8 _) := hG8; clear hG8)
          go_roundw
          case rel => exact ⟨k + 1, by omega, by go_num, by rw [HFT'.out, if_neg hxc]; exact HG8.out, mm8⟩
          case measure => simp [intOf]; omega
      · have hkn' : ¬ (k : Int) < (n : Int) := by omega
        have HT : Hid (m.take k = m) := List.take_of_length_le (by have := hn.out; omega)
        have HZ : Hid (zbs (strOf bs) = bs) := zbs_strOf ho
        have ma : Moves [] wr (wr.alloc (.cells #[] 5)) := (Moves.refl [] wr).alloc _
        have hB2' := HB.out.moves ((m2.then mr).then ma) (by simp)
        have hlz : ([] : List Nat).length + bs.length ≤ 1099511627776 := by have := HL5.out; rw [List.length_nil]; omega
        have hbd : ((m.take k).filter (fun y => decide (y.c ≠ c))).length + [(⟨c, q, strOf bs⟩ : Pt)].length ≤ 1048576 := by have := HF.out; simp only [List.length_singleton]; omega
        go_wp2_with (first | (at_builtin; refine append_law (.tmp 64) (.tmp 65) rfl _ _ [] bs g rfl rfl rfl (own_empty wr) hB2' hlz ?_; intro v3 w3 ho3 m3 hat3; rw [List.nil_append] at ho3; have hA3 := appended ma (fresh_empty wr) m3 hat3; obtain ⟨g6, hB6, hU6⟩ := ho3.u8; obtain ⟨ad6, n6, cap6, rfl, hn6⟩ : ∃ ad n cap, v3 = Value.slice ad n cap ∧ True := (by obtain ⟨ad, n, cap, e, _⟩ := hB6; exact ⟨ad, n, cap, e, trivial⟩); have hEn : EntC w3 [.int .i64 c, .int .i64 q, .slice ad6 n6 cap6] ⟨c, q, strOf bs⟩ := ⟨ad6, n6, cap6, g6, rfl, (by rw [HZ.out]; exact hB6), (by rw [HZ.out]; exact hU6)⟩; have HEN : Hid (EntC w3 [.int .i64 c, .int .i64 q, .slice ad6 n6 cap6] ⟨c, q, strOf bs⟩) := hEn; have hyE := ents_new w3 _ _ _ _ hEn; have maE : Moves [] w2 (w3.alloc (.cells #[.int .i64 c, .int .i64 q, .slice ad6 n6 cap6] 50)) := (mr.then hA3.1).alloc _; have HGE : Hid (GrowE w2 (w3.alloc (.cells #[.int .i64 c, .int .i64 q, .slice ad6 n6 cap6] 50)) (.slice ad5 n5 cap5) ((m.take k).filter (fun y => decide (y.c ≠ c)))) := HG.out.moves0 (hA3.1.alloc _); clear hEn hB6 hU6 ho3 hn6) | (at_builtin; refine growE_append (.tmp 61) (.tmp 68) rfl (.slice ad5 n5 cap5) _ _ [⟨c, q, strOf bs⟩] rfl rfl (by rfl) HGE.out hyE maE hbd ?_; intro v8 w8 hG8 mm8 m8 s8 l8; have HG8 : Hid (GrowE w2 w8 v8 _) := hG8; clear hG8))
        go_ret2
        exact ⟨_, rfl, by have e := HG8.out.at; rw [HT.out, ← HK.out] at e; exact e, m2.then mm8⟩
end Go.Proofs.Ytoijkdknjbgebaa
