/-
  A disk: Bytes, Replace, Copy, All; lists of rows of bytes; keep's Lists.
-/
import Derived.Test.YtedehhnhmkeglaaCDk0
namespace Go.Proofs.Ytedehhnhmkeglaa
open Go.RowKit

/-- How many bytes these texts have together. -/
def zsum (ss : List ByteArray) : Nat := (ss.map ByteArray.size).sum
theorem zsum_snoc {ss : List ByteArray} {k : Nat} {s : ByteArray} (h : ss[k]? = some s) : zsum (ss.take (k + 1)) = zsum (ss.take k) + s.size := by
  unfold zsum
  obtain ⟨hk, rfl⟩ := List.getElem?_eq_some_iff.1 h
  rw [List.take_succ_eq_append_getElem hk]
  simp only [List.map_append, List.sum_append, List.map_cons, List.map_nil, List.sum_cons, List.sum_nil, Nat.add_zero]
theorem zsum_le {ss : List ByteArray} (h : ∀ s ∈ ss, s.size ≤ 1000) : ∀ k, zsum (ss.take k) ≤ k * 1000 := by
  intro k
  induction k with
  | zero => simp [zsum]
  | succ k ih =>
    by_cases hk : k < ss.length
    · have := zsum_snoc (List.getElem?_eq_getElem hk)
      have := h _ (List.getElem_mem hk)
      omega
    · have e : ss.take (k + 1) = ss.take k := by rw [List.take_of_length_le (by omega), List.take_of_length_le (by omega)]
      rw [e]
      exact Nat.le_trans ih (Nat.mul_le_mul_right _ (by omega))

set_option maxRecDepth 100000 in
set_option maxHeartbeats 4000000 in
theorem dkBytes_w (w : World) (p : Nat) (a : Option Nat) (ss : List ByteArray) (h : DkIs w p a ss) (hl : ss.length ≤ 1000) (hb : ∀ s ∈ ss, s.size ≤ 1000) : Calls Try.prog 15 #[.pointer (some ⟨p, 0, none⟩)] w fun e w' => e = .returned (.int .i64 (zsum ss : Int)) ∧ w = w' := by
  obtain ⟨v, hp, rfl, hO⟩ := h
  obtain ⟨ad, cap, rfl, hc, hS⟩ := hO.at
  obtain ⟨x1, x2⟩ := one_cell hp
  have HS : Hid (StrsAt w ad ss) := hS
  have HB : Hid (∀ k, zsum (ss.take k) ≤ k * 1000) := zsum_le hb
  have HB1 : Hid (∀ s ∈ ss, s.size ≤ 1000) := hb
  have HF : Hid (zsum (ss.take ss.length) = zsum ss) := by unfold Hid; rw [List.take_length]
  clear hO hS hb
  obtain ⟨n, Hn⟩ : ∃ n, Hid (ss.length = n) := ⟨_, rfl⟩
  rw [Hn.out] at hc x1 hl HF
  clear hp
  go_enter Try.func15, Try.ntmps15
  go_wp2_with fail
  go_loop [3, 13] (fun m i => ∃ k : Nat, k ≤ n ∧ i = .int .i64 k ∧ m = .int .i64 ((zsum (ss.take k) : Nat) : Int)) (fun _ i => n - (intOf i).toNat)
  case atStart => exact ⟨0, Nat.zero_le _, rfl, rfl⟩
  case round =>
    obtain ⟨k, hk, rfl, rfl⟩ := hrel
    by_cases hlt : k < n
    · obtain ⟨s, hs⟩ : ∃ s, ss[k]? = some s := ⟨_, List.getElem?_eq_getElem (by have := Hn.out; omega)⟩
      obtain ⟨g, off, rfl, hcell⟩ := HS.out k s hs
      have hz := zsum_snoc hs
      have hz1 := HB.out k
      have hz2 := HB1.out s (List.mem_of_getElem? hs)
      have HZ : Hid (zsum (ss.take (k + 1)) = zsum (ss.take k) + s.size) := hz
      clear hz hs
      generalize zsum (ss.take k) = m at *
      have hm : m ≤ 1000000 := by omega
      clear hz1
      go_wp2_with fail
      go_round
      case rel => exact ⟨k + 1, by omega, by go_num, by rw [HZ.out]; go_num⟩
      case measure => simp [intOf]; omega
    · obtain rfl : k = n := by omega
      go_wp2_with fail
      go_ret
      refine ⟨?_, rfl⟩
      show Ending.returned (.int .i64 ((zsum (ss.take k) : Nat) : Int)) = _
      rw [HF.out]

/-- A list of the call's own whose elements are these values. -/
def OwnBB (w : World) (v : Value) (vs : List Value) : Prop := w.ownsRow 0 30 1 v vs.length vs
/-- These values lie there, one behind the other. -/
def ValsAt (w : World) (ad : Option Addr) (vs : List Value) : Prop := ∀ (k : Nat) x, vs[k]? = some x → ∃ g off, ad = some ⟨g, off, none⟩ ∧ w.cell? ⟨g, off + k, none⟩ = some x
theorem ValsAt.moves {w w' : World} {ad : Option Addr} {vs : List Value} (h : ValsAt w ad vs) (m : Moves [] w w') : ValsAt w' ad vs := by
  intro k x hx
  obtain ⟨g, off, h1, h2⟩ := h k x hx
  exact ⟨g, off, h1, m.cell h2⟩
theorem ValsAt.nil (w : World) (ad : Option Addr) : ValsAt w ad [] := fun k x hx => by simp at hx
theorem OwnBB.nil (w : World) : OwnBB w (.slice none 0 0) [] := by unfold OwnBB; exact World.ownsRow_nil _ _ _ _
theorem OwnBB.empty {w : World} {g : Nat} (h : w.heap[g]? = some (.cells #[] 30 (0, 0))) : OwnBB w (.slice (some ⟨g, 0, none⟩) 0 0) [] := by
  unfold OwnBB
  refine ⟨by simp, .inr ⟨g, 0, #[], rfl, Nat.zero_le _, h, Nat.le_refl _, by simp [maxLen], by simp, by simp⟩⟩
theorem OwnBB.moves {w w' : World} {v : Value} {vs : List Value} {S : List Nat} (h : OwnBB w v vs) (m : Moves S w w') (hg : ∀ k, v.ownBlock = some k → k ∉ S) : OwnBB w' v vs := by
  refine ⟨h.1, ?_⟩
  rcases h.2 with hn | ⟨g, cap, cur, rfl, hb, hgg, rest⟩
  · exact .inl hn
  · exact .inr ⟨g, cap, cur, rfl, hb, m.at hgg (hg g rfl), rest⟩
theorem OwnBB.at {w : World} {v : Value} {vs : List Value} (h : OwnBB w v vs) : ∃ ad cap, v = .slice ad vs.length cap ∧ vs.length ≤ cap ∧ (ad = none → cap = 0) ∧ ValsAt w ad vs ∧ ∀ g off, ad = some ⟨g, off, none⟩ → v.ownBlock = some g := by
  rcases h.2 with ⟨rfl, h0⟩ | ⟨g, cap, cur, rfl, hb, hgg, h1, h2, h3, h4⟩
  · have : vs = [] := List.eq_nil_of_length_eq_zero h0
    subst this
    exact ⟨none, 0, rfl, Nat.le_refl _, fun _ => rfl, fun k s hs => by simp at hs, fun g off h => by simp at h⟩
  · refine ⟨_, cap, rfl, h1, fun h => by simp at h, fun k s hs => ?_, fun g' off' h => ?_⟩
    · have hlt := (List.getElem?_eq_some_iff.1 hs).1
      have e1 : vs[k]? = some s := hs
      rw [← h4, List.getElem?_take, if_pos (by omega)] at e1
      exact ⟨g, 0, rfl, by simp only [World.cell?, hgg, Nat.zero_add]; simpa using e1⟩
    · simp at h
      simp [Value.ownBlock, h.1]
theorem OwnBB.block {w : World} {v : Value} {vs : List Value} (h : OwnBB w v vs) {k : Nat} (hk : v.ownBlock = some k) : ∃ cur, w.heap[k]? = some (.cells cur 30 (0, 0)) := by
  rcases h.2 with ⟨rfl, h0⟩ | ⟨g, cap, cur, rfl, hb, hgg, _⟩
  · simp [Value.ownBlock] at hk
  · simp [Value.ownBlock] at hk
    subst hk
    exact ⟨cur, hgg⟩
theorem Try.info30 : (Try.prog.info? 30).map (fun i => (i.zero, i.size, i.bytes)) = some (some (.slice none 0 0), 1, 24) := by kernel_rfl

/-- append to a list of the call's own, of rows of bytes. -/
theorem bbs_append {ops : Array Oper} {rest : List Oper} {o : Oper} {a : Act} {Q : Exit → Act → World → Prop} {w : World} (s x : Operand)
    (ho : o.op = .call { callee := .builtin .append, args := #[s, x], argTypes := #[26, 26] })
    (v : Value) (ad : Option Addr) (n cap : Nat) (xs ys : List Value) (hs : a.eval s = v) (hx : a.eval x = .slice ad n cap) (hw : Region.wanted o (yielded ops a.tmps) = true)
    (hv : OwnBB w v xs) (hc : ValsAt w ad ys) (hn : n = ys.length) (hnil : ad = none → cap = 0) (h1 : ∀ u ∈ ys, u.oneCell' = true) (hb : xs.length + ys.length ≤ 1000000)
    (h : ∀ v' w', OwnBB w' v' (xs ++ ys) → Moves v.ownBlock.toList w w' → Lain w v v' → wpList Try.prog ops Q rest (a.put o.dst v') w') :
    wpList Try.prog ops Q (o :: rest) a w := by
  refine wpList_wanted hw ?_
  obtain ⟨i0, hi, hz0, hz1, hz2⟩ := info_parts Try.info30
  have fin : ∀ v' w', w'.ownsRow 0 30 1 v' (xs.length + ys.length) (xs ++ ys) → w.grownBy w' v.ownBlock → Lain w v v' → wpList Try.prog ops Q rest (a.put o.dst v') w' := by
    intro v' w' h1 h2 h3
    refine h v' w' ?_ ?_ h3
    · unfold OwnBB; rw [List.length_append]; exact h1
    · exact (Moves.refl _ _).grown h2 (fun k hk => .inl (by rw [hk]; simp))
  cases ad with
  | none =>
    have hys : ys = [] := by
      cases ys with
      | nil => rfl
      | cons y t => obtain ⟨_, _, h1, _⟩ := hc 0 y rfl; simp at h1
    subst hys
    obtain rfl : cap = 0 := hnil rfl
    simp at hn
    subst hn
    refine wpList_append_own_none rfl s x 26 ho 0 30 i0 1 Try.underlying26 hi v xs.length xs hs hv hx ?_
    exact fin v w (by simpa [OwnBB] using hv) (World.grownBy.refl _ _) (.inl rfl)
  | some y =>
    refine wpList_append_own_at _ rfl s x 26 ho 0 30 i0 (.slice none 0 0) 1 24 Try.underlying26 hi hz0 hz1 hz2 rfl (by decide) v xs.length xs hs hv y ys.length cap ys (by rw [hx, hn]) (by simp) ?_ h1 (by unfold maxLen; omega) (by omega) (by simp) ?_
    · intro j u hj
      obtain ⟨g, off, e1, e2⟩ := hc j u hj
      simp only [Option.some.injEq] at e1
      subst e1
      have e : (⟨g, off, none⟩ : Addr).add j = ⟨g, off + j, none⟩ := by unfold Addr.add; split <;> simp_all
      rw [e]; exact e2
    · intro v' w' h1 h2 _ h4
      exact fin v' w' h1 h2 h4
theorem vals_new (w : World) (x : Value) : ValsAt (w.alloc (.cells #[x] 30)) (some ⟨w.heap.size, 0, none⟩) [x] := by
  intro k s hs
  match k, hs with
  | 0, hs =>
    simp at hs
    subst hs
    exact ⟨_, 0, rfl, by simp only [World.cell?]; rw [heap_alloc_new]; rfl⟩

/-- A row of bytes that may be written to. -/
def BW (w : World) (x : Value) (bs : List Nat) : Prop := ∃ g cap arr fz, x = .slice (some ⟨g, 0, none⟩) bs.length cap ∧ bs.length ≤ cap ∧ w.heap[g]? = some (.cells arr 5 fz) ∧ bs.length ≤ fz.1 ∧ ∀ (j b : Nat), bs[j]? = some b → b < 256 ∧ arr[j]? = some (Value.int .u8 ((b : Nat) : Int))
theorem BW.moves {w w' : World} {x : Value} {bs : List Nat} {S : List Nat} (h : BW w x bs) (m : Moves S w w') (hS : ∀ k c t fz, w.heap[k]? = some (.cells c t fz) → k ∈ S → t ≠ 5) : BW w' x bs := by
  obtain ⟨g, cap, arr, fz, h1, h2, h3, h4, h5⟩ := h
  exact ⟨g, cap, arr, fz, h1, h2, m.at h3 (fun hk => hS _ _ _ _ h3 hk rfl), h4, h5⟩
theorem BW.isB {w : World} {x : Value} {bs : List Nat} (h : BW w x bs) : ∃ g, IsB w g x bs := by
  obtain ⟨g, cap, arr, fz, rfl, h2, h3, h4, h5⟩ := h
  refine ⟨g, _, _, _, rfl, rfl, h2, fun h => by simp at h, .inr ⟨0, rfl, fun j b hj => ?_⟩⟩
  have := (h5 j b hj).2
  simpa [World.cell?, h3] using this
/-- []byte(s), which may be written to. -/
theorem zbytes_bw (w : World) (s : ByteArray) : ∃ g cap w', (convert 9 30 (.string s)).run Try.prog w = .ok (.slice (some ⟨g, 0, none⟩) s.size cap) w' ∧ BW w' (.slice (some ⟨g, 0, none⟩) s.size cap) (zbs s) ∧ Moves [] w w' ∧ w.heap.size ≤ g := by
  refine ⟨_, _, _, Lib.run_convert_string_bytes w 9 30 5 s Try.underlying9 Try.underlying30 Try.underlying5, ?_, ?_, Nat.le_refl _⟩
  · have hge := grownCap_ge w s.size 0 5
    refine ⟨_, _, _, _, by rw [zbs_length], by rw [zbs_length]; exact hge, Lib.bytesWorld_at_new _ _ _, ?_, fun j b hj => ⟨zbs_oct s b (List.mem_of_getElem? hj), ?_⟩⟩
    · rw [zbs_length]
      simp [Lib.bytesCells]
    · have hlt : j < s.size := by
        have := (List.getElem?_eq_some_iff.1 hj).1
        rw [zbs_length] at this
        exact this
      have hc := Lib.bytesWorld_cell w 5 s j hlt
      simp only [World.cell?, Lib.bytesWorld_at_new] at hc
      simp only [zbs, List.getElem?_map, Option.map_eq_some_iff] at hj
      obtain ⟨u, hu, rfl⟩ := hj
      rw [List.getD_eq_getElem?_getD, hu] at hc
      exact hc
  · refine ⟨rfl, rfl, rfl, ?_, fun k hk _ => Lib.bytesWorld_at_old _ _ _ _ hk⟩
    rw [Lib.bytesWorld_size]
    omega

set_option maxRecDepth 100000 in
set_option maxHeartbeats 4000000 in
theorem dkAll_w (w : World) (p : Nat) (a : Option Nat) (ss : List ByteArray) (h : DkIs w p a ss) (hl : ss.length ≤ 1000) : Calls Try.prog 13 #[.pointer (some ⟨p, 0, none⟩)] w fun e w' => ∃ v vs, e = .returned v ∧ OwnBB w' v vs ∧ All2 (fun x bs => BW w' x bs ∧ Fresh w x) vs (ss.map zbs) ∧ Moves [] w w' ∧ Fresh w v := by
  obtain ⟨v, hp, rfl, hO⟩ := h
  obtain ⟨ad, cap, rfl, hc, hS⟩ := hO.at
  obtain ⟨x1, x2⟩ := one_cell hp
  have HS : Hid (StrsAt w ad ss) := hS
  have HF : Hid ((ss.map zbs).take ss.length = ss.map zbs) := by unfold Hid; rw [List.take_of_length_le (by simp)]
  clear hO hS
  obtain ⟨n, Hn⟩ : ∃ n, Hid (ss.length = n) := ⟨_, rfl⟩
  rw [Hn.out] at hc x1 hl HF
  clear hp
  go_enter Try.func13, Try.ntmps13
  go_wp2_with fail
  go_loopw [3, 13] (fun l i wr => ∃ k : Nat, k ≤ n ∧ i = .int .i64 k ∧ ∃ vs, OwnBB wr l vs ∧ All2 (fun x bs => BW wr x bs ∧ Fresh w x) vs ((ss.map zbs).take k) ∧ Moves [] w wr ∧ Fresh w l) (fun _ i _ => n - (intOf i).toNat)
  case atStart => exact ⟨0, Nat.zero_le _, rfl, [], OwnBB.nil _, trivial, Moves.refl _ _, Fresh.nil _⟩
  case round =>
    obtain ⟨k, hk, rfl, vs, hV, hA, mr, hf⟩ := hrel
    obtain ⟨ad3, cap3, rfl, hc3, hn3, hV3, hb3⟩ := hV.at
    have HV : Hid (OwnBB wr (.slice ad3 vs.length cap3) vs) := hV
    have HA : Hid (All2 (fun x bs => BW wr x bs ∧ Fresh w x) vs ((ss.map zbs).take k)) := hA
    have HL : Hid (vs.length = k) := by unfold Hid; rw [hA.length, List.length_take, List.length_map, Hn.out]; omega
    clear hV hA hV3 hb3
    obtain ⟨n3, Hn3⟩ : ∃ n3, Hid (vs.length = n3) := ⟨_, rfl⟩
    rw [Hn3.out] at HV hc3 hf ⊢
    obtain ⟨wo, hwo⟩ : ∃ wo, wo = wr := ⟨_, rfl⟩
    subst hwo
    by_cases hlt : k < n
    · obtain ⟨s, hs⟩ : ∃ s, ss[k]? = some s := ⟨_, List.getElem?_eq_getElem (by have := Hn.out; omega)⟩
      obtain ⟨g, off, rfl, hcell⟩ := HS.out k s hs
      have hcell := mr.cell hcell
      have hx1 := mr.cell x1
      obtain ⟨gx, cx, w3, hrun, hW3, m3, hgx⟩ := zbytes_bw wo s
      have hFx : Fresh w (.slice (some ⟨gx, 0, none⟩) s.size cx) := fun k hk => by
        simp [Value.ownBlock] at hk
        subst hk
        exact Nat.le_trans mr.size hgx
      have HT : Hid ((ss.map zbs).take (k + 1) = (ss.map zbs).take k ++ [zbs s]) := by
        unfold Hid
        have hk' : k < (ss.map zbs).length := by rw [List.length_map, Hn.out]; exact hlt
        rw [List.take_succ_eq_append_getElem hk']
        congr 2
        have := (List.getElem?_eq_some_iff.1 hs).2
        simp [this]
      have m4 : Moves [] wo (w3.alloc (.cells #[.slice (some ⟨gx, 0, none⟩) s.size cx] 30)) := m3.alloc _
      have m34 : Moves [] w3 (w3.alloc (.cells #[.slice (some ⟨gx, 0, none⟩) s.size cx] 30)) := (Moves.refl _ _).alloc _
      have hV4 : OwnBB (w3.alloc (.cells #[.slice (some ⟨gx, 0, none⟩) s.size cx] 30)) (.slice ad3 n3 cap3) vs := HV.out.moves m4 (by simp)
      clear hs
      go_wp2_with (at_builtin; refine bbs_append (.tmp 17) (.tmp 20) rfl _ (some ⟨w3.heap.size, 0, none⟩) 1 1 vs [.slice (some ⟨gx, 0, none⟩) s.size cx] rfl rfl rfl hV4 (vals_new w3 _) rfl (by simp) (by simp [Value.oneCell']) (by have := HL.out; simp; omega) ?_)
      intro v5 w5 hV5 m5 l5
      have m45 : Moves [] w w5 ∧ Fresh w v5 := appended (mr.then m4) hf m5 l5
      have hBl : ∀ k c t fz, (w3.alloc (.cells #[.slice (some ⟨gx, 0, none⟩) s.size cx] 30)).heap[k]? = some (.cells c t fz) → k ∈ (Value.slice ad3 n3 cap3).ownBlock.toList → t ≠ 5 := by
        intro k c t fz hkc hkm
        obtain ⟨cur, hcur⟩ := hV4.block (Option.mem_toList.1 hkm)
        rw [hkc] at hcur
        simp at hcur
        rw [hcur.2.1]
        decide
      have hA5 : Hid (All2 (fun x bs => BW w5 x bs ∧ Fresh w x) (vs ++ [.slice (some ⟨gx, 0, none⟩) s.size cx]) ((ss.map zbs).take (k + 1))) := by
        unfold Hid
        rw [HT.out]
        refine All2.append (HA.out.mono fun _ _ q => ⟨(q.1.moves m4 (by simp)).moves m5 hBl, q.2⟩) ⟨⟨(hW3.moves m34 (by simp)).moves m5 hBl, hFx⟩, trivial⟩
      have HV5 : Hid (OwnBB w5 v5 (vs ++ [.slice (some ⟨gx, 0, none⟩) s.size cx])) := hV5
      clear hV5 hBl hW3 hV4 m34 m4 m5 l5 hrun hcell hx1 hFx hgx
      go_wp2_with fail
      go_roundw
      case rel => exact ⟨k + 1, by omega, by go_num, _, HV5.out, hA5.out, m45.1, m45.2⟩
      case measure => simp [intOf]; omega
    · obtain rfl : k = n := by omega
      go_wp2_with fail
      go_ret
      exact ⟨_, vs, rfl, HV.out, by have := HA.out; rw [HF.out] at this; exact this, mr, hf⟩
end Go.Proofs.Ytedehhnhmkeglaa
