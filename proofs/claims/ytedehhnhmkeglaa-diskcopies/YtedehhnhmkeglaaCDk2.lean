/-
  A disk: Replace, Copy; keep's Lists, law14's same: the same records; known.
-/
import Derived.Test.YtedehhnhmkeglaaCDk1
namespace Go.Proofs.Ytedehhnhmkeglaa
open Go.RowKit

/-- These values are these rows of bytes. -/
def BsV (w : World) (vs : List Value) (bss : List (List Nat)) : Prop := All2 (fun x bs => (∃ g, IsB w g x bs) ∧ ∀ b ∈ bs, b < 256) vs bss
theorem BsV.moves {w w' : World} {vs : List Value} {bss : List (List Nat)} (h : BsV w vs bss) (m : Moves [] w w') : BsV w' vs bss := All2.mono (fun _ _ ⟨⟨g, q⟩, o⟩ => ⟨⟨g, q.moves m (by simp)⟩, o⟩) h
/-- A list of rows of bytes. -/
def LsB (w : World) (v : Value) (bss : List (List Nat)) : Prop := ∃ ad vs cap, v = .slice ad vs.length cap ∧ vs.length ≤ cap ∧ (ad = none → cap = 0) ∧ ValsAt w ad vs ∧ BsV w vs bss
theorem LsB.nil (w : World) : LsB w (.slice none 0 0) [] := ⟨none, [], 0, rfl, Nat.le_refl _, fun _ => rfl, ValsAt.nil _ _, trivial⟩
theorem LsB.moves {w w' : World} {v : Value} {bss : List (List Nat)} (h : LsB w v bss) (m : Moves [] w w') : LsB w' v bss := by
  obtain ⟨ad, vs, cap, h1, h2, h3, h4, h5⟩ := h
  exact ⟨ad, vs, cap, h1, h2, h3, h4.moves m, h5.moves m⟩
theorem LsB.ofOwn {w : World} {v : Value} {vs : List Value} {bss : List (List Nat)} (h : OwnBB w v vs) (hB : BsV w vs bss) : LsB w v bss := by
  obtain ⟨ad, cap, h1, h2, h3, h4, _⟩ := h.at
  exact ⟨ad, vs, cap, h1, h2, h3, h4, hB⟩

/-- A row of bytes lies in no block of other things. -/
theorem isB_apart {w : World} {g p : Nat} {x v : Value} {bs : List Nat} {t : TypeId} {fz : Nat × Nat} (h : IsB w g x bs) (hp : w.heap[p]? = some (.cells #[v] t fz)) (hv : ∀ n : Int, v ≠ .int .u8 n) : ∃ g', g' ≠ p ∧ IsB w g' x bs := by
  obtain ⟨ad, n, cap, h1, h2, h3, h4, h5⟩ := h
  rcases h5 with rfl | ⟨off, h5, h6⟩
  · exact ⟨p + 1, by omega, ad, n, cap, h1, h2, h3, h4, .inl rfl⟩
  · cases bs with
    | nil => exact ⟨p + 1, by omega, ad, n, cap, h1, h2, h3, h4, .inl rfl⟩
    | cons b bs =>
      refine ⟨g, ?_, ad, n, cap, h1, h2, h3, h4, .inr ⟨off, h5, h6⟩⟩
      rintro rfl
      have := h6 0 b rfl
      have h0 : w.cell? ⟨g, off + 0, none⟩ = (#[v])[off + 0]? := by simp [World.cell?, hp]
      rw [h0, Array.getElem?_eq_some_iff] at this
      obtain ⟨hlt, he⟩ := this
      have h0 : off = 0 := by simp at hlt; omega
      subst h0
      simp at he
      exact hv _ he

set_option maxRecDepth 100000 in
set_option maxHeartbeats 4000000 in
theorem dkReplace_w (w : World) (p : Nat) (a : Option Nat) (ss : List ByteArray) (mv : Value) (bss : List (List Nat)) (h : DkIs w p a ss) (hL : LsB w mv bss) (hg : ∀ ad n cap g off, mv = .slice ad n cap → ad = some ⟨g, off, none⟩ → g ≠ p) (hl : bss.length ≤ 1000) :
    Calls Try.prog 9 #[.pointer (some ⟨p, 0, none⟩), mv] w fun e w' => e = .returned (.tuple #[]) ∧ ∃ a', DkIs w' p a' (bss.map strOf) ∧ Moves [p] w w' ∧ ∀ k, a' = some k → w.heap.size ≤ k := by
  obtain ⟨ad, vs, cap, rfl, hc, hnil, hV, hB⟩ := hL
  obtain ⟨v, hp, rfl, hO⟩ := h
  have hsl : ∀ n : Int, v ≠ .int .u8 n := by
    obtain ⟨ad, cap, rfl, _⟩ := hO.at
    intro n h
    cases h
  obtain ⟨x1, x2⟩ := one_cell hp
  have HP : Hid (w.heap[p]? = some (.cells #[v] 39 (0, 0))) := hp
  have HSL : Hid (∀ n : Int, v ≠ .int .u8 n) := hsl
  have HV : Hid (ValsAt w ad vs) := hV
  have HB : Hid (BsV w vs bss) := hB
  have HG : Hid (∀ g off, ad = some ⟨g, off, none⟩ → g ≠ p) := fun g off e => hg ad _ _ g off rfl e
  have HL : Hid (vs.length = bss.length) := hB.length
  have HF : Hid ((bss.map strOf).take bss.length = bss.map strOf) := by unfold Hid; rw [List.take_of_length_le (by simp)]
  have hp1 := set_one hp (.slice none 0 0)
  have m1 := moves_set w p 0 (.slice none 0 0)
  obtain ⟨w1, hw1⟩ : ∃ w1, w.setCell ⟨p, 0, none⟩ (.slice none 0 0) = w1 := ⟨_, rfl⟩
  rw [hw1] at hp1 m1
  have hD1 : Hid (DkIs w1 p none []) := ⟨_, hp1, rfl, OwnZ.nil _⟩
  clear hO hp hp1 hB hV hg hsl
  obtain ⟨n, Hn⟩ : ∃ n, Hid (bss.length = n) := ⟨_, rfl⟩
  have hn : vs.length = n := by rw [HL.out, Hn.out]
  rw [hn] at hc ⊢
  rw [Hn.out] at hl HF
  clear hn
  have HW1 : Hid (w.setCell ⟨p, 0, none⟩ (.slice none 0 0) = w1) := hw1
  clear hw1
  go_enter Try.func9, Try.ntmps9
  go_wp2_with fail
  rw [HW1.out]
  go_loopw [13] (fun i wr => ∃ k : Nat, k ≤ n ∧ i = .int .i64 k ∧ ∃ a', DkIs wr p a' ((bss.map strOf).take k) ∧ Moves [p] w wr ∧ ∀ j, a' = some j → w.heap.size ≤ j) (fun i _ => n - (intOf i).toNat)
  case atStart => exact ⟨0, Nat.zero_le _, rfl, none, hD1.out, m1, fun j hj => by simp at hj⟩
  case round =>
    obtain ⟨k, hk, rfl, a', hD, mr, hf⟩ := hrel
    obtain ⟨wo, hwo⟩ : ∃ wo, wo = wr := ⟨_, rfl⟩
    subst hwo
    by_cases hlt : k < n
    · obtain ⟨bs, hbs⟩ : ∃ bs, bss[k]? = some bs := ⟨_, List.getElem?_eq_getElem (by have := Hn.out; omega)⟩
      obtain ⟨x, hx, ⟨gb, hxB⟩, ho⟩ := HB.out.get hbs
      obtain ⟨g, off, rfl, hcell⟩ := HV.out k x hx
      have hgp := HG.out g off rfl
      have hcell := mr.cellOf hcell (by simpa using hgp)
      obtain ⟨gb', hgb', hxB⟩ := isB_apart hxB HP.out HSL.out
      have hxB := hxB.moves mr (by simpa using hgb')
      obtain ⟨adx, nx, cx, rfl, -⟩ := id hxB
      have HT : Hid ((bss.map strOf).take (k + 1) = (bss.map strOf).take k ++ [strOf bs]) := by
        unfold Hid
        have hk' : k < (bss.map strOf).length := by rw [List.length_map, Hn.out]; exact hlt
        rw [List.take_succ_eq_append_getElem hk']
        congr 2
        have := (List.getElem?_eq_some_iff.1 hbs).2
        simp [this]
      have hA := dkAppend_w wo p a' _ _ gb' bs hD hxB ho (by rw [List.length_take]; omega)
      have HD : Hid (DkIs wo p a' ((bss.map strOf).take k)) := hD
      clear hD hxB hbs hx
      go_wp2_with (go_at_call 8; refine hA.mono ?_; rintro _ w2 ⟨rfl, a2, hTo⟩)
      go_roundw
      case rel =>
        refine ⟨k + 1, by omega, by go_num, a2, by rw [HT.out]; exact hTo.1, ?_, ?_⟩
        · exact mr.trans hTo.2.1 (fun y hy => by
            rcases List.mem_cons.1 hy with rfl | hy
            · exact .inl (by simp)
            · exact .inr (hf y (Option.mem_toList.1 hy)))
        · intro j hj
          rcases hTo.2.2 with e | ⟨q, e, hq⟩
          · rw [e] at hj; exact hf j hj
          · rw [e] at hj; simp at hj; subst hj; exact Nat.le_trans mr.size hq
      case measure => simp [intOf]; omega
    · obtain rfl : k = n := by omega
      go_wp2_with fail
      go_end0
      exact ⟨rfl, a', by have := hD; rw [HF.out] at this; exact this, mr, hf⟩

set_option maxRecDepth 100000 in
set_option maxHeartbeats 4000000 in
theorem dkClone_w (w : World) (v : Value) (ss : List ByteArray) (hO : OwnZ w v ss) (hl : ss.length ≤ 1000) :
    Calls Try.prog 17 #[v] w fun e w' => ∃ v', e = .returned v' ∧ OwnZ w' v' ss ∧ Moves [] w w' ∧ Fresh w v' := by
  obtain ⟨ad, cap, rfl, hc, hS⟩ := hO.at
  have HO : Hid (OwnZ w (.slice ad ss.length cap) ss) := hO
  have hnil : ad = none → cap = 0 ∧ ss = [] := by
    rintro rfl
    rcases hO.2 with ⟨h, h0⟩ | ⟨g, cap', cur, h, _⟩
    · simp at h
      exact ⟨h.2, List.eq_nil_of_length_eq_zero h0⟩
    · simp at h
  clear hO
  cases ad with
  | none =>
    obtain ⟨hc0, rfl⟩ := hnil rfl
    subst hc0
    clear hS hnil
    have hne : ∀ w1, (binOp .eql 37 (.slice none 0 0) (.slice none 0 0)).run Try.prog w1 = .ok (.bool true) w1 := by intro w1; kernel_rfl
    go_enter Try.func17, Try.ntmps17
    go_wp2_with fail
    go_ret
    exact ⟨_, rfl, OwnZ.nil _, Moves.refl _ _, Fresh.nil _⟩
  | some y =>
    clear hnil
    obtain ⟨n, Hn⟩ : ∃ n, Hid (ss.length = n) := ⟨_, rfl⟩
    rw [Hn.out] at hc hl HO ⊢
    have hne : ∀ w1, (binOp .eql 37 (.slice (some y) n cap) (.slice none 0 0)).run Try.prog w1 = .ok (.bool false) w1 := by intro w1; kernel_rfl
    have m1 : Moves [] w (w.alloc (.cells #[] 9)) := (Moves.refl _ _).alloc _
    have hE : OwnZ (w.alloc (.cells #[] 9)) (.slice (some ⟨w.heap.size, 0, none⟩) 0 0) [] := OwnZ.empty (heap_alloc_new _ _)
    have hf : Fresh w (.slice (some ⟨w.heap.size, 0, none⟩) 0 0) := fun k hk => by simp [Value.ownBlock] at hk; omega
    go_enter Try.func17, Try.ntmps17
    go_wp2_with (at_builtin; refine strs_append (.tmp 5) (.tmp 6) rfl _ (some y) n cap [] ss rfl rfl rfl hE (hS.moves m1) Hn.out.symm (by simp) (by have := Hn.out; simp; omega) ?_)
    intro v' w' h1 h2 h3
    obtain ⟨M, hf'⟩ := appended m1 hf h2 h3
    obtain ⟨ad', cap', rfl, -, -⟩ := id h1.at
    have H1 : Hid (OwnZ w' (.slice ad' ss.length cap') ss) := h1
    generalize ss.length = n' at *
    go_wp2_with fail
    go_ret
    exact ⟨_, rfl, H1.out, M, hf'⟩

set_option maxRecDepth 100000 in
set_option maxHeartbeats 4000000 in
theorem dkCopy_w (w : World) (p : Nat) (a : Option Nat) (ss : List ByteArray) (h : DkIs w p a ss) (hl : ss.length ≤ 1000) : Calls Try.prog 12 #[.pointer (some ⟨p, 0, none⟩)] w fun e w' => ∃ q a', e = .returned (.pointer (some ⟨q, 0, none⟩)) ∧ DkIs w' q a' ss ∧ Moves [] w w' ∧ ∀ k ∈ q :: a'.toList, w.heap.size ≤ k := by
  obtain ⟨v, hp, rfl, hO⟩ := h
  obtain ⟨x1, x2⟩ := one_cell hp
  have hC := dkClone_w w v ss hO hl
  obtain ⟨ad, cap, rfl, -, -⟩ := id hO.at
  clear hO hp
  generalize ss.length = n at *
  go_enter Try.func12, Try.ntmps12
  go_wp2_with fail
  refine hC.mono ?_
  rintro _ w2 ⟨v2, rfl, hO2, m2, hf2⟩
  obtain ⟨ad2, cap2, rfl, -, -⟩ := id hO2.at
  have HO2 : Hid (OwnZ w2 (.slice ad2 ss.length cap2) ss) := hO2
  clear hO2 hC
  generalize ss.length = n2 at *
  go_wp2_with fail
  go_ret
  have m3 : Moves [] w2 (w2.alloc (.cells #[.slice ad2 n2 cap2] 39)) := (Moves.refl _ _).alloc _
  refine ⟨_, _, rfl, ⟨_, heap_alloc_new _ _, rfl, HO2.out.moves m3 (by simp)⟩, m2.then m3, ?_⟩
  intro k hk
  rcases List.mem_cons.1 hk with rfl | hk
  · exact m2.size
  · exact hf2 k (Option.mem_toList.1 hk)
end Go.Proofs.Ytedehhnhmkeglaa
