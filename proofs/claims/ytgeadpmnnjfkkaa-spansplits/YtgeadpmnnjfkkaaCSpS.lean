/-
  What is split: plain facts; SpanSplits' walk.
-/
import Derived.Test.YtgeadpmnnjfkkaaCSp10
import Derived.Test.YtgeadpmnnjfkkaaCOpen0
namespace Go.Proofs.Ytgeadpmnnjfkkaa
open Go.RowKit

theorem zgt_not (a b : ByteArray) : (!Op.bytesLess a.toList b.toList && !(a.toList == b.toList)) = zlt b a := by
  have := zle_not a b
  cases h1 : Op.bytesLess a.toList b.toList <;> cases h2 : (a.toList == b.toList) <;> rw [h1, h2] at this <;> cases h3 : zlt b a <;> rw [h3] at this <;> simp at this ⊢
theorem spl_ok (s : Psp) (t : ByteArray) (ht : spE t = true) : (spR s && spH s t && zlt s.lo t) = spC s t := by
  rw [spC_iff, ht]
  unfold spH
  cases h : zlt s.lo t with
  | true => rw [zlt_asymm h]; cases spR s <;> cases spB s t <;> rfl
  | false => cases spR s <;> cases spB s t <;> cases zlt t s.lo <;> rfl
theorem spl_join {s : Psp} {t : ByteArray} (h : spC s t = true) : spJ ⟨s.lo, t⟩ ⟨t, s.hi⟩ = true := by
  obtain ⟨h1, h2⟩ := split_R h
  obtain ⟨_, _, _, _, h5⟩ := spC_split h
  unfold spJ
  rw [h1, h2, zeq_iff.2 rfl]
  show (true && true && !bz t && true) = true
  rw [h5]; rfl
theorem spl_turned {s : Psp} {t : ByteArray} (h : spC s t = true) : spJ ⟨t, s.hi⟩ ⟨s.lo, t⟩ = false := by
  obtain ⟨h1, h2, h3, h4, h5⟩ := spC_split h
  unfold spJ
  cases hz : bz s.hi with
  | true => simp
  | false =>
    cases he : zeq s.hi s.lo with
    | false => simp
    | true =>
      unfold spB at h4
      rw [hz, Bool.false_or, zeq_iff.1 he, zlt_asymm h3] at h4
      simp at h4
theorem spl_has {s : Psp} {t : ByteArray} (h : spC s t = true) (n : ByteArray) : spH s n = (spH ⟨s.lo, t⟩ n || spH ⟨t, s.hi⟩ n) ∧ (spH ⟨s.lo, t⟩ n && spH ⟨t, s.hi⟩ n) = false := by
  obtain ⟨h1, h2, h3, h4, h5⟩ := spC_split h
  unfold spH spB at *
  dsimp only
  rw [h5, Bool.false_or]
  cases hn : zlt n t with
  | true =>
    have e : (bz s.hi || zlt n s.hi) = true := by
      cases hz : bz s.hi with
      | true => rfl
      | false => rw [hz, Bool.false_or] at h4; rw [Bool.false_or]; exact zlt_trans hn h4
    rw [e]
    cases zlt n s.lo <;> simp
  | false =>
    have e : zlt n s.lo = false := by
      cases hl : zlt n s.lo with
      | false => rfl
      | true => rw [zlt_trans hl h3] at hn; simp at hn
    rw [e]
    cases (bz s.hi || zlt n s.hi) <;> simp
theorem spH_lo {s : Psp} (h : spR s = true) : spH s s.lo = true := by
  obtain ⟨_, _, h3⟩ := spR_parts h
  unfold spH
  rw [zlt_self, h3]; rfl
theorem spl_meets {s : Psp} {t : ByteArray} (h : spC s t = true) : spM ⟨s.lo, t⟩ ⟨t, s.hi⟩ = false ∧ spM ⟨s.lo, t⟩ s = true ∧ spM ⟨t, s.hi⟩ s = true := by
  obtain ⟨h1, h2⟩ := split_R h
  obtain ⟨g1, g2, g3, g4, g5⟩ := spC_split h
  refine ⟨?_, ?_, ?_⟩
  · rw [spM_share h1 h2]
    have a := (spl_has h t).2
    have b := (spl_has h s.lo).2
    have c := spH_lo h2
    have d := spH_lo h1
    dsimp only at c d ⊢
    rw [c, Bool.and_true] at a
    rw [d, Bool.true_and] at b
    rw [a, b]; rfl
  · rw [spM_share h1 g1]
    have d := spH_lo h1
    dsimp only at d
    rw [d]; rfl
  · rw [spM_share h2 g1]
    have e : spH s t = true := by unfold spH; rw [zlt_asymm g3, g4]; rfl
    dsimp only
    rw [e, Bool.or_true]

set_option maxRecDepth 100000 in
set_option maxHeartbeats 8000000 in
theorem splits_no (a b c : Int) (n lo hi t : ByteArray) (w : World) (hmade : ∀ w, Calls Try.prog 13 #[.int .i64 a, .int .i64 b] w fun e w' => e = .returned (.agg #[.string lo, .string hi]) ∧ Moves [] w w') (hrow : ∀ w, Calls Try.prog 14 #[.int .i64 c] w fun e w' => e = .returned (.string t) ∧ Moves [] w w') (ht : spE t = true) (hc : spC ⟨lo, hi⟩ t = false) :
    Calls Try.prog 7 #[.int .i64 a, .int .i64 b, .int .i64 c, .string n] w fun e w' => e = .returned (.bool true) ∧ Moves [] w w' := by
  have key := spl_ok ⟨lo, hi⟩ t ht
  rw [hc] at key
  have eg := zgt_not t lo
  have M : Moves [] w w := Moves.refl _ _
  have hc' : Hid (spC ⟨lo, hi⟩ t = false) := hc
  clear hc ht
  dsimp only at key
  cases h1 : spR ⟨lo, hi⟩ <;> cases h2 : spH ⟨lo, hi⟩ t <;> cases h3 : zlt lo t
  all_goals rw [h1, h2, h3] at key
  all_goals (first | (exact absurd key (by decide)) | skip)
  all_goals clear key
  all_goals rw [h3] at eg
  all_goals go_enter Try.func7, Try.ntmps7
  all_goals go_wp2_with (first | (go_at_call 13; refine (hmade _).mono ?_; rintro _ wx ⟨rfl, mx⟩; replace M : Moves [] w wx := (by first | exact M.then mx | exact M.drew.then mx); clear hmade; have my : Moves [] wx (wx.alloc (.cells #[.string lo, .string hi] 27)) := (Moves.refl _ _).alloc _; have b9 := heap_alloc_new wx (.cells #[.string lo, .string hi] 27); replace M := M.then my; obtain ⟨cb9, db9, _, _⟩ := sp_cells b9; clear my; obtain ⟨Qb9, hQb9⟩ : ∃ Q, wx.heap.size = Q := ⟨_, rfl⟩; rw [hQb9] at b9 cb9 db9; clear mx) | (go_at_call 14; refine (hrow _).mono ?_; rintro _ wx ⟨rfl, mx⟩; replace M : Moves [] w wx := (by first | exact M.then mx | exact M.drew.then mx); replace b9 := mx.at b9 (by simp); clear hrow; clear cb9 db9; obtain ⟨cb9, db9, _, _⟩ := sp_cells b9; clear mx) | (go_at_call 16; refine (spSplit_no _ _ _ _ hc'.out).mono ?_; rintro _ wx ⟨rfl, mx⟩; replace M : Moves [] w wx := (by first | exact M.then mx | exact M.drew.then mx); replace b9 := mx.at b9 (by simp); clear hc'; obtain ⟨my, b11, b12⟩ := spBoxes2 wx #[.string ⟨#[]⟩, .string ⟨#[]⟩] #[.string ⟨#[]⟩, .string ⟨#[]⟩] 27; replace M := M.then my; replace b9 := my.at b9 (by simp); clear cb9 db9; obtain ⟨cb9, db9, _, _⟩ := sp_cells b9; obtain ⟨cb11, db11, _, _⟩ := sp_cells b11; obtain ⟨cb12, db12, _, _⟩ := sp_cells b12; clear my; obtain ⟨Qb11, hQb11⟩ : ∃ Q, wx.heap.size = Q := ⟨_, rfl⟩; rw [hQb11] at b11 cb11 db11 b12 cb12 db12; clear mx) | (go_at_call 27; refine (spRight_w _ _ _).mono ?_; rintro _ wx ⟨rfl, mx⟩; replace M : Moves [] w wx := (by first | exact M.then mx | exact M.drew.then mx); replace b9 := mx.at b9 (by simp); replace b11 := mx.at b11 (by simp); replace b12 := mx.at b12 (by simp); simp only [h1]; clear cb9 db9 cb11 db11 cb12 db12; obtain ⟨cb9, db9, _, _⟩ := sp_cells b9; obtain ⟨cb11, db11, _, _⟩ := sp_cells b11; obtain ⟨cb12, db12, _, _⟩ := sp_cells b12; clear mx) | (go_at_call 15; refine (spHas_w _ _ _ _).mono ?_; rintro _ wx ⟨rfl, mx⟩; replace M : Moves [] w wx := (by first | exact M.then mx | exact M.drew.then mx); replace b9 := mx.at b9 (by simp); replace b11 := mx.at b11 (by simp); replace b12 := mx.at b12 (by simp); simp only [h2]; clear cb9 db9 cb11 db11 cb12 db12; obtain ⟨cb9, db9, _, _⟩ := sp_cells b9; obtain ⟨cb11, db11, _, _⟩ := sp_cells b11; obtain ⟨cb12, db12, _, _⟩ := sp_cells b12; clear mx) | (go_at_call 11; refine (known7_w _).mono ?_; rintro _ wx ⟨rfl, mx⟩; replace M : Moves [] w wx := (by first | exact M.then mx | exact M.drew.then mx); replace b9 := mx.at b9 (by simp); replace b11 := mx.at b11 (by simp); replace b12 := mx.at b12 (by simp); clear cb9 db9 cb11 db11 cb12 db12; obtain ⟨cb9, db9, _, _⟩ := sp_cells b9; obtain ⟨cb11, db11, _, _⟩ := sp_cells b11; obtain ⟨cb12, db12, _, _⟩ := sp_cells b12; clear mx))
  all_goals go_ret
  all_goals exact ⟨rfl, M⟩

set_option maxRecDepth 100000 in
set_option maxHeartbeats 16000000 in
theorem splits_yes (a b c : Int) (n lo hi t : ByteArray) (w : World) (hmade : ∀ w, Calls Try.prog 13 #[.int .i64 a, .int .i64 b] w fun e w' => e = .returned (.agg #[.string lo, .string hi]) ∧ Moves [] w w') (hrow : ∀ w, Calls Try.prog 14 #[.int .i64 c] w fun e w' => e = .returned (.string t) ∧ Moves [] w w') (ht : spE t = true) (hc : spC ⟨lo, hi⟩ t = true) :
    Calls Try.prog 7 #[.int .i64 a, .int .i64 b, .int .i64 c, .string n] w fun e w' => e = .returned (.bool true) ∧ Moves [] w w' := by
  have key := spl_ok ⟨lo, hi⟩ t ht
  rw [hc] at key
  simp only [Bool.and_eq_true] at key
  obtain ⟨⟨h1, h2⟩, h3⟩ := key
  have eg := zgt_not t lo
  rw [h3] at eg
  have M : Moves [] w w := Moves.refl _ _
  have hj1 := spl_join hc
  have hj2 := spl_turned hc
  obtain ⟨k1, k2, k3⟩ := spl_meets hc
  obtain ⟨p1, p2⟩ := spl_has hc n
  have hc' : Hid (spC ⟨lo, hi⟩ t = true) := hc
  have hj1' : Hid (spJ ⟨lo, t⟩ ⟨t, hi⟩ = true) := hj1
  have hj2' : Hid (spJ ⟨t, hi⟩ ⟨lo, t⟩ = false) := hj2
  clear hc ht h3 hj1 hj2
  dsimp only at p1 p2 k1 k2 k3
  cases hx : spH ⟨lo, t⟩ n <;> cases hy : spH ⟨t, hi⟩ n
  all_goals rw [hx, hy] at p1 p2
  all_goals (first | (exact absurd p2 (by decide)) | skip)
  all_goals clear p2
  all_goals simp only [Bool.or_false, Bool.or_true] at p1
  all_goals go_enter Try.func7, Try.ntmps7
  all_goals go_wp2_with (first | (go_at_call 13; refine (hmade _).mono ?_; rintro _ wx ⟨rfl, mx⟩; replace M : Moves [] w wx := (by first | exact M.then mx | exact M.drew.then mx); clear hmade; have my : Moves [] wx (wx.alloc (.cells #[.string lo, .string hi] 27)) := (Moves.refl _ _).alloc _; have b9 := heap_alloc_new wx (.cells #[.string lo, .string hi] 27); replace M := M.then my; obtain ⟨cb9, db9, _, _⟩ := sp_cells b9; clear my; obtain ⟨Qb9, hQb9⟩ : ∃ Q, wx.heap.size = Q := ⟨_, rfl⟩; rw [hQb9] at b9 cb9 db9; clear mx) | (go_at_call 14; refine (hrow _).mono ?_; rintro _ wx ⟨rfl, mx⟩; replace M : Moves [] w wx := (by first | exact M.then mx | exact M.drew.then mx); replace b9 := mx.at b9 (by simp); clear hrow; clear cb9 db9; obtain ⟨cb9, db9, _, _⟩ := sp_cells b9; clear mx) | (go_at_call 16; refine (spSplit_yes _ _ _ _ hc'.out).mono ?_; rintro _ wx ⟨rfl, mx⟩; replace M : Moves [] w wx := (by first | exact M.then mx | exact M.drew.then mx); replace b9 := mx.at b9 (by simp); clear hc'; obtain ⟨my, b11, b12⟩ := spBoxes2 wx #[.string lo, .string t] #[.string t, .string hi] 27; replace M := M.then my; replace b9 := my.at b9 (by simp); clear cb9 db9; obtain ⟨cb9, db9, _, _⟩ := sp_cells b9; obtain ⟨cb11, db11, _, _⟩ := sp_cells b11; obtain ⟨cb12, db12, _, _⟩ := sp_cells b12; clear my; obtain ⟨Qb11, hQb11⟩ : ∃ Q, wx.heap.size = Q := ⟨_, rfl⟩; rw [hQb11] at b11 cb11 db11 b12 cb12 db12; clear mx) | (go_at_call 17; refine (spJoin_yes _ _ _ _ _ hj1'.out).mono ?_; rintro _ wx ⟨rfl, mx⟩; replace M : Moves [] w wx := (by first | exact M.then mx | exact M.drew.then mx); replace b9 := mx.at b9 (by simp); replace b11 := mx.at b11 (by simp); replace b12 := mx.at b12 (by simp); clear hj1'; have my : Moves [] wx (wx.alloc (.cells #[.string lo, .string hi] 27)) := (Moves.refl _ _).alloc _; have b14 := heap_alloc_new wx (.cells #[.string lo, .string hi] 27); replace M := M.then my; replace b9 := my.at b9 (by simp); replace b11 := my.at b11 (by simp); replace b12 := my.at b12 (by simp); clear cb9 db9 cb11 db11 cb12 db12; obtain ⟨cb9, db9, _, _⟩ := sp_cells b9; obtain ⟨cb11, db11, _, _⟩ := sp_cells b11; obtain ⟨cb12, db12, _, _⟩ := sp_cells b12; obtain ⟨cb14, db14, _, _⟩ := sp_cells b14; clear my; obtain ⟨Qb14, hQb14⟩ : ∃ Q, wx.heap.size = Q := ⟨_, rfl⟩; rw [hQb14] at b14 cb14 db14; clear mx) | (go_at_call 17; refine (spJoin_no _ _ _ _ _ hj2'.out).mono ?_; rintro _ wx ⟨rfl, mx⟩; replace M : Moves [] w wx := (by first | exact M.then mx | exact M.drew.then mx); replace b9 := mx.at b9 (by simp); replace b11 := mx.at b11 (by simp); replace b12 := mx.at b12 (by simp); replace b14 := mx.at b14 (by simp); clear hj2'; have my : Moves [] wx (wx.alloc (.cells #[.string ⟨#[]⟩, .string ⟨#[]⟩] 27)) := (Moves.refl _ _).alloc _; have b16 := heap_alloc_new wx (.cells #[.string ⟨#[]⟩, .string ⟨#[]⟩] 27); replace M := M.then my; replace b9 := my.at b9 (by simp); replace b11 := my.at b11 (by simp); replace b12 := my.at b12 (by simp); replace b14 := my.at b14 (by simp); clear cb9 db9 cb11 db11 cb12 db12 cb14 db14; obtain ⟨cb9, db9, _, _⟩ := sp_cells b9; obtain ⟨cb11, db11, _, _⟩ := sp_cells b11; obtain ⟨cb12, db12, _, _⟩ := sp_cells b12; obtain ⟨cb14, db14, _, _⟩ := sp_cells b14; obtain ⟨cb16, db16, _, _⟩ := sp_cells b16; clear my; obtain ⟨Qb16, hQb16⟩ : ∃ Q, wx.heap.size = Q := ⟨_, rfl⟩; rw [hQb16] at b16 cb16 db16; clear mx) | (go_at_call 15; (revert b16; intro b16); refine (spHas_w _ _ _ _).mono ?_; rintro _ wx ⟨rfl, mx⟩; replace M : Moves [] w wx := (by first | exact M.then mx | exact M.drew.then mx); replace b9 := mx.at b9 (by simp); replace b11 := mx.at b11 (by simp); replace b12 := mx.at b12 (by simp); replace b14 := mx.at b14 (by simp); replace b16 := mx.at b16 (by simp); simp only [hx, hy, p1]; clear cb9 db9 cb11 db11 cb12 db12 cb14 db14 cb16 db16; obtain ⟨cb9, db9, _, _⟩ := sp_cells b9; obtain ⟨cb11, db11, _, _⟩ := sp_cells b11; obtain ⟨cb12, db12, _, _⟩ := sp_cells b12; obtain ⟨cb14, db14, _, _⟩ := sp_cells b14; obtain ⟨cb16, db16, _, _⟩ := sp_cells b16; clear mx) | (go_at_call 27; (revert b16; intro b16); refine (spRight_w _ _ _).mono ?_; rintro _ wx ⟨rfl, mx⟩; replace M : Moves [] w wx := (by first | exact M.then mx | exact M.drew.then mx); replace b9 := mx.at b9 (by simp); replace b11 := mx.at b11 (by simp); replace b12 := mx.at b12 (by simp); replace b14 := mx.at b14 (by simp); replace b16 := mx.at b16 (by simp); simp only [h1]; clear cb9 db9 cb11 db11 cb12 db12 cb14 db14 cb16 db16; obtain ⟨cb9, db9, _, _⟩ := sp_cells b9; obtain ⟨cb11, db11, _, _⟩ := sp_cells b11; obtain ⟨cb12, db12, _, _⟩ := sp_cells b12; obtain ⟨cb14, db14, _, _⟩ := sp_cells b14; obtain ⟨cb16, db16, _, _⟩ := sp_cells b16; clear mx) | (go_at_call 28; (revert b16; intro b16); refine (spMeet_w _ _ _ _ _).mono ?_; rintro _ wx ⟨rfl, mx⟩; replace M : Moves [] w wx := (by first | exact M.then mx | exact M.drew.then mx); replace b9 := mx.at b9 (by simp); replace b11 := mx.at b11 (by simp); replace b12 := mx.at b12 (by simp); replace b14 := mx.at b14 (by simp); replace b16 := mx.at b16 (by simp); simp only [k1, k2, k3]; clear cb9 db9 cb11 db11 cb12 db12 cb14 db14 cb16 db16; obtain ⟨cb9, db9, _, _⟩ := sp_cells b9; obtain ⟨cb11, db11, _, _⟩ := sp_cells b11; obtain ⟨cb12, db12, _, _⟩ := sp_cells b12; obtain ⟨cb14, db14, _, _⟩ := sp_cells b14; obtain ⟨cb16, db16, _, _⟩ := sp_cells b16; clear mx) | (go_at_call 11; (revert b16; intro b16); refine (known7_w _).mono ?_; rintro _ wx ⟨rfl, mx⟩; replace M : Moves [] w wx := (by first | exact M.then mx | exact M.drew.then mx); replace b9 := mx.at b9 (by simp); replace b11 := mx.at b11 (by simp); replace b12 := mx.at b12 (by simp); replace b14 := mx.at b14 (by simp); replace b16 := mx.at b16 (by simp); clear cb9 db9 cb11 db11 cb12 db12 cb14 db14 cb16 db16; obtain ⟨cb9, db9, _, _⟩ := sp_cells b9; obtain ⟨cb11, db11, _, _⟩ := sp_cells b11; obtain ⟨cb12, db12, _, _⟩ := sp_cells b12; obtain ⟨cb14, db14, _, _⟩ := sp_cells b14; obtain ⟨cb16, db16, _, _⟩ := sp_cells b16; clear mx) | (go_at_call 15; refine (spHas_w _ _ _ _).mono ?_; rintro _ wx ⟨rfl, mx⟩; replace M : Moves [] w wx := (by first | exact M.then mx | exact M.drew.then mx); replace b9 := mx.at b9 (by simp); replace b11 := mx.at b11 (by simp); replace b12 := mx.at b12 (by simp); simp only [h2]; clear cb9 db9 cb11 db11 cb12 db12; obtain ⟨cb9, db9, _, _⟩ := sp_cells b9; obtain ⟨cb11, db11, _, _⟩ := sp_cells b11; obtain ⟨cb12, db12, _, _⟩ := sp_cells b12; clear mx) | (go_at_call 27; refine (spRight_w _ _ _).mono ?_; rintro _ wx ⟨rfl, mx⟩; replace M : Moves [] w wx := (by first | exact M.then mx | exact M.drew.then mx); replace b9 := mx.at b9 (by simp); replace b11 := mx.at b11 (by simp); replace b12 := mx.at b12 (by simp); simp only [h1]; clear cb9 db9 cb11 db11 cb12 db12; obtain ⟨cb9, db9, _, _⟩ := sp_cells b9; obtain ⟨cb11, db11, _, _⟩ := sp_cells b11; obtain ⟨cb12, db12, _, _⟩ := sp_cells b12; clear mx) | (go_at_call 28; refine (spMeet_w _ _ _ _ _).mono ?_; rintro _ wx ⟨rfl, mx⟩; replace M : Moves [] w wx := (by first | exact M.then mx | exact M.drew.then mx); replace b9 := mx.at b9 (by simp); replace b11 := mx.at b11 (by simp); replace b12 := mx.at b12 (by simp); simp only [k1, k2, k3]; clear cb9 db9 cb11 db11 cb12 db12; obtain ⟨cb9, db9, _, _⟩ := sp_cells b9; obtain ⟨cb11, db11, _, _⟩ := sp_cells b11; obtain ⟨cb12, db12, _, _⟩ := sp_cells b12; clear mx) | (go_at_call 11; refine (known7_w _).mono ?_; rintro _ wx ⟨rfl, mx⟩; replace M : Moves [] w wx := (by first | exact M.then mx | exact M.drew.then mx); replace b9 := mx.at b9 (by simp); replace b11 := mx.at b11 (by simp); replace b12 := mx.at b12 (by simp); clear cb9 db9 cb11 db11 cb12 db12; obtain ⟨cb9, db9, _, _⟩ := sp_cells b9; obtain ⟨cb11, db11, _, _⟩ := sp_cells b11; obtain ⟨cb12, db12, _, _⟩ := sp_cells b12; clear mx))
  all_goals go_ret
  all_goals exact ⟨rfl, M⟩

theorem spanSplits_w (u0 u1 u2 u3 : Value) (w : World) (h0 : IArg u0) (h1 : IArg u1) (h2 : IArg u2) (h3 : ∃ s, u3 = .string s) : Calls Try.prog 7 #[u0, u1, u2, u3] w fun e w' => e = .returned (.bool true) ∧ Moves [] w w' := by
  obtain ⟨a, rfl⟩ := h0
  obtain ⟨b, rfl⟩ := h1
  obtain ⟨c, rfl⟩ := h2
  obtain ⟨n, rfl⟩ := h3
  obtain ⟨lo, hi, _, _, hmade⟩ := made7_w a b
  obtain ⟨t, ht, hrow⟩ := row_ds c
  have e : spE t = true := decide_eq_true (by omega)
  cases hc : spC ⟨lo, hi⟩ t with
  | true => exact splits_yes a b c n lo hi t w hmade hrow e hc
  | false => exact splits_no a b c n lo hi t w hmade hrow e hc
end Go.Proofs.Ytgeadpmnnjfkkaa
