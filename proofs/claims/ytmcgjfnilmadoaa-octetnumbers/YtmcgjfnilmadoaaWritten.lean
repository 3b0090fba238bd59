/-
  What 'written' does: for every row of things it returns what the program wrote and what the document writes, both the same bytes, and true; nothing that was there is written.
-/
import Derived.Test.YtmcgjfnilmadoaaAsks
namespace Go.Proofs.Ytmcgjfnilmadoaa
open Go.RowKit

theorem kind_ways (k : Int) : k = 1 ∨ k = 2 ∨ k = 3 ∨ k = 4 ∨ k = 5 ∨ ((k == 1) = false ∧ (k == 2) = false ∧ (k == 3) = false ∧ (k == 4) = false ∧ (k == 5) = false) := by
  by_cases h1 : k = 1
  · exact .inl h1
  by_cases h2 : k = 2
  · exact .inr (.inl h2)
  by_cases h3 : k = 3
  · exact .inr (.inr (.inl h3))
  by_cases h4 : k = 4
  · exact .inr (.inr (.inr (.inl h4)))
  by_cases h5 : k = 5
  · exact .inr (.inr (.inr (.inr (.inl h5))))
  · simp [h1, h2, h3, h4, h5]

/-- Text, of bytes that lie anywhere but in the Writer. -/
theorem wtext_any (p : Nat) (a : Option Nat) (bs cs : List Nat) (g : Nat) (v : Value) (w : World) (h : Wr w p a bs) (hb : bs.length + 2000000 ≤ 1099511627776) (hc : IsB w g v cs) (hl : cs.length ≤ 1048576) (hg : g ∉ p :: a.toList) :
    Calls Try.prog 9 #[.pointer (some ⟨p, 0, none⟩), v] w fun e w' => e = .returned (.bool true) ∧ ∃ a', Wrote w p a w' a' (bs ++ be 4 cs.length ++ cs) :=
  wtext_w p a bs cs g v w h hb hc hl (fun e => hg (by simp [e])) (fun e => hg (by simp [e]))

theorem Inv.past {w wr : World} {vb : Value} {a : Option Nat} {bs cs : List Nat} (h : Inv w wr vb a bs cs) : ∀ x ∈ w.heap.size :: a.toList, w.heap.size ≤ x := by
  intro x hx
  rcases List.mem_cons.1 hx with rfl | hx
  · exact Nat.le_refl _
  · exact h.2.2.2.1 x (by cases a <;> simp_all)

theorem written_end {w wr w' : World} {vb v1 : Value} {a : Option Nat} {bs : List Nat} (hI : Inv w wr vb a bs bs) (h1 : Own w' v1 bs) (m : Moves [] wr w') (f : Fresh wr v1) :
    Own w' v1 bs ∧ Own w' vb bs ∧ Moves [] w w' ∧ Fresh w v1 ∧ Fresh w vb :=
  ⟨h1, hI.2.1.moves m (by simp), hI.2.2.1.then m, fun k hk => Nat.le_trans hI.2.2.1.size (f k hk), hI.2.2.2.2.1⟩

set_option maxRecDepth 100000 in
set_option maxHeartbeats 4000000 in
theorem written_w (v : Value) (L : List AskM) (w : World) (h : Asks w v L) :
    Calls Try.prog 6 #[v] w fun e w' => ∃ v1 v2, e = .returned (.tuple #[v1, v2, .bool true]) ∧ Own w' v1 (encs L 15) ∧ Own w' v2 (encs L 15) ∧ Moves [] w w' ∧ Fresh w v1 ∧ Fresh w v2 := by
  obtain ⟨ad, len, cap, rfl, hlen, hcap, hL⟩ := h
  go_enter Try.func6, Try.ntmps6
  go_wp2_with (go_at_call 8; refine (new_w _).mono ?_; rintro _ w1 ⟨rfl, h1, m1⟩)
  go_loopw [6, 7, 8] (fun vb ok i wr => ∃ k : Nat, k ≤ len ∧ k ≤ 15 ∧ i = .int .i64 k ∧ ok = .bool true ∧ ∃ a, Inv w wr vb a (encs L k) (encs L k)) (fun _ _ i _ => len - (intOf i).toNat)
  case atStart =>
    refine ⟨0, Nat.zero_le _, Nat.zero_le _, rfl, rfl, none, ?_⟩
    rw [encs_zero]
    exact ⟨h1, Own.nil _, m1, by simp, Fresh.nil _, by simp⟩
  case round =>
    obtain ⟨k, hk1, hk2, rfl, rfl, a, hI⟩ := hrel
    clear h1 m1 w1
    have hbl := encs_length L k
    have hb1 : (encs L k).length + 1 ≤ 1099511627776 := by omega
    have hb8 : (encs L k).length + 8 ≤ 1099511627776 := by omega
    have hb16 : (encs L k).length + 16 ≤ 1099511627776 := by omega
    have hbT : (encs L k).length + 2000000 ≤ 1099511627776 := by omega
    by_cases hlt : k < len
    · by_cases h15 : k < 15
      · have hk3 : (k : Int) < (len : Int) := by omega
        have hk4 : (k : Int) < 15 := by omega
        obtain ⟨A, hA⟩ : ∃ A, L[k]? = some A := ⟨L[k]'(by omega), by simp⟩
        obtain ⟨b, off, rfl, hAt⟩ := hL k A hA
        have HE : Hid (encs L (k + 1) = encs L k ++ enc A) := encs_succ hA
        clear hA hL hbl
        obtain ⟨kind, most, n, x, bv, g, bb⟩ := A
        obtain ⟨d0, d1, d2, d3, d4, dB, hn, hx, _⟩ := hAt
        simp only at d0 d1 d2 d3 d4 dB hn hx
        have m0 := hI.2.2.1
        have c0 := m0.cell d0
        have c2 := m0.cell d2
        have c3 := m0.cell d3
        have c4 := m0.cell d4
        have hB := dB.moves m0 (by simp)
        have hgo : bb.take 30 ≠ [] → g < w.heap.size := fun hne => dB.lt (fun e => hne (by rw [e]; rfl))
        rcases kind_ways kind with rfl | rfl | rfl | rfl | rfl | ⟨q1, q2, q3, q4, q5⟩
        · have HE1 : Hid (encs L (k + 1) = encs L k ++ [n % 256]) := HE.out.trans (by simp [enc])
          go_wp2_with (first | (go_at_call 15; refine (cut_w _ g bb 30 _ rfl _ hB).mono ?_; rintro _ _ ⟨v1, rfl, hv1, rfl⟩) | (go_at_call 24; refine (wbyte_w _ a _ (n % 256) _ (by omega) _ hI.1 hb1).mono ?_; rintro _ w2 ⟨rfl, a2, hw2⟩; have hJ := hI.wrote hw2; have c2' := hJ.2.2.1.cell d2) | (at_builtin; refine append_law (.tmp 47) (.tmp 54) rfl _ _ (encs L k) [n % 256] w2.heap.size rfl rfl rfl (hJ.2.1.moves ((Moves.refl [] _).alloc _) (by simp)) (has_new w2 (n % 256)) hb1 ?_; intro v3 w3 ho3 m3 hat3; have hK := hJ.app ho3 m3 hat3))
          go_roundw
          case rel =>
            refine ⟨k + 1, by omega, by omega, by go_num, rfl, a2, ?_⟩
            rw [HE1.out]; exact hK
          case measure => simp [intOf]; omega
        · have HE1 : Hid (encs L (k + 1) = encs L k ++ be 4 (n % 4294967296)) := HE.out.trans (by simp [enc])
          go_wp2_with (first | (go_at_call 15; refine (cut_w _ g bb 30 _ rfl _ hB).mono ?_; rintro _ _ ⟨v1, rfl, hv1, rfl⟩) | (go_at_call 25; refine (wnum_w _ a _ (n % 4294967296) _ (by omega) _ hI.1 hb8 (by omega)).mono ?_; rintro _ w2 ⟨rfl, a2, hw2⟩; have hJ := hI.wrote hw2; have c2' := hJ.2.2.1.cell d2; have hi2 := hJ.2.1.isB) | (go_at_call 26; refine (rnum_w _ _ _ (n % 4294967296) _ (by omega) _ hi2 hb8 (by omega)).mono ?_; rintro _ w3 ⟨v3, rfl, ho3, m3, f3⟩; have hK := hJ.made ho3 m3 f3))
          go_roundw
          case rel =>
            refine ⟨k + 1, by omega, by omega, by go_num, rfl, a2, ?_⟩
            rw [HE1.out]; exact hK
          case measure => simp [intOf]; omega
        · have HE1 : Hid (encs L (k + 1) = encs L k ++ be 8 n) := HE.out.trans (by simp [enc])
          go_wp2_with (first | (go_at_call 15; refine (cut_w _ g bb 30 _ rfl _ hB).mono ?_; rintro _ _ ⟨v1, rfl, hv1, rfl⟩) | (go_at_call 27; refine (wlong_w _ a _ n _ rfl _ hI.1 hb8).mono ?_; rintro _ w2 ⟨rfl, a2, hw2⟩; have hJ := hI.wrote hw2; have c2' := hJ.2.2.1.cell d2; have hi2 := hJ.2.1.isB) | (go_at_call 28; refine (rlong_w _ _ _ n _ rfl _ hi2 hb16 hn).mono ?_; rintro _ w3 ⟨v3, rfl, ho3, m3, f3⟩; have hK := hJ.made ho3 m3 f3))
          go_roundw
          case rel =>
            refine ⟨k + 1, by omega, by omega, by go_num, rfl, a2, ?_⟩
            rw [HE1.out]; exact hK
          case measure => simp [intOf]; omega
        · have HE1 : Hid (encs L (k + 1) = encs L k ++ be 8 (Pl.canon x)) := HE.out.trans (by simp [enc])
          go_wp2_with (first | (go_at_call 15; refine (cut_w _ g bb 30 _ rfl _ hB).mono ?_; rintro _ _ ⟨v1, rfl, hv1, rfl⟩) | (go_at_call 29; refine (wfloat_w _ a _ x _ hI.1 hb8).mono ?_; rintro _ w2 ⟨rfl, a2, hw2⟩; have hJ := hI.wrote hw2; have c3' := hJ.2.2.1.cell d3; have hi2 := hJ.2.1.isB) | (go_at_call 30; refine (rfloat_w _ _ _ x _ hi2 hb16 hx).mono ?_; rintro _ w3 ⟨v3, rfl, ho3, m3, f3⟩; have hK := hJ.made ho3 m3 f3))
          go_roundw
          case rel =>
            refine ⟨k + 1, by omega, by omega, by go_num, rfl, a2, ?_⟩
            rw [HE1.out]; exact hK
          case measure => simp [intOf]; omega
        · have HE1 : Hid (encs L (k + 1) = encs L k ++ be 4 (bb.take 30).length ++ bb.take 30) := HE.out.trans (by simp [enc])
          obtain ⟨t30, ht30⟩ : ∃ t, t = bb.take 30 := ⟨_, rfl⟩
          rw [← ht30] at HE1 hgo
          have ht31 : t30.length ≤ 30 := by rw [ht30, List.length_take]; omega
          have HT : Hid (t30 = bb.take 30) := ht30
          clear ht30
          have hgS : t30 ≠ [] → g ∉ w.heap.size :: a.toList := fun hne hm => by have := hgo hne; have := hI.past g hm; omega
          go_wp2_with (first | (go_at_call 15; refine (cut_w _ g bb 30 _ rfl _ hB).mono ?_; rintro _ _ ⟨v1, rfl, hv1, rfl⟩; rw [← HT.out] at hv1; obtain ⟨g', hg', hv2⟩ := hv1.pick _ hgS) | (go_at_call 9; refine (wtext_any _ a _ t30 g' _ _ hI.1 hbT hv2 (by omega) hg').mono ?_; rintro _ w2 ⟨rfl, a2, hw2⟩; have hJ := hI.wrote hw2; have hi2 := hJ.2.1.isB; have hx2 := hv2.moves hw2.2.1 hg') | (go_at_call 11; refine (rtext_w _ _ _ _ g' t30 _ hi2 hx2 hbT (by omega)).mono ?_; rintro _ w3 ⟨v3, rfl, ho3, m3, f3⟩; have hK := hJ.made ho3 m3 f3))
          go_roundw
          case rel =>
            refine ⟨k + 1, by omega, by omega, by go_num, rfl, a2, ?_⟩
            rw [HE1.out]; exact hK
          case measure => simp [intOf]; omega
        · have HE1 : Hid (encs L (k + 1) = encs L k) := HE.out.trans (by simp at q1 q2 q3 q4 q5; simp [enc, q1, q2, q3, q4, q5])
          go_wp2_with (go_at_call 15; refine (cut_w _ g bb 30 _ rfl _ hB).mono ?_; rintro _ _ ⟨v1, rfl, hv1, rfl⟩)
          go_roundw
          case rel =>
            refine ⟨k + 1, by omega, by omega, by go_num, rfl, a, ?_⟩
            rw [HE1.out]; exact hI
          case measure => simp [intOf]; omega
      · have hk4 : ¬ (k : Int) < 15 := by omega
        have hk3 : (k : Int) < (len : Int) := by omega
        have hk5 : k = 15 := by omega
        have HK : Hid (k = 15) := hk5
        clear hk5 hL
        go_wp2_with (go_at_call 10; refine (done_w _ a _ _ hI.1 (by omega)).mono ?_; rintro _ w2 ⟨v2, rfl, ho2, m2, f2⟩)
        go_ret3
        have hE := written_end hI ho2 m2 f2
        rw [HK.out] at hE
        exact ⟨_, _, rfl, hE⟩
    · have hk3 : ¬ (k : Int) < (len : Int) := by omega
      have HK : Hid (encs L k = encs L 15) := by
        have e1 : k = len := by omega
        show encs L k = encs L 15
        rw [e1, ← hlen, encs_past (k := 15) (by omega)]
      clear hL
      go_wp2_with (go_at_call 10; refine (done_w _ a _ _ hI.1 (by omega)).mono ?_; rintro _ w2 ⟨v2, rfl, ho2, m2, f2⟩)
      go_ret3
      have hE := written_end hI ho2 m2 f2
      rw [HK.out] at hE
      exact ⟨_, _, rfl, hE⟩
end Go.Proofs.Ytmcgjfnilmadoaa
