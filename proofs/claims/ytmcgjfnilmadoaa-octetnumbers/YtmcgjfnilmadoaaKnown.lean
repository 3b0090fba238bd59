/-
  What 'known' does: it returns true, and writes nothing that was there.
-/
import Derived.Test.YtmcgjfnilmadoaaReadW
import Derived.Deep.RegionWith
namespace Go.Proofs.Ytmcgjfnilmadoaa
open Go.RowKit

/-- The bytes as a string. -/
def strOf (bs : List Nat) : ByteArray := ⟨(bs.map UInt8.ofNat).toArray⟩

theorem run_str {w : World} {g : Nat} {v : Value} {bs : List Nat} (h : IsB w g v bs) (ho : ∀ b ∈ bs, b < 256) : (convert 24 9 v).run Try.prog w = .ok (.string (strOf bs)) w := by
  obtain ⟨ad, n, cap, rfl, hn, hc, ha, hh⟩ := h
  rcases hh with rfl | ⟨off, rfl, hcell⟩
  · simp at hn
    subst hn
    cases ad with
    | none =>
      rw [run_convert_bytes_string w 24 9 5 none 0 cap Try.underlying24 Try.underlying5 Try.underlying9]
      rfl
    | some a =>
      have := run_convert_bytes_back (P := Try.prog) w 24 9 5 a cap [] Try.underlying24 Try.underlying5 Try.underlying9 (fun j hj => by simp at hj)
      exact this
  · have := run_convert_bytes_back (P := Try.prog) w 24 9 5 ⟨g, off, none⟩ cap (bs.map UInt8.ofNat) Try.underlying24 Try.underlying5 Try.underlying9 (fun j hj => by
      have hj' : j < bs.length := by simpa using hj
      have h1 := hcell j bs[j] (by simp)
      have e : (⟨g, off, none⟩ : Addr).add j = ⟨g, off + j, none⟩ := by unfold Addr.add; split <;> simp_all
      have h2 := ho bs[j] (List.getElem_mem hj')
      have e2 : (bs.map UInt8.ofNat)[j].toNat = bs[j] := by
        rw [List.getElem_map]
        exact UInt8.toNat_ofNat_of_lt h2
      rw [e, h1, e2])
    rw [List.length_map, hn] at this
    exact this

theorem known1_w (x : Value) (w : World) : Calls Try.prog 46 #[x] w fun e w' => e = .returned (.tuple #[]) ∧ w = w' := by
  go_enter Try.func46, Try.ntmps46
  go_wp2
  go_end0
  exact ⟨rfl, rfl⟩

theorem known2_w (p g : Nat) (w : World) (h : RdIs w p g [1] false) : Calls Try.prog 47 #[.pointer (some ⟨p, 0, none⟩)] w fun e w' => e = .panicked (stop p) ∧ RdIs w' p g [1] true ∧ Moves [p] w w' := by
  go_enter Try.func47, Try.ntmps47
  go_wp2_with (go_at_call 18; refine (rnumr_fail_w _ g _ _ h (by simp)).mono ?_; rintro _ w2 ⟨rfl, hr2, m2⟩)
  exact ⟨rfl, rfl, hr2, m2⟩

theorem be_258 : be 4 258 = [0, 0, 1, 2] := by decide

theorem Begun.moves {w w' : World} {p g : Nat} {bs bs' : List Nat} {fl fl' : Bool} (h : Begun w p g bs fl) (hr : RdIs w' p g bs' fl') (m : Moves [p] w w') : Begun w' p g bs' fl' :=
  ⟨hr, m.at h.2 (by simp)⟩

theorem known_read1 (w : World) : Calls Try.prog 12 #[.slice none 0 0, .func (.func 46) #[] #[]] w fun e w' => e = .returned (.bool true) ∧ Moves [] w w' := by
  have hB : IsB w (w.heap.size + 1) (.slice none 0 0) [] := ⟨_, _, _, rfl, rfl, Nat.le_refl _, fun _ => rfl, .inl rfl⟩
  refine (read_ret 46 #[] (.slice none 0 0) (w.heap.size + 1) [] [] w hB (by omega) (fun w2 => Moves [] w w2) (fun _ _ => rfl) ?_).mono ?_
  · intro w1 hb hm
    refine (known1_w _ w1).mono ?_
    rintro _ _ ⟨rfl, rfl⟩
    exact ⟨rfl, hb, hm⟩
  · rintro _ w' ⟨rfl, w2, h2, m2⟩
    exact ⟨rfl, h2.trans m2 (fun x hx => .inr (by simp at hx; omega))⟩

theorem known_read2 (v : Value) (g : Nat) (w : World) (hB : IsB w g v [1]) (hg : g ≠ w.heap.size) : Calls Try.prog 12 #[v, .func (.func 47) #[] #[]] w fun e w' => e = .returned (.bool false) ∧ Moves [] w w' := by
  refine (read_stop 47 #[] v g [1] [1] w hB hg (fun w2 => Moves [] w w2) (fun _ _ => rfl) ?_).mono ?_
  · intro w1 hb hm
    refine (known2_w _ g w1 hb.1).mono ?_
    rintro _ w2 ⟨rfl, hr, m⟩
    exact ⟨rfl, hb.moves hr m, hm.trans m (fun x hx => .inr (by simp at hx; omega))⟩
  · rintro _ w' ⟨rfl, w2, h2, m2⟩
    exact ⟨rfl, h2.trans m2 (fun x hx => .inr (by simp at hx; omega))⟩

set_option maxHeartbeats 1000000 in
theorem known_w (w : World) : Calls Try.prog 13 #[] w fun e w' => e = .returned (.bool true) ∧ Moves [] w w' := by
  have hst : (strOf (be 4 258)).toList = [0, 0, 1, 2] := by rw [be_258]; simp [strOf, ByteArray.toList, ByteArray.toList.loop, ByteArray.size, ByteArray.get!]
  go_enter Try.func13, Try.ntmps13
  go_wp2_with (first | (go_at_call 8; refine (new_w _).mono ?_; rintro _ w1 ⟨rfl, h1, m1⟩) | (go_at_call 25; refine (wnum_w _ none [] 258 _ (by rfl) _ h1 (by simp) (by omega)).mono ?_; rintro _ w2 ⟨rfl, a2, hw2⟩) | (go_at_call 10; refine (done_w _ a2 _ _ hw2.1 (by simp [be_length])).mono ?_; rintro _ w3 ⟨v3, rfl, ho3, m3, f3⟩; have hs3 := run_str ho3.isB (by rw [List.nil_append, be_258]; decide)) | (go_at_call_of 12 (Value.slice none 0 0); refine (known_read1 _).mono ?_; rintro _ w4 ⟨rfl, m4⟩) | (go_at_call 12; revert m4; intro m4; refine (known_read2 _ _ _ (has_new w4 1) (by simp)).mono ?_; rintro _ w5 ⟨rfl, m5⟩))
  go_ret
  refine ⟨rfl, ?_⟩
  have a1 := m1.trans hw2.2.1 (fun x hx => .inr (by simp at hx; omega))
  exact (((a1.then m3).then m4).alloc _).then m5

end Go.Proofs.Ytmcgjfnilmadoaa
