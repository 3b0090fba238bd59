/-
  Spans as bytes: what Write leaves, what Take takes of it.
-/
import Derived.Test.YtgeadpmnnjfkkaaCSp10
import Derived.Test.YtgeadpmnnjfkkaaCBaseC
import Derived.Test.YtgeadpmnnjfkkaaCBaseD
import Derived.Lib.ConvBytes
namespace Go.Proofs.Ytgeadpmnnjfkkaa
open Go.RowKit

/-- The bytes of a text. -/
def zbs (s : ByteArray) : List Nat := s.data.toList.map UInt8.toNat
theorem zbs_length (s : ByteArray) : (zbs s).length = s.size := by unfold zbs; rw [List.length_map]; rfl
theorem zbs_oct (s : ByteArray) : ∀ b ∈ zbs s, b < 256 := by
  intro b hb
  simp only [zbs, List.mem_map] at hb
  obtain ⟨u, _, rfl⟩ := hb
  exact u.toNat_lt
theorem zbs_back (s : ByteArray) : strOf (zbs s) = s := by
  unfold strOf zbs
  rw [List.map_map]
  have : (UInt8.ofNat ∘ UInt8.toNat) = id := by funext u; simp
  rw [this, List.map_id]
/-- []byte(s). -/
theorem zbytes_run (w : World) (s : ByteArray) : ∃ g cap w', (convert 9 47 (.string s)).run Try.prog w = .ok (.slice (some ⟨g, 0, none⟩) s.size cap) w' ∧ IsB w' g (.slice (some ⟨g, 0, none⟩) s.size cap) (zbs s) ∧ Moves [] w w' ∧ w.heap.size ≤ g := by
  refine ⟨w.heap.size, _, _, Lib.run_convert_string_bytes w 9 47 5 s Try.underlying9 Try.underlying47 Try.underlying5, ?_, ?_, Nat.le_refl _⟩
  · refine ⟨_, _, _, rfl, zbs_length s, grownCap_ge _ _ _ _, fun h => by simp at h, .inr ⟨0, rfl, fun j b hj => ?_⟩⟩
    have hlt : j < s.size := by
      have := (List.getElem?_eq_some_iff.1 hj).1
      rw [zbs_length] at this
      exact this
    rw [Nat.zero_add, Lib.bytesWorld_cell _ _ _ _ hlt]
    simp only [zbs, List.getElem?_map, Option.map_eq_some_iff] at hj
    obtain ⟨u, hu, rfl⟩ := hj
    rw [List.getD_eq_getElem?_getD, hu]
    rfl
  · refine ⟨rfl, rfl, rfl, ?_, fun k hk _ => Lib.bytesWorld_at_old _ _ _ _ hk⟩
    rw [Lib.bytesWorld_size]
    omega
/-- A span as bytes. -/
def spEnc (s : Psp) : List Nat := be 4 s.lo.size ++ zbs s.lo ++ (be 4 s.hi.size ++ zbs s.hi)

theorem zafter {w w1 w2 : World} {p : Nat} {a a2 : Option Nat} {bs : List Nat} (m : Moves [] w w1) (h : Wrote w1 p a w2 a2 bs) : Wrote w p a w2 a2 bs := by
  refine ⟨h.1, (m.mono (by simp)).then h.2.1, ?_⟩
  rcases h.2.2 with e | ⟨k, e, hk⟩
  · exact .inl e
  · exact .inr ⟨k, e, Nat.le_trans m.size hk⟩
theorem zne {w : World} {p g : Nat} {a : Option Nat} {bs : List Nat} (h : Wr w p a bs) (hg : w.heap.size ≤ g) : g ∉ p :: a.toList := by
  intro hx
  rcases List.mem_cons.1 hx with e | e
  · obtain ⟨v, hp, _⟩ := h
    have := lt_of_block hp
    omega
  · have := h.lt (Option.mem_toList.1 e)
    omega
theorem zlen (s : ByteArray) (h : s.size ≤ 1000) : ([] ++ be 4 (zbs s).length ++ zbs s).length + 2000000 ≤ 1099511627776 := by
  rw [List.length_append, List.length_append, be_length, zbs_length]
  simp
  omega
theorem zmost (s : ByteArray) (h : s.size ≤ 1000) : (zbs s).length ≤ 1048576 := by rw [zbs_length]; omega

set_option maxRecDepth 100000 in
set_option maxHeartbeats 2000000 in
theorem spWrite_w (lo hi : ByteArray) (p : Nat) (w : World) (h : Wr w p none []) (h1 : lo.size ≤ 1000) (h2 : hi.size ≤ 1000) :
    Calls Try.prog 22 #[.pointer (some ⟨p, 0, none⟩), .agg #[.string lo, .string hi]] w fun e w' => e = .returned (.tuple #[]) ∧ ∃ a', Wrote w p none w' a' (spEnc ⟨lo, hi⟩) := by
  have lp : p < w.heap.size := by obtain ⟨v, hp, _⟩ := h; exact lt_of_block hp
  have hb := heap_alloc_new w (.cells #[.string lo, .string hi] 27)
  have m0 : Moves [] w (w.alloc (.cells #[.string lo, .string hi] 27)) := (Moves.refl _ _).alloc _
  obtain ⟨P, hP⟩ : ∃ P, w.heap.size = P := ⟨_, rfl⟩
  rw [hP] at hb
  have hr0 := h.moves m0 (by simp) (by simp)
  obtain ⟨g1, cap1, w1, hrun1, hB1, m1, hg1⟩ := zbytes_run (w.alloc (.cells #[.string lo, .string hi] 27)) lo
  have hr1 := hr0.moves m1 (by simp) (by simp)
  have hne1 : g1 ∉ p :: (none : Option Nat).toList := by
    have := m0.size
    simp
    omega
  have hl0 : ([] : List Nat).length + 2000000 ≤ 1099511627776 := by rw [List.length_nil]; omega
  have hl1 := zlen lo h1
  have hl2 := zmost lo h1
  have hl3 := zmost hi h2
  have hPp : P ∉ p :: (none : Option Nat).toList := by simp; omega
  go_enter Try.func22, Try.ntmps22
  go_wp2_with fail
  refine (wtext_any p none [] (zbs lo) g1 _ w1 hr1 hl0 hB1 hl2 hne1).mono ?_
  rintro _ w2 ⟨rfl, a2, hw2⟩
  obtain ⟨g2, cap2, w3, hrun2, hB2, m3, hg2⟩ := zbytes_run w2 hi
  have hr3 := hw2.1.moves m3 (by simp) (by simp)
  have hb2 := hw2.2.1.at (m1.at hb (by simp)) hPp
  obtain ⟨c0, c1, _, _⟩ := sp_cells hb2
  have hne2 : g2 ∉ p :: a2.toList := zne hw2.1 hg2
  clear hl0 hrun1 hB1 hr1 hne1 hb hr0
  go_wp2_with fail
  refine (wtext_any p a2 ([] ++ be 4 (zbs lo).length ++ zbs lo) (zbs hi) g2 _ w3 hr3 hl1 hB2 hl3 hne2).mono ?_
  rintro _ w4 ⟨rfl, a4, hw4⟩
  go_wp2_with fail
  go_end0
  refine ⟨rfl, a4, ?_⟩
  have e : spEnc ⟨lo, hi⟩ = [] ++ be 4 (zbs lo).length ++ zbs lo ++ be 4 (zbs hi).length ++ zbs hi := by
    unfold spEnc
    rw [zbs_length, zbs_length]
    simp
  rw [e]
  exact (zafter (m0.then m1) hw2).step (zafter m3 hw4)

theorem ztake {s : ByteArray} {rest : List Nat} (h : s.size ≤ 1000) : val ((be 4 s.size ++ zbs s ++ rest).take 4) = s.size ∧ (be 4 s.size ++ zbs s ++ rest).drop 4 = zbs s ++ rest ∧ 4 ≤ (be 4 s.size ++ zbs s ++ rest).length := by
  obtain ⟨u1, u2, u3⟩ := take_of (bs := be 4 s.size ++ zbs s ++ rest) (hd := be 4 s.size) (rest := zbs s ++ rest) (n := 4) (by simp) (be_length _ _)
  rw [u1, u2]
  exact ⟨val_be (by omega), rfl, u3⟩
set_option maxRecDepth 100000 in
theorem takeEnd_ok (p g : Nat) (s : ByteArray) (rest : List Nat) (w : World) (h : RdIs w p g (be 4 s.size ++ zbs s ++ rest) false) (ho : ∀ b ∈ be 4 s.size ++ zbs s ++ rest, b < 256) (hs : s.size ≤ 16) :
    Calls Try.prog 46 #[.pointer (some ⟨p, 0, none⟩)] w fun e w' => e = .returned (.string s) ∧ RdIs w' p g rest false ∧ Moves [p] w w' := by
  obtain ⟨e1, e2, e3⟩ := ztake (s := s) (rest := rest) (by omega)
  have hok : textOk (be 4 s.size ++ zbs s ++ rest) 16 := by
    unfold textOk
    rw [e1, e2]
    refine ⟨e3, by omega, fun _ => by omega, ?_⟩
    rw [List.length_append, zbs_length]
    omega
  have hR := rtextr_w p g _ 16 w h ho hok
  rw [e1, e2] at hR
  rw [show (zbs s ++ rest).take s.size = zbs s from by rw [← zbs_length s]; simp, show (zbs s ++ rest).drop s.size = rest from by rw [← zbs_length s]; simp] at hR
  have hz := zbs_oct s
  have hk := zbs_back s
  clear h ho e1 e2 e3 hok
  go_enter Try.func46, Try.ntmps46
  go_wp2_with fail
  refine hR.mono ?_
  rintro _ w2 ⟨v, rfl, hO, hr, m, _⟩
  have hrun := run_str hO.isB hz
  rw [hk] at hrun
  go_wp2_with fail
  go_ret
  exact ⟨rfl, hr, m⟩
set_option maxRecDepth 100000 in
theorem takeEnd_fail (p g : Nat) (s : ByteArray) (rest : List Nat) (w : World) (h : RdIs w p g (be 4 s.size ++ zbs s ++ rest) false) (ho : ∀ b ∈ be 4 s.size ++ zbs s ++ rest, b < 256) (hs : 16 < s.size) (hs2 : s.size ≤ 1000) :
    Calls Try.prog 46 #[.pointer (some ⟨p, 0, none⟩)] w fun e w' => e = .panicked (stop p) ∧ (∃ bs, RdIs w' p g bs true) ∧ Moves [p] w w' := by
  obtain ⟨e1, e2, e3⟩ := ztake (s := s) (rest := rest) hs2
  have hok : ¬ textOk (be 4 s.size ++ zbs s ++ rest) 16 := by
    unfold textOk
    rw [e1, e2]
    rintro ⟨_, _, h3, _⟩
    have := h3 (by omega)
    omega
  have hR := rtextr_fail_w p g _ 16 w h ho hok
  clear h ho e1 e2 e3 hok
  go_enter Try.func46, Try.ntmps46
  go_wp2_with fail
  refine hR.mono ?_
  rintro _ w2 ⟨rfl, hr, m⟩
  exact ⟨rfl, rfl, ⟨_, hr⟩, m⟩

theorem spEnc_oct (s : Psp) : ∀ b ∈ spEnc s, b < 256 := by
  unfold spEnc
  intro b hb
  rcases List.mem_append.1 hb with h | h <;> rcases List.mem_append.1 h with h | h
  · exact mem_be h
  · exact zbs_oct _ b h
  · exact mem_be h
  · exact zbs_oct _ b h
theorem spEnc_ne (s : Psp) : spEnc s ≠ [] := by
  intro e
  have := congrArg List.length e
  unfold spEnc at this
  simp [be_length] at this
set_option maxRecDepth 100000 in
set_option maxHeartbeats 2000000 in
theorem spTake_ok (p g : Nat) (lo hi : ByteArray) (w : World) (h : RdIs w p g (spEnc ⟨lo, hi⟩) false) (hR : spR ⟨lo, hi⟩ = true) :
    Calls Try.prog 26 #[.pointer (some ⟨p, 0, none⟩)] w fun e w' => e = .returned (.agg #[.string lo, .string hi]) ∧ RdIs w' p g [] false ∧ Moves [p] w w' := by
  have lg : g < w.heap.size := by obtain ⟨v, _, hv, _⟩ := h; exact hv.lt (spEnc_ne _)
  obtain ⟨r1, r2, _⟩ := spR_parts hR
  have h1 : lo.size ≤ 16 := of_decide_eq_true r1
  have h2 : hi.size ≤ 16 := of_decide_eq_true r2
  have lp : p < w.heap.size := by obtain ⟨v, hp, _⟩ := h; exact lt_of_block hp
  have ho := spEnc_oct ⟨lo, hi⟩
  have ho2 : ∀ b ∈ be 4 hi.size ++ zbs hi ++ [], b < 256 := fun b hb => ho b (by unfold spEnc; simp at hb ⊢; rcases hb with hb | hb <;> simp [hb])
  have hb := heap_alloc_new w (.cells #[.string ⟨#[]⟩, .string ⟨#[]⟩] 27)
  have m0 : Moves [] w (w.alloc (.cells #[.string ⟨#[]⟩, .string ⟨#[]⟩] 27)) := (Moves.refl _ _).alloc _
  have h0 := h.moves m0 (by simp) (by simp)
  have HR : Hid (spR ⟨lo, hi⟩ = true) := hR
  obtain ⟨P, hP⟩ : ∃ P, w.heap.size = P := ⟨_, rfl⟩
  rw [hP] at hb
  unfold spEnc at h0 ho
  dsimp only at h0 ho
  clear r1 r2 hR h
  go_enter Try.func26, Try.ntmps26
  go_wp2_with fail
  refine (takeEnd_ok p g lo (be 4 hi.size ++ zbs hi) _ h0 ho h1).mono ?_
  rintro _ w2 ⟨rfl, hr2, m2⟩
  rw [← List.append_nil (be 4 hi.size ++ zbs hi)] at hr2
  have hb2 := m2.at hb (by simp; omega)
  go_wp2_with fail
  refine (takeEnd_ok p g hi [] _ hr2 ho2 h2).mono ?_
  rintro _ w3 ⟨rfl, hr3, m3⟩
  have hb3 := m3.at hb2 (by simp; omega)
  have hq := heap_alloc_new w3 (.cells #[.string lo, .string hi] 27)
  have mq : Moves [] w3 (w3.alloc (.cells #[.string lo, .string hi] 27)) := (Moves.refl _ _).alloc _
  have hb4 := mq.at hb3 (by simp)
  have hr4 := hr3.moves mq (by simp) (by simp)
  obtain ⟨Q, hQ⟩ : ∃ Q, w3.heap.size = Q := ⟨_, rfl⟩
  rw [hQ] at hq
  have lp3 : P < w3.heap.size := lt_of_block hb3
  go_wp2_with fail
  refine (spRight_w _ _ _).mono ?_
  rintro _ w5 ⟨rfl, m5⟩
  rw [HR.out]
  have hq5 := m5.at hq (by simp)
  have hb5 := m5.at hb4 (by simp)
  have hr5 := hr4.moves m5 (by simp) (by simp)
  obtain ⟨c0, c1, _, _⟩ := sp_cells hq5
  obtain ⟨d0, d1, f0, f1⟩ := sp_cells hb5
  go_wp2_with fail
  try simp only [Exit.inBlock, Exit.then]
  have st := spStored1 (a := .string lo) (b := .string hi) hb5
  have hPp : P ≠ p := by omega
  have gP : g ≠ P := by omega
  refine bodyPost_ret (ret_span rfl _ _ _ _ _ rfl st.1) rfl ⟨rfl, hr5.moves st.2 (by simp; omega) (by simpa using gP), ?_⟩
  have M : Moves [p] w w5 := ((m0.mono (by simp)).then (m2.then m3)).then ((mq.then m5).mono (by simp))
  exact M.trans st.2 (fun x hx => .inr (by simp at hx; omega))

set_option maxRecDepth 100000 in
set_option maxHeartbeats 2000000 in
theorem spTake_fail (p g : Nat) (lo hi : ByteArray) (w : World) (h : RdIs w p g (spEnc ⟨lo, hi⟩) false) (hR : spR ⟨lo, hi⟩ = false) (k1 : lo.size ≤ 1000) (k2 : hi.size ≤ 1000) :
    Calls Try.prog 26 #[.pointer (some ⟨p, 0, none⟩)] w fun e w' => e = .panicked (stop p) ∧ (∃ bs, RdIs w' p g bs true) ∧ Moves [p] w w' := by
  have lp : p < w.heap.size := by obtain ⟨v, hp, _⟩ := h; exact lt_of_block hp
  have ho := spEnc_oct ⟨lo, hi⟩
  have ho2 : ∀ b ∈ be 4 hi.size ++ zbs hi ++ [], b < 256 := fun b hb => ho b (by unfold spEnc; simp at hb ⊢; rcases hb with hb | hb <;> simp [hb])
  have hb := heap_alloc_new w (.cells #[.string ⟨#[]⟩, .string ⟨#[]⟩] 27)
  have m0 : Moves [] w (w.alloc (.cells #[.string ⟨#[]⟩, .string ⟨#[]⟩] 27)) := (Moves.refl _ _).alloc _
  have h0 := h.moves m0 (by simp) (by simp)
  have HR : Hid (spR ⟨lo, hi⟩ = false) := hR
  obtain ⟨P, hP⟩ : ∃ P, w.heap.size = P := ⟨_, rfl⟩
  rw [hP] at hb
  unfold spEnc at h0 ho
  dsimp only at h0 ho
  clear hR h
  go_enter Try.func26, Try.ntmps26
  by_cases h1 : lo.size ≤ 16
  · by_cases h2 : hi.size ≤ 16
    · go_wp2_with fail
      refine (takeEnd_ok p g lo (be 4 hi.size ++ zbs hi) _ h0 ho h1).mono ?_
      rintro _ w2 ⟨rfl, hr2, m2⟩
      rw [← List.append_nil (be 4 hi.size ++ zbs hi)] at hr2
      have hb2 := m2.at hb (by simp; omega)
      go_wp2_with fail
      refine (takeEnd_ok p g hi [] _ hr2 ho2 h2).mono ?_
      rintro _ w3 ⟨rfl, hr3, m3⟩
      have hb3 := m3.at hb2 (by simp; omega)
      have hq := heap_alloc_new w3 (.cells #[.string lo, .string hi] 27)
      have mq : Moves [] w3 (w3.alloc (.cells #[.string lo, .string hi] 27)) := (Moves.refl _ _).alloc _
      have hb4 := mq.at hb3 (by simp)
      have hr4 := hr3.moves mq (by simp) (by simp)
      obtain ⟨Q, hQ⟩ : ∃ Q, w3.heap.size = Q := ⟨_, rfl⟩
      rw [hQ] at hq
      have lp3 : P < w3.heap.size := lt_of_block hb3
      go_wp2_with fail
      refine (spRight_w _ _ _).mono ?_
      rintro _ w5 ⟨rfl, m5⟩
      rw [HR.out]
      have hq5 := m5.at hq (by simp)
      have hb5 := m5.at hb4 (by simp)
      have hr5 := hr4.moves m5 (by simp) (by simp)
      obtain ⟨c0, c1, _, _⟩ := sp_cells hq5
      obtain ⟨d0, d1, f0, f1⟩ := sp_cells hb5
      go_wp2_with fail
      refine (rfail_w p g _ _ hr5).mono ?_
      rintro _ w6 ⟨rfl, hr6, m6⟩
      exact ⟨rfl, rfl, ⟨_, hr6⟩, (((m0.mono (by simp)).then (m2.then m3)).then ((mq.then m5).mono (by simp))).then m6⟩
    · go_wp2_with fail
      refine (takeEnd_ok p g lo (be 4 hi.size ++ zbs hi) _ h0 ho h1).mono ?_
      rintro _ w2 ⟨rfl, hr2, m2⟩
      rw [← List.append_nil (be 4 hi.size ++ zbs hi)] at hr2
      have hb2 := m2.at hb (by simp; omega)
      go_wp2_with fail
      refine (takeEnd_fail p g hi [] _ hr2 ho2 (by omega) k2).mono ?_
      rintro _ w3 ⟨rfl, hr3, m3⟩
      exact ⟨rfl, rfl, hr3, (m0.mono (by simp)).then (m2.then m3)⟩
  · go_wp2_with fail
    refine (takeEnd_fail p g lo (be 4 hi.size ++ zbs hi) _ h0 ho (by omega) k1).mono ?_
    rintro _ w2 ⟨rfl, hr2, m2⟩
    exact ⟨rfl, rfl, hr2, (m0.mono (by simp)).then m2⟩
end Go.Proofs.Ytgeadpmnnjfkkaa
