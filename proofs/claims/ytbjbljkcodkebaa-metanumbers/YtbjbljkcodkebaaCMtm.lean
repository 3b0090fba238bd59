/-
  Package meta: Write of a table that may be; Take of what was written.
-/
import Derived.Test.YtbjbljkcodkebaaCMtk
import Derived.Test.YtbjbljkcodkebaaCSp12
namespace Go.Proofs.Ytbjbljkcodkebaa
open Go.RowKit

def encTb (x : Ptb) : List Nat := spEnc x.sp ++ [x.g.toNat] ++ be 4 x.n.toNat
def encM (xs : List Ptb) : List Nat := be 4 xs.length ++ xs.flatMap encTb
/-- A tablet that may be. -/
structure FitT (x : Ptb) : Prop where
  r : spR x.sp = true
  g0 : 0 ≤ x.g
  g1 : x.g ≤ 255
  n0 : 1 ≤ x.n
  n1 : x.n ≤ 1073741824
theorem encTb_len {x : Ptb} (h : FitT x) : (encTb x).length ≤ 45 := by
  obtain ⟨r1, r2, _⟩ := spR_parts h.r
  have h1 : x.lo.size ≤ 16 := of_decide_eq_true r1
  have h2 : x.hi.size ≤ 16 := of_decide_eq_true r2
  unfold encTb spEnc
  simp only [List.length_append, be_length, zbs_length, List.length_cons, List.length_nil]
  have e1 : x.sp.lo.size ≤ 16 := h1
  have e2 : x.sp.hi.size ≤ 16 := h2
  omega
theorem encTs_len : ∀ (l : List Ptb), (∀ x ∈ l, FitT x) → (l.flatMap encTb).length ≤ l.length * 45
  | [], _ => by simp
  | x :: t, h => by
    have h1 := encTb_len (h x (by simp))
    have h2 := encTs_len t (fun y hy => h y (by simp [hy]))
    rw [List.flatMap_cons, List.length_append, List.length_cons]
    omega
theorem encTs_take {xs : List Ptb} {k : Nat} {x : Ptb} (h : xs[k]? = some x) : (xs.take (k + 1)).flatMap encTb = (xs.take k).flatMap encTb ++ encTb x := by
  rw [List.take_add_one, h]
  simp
theorem encTb_oct {x : Ptb} (h : FitT x) : ∀ b ∈ encTb x, b < 256 := by
  unfold encTb
  intro b hb
  rcases List.mem_append.1 hb with hb | hb
  · rcases List.mem_append.1 hb with hb | hb
    · exact spEnc_oct _ b hb
    · have := h.g0
      have := h.g1
      simp at hb
      omega
  · exact mem_be hb
theorem encM_oct {xs : List Ptb} (h : ∀ x ∈ xs, FitT x) : ∀ b ∈ encM xs, b < 256 := by
  unfold encM
  intro b hb
  rcases List.mem_append.1 hb with hb | hb
  · exact mem_be hb
  · obtain ⟨x, hx, hb⟩ := List.mem_flatMap.1 hb
    exact encTb_oct (h x hx) b hb

set_option maxRecDepth 100000 in
set_option maxHeartbeats 4000000 in
theorem spWriteM_w (lo hi : ByteArray) (p : Nat) (a : Option Nat) (bs : List Nat) (w : World) (h : Wr w p a bs) (hb : bs.length ≤ 1000000000) (h1 : lo.size ≤ 1000) (h2 : hi.size ≤ 1000) :
    Calls Try.prog 64 #[.pointer (some ⟨p, 0, none⟩), .agg #[.string lo, .string hi]] w fun e w' => e = .returned (.tuple #[]) ∧ ∃ a', Wrote w p a w' a' (bs ++ spEnc ⟨lo, hi⟩) := by
  have hbx := heap_alloc_new w (.cells #[.string lo, .string hi] 23)
  have m0 : Moves [] w (w.alloc (.cells #[.string lo, .string hi] 23)) := (Moves.refl _ _).alloc _
  have hPp : w.heap.size ∉ p :: a.toList := zne h (Nat.le_refl _)
  obtain ⟨P, hP⟩ : ∃ P, w.heap.size = P := ⟨_, rfl⟩
  rw [hP] at hbx hPp
  have hr0 := h.moves m0 (by simp) (by simp)
  obtain ⟨g1, cap1, w1, hrun1, hB1, m1, hg1⟩ := zbytes_run (w.alloc (.cells #[.string lo, .string hi] 23)) lo
  have hr1 := hr0.moves m1 (by simp) (by simp)
  have hne1 : g1 ∉ p :: a.toList := zne hr0 hg1
  have hl0 : bs.length + 2000000 ≤ 1099511627776 := by omega
  have l1 : (bs ++ be 4 (zbs lo).length ++ zbs lo).length = bs.length + 4 + lo.size := by rw [List.length_append, List.length_append, be_length, zbs_length]
  have hl1 : (bs ++ be 4 (zbs lo).length ++ zbs lo).length + 2000000 ≤ 1099511627776 := by omega
  have hl2 : (zbs lo).length ≤ 1048576 := by rw [zbs_length]; omega
  have hl3 : (zbs hi).length ≤ 1048576 := by rw [zbs_length]; omega
  have hpe : ∀ w1 : World, (binOp .eql 71 (.pointer (some ⟨p, 0, none⟩)) (.pointer none)).run Try.prog w1 = .ok (.bool false) w1 := by intro w1; kernel_rfl
  go_enter Try.func64, Try.ntmps64
  go_wp2_with fail
  refine (wtext_any p a bs (zbs lo) g1 _ w1 hr1 hl0 hB1 hl2 hne1).mono ?_
  rintro _ w2 ⟨rfl, a2, hw2⟩
  obtain ⟨g2, cap2, w3, hrun2, hB2, m3, hg2⟩ := zbytes_run w2 hi
  have hr3 := hw2.1.moves m3 (by simp) (by simp)
  have hb2 := hw2.2.1.at (m1.at hbx (by simp)) hPp
  obtain ⟨c0, c1, _, _⟩ := sp_cells hb2
  have hne2 : g2 ∉ p :: a2.toList := zne hw2.1 hg2
  clear hl0 hrun1 hB1 hr1 hne1 hbx hr0
  go_wp2_with fail
  refine (wtext_any p a2 (bs ++ be 4 (zbs lo).length ++ zbs lo) (zbs hi) g2 _ w3 hr3 hl1 hB2 hl3 hne2).mono ?_
  rintro _ w4 ⟨rfl, a4, hw4⟩
  go_wp2_with fail
  go_end0
  refine ⟨rfl, a4, ?_⟩
  have e : bs ++ spEnc ⟨lo, hi⟩ = bs ++ be 4 (zbs lo).length ++ zbs lo ++ be 4 (zbs hi).length ++ zbs hi := by
    unfold spEnc
    rw [zbs_length, zbs_length]
    simp
  rw [e]
  exact (zafter (m0.then m1) hw2).step (zafter m3 hw4)

set_option maxRecDepth 100000 in
set_option maxHeartbeats 16000000 in
theorem mtWrite_w (W w : World) (p q : Nat) (xs : List Ptb) (h : MtIs W p xs) (m0 : Moves [] W w) (hw : Wr w q none []) (hq : W.heap.size ≤ q) (hne : xs ≠ []) (hl : xs.length ≤ 16) (hfit : ∀ x ∈ xs, FitT x) :
    Calls Try.prog 36 #[.pointer (some ⟨p, 0, none⟩), .pointer (some ⟨q, 0, none⟩)] w fun e w' => e = .returned (.tuple #[]) ∧ ∃ b', Wrote w q none w' b' (encM xs) := by
  have hpe : ∀ w1 : World, (binOp .eql 28 (.pointer (some ⟨p, 0, none⟩)) (.pointer none)).run Try.prog w1 = .ok (.bool false) w1 := by intro w1; kernel_rfl
  have hqe : ∀ w1 : World, (binOp .eql 71 (.pointer (some ⟨q, 0, none⟩)) (.pointer none)).run Try.prog w1 = .ok (.bool false) w1 := by intro w1; kernel_rfl
  have hlen := mtLen_w w p xs (h.moves0 m0) hne (by omega)
  obtain ⟨n, hn⟩ : ∃ n, xs.length = n := ⟨_, rfl⟩
  rw [hn] at hlen
  have HN : Hid (xs.length = n) := hn
  have hn16 : n ≤ 16 := by omega
  have hn32 : IntKind.u32.wrap (n : Int) = (n : Int) := by rw [wrap_u32]; omega
  have HW : Hid (Wr w q none []) := hw
  have HM : Hid (MtIs W p xs) := h
  clear hn h hw
  go_enter Try.func36, Try.ntmps36
  go_wp2_with fail
  refine hlen.mono ?_
  rintro _ w1 ⟨rfl, m1⟩
  have hnum := wnum_w q none [] n (n : Int) rfl w1 (HW.out.moves m1 (by simp) (by simp)) (by rw [List.length_nil]; omega) (by omega)
  rw [List.nil_append] at hnum
  clear hlen
  go_wp2_with fail
  refine hnum.mono ?_
  rintro _ w2 ⟨rfl, b2, hW2⟩
  have HW2 : Hid (Wrote w q none w2 b2 (be 4 n)) := zafter m1 hW2
  have M2 : Moves [] W w2 := (m0.then m1).trans hW2.2.1 (fun x hx => .inr (by simp at hx; omega))
  have hall := mtAll_w w2 p xs (HM.out.moves0 M2) hne (by omega)
  clear hnum hW2
  go_wp2_with fail
  refine hall.mono ?_
  rintro _ w3 ⟨v3, rfl, hO3, hF3, m3⟩
  obtain ⟨g, hT3, hg3⟩ := hO3.ex hF3
  have hgn : g ∉ q :: b2.toList := zne HW2.out.1 hg3
  obtain ⟨ad, n3, cap, rfl, hn3, hc3, HT3⟩ := hT3.open
  obtain rfl : n = n3 := HN.out.symm.trans hn3.out.symm
  have HW3 : Hid (Wr w3 q b2 (be 4 n)) := HW2.out.1.moves m3 (by simp) (by simp)
  clear hall hO3 hF3 hT3
  go_wp2_with fail
  go_loopw [20] (fun iv wr => ∃ (k : Nat) (b' : Option Nat), k ≤ n ∧ iv = .int .i64 (k : Int) ∧ Wrote w3 q b2 wr b' (be 4 n ++ (xs.take k).flatMap encTb)) (fun iv _ => (n - intOf iv).toNat)
  case atStart => exact ⟨0, b2, Nat.zero_le _, rfl, by simpa using Wrote.refl HW3.out⟩
  case round =>
    obtain ⟨k, b', hk, rfl, hW⟩ := hrel
    have HWr : Hid (Wrote w3 q b2 wr b' (be 4 n ++ (xs.take k).flatMap encTb)) := hW
    clear hW
    by_cases hkn : k < n
    · have hkn' : (k : Int) < (n : Int) := by omega
      obtain ⟨x, hx⟩ : ∃ x, xs[k]? = some x := ⟨_, List.getElem?_eq_getElem (by have := HN.out; omega)⟩
      obtain ⟨off, rfl, z0, z1, z2, z3⟩ := (HT3.out.moves HWr.out.2.1 hgn).at hx
      have hfx := hfit x (List.mem_of_getElem? hx)
      have HET : Hid (be 4 n ++ (xs.take (k + 1)).flatMap encTb = be 4 n ++ (xs.take k).flatMap encTb ++ spEnc ⟨x.lo, x.hi⟩ ++ [x.g.toNat] ++ be 4 x.n.toNat) := by
        unfold Hid
        rw [encTs_take hx]
        unfold encTb
        simp [Ptb.sp]
      have hlen : (be 4 n ++ (xs.take k).flatMap encTb).length ≤ 100000 := by
        have q1 := encTs_len (xs.take k) (fun y hy => hfit y (List.mem_of_mem_take hy))
        have q2 : (xs.take k).length ≤ 16 := by rw [List.length_take]; omega
        have q3 := Nat.mul_le_mul_right 45 q2
        rw [List.length_append, be_length]
        omega
      obtain ⟨BS, hBS⟩ : ∃ BS, be 4 n ++ (xs.take k).flatMap encTb = BS := ⟨_, rfl⟩
      rw [hBS] at hlen HWr HET
      obtain ⟨k1, k2, k3, k4, k5⟩ := hfx
      obtain ⟨s1, s2, _⟩ := spR_parts k1
      have h1 : x.lo.size ≤ 16 := of_decide_eq_true s1
      have h2 : x.hi.size ≤ 16 := of_decide_eq_true s2
      obtain ⟨c, hc⟩ : ∃ c : Nat, x.g = (c : Int) := ⟨x.g.toNat, by omega⟩
      obtain ⟨s, hs⟩ : ∃ s : Nat, x.n = (s : Int) := ⟨x.n.toNat, by omega⟩
      have ec : x.g.toNat = c := by omega
      have es : x.n.toNat = s := by omega
      rw [ec, es] at HET
      rw [hc] at z2 k2 k3
      rw [hs] at z3 k4 k5
      have hu8 : IntKind.u8.wrap (c : Int) = (c : Int) := by rw [wrap_u8]; omega
      have hu32 : IntKind.u32.wrap (s : Int) = (s : Int) := by rw [wrap_u32]; omega
      have ma : Moves [] wr (wr.alloc (.cells #[.string x.lo, .string x.hi, .int .i64 (c : Int), .int .i64 (s : Int)] 25)) := (Moves.refl [] wr).alloc _
      have hbx := heap_alloc_new wr (.cells #[.string x.lo, .string x.hi, .int .i64 (c : Int), .int .i64 (s : Int)] 25)
      obtain ⟨X, hX⟩ : ∃ X, wr.heap.size = X := ⟨_, rfl⟩
      rw [hX] at hbx
      have hXn : X ∉ q :: b'.toList := by rw [← hX]; exact zne HWr.out.1 (Nat.le_refl _)
      have hw3 := HWr.out.1.moves ma (by simp) (by simp)
      have hlsp : (spEnc ⟨x.lo, x.hi⟩).length = 8 + x.lo.size + x.hi.size := by
        unfold spEnc
        simp only [List.length_append, be_length, zbs_length]
        omega
      have l1 : (BS ++ spEnc ⟨x.lo, x.hi⟩).length ≤ 101000 := by rw [List.length_append, hlsp]; omega
      have l2 : (BS ++ spEnc ⟨x.lo, x.hi⟩ ++ [c]).length ≤ 102000 := by rw [List.length_append]; simp only [List.length_cons, List.length_nil]; omega
      have hsw := spWriteM_w x.lo x.hi q b' BS _ hw3 (by omega) (by omega) (by omega)
      obtain ⟨SP, hSP⟩ : ∃ SP, spEnc ⟨x.lo, x.hi⟩ = SP := ⟨_, rfl⟩
      rw [hSP] at hsw l1 l2 HET
      clear hc hs hBS ec es hx hSP hlsp k1 s1 s2
      go_wp2_with fail
      refine hsw.mono ?_
      rintro _ w4 ⟨rfl, b4, hW4⟩
      have hbx4 := hW4.2.1.at hbx hXn
      obtain ⟨d0, d1, d2, d3, _⟩ := four_cells hbx4
      have hXn4 : X ∉ q :: b4.toList := by
        intro hm
        rcases List.mem_cons.1 hm with e | e
        · exact hXn (by simp [e])
        · rcases hW4.2.2 with e2 | ⟨j, e2, hj⟩
          · rw [e2] at e; exact hXn (by simp [Option.mem_toList.1 e])
          · rw [e2] at e; simp at e; simp at hj; omega
      have hby := wbyte_w q b4 (BS ++ SP) c (c : Int) rfl w4 hW4.1 (by omega)
      clear hsw
      go_wp2_with fail
      refine hby.mono ?_
      rintro _ w5 ⟨rfl, b5, hW5⟩
      have hbx5 := hW5.2.1.at hbx4 hXn4
      obtain ⟨f0, f1, f2, f3, _⟩ := four_cells hbx5
      have hnm := wnum_w q b5 (BS ++ SP ++ [c]) s (s : Int) rfl w5 hW5.1 (by omega) (by omega)
      clear hby
      go_wp2_with fail
      refine hnm.mono ?_
      rintro _ w6 ⟨rfl, b6, hW6⟩
      clear hnm
      go_wp2_with fail
      go_roundw
      case rel =>
        refine ⟨k + 1, b6, by omega, by go_num, ?_⟩
        rw [HET.out]
        exact ((HWr.out.step (zafter ma hW4)).step hW5).step hW6
      case measure => simp [intOf]; omega
    · have hkn' : ¬ (k : Int) < (n : Int) := by omega
      have HT : Hid (be 4 n ++ (xs.take k).flatMap encTb = encM xs) := by
        have e : xs.take k = xs := List.take_of_length_le (by have := HN.out; omega)
        have e2 : xs.length = n := HN.out
        unfold Hid encM
        rw [e, e2]
      go_wp2_with fail
      go_end0
      exact ⟨rfl, b', by rw [← HT.out]; exact HW2.out.step (zafter m3 HWr.out)⟩

set_option maxRecDepth 100000 in
set_option maxHeartbeats 2000000 in
theorem spTakeM_w (p g : Nat) (lo hi : ByteArray) (rest : List Nat) (w : World) (h : RdIs w p g (spEnc ⟨lo, hi⟩ ++ rest) false) (ho : ∀ b ∈ spEnc ⟨lo, hi⟩ ++ rest, b < 256) (hR : spR ⟨lo, hi⟩ = true) (lp : p < w.heap.size) (lg : g < w.heap.size) :
    Calls Try.prog 73 #[.pointer (some ⟨p, 0, none⟩)] w fun e w' => e = .returned (.agg #[.string lo, .string hi]) ∧ RdIs w' p g rest false ∧ Moves [p] w w' := by
  obtain ⟨r1, r2, _⟩ := spR_parts hR
  have h1 : lo.size ≤ 16 := of_decide_eq_true r1
  have h2 : hi.size ≤ 16 := of_decide_eq_true r2
  have esp : spEnc ⟨lo, hi⟩ ++ rest = be 4 lo.size ++ zbs lo ++ (be 4 hi.size ++ zbs hi ++ rest) := by unfold spEnc; simp
  rw [esp] at h ho
  have ho2 : ∀ b ∈ be 4 hi.size ++ zbs hi ++ rest, b < 256 := fun b hb => ho b (List.mem_append_right _ hb)
  have hb := heap_alloc_new w (.cells #[.string ⟨#[]⟩, .string ⟨#[]⟩] 23)
  have m0 : Moves [] w (w.alloc (.cells #[.string ⟨#[]⟩, .string ⟨#[]⟩] 23)) := (Moves.refl _ _).alloc _
  have h0 := h.moves m0 (by simp) (by simp)
  have HR : Hid (spR ⟨lo, hi⟩ = true) := hR
  obtain ⟨P, hP⟩ : ∃ P, w.heap.size = P := ⟨_, rfl⟩
  rw [hP] at hb
  clear r1 r2 hR h esp
  go_enter Try.func73, Try.ntmps73
  go_wp2_with fail
  refine (takeEnd_ok p g lo (be 4 hi.size ++ zbs hi ++ rest) _ h0 ho h1).mono ?_
  rintro _ w2 ⟨rfl, hr2, m2⟩
  have hb2 := m2.at hb (by simp; omega)
  go_wp2_with fail
  refine (takeEnd_ok p g hi rest _ hr2 ho2 h2).mono ?_
  rintro _ w3 ⟨rfl, hr3, m3⟩
  have hb3 := m3.at hb2 (by simp; omega)
  have hq := heap_alloc_new w3 (.cells #[.string lo, .string hi] 23)
  have mq : Moves [] w3 (w3.alloc (.cells #[.string lo, .string hi] 23)) := (Moves.refl _ _).alloc _
  have hb4 := mq.at hb3 (by simp)
  have hr4 := hr3.moves mq (by simp) (by simp)
  obtain ⟨Q, hQ⟩ : ∃ Q, w3.heap.size = Q := ⟨_, rfl⟩
  rw [hQ] at hq
  have lp3 : P < w3.heap.size := lt_of_block hb3
  go_wp2_with fail
  refine (spRight_w _ _ _).mono ?_
  rintro _ w5 ⟨rfl, m5⟩
  rw [HR.out]
  have hq5 := m5.at hq (by simp)
  have hb5 := m5.at hb4 (by simp)
  have hr5 := hr4.moves m5 (by simp) (by simp)
  obtain ⟨c0, c1, _, _⟩ := sp_cells hq5
  obtain ⟨d0, d1, f0, f1⟩ := sp_cells hb5
  go_wp2_with fail
  try simp only [Exit.inBlock, Exit.then]
  have st := spStored1 (a := .string lo) (b := .string hi) hb5
  have hPp : P ≠ p := by omega
  have gP : g ≠ P := by omega
  refine bodyPost_ret (ret_span rfl _ _ _ _ _ rfl st.1) rfl ⟨rfl, hr5.moves st.2 (by simp; omega) (by simpa using gP), ?_⟩
  have M : Moves [p] w w5 := ((m0.mono (by simp)).then (m2.then m3)).then ((mq.then m5).mono (by simp))
  exact M.trans st.2 (fun x hx => .inr (by simp at hx; omega))

theorem be4_val {n : Nat} (h : n < 4294967296) : val (be 4 n) = n := val_be (by omega)

/-- A table all of whose lists lie behind B. -/
def MtB (B : Nat) (w : World) (p : Nat) (xs : List Ptb) : Prop := ∃ v, w.heap[p]? = some (.cells #[v] 62 (0, 0)) ∧ MsAt B w v (fours xs)
theorem MtB.is {B : Nat} {w : World} {p : Nat} {xs : List Ptb} (h : MtB B w p xs) : MtIs w p xs := by
  obtain ⟨v, h1, h2⟩ := h
  exact ⟨v, h1, h2.weak (Nat.zero_le _)⟩
theorem MtB.weak {B B' : Nat} {w : World} {p : Nat} {xs : List Ptb} (h : MtB B w p xs) (hb : B' ≤ B) : MtB B' w p xs := by
  obtain ⟨v, h1, h2⟩ := h
  exact ⟨v, h1, h2.weak hb⟩
theorem MtB.moves {B : Nat} {S : List Nat} {w w' : World} {p : Nat} {xs : List Ptb} (h : MtB B w p xs) (m : Moves S w w') (hS : ∀ k ∈ S, k < B) (hp : p ∉ S) : MtB B w' p xs := by
  obtain ⟨v, h1, h2⟩ := h
  exact ⟨v, m.at h1 hp, h2.moves m hS⟩
set_option maxRecDepth 100000 in
set_option maxHeartbeats 1000000 in
theorem mtNewB_yes (w : World) (g : Nat) (v : Value) (xs : List Ptb) (h : TbL w g v xs) (hl : xs.length ≤ 1000) (hm : mayT xs = 0) : Calls Try.prog 7 #[v] w fun e w' => ∃ q, e = .returned (.tuple #[.pointer (some ⟨q, 0, none⟩), .int .i64 0]) ∧ MtB w.heap.size w' q xs ∧ w.heap.size ≤ q ∧ Moves [] w w' := by
  have hne : xs ≠ [] := by
    rintro rfl
    simp [mayT, spCov] at hm
  have hma := mtMayBe_w w g v xs h hl
  rw [hm] at hma
  have hin := fun (w1 : World) (m : Moves [] w w1) => mtInMetas_w w1 g v xs (h.moves m (by simp)) hl hne
  obtain ⟨ad, n, cap, rfl, hn, hc, HL⟩ := h.open
  clear h
  go_enter Try.func7, Try.ntmps7
  go_wp2_with fail
  refine hma.mono ?_
  rintro _ w2 ⟨rfl, m2⟩
  go_wp2_with fail
  refine (hin w2 m2).mono ?_
  rintro _ w3 ⟨v3, rfl, hM, m3⟩
  obtain ⟨ad3, n3, cap3, rfl, hn3, _, HM⟩ := hM.open
  clear hM
  go_wp2_with fail
  go_ret2
  have mA : Moves [] w3 (w3.alloc (.cells #[.slice ad3 n3 cap3] 62)) := (Moves.refl _ _).alloc _
  exact ⟨_, rfl, ⟨_, heap_alloc_new _ _, (HM.out.weak m2.size).moves0 mA⟩, (m2.then m3).size, (m2.then m3).then mA⟩

set_option maxRecDepth 100000 in
set_option maxHeartbeats 16000000 in
theorem mtTake_w (w : World) (r g : Nat) (xs : List Ptb) (h : RdIs w r g (encM xs) false) (hmay : mayT xs = 0) (hl : xs.length ≤ 16) (hfit : ∀ x ∈ xs, FitT x) (hr : r < w.heap.size) (hg : g < w.heap.size) :
    Calls Try.prog 40 #[.pointer (some ⟨r, 0, none⟩)] w fun e w' => ∃ q, e = .returned (.pointer (some ⟨q, 0, none⟩)) ∧ MtB w.heap.size w' q xs ∧ w.heap.size ≤ q ∧ RdIs w' r g [] false ∧ Moves [r] w w' := by
  have hre : ∀ w1 : World, (binOp .eql 77 (.pointer (some ⟨r, 0, none⟩)) (.pointer none)).run Try.prog w1 = .ok (.bool false) w1 := by intro w1; kernel_rfl
  obtain ⟨n, hn⟩ : ∃ n, xs.length = n := ⟨_, rfl⟩
  have HN : Hid (xs.length = n) := hn
  have hn16 : n ≤ 16 := by omega
  have hn16' : ¬ (16 : Int) < (n : Int) := by omega
  have ho := encM_oct hfit
  have hnum := rnum_v r g (encM xs) (be 4 n) (xs.flatMap encTb) n w h (by unfold encM; rw [hn]) (be_length _ _) (be4_val (by omega)) ho
  have ho1 : ∀ b ∈ xs.flatMap encTb, b < 256 := fun b hb => ho b (by unfold encM; exact List.mem_append_right _ hb)
  clear h ho hn
  go_enter Try.func40, Try.ntmps40
  go_wp2_with fail
  refine hnum.mono ?_
  rintro _ w1 ⟨rfl, hr1, m1⟩
  clear hnum
  go_wp2_with fail
  go_loopw [4, 16] (fun vo iv wr => ∃ (k : Nat) (u : Value), k ≤ n ∧ u = vo ∧ iv = .int .u32 (k : Int) ∧ RdIs wr r g ((xs.drop k).flatMap encTb) false ∧ OwnT wr u (xs.take k) ∧ Fresh w u ∧ Moves [r] w wr) (fun _ iv _ => (n - intOf iv).toNat)
  case atStart => exact ⟨0, _, Nat.zero_le _, rfl, rfl, hr1, OwnT.nil _, Fresh.nil _, m1⟩
  case round =>
    obtain ⟨k, u, hk, rfl, rfl, hrd, hO, hF, mr⟩ := hrel
    have HO : Hid (OwnT wr u (xs.take k)) := hO
    have HRD : Hid (RdIs wr r g ((xs.drop k).flatMap encTb) false) := hrd
    have sz := mr.size
    clear hO hrd hr1
    by_cases hkn : k < n
    · have hkn' : (k : Int) < (n : Int) := by omega
      obtain ⟨x, hx⟩ : ∃ x, xs[k]? = some x := ⟨_, List.getElem?_eq_getElem (by have := HN.out; omega)⟩
      have hfx := hfit x (List.mem_of_getElem? hx)
      have hd := drop_at hx
      have eR : (xs.drop k).flatMap encTb = spEnc ⟨x.lo, x.hi⟩ ++ ([x.g.toNat] ++ (be 4 x.n.toNat ++ (xs.drop (k + 1)).flatMap encTb)) := by
        rw [hd, List.flatMap_cons]
        unfold encTb
        simp [Ptb.sp]
      have hoR : ∀ b ∈ spEnc ⟨x.lo, x.hi⟩ ++ ([x.g.toNat] ++ (be 4 x.n.toNat ++ (xs.drop (k + 1)).flatMap encTb)), b < 256 := by
        rw [← eR]
        intro b hb
        obtain ⟨y, hy, hb⟩ := List.mem_flatMap.1 hb
        exact encTb_oct (hfit y (List.mem_of_mem_drop hy)) b hb
      have hrd := HRD.out
      rw [eR] at hrd
      obtain ⟨k1, k2, k3, k4, k5⟩ := hfx
      obtain ⟨c, hc⟩ : ∃ c : Nat, x.g = (c : Int) := ⟨x.g.toNat, by omega⟩
      obtain ⟨s, hs⟩ : ∃ s : Nat, x.n = (s : Int) := ⟨x.n.toNat, by omega⟩
      have ec : x.g.toNat = c := by omega
      have es : x.n.toNat = s := by omega
      rw [ec, es] at hrd hoR
      have hc255 : c ≤ 255 := by omega
      have hs30 : s ≤ 1073741824 := by omega
      have HX : Hid (xs[k]? = some x) := hx
      have HC : Hid (x.g = (c : Int)) := hc
      have HS : Hid (x.n = (s : Int)) := hs
      obtain ⟨RTail, hRTail⟩ : ∃ RTail, (xs.drop (k + 1)).flatMap encTb = RTail := ⟨_, rfl⟩
      rw [hRTail] at hrd hoR
      have HRTail : Hid ((xs.drop (k + 1)).flatMap encTb = RTail) := hRTail
      have ho3 : ∀ b ∈ [c] ++ (be 4 s ++ RTail), b < 256 := fun b hb => hoR b (List.mem_append_right _ hb)
      have ho4 : ∀ b ∈ be 4 s ++ RTail, b < 256 := fun b hb => ho3 b (List.mem_append_right _ hb)
      have hst := spTakeM_w r g x.lo x.hi _ wr hrd hoR k1 (by omega) (by omega)
      have hby := fun w5 (hh : RdIs w5 r g ([c] ++ (be 4 s ++ RTail)) false) => rbyte_v r g _ [c] (be 4 s ++ RTail) c w5 hh rfl rfl (by simp [val]) ho3
      have hnm := fun w5 (hh : RdIs w5 r g (be 4 s ++ RTail) false) => rnum_v r g _ (be 4 s) RTail s w5 hh rfl (be_length _ _) (be4_val (by omega)) ho4
      have hwc : IntKind.i64.wrap (c : Int) = (c : Int) := by rw [IntKind.wrap_i64]; omega
      have hws : IntKind.i64.wrap (s : Int) = (s : Int) := by rw [IntKind.wrap_i64]; omega
      clear hrd hoR ho3 ho4 eR hd hx hc hs ec es hRTail k1 k2 k3 k4 k5
      go_wp2_with fail
      refine hst.mono ?_
      rintro _ w4 ⟨rfl, hr4, m4⟩
      go_wp2_with fail
      refine (hby w4 hr4).mono ?_
      rintro _ w5 ⟨rfl, hr5, m5⟩
      go_wp2_with fail
      refine (hnm w5 hr5).mono ?_
      rintro _ w6 ⟨rfl, hr6, m6⟩
      have m46 : Moves [r] wr w6 := (m4.then m5).then m6
      have mB : Moves [] w6 (w6.alloc (.cells #[.string x.lo, .string x.hi, .int .i64 (c : Int), .int .i64 (s : Int)] 25)) := (Moves.refl _ _).alloc _
      have hO6 : Hid (OwnT (w6.alloc (.cells #[.string x.lo, .string x.hi, .int .i64 (c : Int), .int .i64 (s : Int)] 25)) u (xs.take k)) := HO.out.moves (m46.then (mB.mono (by simp))) (fun j hj => by have := hF j hj; simp; omega)
      have hN : Hid (TbL (w6.alloc (.cells #[.string x.lo, .string x.hi, .int .i64 (c : Int), .int .i64 (s : Int)] 25)) w6.heap.size (.slice (some ⟨w6.heap.size, 0, none⟩) 1 1) [⟨x.lo, x.hi, (c : Int), (s : Int)⟩]) := tb_new w6 ⟨x.lo, x.hi, (c : Int), (s : Int)⟩
      have hbd : Hid ((xs.take k).length + [(⟨x.lo, x.hi, (c : Int), (s : Int)⟩ : Ptb)].length ≤ 1048576) := by
        unfold Hid
        rw [List.length_take]
        simp only [List.length_cons, List.length_nil]
        omega
      clear hst hby hnm
      go_wp2_with (at_builtin; refine tabs_append _ _ rfl _ _ w6.heap.size (xs.take k) [⟨x.lo, x.hi, (c : Int), (s : Int)⟩] rfl rfl rfl hO6.out hN.out hbd.out ?_; intro v' w7 hO7 m7 hla; obtain ⟨ad5, n5, cap5, rfl, hn5⟩ := hO7.open)
      go_roundw
      case rel =>
        have M6 : Moves [r] w (w6.alloc (.cells #[.string x.lo, .string x.hi, .int .i64 (c : Int), .int .i64 (s : Int)] 25)) := (mr.then m46).then (mB.mono (by simp))
        have ex : (⟨x.lo, x.hi, (c : Int), (s : Int)⟩ : Ptb) = x := by rw [← HC.out, ← HS.out]
        refine ⟨k + 1, _, by omega, rfl, by go_num, ?_, ?_, lain_fresh hF M6.size hla, fresh_trans M6 hF m7⟩
        · rw [HRTail.out]
          exact (hr6.moves mB (by simp) (by simp)).moves m7 (fun hm => by have := hF r (Option.mem_toList.1 hm); omega) (fun hm => by have := hF g (Option.mem_toList.1 hm); omega)
        · rw [List.take_add_one, HX.out]
          rw [ex] at hO7
          simpa using hO7
      case measure => simp [intOf]; omega
    · have hkn' : ¬ (k : Int) < (n : Int) := by omega
      have e : xs.take k = xs := List.take_of_length_le (by have := HN.out; omega)
      rw [e] at HO
      have e2 : xs.drop k = [] := List.drop_eq_nil_of_le (by have := HN.out; omega)
      rw [e2] at HRD
      obtain ⟨go, hTo, hgo⟩ := HO.out.ex hF
      have hnew := mtNewB_yes wr go u xs hTo (by omega) hmay
      obtain ⟨ad5, n5, cap5, rfl, hn5⟩ := HO.out.open
      clear hTo e e2
      go_wp2_with fail
      refine hnew.mono ?_
      rintro _ w6 ⟨q, rfl, hM, hq, m6⟩
      go_wp2_with fail
      go_ret
      exact ⟨_, rfl, hM.weak (by omega), by omega, HRD.out.moves m6 (by simp) (by simp), mr.then (m6.mono (by simp))⟩
end Go.Proofs.Ytbjbljkcodkebaa
