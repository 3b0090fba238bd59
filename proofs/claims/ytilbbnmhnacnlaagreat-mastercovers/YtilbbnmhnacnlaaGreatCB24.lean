/- ours -/
import Derived.Test.YtilbbnmhnacnlaaGreatCAm1
import Derived.Test.YtilbbnmhnacnlaaGreatCB19
/-
  span.Write behind anything; cmd's writeAnswer and EncodeAnswer of an answer that may be written.
-/
namespace Go.Proofs.YtilbbnmhnacnlaaGreat
open Go.RowKit

set_option maxRecDepth 100000 in
set_option maxHeartbeats 4000000 in
theorem spWriteF_w (lo hi : ByteArray) (p : Nat) (a : Option Nat) (bs : List Nat) (w : World) (h : Wr w p a bs) (hb : bs.length ≤ 1000000000) (h1 : lo.size ≤ 1000) (h2 : hi.size ≤ 1000) :
    Calls Tryz.prog 183 #[.pointer (some ⟨p, 0, none⟩), .agg #[.string lo, .string hi]] w fun e w' => e = .returned (.tuple #[]) ∧ ∃ a', Wrote w p a w' a' (bs ++ encX lo ++ encX hi) := by
  have hbx := heap_alloc_new w (.cells #[.string lo, .string hi] 37)
  have m0 : Moves [] w (w.alloc (.cells #[.string lo, .string hi] 37)) := (Moves.refl _ _).alloc _
  have hPp : w.heap.size ∉ p :: a.toList := zne h (Nat.le_refl _)
  obtain ⟨P, hP⟩ : ∃ P, w.heap.size = P := ⟨_, rfl⟩
  rw [hP] at hbx hPp
  have hr0 := h.moves m0 (by simp) (by simp)
  obtain ⟨g1, cap1, w1, hrun1, hB1, m1, hg1⟩ := zbytes_run (w.alloc (.cells #[.string lo, .string hi] 37)) lo
  have hr1 := hr0.moves m1 (by simp) (by simp)
  have hne1 : g1 ∉ p :: a.toList := zne hr0 hg1
  have hl0 : bs.length + 2000000 ≤ 1099511627776 := by omega
  have l1 : (bs ++ be 4 (zbs lo).length ++ zbs lo).length = bs.length + 4 + lo.size := by rw [List.length_append, List.length_append, be_length, zbs_length]
  have hl1 : (bs ++ be 4 (zbs lo).length ++ zbs lo).length + 2000000 ≤ 1099511627776 := by omega
  have hl2 : (zbs lo).length ≤ 1048576 := by rw [zbs_length]; omega
  have hl3 : (zbs hi).length ≤ 1048576 := by rw [zbs_length]; omega
  have hpe : ∀ w1 : World, (binOp .eql 208 (.pointer (some ⟨p, 0, none⟩)) (.pointer none)).run Tryz.prog w1 = .ok (.bool false) w1 := by intro w1; kernel_rfl
  go_enter Tryz.func183, Tryz.ntmps183
  go_wp2_with fail
  refine (wtext_any p a bs (zbs lo) g1 _ w1 hr1 hl0 hB1 hl2 hne1).mono ?_
  rintro _ w2 ⟨rfl, a2, hw2⟩
  obtain ⟨g2, cap2, w3, hrun2, hB2, m3, hg2⟩ := zbytes_run w2 hi
  have hr3 := hw2.1.moves m3 (by simp) (by simp)
  have hb2 := hw2.2.1.at (m1.at hbx (by simp)) hPp
  obtain ⟨c0, c1, _, _⟩ := sp_cells hb2
  have hne2 : g2 ∉ p :: a2.toList := zne hw2.1 hg2
  clear hl0 hrun1 hB1 hr1 hne1 hbx hr0
  go_wp2_with fail
  refine (wtext_any p a2 (bs ++ be 4 (zbs lo).length ++ zbs lo) (zbs hi) g2 _ w3 hr3 hl1 hB2 hl3 hne2).mono ?_
  rintro _ w4 ⟨rfl, a4, hw4⟩
  go_wp2_with fail
  go_end0
  refine ⟨rfl, a4, ?_⟩
  have e : bs ++ encX lo ++ encX hi = bs ++ be 4 (zbs lo).length ++ zbs lo ++ be 4 (zbs hi).length ++ zbs hi := by
    unfold encX
    rw [zbs_length, zbs_length]
    simp
  rw [e]
  exact (zafter (m0.then m1) hw2).step (zafter m3 hw4)

theorem sbs_zbs (s : ByteArray) : sbs s = zbs s := rfl

set_option maxRecDepth 100000 in
set_option maxHeartbeats 16000000 in
theorem cwriteA_w (W w : World) (p : Nat) (a : Option Nat) (c : List Value) (A : Pans) (h : AnsC W c A) (hS : WrS W w p a []) (hr : rAns A = true) :
    Calls Tryz.prog 147 #[.pointer (some ⟨p, 0, none⟩), .agg c.toArray] w fun e w' => e = .returned (.tuple #[]) ∧ ∃ a', WrS W w' p a' (encA A) := by
  obtain ⟨ar, nr, cr, sa, ns, cs, gs, rfl, hN, hB, -, hso⟩ := h
  obtain ⟨r0, r1, r2, r3, r4, r5, r6, r7, r8, r9⟩ := rAns_iff.1 hr
  obtain ⟨code, rows, lo, hi, grp, gen, old, to, act, at', st⟩ := A
  dsimp only at *
  rw [wi_iff] at r0 r3 r4 r5 r6 r7
  obtain ⟨sl, sh, _⟩ := spR_parts r2
  have hlo : lo.size ≤ 16 := of_decide_eq_true sl
  have hhi : hi.size ≤ 16 := of_decide_eq_true sh
  have hat : at'.size ≤ 16 := of_decide_eq_true r8
  have hrr : rows.length ≤ 16 ∧ ∀ x ∈ rows, pname x.name = true ∧ pright x.r = true := by
    unfold rRows at r1
    rw [Bool.and_eq_true] at r1
    refine ⟨of_decide_eq_true r1.1, fun x hx => ?_⟩
    have := List.all_eq_true.1 r1.2 x hx
    unfold rRow at this
    rw [Bool.and_eq_true] at this
    exact this
  obtain ⟨hrl, hrx⟩ := hrr
  obtain ⟨code, rfl⟩ : ∃ n : Nat, code = (n : Int) := ⟨code.toNat, by omega⟩
  obtain ⟨grp, rfl⟩ : ∃ n : Nat, grp = (n : Int) := ⟨grp.toNat, by omega⟩
  obtain ⟨gen, rfl⟩ : ∃ n : Nat, gen = (n : Int) := ⟨gen.toNat, by omega⟩
  obtain ⟨old, rfl⟩ : ∃ n : Nat, old = (n : Int) := ⟨old.toNat, by omega⟩
  obtain ⟨to, rfl⟩ : ∃ n : Nat, to = (n : Int) := ⟨to.toNat, by omega⟩
  obtain ⟨act, rfl⟩ : ∃ n : Nat, act = (n : Int) := ⟨act.toNat, by omega⟩
  have u0 : IntKind.u8.wrap (code : Int) = (code : Int) := by rw [wrap_u8]; omega
  have u1 : IntKind.u8.wrap (grp : Int) = (grp : Int) := by rw [wrap_u8]; omega
  have u2 : IntKind.u8.wrap (to : Int) = (to : Int) := by rw [wrap_u8]; omega
  have u3 : IntKind.u8.wrap (act : Int) = (act : Int) := by rw [wrap_u8]; omega
  have u4 : IntKind.u32.wrap (gen : Int) = (gen : Int) := by rw [wrap_u32]; omega
  have u5 : IntKind.u32.wrap (old : Int) = (old : Int) := by rw [wrap_u32]; omega
  obtain ⟨ad', cap', e', hc'⟩ := hN.slice
  simp at e'
  obtain ⟨rfl, hnr, rfl⟩ := e'
  have HNR : Hid (nr = rows.length) := hnr
  have hnr16 : nr ≤ 16 := by omega
  have u6 : IntKind.u8.wrap (nr : Int) = (nr : Int) := by rw [wrap_u8]; omega
  have HN : Hid (NamsAt W (.slice ar nr cr) rows) := hN
  have HB : Hid (IsB W gs (.slice sa ns cs) st) := hB
  have HRX : Hid (∀ x ∈ rows, pname x.name = true ∧ pright x.r = true) := hrx
  have HSL : Hid (st.length ≤ 1048576) := r9
  have ma : Moves [] w (w.alloc (.cells #[.int .i64 (code : Int), .slice ar nr cr, .string lo, .string hi, .int .i64 (grp : Int), .int .i64 (gen : Int), .int .i64 (old : Int), .int .i64 (to : Int), .int .i64 (act : Int), .string at', .slice sa ns cs] 48)) := (Moves.refl [] w).alloc _
  have hbox := heap_alloc_new w (.cells #[.int .i64 (code : Int), .slice ar nr cr, .string lo, .string hi, .int .i64 (grp : Int), .int .i64 (gen : Int), .int .i64 (old : Int), .int .i64 (to : Int), .int .i64 (act : Int), .string at', .slice sa ns cs] 48)
  have hPn : w.heap.size ∉ p :: a.toList := zne hS.wr (Nat.le_refl _)
  obtain ⟨P, hP⟩ : ∃ P, w.heap.size = P := ⟨_, rfl⟩
  rw [hP] at hbox hPn
  have S0 := WrS2.start (hS.after ma)
  obtain ⟨w0, hw0⟩ : ∃ w0, w.alloc (.cells #[.int .i64 (code : Int), .slice ar nr cr, .string lo, .string hi, .int .i64 (grp : Int), .int .i64 (gen : Int), .int .i64 (old : Int), .int .i64 (to : Int), .int .i64 (act : Int), .string at', .slice sa ns cs] 48) = w0 := ⟨_, rfl⟩
  rw [hw0] at S0 hbox ma
  obtain ⟨q0, q1, q2, q3, q4, q5, q6, q7, q8, q9, q10⟩ := eleven_cells hbox
  have hby0 := wbyte_w p a [] code (code : Int) rfl w0 S0.wr (by rw [List.length_nil]; omega)
  rw [List.nil_append] at hby0
  clear hr r1 r2 sl sh r8 hN hB hrx r9 hS hnr
  go_enter Tryz.func147, Tryz.ntmps147
  go_wp2_with fail
  refine hby0.mono ?_
  rintro _ w1 ⟨rfl, a1, hW1⟩
  have S1 := S0.wrote hW1
  obtain ⟨c0, c1, c2, c3, c4, c5, c6, c7, c8, c9, c10⟩ := eleven_cells (S1.t.2.1.at hbox hPn)
  have hby1 := wbyte_w p a1 [code] nr (nr : Int) rfl w1 S1.wr (by rw [List.length_singleton]; omega)
  clear hby0
  go_wp2_with fail
  refine hby1.mono ?_
  rintro _ w2 ⟨rfl, a2, hW2⟩
  have S2 := S1.wrote hW2
  obtain ⟨d0, d1, d2, d3, d4, d5, d6, d7, d8, d9, d10⟩ := eleven_cells (S2.t.2.1.at hbox hPn)
  obtain ⟨E1, hE1⟩ : ∃ E1, [code] ++ [nr] = E1 := ⟨_, rfl⟩
  have hE1l : E1.length = 2 := by rw [← hE1]; rfl
  rw [hE1] at S2
  have HS2 : Hid (WrS2 W w0 a w2 p a2 E1) := S2
  clear hby1 S1 S2 hW1 hW2 q0 q1 q2 q3 q4 q5 q6 q7 q8 q9 q10 c0 c1 c2 c3 c4 c5 c6 c7 c8 c9 c10
  go_wp2_with fail
  go_loopw [20] (fun iv wr => ∃ (k : Nat) (a' : Option Nat), k ≤ nr ∧ iv = .int .i64 (k : Int) ∧ WrS2 W w0 a wr p a' (E1 ++ encNs (rows.take k))) (fun iv _ => (nr - intOf iv).toNat)
  case atStart => exact ⟨0, a2, Nat.zero_le _, rfl, by simpa [encNs] using HS2.out⟩
  case round =>
    obtain ⟨k, a5, hk, rfl, hS5⟩ := hrel
    have hlen : (encNs (rows.take k)).length ≤ 5392 := by
      have h1 := encNs_len (xs := rows.take k) (fun x hx => HRX.out x (List.mem_of_mem_take hx))
      rw [List.length_take] at h1
      omega
    by_cases hlt : k < nr
    · have hk3 : (k : Int) < nr := by omega
      obtain ⟨x, hx⟩ : ∃ x, rows[k]? = some x := ⟨_, List.getElem?_eq_getElem (by have := HNR.out; omega)⟩
      obtain ⟨g5, off5, a6, n6, c6, rfl, y0, y1, hn6, hC6⟩ := HN.out.at hx
      have z0 := hS5.moves.cell y0
      have z1 := hS5.moves.cell y1
      obtain ⟨hxn, hrt⟩ := HRX.out x (List.mem_of_getElem? hx)
      have hask : pasked x.r = x.r := pasked_of hrt
      have hsz := pname_size hxn
      have HR : Hid (RowAt W (.agg #[.slice a6 n6 c6]) x.r) := ⟨_, rfl, hC6⟩
      obtain ⟨D, hD⟩ : ∃ D, E1 ++ encNs (rows.take k) = D := ⟨_, rfl⟩
      have hDl : D.length ≤ 6000 := by rw [← hD, List.length_append]; omega
      obtain ⟨nm, hnm⟩ : ∃ nm, x.name = nm := ⟨_, rfl⟩
      obtain ⟨D2, hD2⟩ : ∃ D2, Hid (D ++ be 4 (zbs nm).length ++ zbs nm = D2) := ⟨_, rfl⟩
      have hD2l : D2.length ≤ 900000 := by rw [← hD2.out, List.length_append, List.length_append, be_length, zbs_length, ← hnm]; omega
      have HD : Hid (E1 ++ encNs (rows.take (k + 1)) = D2 ++ pencR (pasked x.r)) := by
        show E1 ++ encNs (rows.take (k + 1)) = _
        rw [encNs_step hx, ← hD2.out, ← hD, hask, zbs_length]
        unfold encN
        rw [sbs_zbs, hnm]
        simp
      rw [hD] at hS5
      rw [hnm] at z0
      have b1 := heap_alloc_new wr (.cells #[.string nm, .slice a6 n6 c6] 99)
      have mb : Moves [] wr (wr.alloc (.cells #[.string nm, .slice a6 n6 c6] 99)) := (Moves.refl [] wr).alloc _
      have hS6 := hS5.after mb
      have hXn : wr.heap.size ∉ p :: a5.toList := zne hS5.wr (Nat.le_refl _)
      obtain ⟨X, hX⟩ : ∃ X, wr.heap.size = X := ⟨_, rfl⟩
      rw [hX] at b1 hXn
      obtain ⟨g7, cap7, w7, hrun, hB7, m7, hg7⟩ := zbytes_run (wr.alloc (.cells #[.string nm, .slice a6 n6 c6] 99)) nm
      have hS7 := hS6.after m7
      have b7 := m7.at b1 (by simp)
      have htx := wtext_any p a5 D (zbs nm) g7 _ w7 hS7.wr (by omega) hB7 (by rw [zbs_length, ← hnm]; omega) (zne hS6.wr hg7)
      clear hC6 y0 y1 hx hxn hrt hask hD hn6 hnm
      go_wp2_with fail
      refine htx.mono ?_
      rintro _ w8 ⟨rfl, a8, hW8⟩
      rw [hD2.out] at hW8
      have hS8 := hS7.wrote hW8
      obtain ⟨e0, e1⟩ := pair_cells (hW8.2.1.at b7 hXn)
      have hrw := rowWrite_f W w8 p a8 D2 _ x.r HR.out hS8.s hD2l
      clear htx
      go_wp2_with fail
      refine hrw.mono ?_
      rintro _ w9 ⟨rfl, a9, hS9s, hS9t⟩
      have hS9 := hS8.wrote hS9t
      clear hrw
      go_wp2_with fail
      go_roundw
      case rel => exact ⟨k + 1, a9, by omega, by go_num, by rw [HD.out]; exact hS9⟩
      case measure => simp [intOf]; omega
    · have hk3 : ¬ (k : Int) < nr := by omega
      have HT : Hid (rows.take k = rows) := List.take_of_length_le (by have := HNR.out; omega)
      rw [HT.out] at hS5 hlen
      obtain ⟨E2, hE2⟩ : ∃ E2, E1 ++ encNs rows = E2 := ⟨_, rfl⟩
      have hE2l : E2.length ≤ 6000 := by rw [← hE2, List.length_append]; omega
      rw [hE2] at hS5
      obtain ⟨f0, f1, f2, f3, f4, f5, f6, f7, f8, f9, f10⟩ := eleven_cells (hS5.t.2.1.at hbox hPn)
      have hsp := spWriteF_w lo hi p a5 E2 wr hS5.wr (by omega) (by omega) (by omega)
      clear d0 d1 d2 d3 d4 d5 d6 d7 d8 d9 d10 HS2
      go_wp2_with fail
      refine hsp.mono ?_
      rintro _ w6 ⟨rfl, a6, hW6⟩
      obtain ⟨E3, hE3⟩ : ∃ E3, E2 ++ encX lo ++ encX hi = E3 := ⟨_, rfl⟩
      have hE3l : E3.length ≤ 7000 := by rw [← hE3]; unfold encX; simp only [List.length_append, be_length, zbs_length]; omega
      rw [hE3] at hW6
      have S6 := hS5.wrote hW6
      obtain ⟨i0, i1, i2, i3, i4, i5, i6, i7, i8, i9, i10⟩ := eleven_cells (S6.t.2.1.at hbox hPn)
      have hb7 := wbyte_w p a6 E3 grp (grp : Int) rfl w6 S6.wr (by omega)
      clear hsp hS5 hW6 f0 f1 f2 f3 f4 f5 f6 f7 f8 f9 f10
      go_wp2_with fail
      refine hb7.mono ?_
      rintro _ w7 ⟨rfl, a7, hW7⟩
      have S7 := S6.wrote hW7
      obtain ⟨j0, j1, j2, j3, j4, j5, j6, j7, j8, j9, j10⟩ := eleven_cells (S7.t.2.1.at hbox hPn)
      have l7 : (E3 ++ [grp]).length ≤ 7001 := by rw [List.length_append, List.length_singleton]; omega
      have hb8 := wbyte_w p a7 (E3 ++ [grp]) to (to : Int) rfl w7 S7.wr (by omega)
      clear hb7 S6 hW7 i0 i1 i2 i3 i4 i5 i6 i7 i8 i9 i10
      go_wp2_with fail
      refine hb8.mono ?_
      rintro _ w8 ⟨rfl, a8, hW8⟩
      have S8 := S7.wrote hW8
      obtain ⟨i0, i1, i2, i3, i4, i5, i6, i7, i8, i9, i10⟩ := eleven_cells (S8.t.2.1.at hbox hPn)
      have l8 : (E3 ++ [grp] ++ [to]).length ≤ 7002 := by rw [List.length_append, List.length_singleton]; omega
      have hb9 := wbyte_w p a8 (E3 ++ [grp] ++ [to]) act (act : Int) rfl w8 S8.wr (by omega)
      clear hb8 S7 hW8 j0 j1 j2 j3 j4 j5 j6 j7 j8 j9 j10
      go_wp2_with fail
      refine hb9.mono ?_
      rintro _ w9 ⟨rfl, a9, hW9⟩
      have S9 := S8.wrote hW9
      obtain ⟨j0, j1, j2, j3, j4, j5, j6, j7, j8, j9, j10⟩ := eleven_cells (S9.t.2.1.at hbox hPn)
      obtain ⟨E4, hE4⟩ : ∃ E4, E3 ++ [grp] ++ [to] ++ [act] = E4 := ⟨_, rfl⟩
      have l9 : E4.length ≤ 7003 := by rw [← hE4, List.length_append, List.length_singleton]; omega
      rw [hE4] at S9
      have hb10 := wnum_w p a9 E4 gen (gen : Int) rfl w9 S9.wr (by omega) (by omega)
      clear hb9 S8 hW9 i0 i1 i2 i3 i4 i5 i6 i7 i8 i9 i10
      go_wp2_with fail
      refine hb10.mono ?_
      rintro _ w10 ⟨rfl, a10, hW10⟩
      have S10 := S9.wrote hW10
      obtain ⟨i0, i1, i2, i3, i4, i5, i6, i7, i8, i9, i10⟩ := eleven_cells (S10.t.2.1.at hbox hPn)
      have l10 : (E4 ++ be 4 gen).length ≤ 7007 := by rw [List.length_append, be_length]; omega
      have hb11 := wnum_w p a10 (E4 ++ be 4 gen) old (old : Int) rfl w10 S10.wr (by omega) (by omega)
      clear hb10 S9 hW10 j0 j1 j2 j3 j4 j5 j6 j7 j8 j9 j10
      go_wp2_with fail
      refine hb11.mono ?_
      rintro _ w11 ⟨rfl, a11, hW11⟩
      have S11 := S10.wrote hW11
      obtain ⟨j0, j1, j2, j3, j4, j5, j6, j7, j8, j9, j10⟩ := eleven_cells (S11.t.2.1.at hbox hPn)
      obtain ⟨E5, hE5⟩ : ∃ E5, E4 ++ be 4 gen ++ be 4 old = E5 := ⟨_, rfl⟩
      have l11 : E5.length ≤ 7011 := by rw [← hE5, List.length_append, be_length]; omega
      rw [hE5] at S11
      obtain ⟨g12, cap12, w12, hrun12, hB12, m12, hg12⟩ := zbytes_run w11 at'
      have S12 := S11.after m12
      have htx := wtext_any p a11 E5 (zbs at') g12 _ w12 S12.wr (by omega) hB12 (by rw [zbs_length]; omega) (zne S11.wr hg12)
      clear hb11 S10 hW11 i0 i1 i2 i3 i4 i5 i6 i7 i8 i9 i10
      go_wp2_with fail
      refine htx.mono ?_
      rintro _ w13 ⟨rfl, a13, hW13⟩
      have S13 := S12.wrote hW13
      obtain ⟨i0, i1, i2, i3, i4, i5, i6, i7, i8, i9, i10⟩ := eleven_cells (S13.t.2.1.at hbox hPn)
      obtain ⟨E6, hE6⟩ : ∃ E6, E5 ++ be 4 (zbs at').length ++ zbs at' = E6 := ⟨_, rfl⟩
      have l13 : E6.length ≤ 8000 := by rw [← hE6, List.length_append, List.length_append, be_length, zbs_length]; omega
      rw [hE6] at S13
      have hgs : ∃ g', g' ∉ p :: a13.toList ∧ IsB w13 g' (.slice sa ns cs) st := by
        rcases Nat.lt_or_ge gs W.heap.size with hg | hg
        · exact ⟨gs, S13.s.past hg, HB.out.moves S13.moves (by simp)⟩
        · obtain ⟨x1, x2, x3, e1, e2, e3, e4, e5⟩ := HB.out
          rcases e5 with e5 | ⟨off, e5, e6⟩
          · subst e5
            refine ⟨w13.heap.size, zne S13.wr (Nat.le_refl _), x1, x2, x3, e1, e2, e3, e4, .inl rfl⟩
          · cases st with
            | nil => exact ⟨w13.heap.size, zne S13.wr (Nat.le_refl _), x1, x2, x3, e1, e2, e3, e4, .inl rfl⟩
            | cons b l =>
              have := lt_of_cell (e6 0 b rfl)
              simp at this
              omega
      obtain ⟨g', hg', hB'⟩ := hgs
      have htx2 := wtext_any p a13 E6 st g' _ w13 S13.wr (by omega) hB' HSL.out hg'
      clear htx S11 S12 hW13 j0 j1 j2 j3 j4 j5 j6 j7 j8 j9 j10
      go_wp2_with fail
      refine htx2.mono ?_
      rintro _ w14 ⟨rfl, a14, hW14⟩
      have S14 := S13.wrote hW14
      have HFIN : Hid (encA ⟨(code : Int), rows, lo, hi, (grp : Int), (gen : Int), (old : Int), (to : Int), (act : Int), at', st⟩ = E6 ++ be 4 st.length ++ st) := by
        unfold Hid encA
        rw [← hE6, ← hE5, ← hE4, ← hE3, ← hE2, ← hE1]
        have := HNR.out
        simp [encX, zbs_length, this]
      clear htx2 hW14
      go_wp2_with fail
      go_end0
      exact ⟨rfl, a14, by rw [HFIN.out]; exact S14.s⟩
end Go.Proofs.YtilbbnmhnacnlaaGreat
/-
  cmd's EncodeAnswer of any answer; takeName, span.Take, takeAnswer of any bytes.
-/
namespace Go.Proofs.YtilbbnmhnacnlaaGreat
open Go.RowKit

set_option maxRecDepth 100000 in
set_option maxHeartbeats 8000000 in
theorem cencA_w (W w : World) (c : List Value) (A : Pans) (h : AnsC W c A) (m : Moves [] W w) :
    Calls Tryz.prog 107 #[.agg c.toArray] w fun e w' => ∃ v', e = .returned (.tuple #[v', .int .i64 (if rAns A then 0 else 1)]) ∧ Own w' v' (if rAns A then encA A else []) ∧ Moves [] w w' := by
  have HA : Hid (AnsC W c A) := h
  obtain ⟨ar, nr, cr, sa, ns, cs, gs, rfl, -, -, -, -⟩ := h
  have hlenA : rAns A = true → (encA A).length ≤ 1100000 := fun hr => by
    obtain ⟨r0, r1, r2, r3, r4, r5, r6, r7, r8, r9⟩ := rAns_iff.1 hr
    obtain ⟨sl, sh, _⟩ := spR_parts r2
    have hlo : A.lo.size ≤ 16 := of_decide_eq_true sl
    have hhi : A.hi.size ≤ 16 := of_decide_eq_true sh
    have hat : A.at'.size ≤ 16 := of_decide_eq_true r8
    unfold rRows at r1
    rw [Bool.and_eq_true] at r1
    have q1 : A.rows.length ≤ 16 := of_decide_eq_true r1.1
    have q2 := encNs_len (xs := A.rows) (fun x hx => by
      have := List.all_eq_true.1 r1.2 x hx
      unfold rRow at this
      rw [Bool.and_eq_true] at this
      exact this)
    unfold encA encX
    simp only [List.length_append, List.length_singleton, be_length, zbs_length]
    omega
  have ma : Moves [] w (w.alloc (.cells #[.int .i64 A.code, .slice ar nr cr, .string A.lo, .string A.hi, .int .i64 A.grp, .int .i64 A.gen, .int .i64 A.old, .int .i64 A.to, .int .i64 A.act, .string A.at', .slice sa ns cs] 48)) := (Moves.refl [] w).alloc _
  have hbox := heap_alloc_new w (.cells #[.int .i64 A.code, .slice ar nr cr, .string A.lo, .string A.hi, .int .i64 A.grp, .int .i64 A.gen, .int .i64 A.old, .int .i64 A.to, .int .i64 A.act, .string A.at', .slice sa ns cs] 48)
  have hright := crightA_w W _ _ A HA.out (m.then ma)
  obtain ⟨code, rows, lo, hi, grp, gen, old, to, act, at', st⟩ := A
  dsimp only at hright hbox ma
  obtain ⟨P, hP⟩ : ∃ P, w.heap.size = P := ⟨_, rfl⟩
  rw [hP] at hbox
  cases hr : rAns ⟨code, rows, lo, hi, grp, gen, old, to, act, at', st⟩ with
  | false =>
    rw [hr] at hright
    go_enter Tryz.func107, Tryz.ntmps107
    go_wp2_with fail
    refine hright.mono ?_
    rintro _ w2 ⟨rfl, m2⟩
    go_wp2_with fail
    go_ret2
    exact ⟨_, rfl, Own.nil _, ma.then m2⟩
  | true =>
    rw [hr] at hright
    have hlA := hlenA hr
    go_enter Tryz.func107, Tryz.ntmps107
    go_wp2_with fail
    refine hright.mono ?_
    rintro _ w2 ⟨rfl, m2⟩
    go_wp2_with fail
    refine (new_w w2).mono ?_
    rintro _ w3 ⟨rfl, hW3, m3⟩
    have sz := ((m.then ma).then m2).size
    obtain ⟨q, hq⟩ : ∃ q, w2.heap.size = q := ⟨_, rfl⟩
    rw [hq] at hW3 ⊢
    have hS3 : WrS w2 w3 q none [] := ⟨hW3, m3, by omega, by simp⟩
    have hwr := cwriteA_w w2 w3 q none _ _ (HA.out.moves ((m.then ma).then m2)) hS3 hr
    obtain ⟨k0, k1, k2, k3, k4, k5, k6, k7, k8, k9, k10⟩ := eleven_cells ((m2.then m3).at hbox (by simp))
    go_wp2_with fail
    refine hwr.mono ?_
    rintro _ w4 ⟨rfl, a4, hS4⟩
    have hdn := done_w q a4 _ w4 hS4.wr (by omega)
    clear hwr
    go_wp2_with fail
    refine hdn.mono ?_
    rintro _ w5 ⟨v5, rfl, hO5, m5, f5⟩
    clear hdn
    have M45 : Moves [] w w4 := (ma.then m2).then hS4.moves
    go_wp2_with fail
    go_ret2
    exact ⟨_, rfl, hO5, M45.then m5⟩
theorem cname_w (N r g : Nat) (bs : List Nat) (w : World) (h : RdIs w r g bs false) (ho : OctN N bs) :
    Calls Tryz.prog 136 #[.pointer (some ⟨r, 0, none⟩)] w fun e w' => match dText 16 bs with
      | some (tx, rest) => e = .returned (.string (strOf tx)) ∧ RdIs w' r g rest false ∧ Moves [r] w w'
      | none => e = .panicked (stop r) ∧ RdIs w' r g bs true ∧ Moves [r] w w' := by
  cases hd : dText 16 bs with
  | some pr =>
    obtain ⟨tx, rest⟩ := pr
    obtain ⟨h1, h2, h3⟩ := dText_yes hd
    have hR := rtextr_w r g bs 16 w h ho.2 h1
    rw [h2, h3] at hR
    have hz := (dText_text hd ho).1
    clear h1 h2 h3 hd
    dsimp only
    obtain ⟨z, hzz⟩ : ∃ z, strOf tx = z := ⟨_, rfl⟩
    rw [hzz]
    go_enter Tryz.func136, Tryz.ntmps136
    go_wp2_with fail
    refine hR.mono ?_
    rintro _ w2 ⟨v, rfl, hO, hr, m, _⟩
    have hrun := run_str hO.isB hz
    rw [hzz] at hrun
    go_wp2_with fail
    go_ret
    exact ⟨rfl, hr, m⟩
  | none =>
    have hR := rtextr_fail_w r g bs 16 w h ho.2 (dText_no hd)
    go_enter Tryz.func136, Tryz.ntmps136
    go_wp2_with fail
    refine hR.mono ?_
    rintro _ w2 ⟨rfl, hr, m⟩
    exact ⟨rfl, rfl, hr, m⟩
theorem stakeEnd_w (N r g : Nat) (bs : List Nat) (w : World) (h : RdIs w r g bs false) (ho : OctN N bs) :
    Calls Tryz.prog 171 #[.pointer (some ⟨r, 0, none⟩)] w fun e w' => match dText 16 bs with
      | some (tx, rest) => e = .returned (.string (strOf tx)) ∧ RdIs w' r g rest false ∧ Moves [r] w w'
      | none => e = .panicked (stop r) ∧ RdIs w' r g bs true ∧ Moves [r] w w' := by
  cases hd : dText 16 bs with
  | some pr =>
    obtain ⟨tx, rest⟩ := pr
    obtain ⟨h1, h2, h3⟩ := dText_yes hd
    have hR := rtextr_w r g bs 16 w h ho.2 h1
    rw [h2, h3] at hR
    have hz := (dText_text hd ho).1
    clear h1 h2 h3 hd
    dsimp only
    obtain ⟨z, hzz⟩ : ∃ z, strOf tx = z := ⟨_, rfl⟩
    rw [hzz]
    go_enter Tryz.func171, Tryz.ntmps171
    go_wp2_with fail
    refine hR.mono ?_
    rintro _ w2 ⟨v, rfl, hO, hr, m, _⟩
    have hrun := run_str hO.isB hz
    rw [hzz] at hrun
    go_wp2_with fail
    go_ret
    exact ⟨rfl, hr, m⟩
  | none =>
    have hR := rtextr_fail_w r g bs 16 w h ho.2 (dText_no hd)
    go_enter Tryz.func171, Tryz.ntmps171
    go_wp2_with fail
    refine hR.mono ?_
    rintro _ w2 ⟨rfl, hr, m⟩
    exact ⟨rfl, rfl, hr, m⟩

def TookS (w0 : World) (r g : Nat) (o : Option (Psp × List Nat)) (e : Ending) (w' : World) : Prop := match o with
  | some (s, rest) => e = .returned (.agg #[.string s.lo, .string s.hi]) ∧ RdIs w' r g rest false ∧ Moves [r] w0 w'
  | none => e = .panicked (stop r) ∧ (∃ bs', RdIs w' r g bs' true) ∧ Moves [r] w0 w'

set_option maxRecDepth 100000 in
set_option maxHeartbeats 4000000 in
theorem spTakeF_w (N r g : Nat) (bs : List Nat) (w : World) (h : RdIs w r g bs false) (ho : OctN N bs) (hg : g < w.heap.size) :
    Calls Tryz.prog 138 #[.pointer (some ⟨r, 0, none⟩)] w fun e w' => TookS w r g (dSpan bs) e w' := by
  have lp : r < w.heap.size := h.ltp
  have hb := heap_alloc_new w (.cells #[.string ⟨#[]⟩, .string ⟨#[]⟩] 37)
  have m0 : Moves [] w (w.alloc (.cells #[.string ⟨#[]⟩, .string ⟨#[]⟩] 37)) := (Moves.refl _ _).alloc _
  have h0 := h.moves m0 (by simp) (by simp)
  obtain ⟨P, hP⟩ : ∃ P, w.heap.size = P := ⟨_, rfl⟩
  rw [hP] at hb
  have hpe : ∀ w1 : World, (binOp .eql 176 (.pointer (some ⟨r, 0, none⟩)) (.pointer none)).run Tryz.prog w1 = .ok (.bool false) w1 := by intro w1; kernel_rfl
  have hE := stakeEnd_w N r g bs _ h0 ho
  cases h1 : dText 16 bs with
  | none =>
    rw [h1] at hE
    have e0 : dSpan bs = none := pbn_none h1
    rw [e0]
    go_enter Tryz.func138, Tryz.ntmps138
    go_wp2_with fail
    refine hE.mono ?_
    rintro _ w2 ⟨rfl, hr2, m2⟩
    exact ⟨rfl, rfl, ⟨_, hr2⟩, (m0.mono (by simp)).then m2⟩
  | some pr =>
    obtain ⟨lo, b1⟩ := pr
    rw [h1] at hE
    have ho1 := dText_rest h1 ho
    have HD1 : Hid (dSpan bs = _) := pbn_some h1
    cases h2 : dText 16 b1 with
    | none =>
      have e0 : dSpan bs = none := by rw [HD1.out]; exact pbn_none h2
      rw [e0]
      clear HD1 e0
      go_enter Tryz.func138, Tryz.ntmps138
      go_wp2_with fail
      refine hE.mono ?_
      rintro _ w2 ⟨rfl, hr2, m2⟩
      have hE2 := stakeEnd_w N r g b1 w2 hr2 ho1
      rw [h2] at hE2
      go_wp2_with fail
      refine hE2.mono ?_
      rintro _ w3 ⟨rfl, hr3, m3⟩
      exact ⟨rfl, rfl, ⟨_, hr3⟩, ((m0.mono (by simp)).then m2).then m3⟩
    | some pr2 =>
      obtain ⟨hi, b2⟩ := pr2
      have HD2 : dSpan bs = if spR ⟨strOf lo, strOf hi⟩ then some (⟨strOf lo, strOf hi⟩, b2) else none := by rw [HD1.out]; exact pbn_some h2
      rw [HD2]
      clear HD1 HD2
      obtain ⟨zl, hzl⟩ : ∃ zl, strOf lo = zl := ⟨_, rfl⟩
      obtain ⟨zh, hzh⟩ : ∃ zh, strOf hi = zh := ⟨_, rfl⟩
      dsimp only at hE
      rw [hzl] at hE ⊢
      rw [hzh]
      cases hR : spR ⟨zl, zh⟩ with
      | false =>
        rw [if_neg (by simp)]
        go_enter Tryz.func138, Tryz.ntmps138
        go_wp2_with fail
        refine hE.mono ?_
        rintro _ w2 ⟨rfl, hr2, m2⟩
        have hE2 := stakeEnd_w N r g b1 w2 hr2 ho1
        rw [h2] at hE2
        dsimp only at hE2
        rw [hzh] at hE2
        have hb2 := m2.at hb (by simp; omega)
        go_wp2_with fail
        refine hE2.mono ?_
        rintro _ w3 ⟨rfl, hr3, m3⟩
        have hb3 := m3.at hb2 (by simp; omega)
        have hq := heap_alloc_new w3 (.cells #[.string zl, .string zh] 37)
        have mq : Moves [] w3 (w3.alloc (.cells #[.string zl, .string zh] 37)) := (Moves.refl _ _).alloc _
        have hr4 := hr3.moves mq (by simp) (by simp)
        obtain ⟨Q, hQ⟩ : ∃ Q, w3.heap.size = Q := ⟨_, rfl⟩
        rw [hQ] at hq
        go_wp2_with fail
        refine (spRight_w _ _ _).mono ?_
        rintro _ w5 ⟨rfl, m5⟩
        rw [hR]
        have hr5 := hr4.moves m5 (by simp) (by simp)
        obtain ⟨c0, c1, _, _⟩ := sp_cells (m5.at hq (by simp))
        go_wp2_with fail
        refine (rfail_w r g _ _ hr5).mono ?_
        rintro _ w6 ⟨rfl, hr6, m6⟩
        exact ⟨rfl, rfl, ⟨_, hr6⟩, (((m0.mono (by simp)).then (m2.then m3)).then ((mq.then m5).mono (by simp))).then m6⟩
      | true =>
        rw [if_pos rfl]
        go_enter Tryz.func138, Tryz.ntmps138
        go_wp2_with fail
        refine hE.mono ?_
        rintro _ w2 ⟨rfl, hr2, m2⟩
        have hE2 := stakeEnd_w N r g b1 w2 hr2 ho1
        rw [h2] at hE2
        dsimp only at hE2
        rw [hzh] at hE2
        have hb2 := m2.at hb (by simp; omega)
        go_wp2_with fail
        refine hE2.mono ?_
        rintro _ w3 ⟨rfl, hr3, m3⟩
        have hb3 := m3.at hb2 (by simp; omega)
        have hq := heap_alloc_new w3 (.cells #[.string zl, .string zh] 37)
        have mq : Moves [] w3 (w3.alloc (.cells #[.string zl, .string zh] 37)) := (Moves.refl _ _).alloc _
        have hb4 := mq.at hb3 (by simp)
        have hr4 := hr3.moves mq (by simp) (by simp)
        obtain ⟨Q, hQ⟩ : ∃ Q, w3.heap.size = Q := ⟨_, rfl⟩
        rw [hQ] at hq
        have lp3 : P < w3.heap.size := lt_of_block hb3
        go_wp2_with fail
        refine (spRight_w _ _ _).mono ?_
        rintro _ w5 ⟨rfl, m5⟩
        rw [hR]
        have hb5 := m5.at hb4 (by simp)
        have hr5 := hr4.moves m5 (by simp) (by simp)
        obtain ⟨c0, c1, _, _⟩ := sp_cells (m5.at hq (by simp))
        obtain ⟨d0, d1, f0, f1⟩ := sp_cells hb5
        go_wp2_with fail
        try simp only [Exit.inBlock, Exit.then]
        have st := spStored1 (a := .string zl) (b := .string zh) hb5
        refine bodyPost_ret (ret_span rfl _ _ _ _ _ rfl st.1) rfl ⟨rfl, hr5.moves st.2 (by simp; omega) (by simp; omega), ?_⟩
        have M : Moves [r] w w5 := ((m0.mono (by simp)).then (m2.then m3)).then ((mq.then m5).mono (by simp))
        exact M.trans st.2 (fun x hx => .inr (by simp at hx; omega))
end Go.Proofs.YtilbbnmhnacnlaaGreat
