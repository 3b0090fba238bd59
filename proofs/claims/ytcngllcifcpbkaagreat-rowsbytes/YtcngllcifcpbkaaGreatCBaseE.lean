/- ours -/
import Derived.Test.YtcngllcifcpbkaaGreatCBaseD
import Derived.BigQuiet
/-
 What the document's own reading does: each method takes the bytes that the document says and returns what they stand for, or marks itself as bad; no other memory is written.
-/
namespace Go.Proofs.YtcngllcifcpbkaaGreat
open Go.RowKit

def RfIs (w : World) (q g : Nat) (bs : List Nat) (bad : Bool) : Prop :=
 ∃ v, w.heap[q]? = some (.cells #[v, .bool bad] 93 (0, 0)) ∧ IsB w g v bs ∧ g ≠ q

theorem two_cells {w : World} {p : Nat} {a b : Value} {t : TypeId} (h : w.heap[p]? = some (.cells #[a, b] t (0, 0))) :
  w.cell? ⟨p, 0, none⟩ = some a ∧ w.cell? ⟨p, 1, none⟩ = some b ∧ w.frozen? ⟨p, 0, none⟩ = false ∧ w.frozen? ⟨p, 1, none⟩ = false := by
 simp [World.cell?, World.frozen?, h]

theorem RfIs.moves {w w' : World} {p g : Nat} {bs : List Nat} {fl : Bool} {S : List Nat} (h : RfIs w p g bs fl) (m : Moves S w w') (hp : p ∉ S) (hg : g ∉ S) : RfIs w' p g bs fl := by
 obtain ⟨v, h1, h2, h3⟩ := h
 exact ⟨v, m.at h1 hp, h2.moves m hg, h3⟩

theorem rf_set0 {w : World} {p g : Nat} {v u : Value} {fl : Bool} {bs : List Nat} (h : w.heap[p]? = some (.cells #[v, .bool fl] 93 (0, 0))) (hu : IsB w g u bs) (hg : g ≠ p) : RfIs (w.setCell ⟨p, 0, none⟩ u) p g bs fl :=
 ⟨u, heap_set h u, hu.moves (moves_set w p 0 u) (by simpa using hg), hg⟩

theorem isB_nil (w : World) (g : Nat) : IsB w g (.slice none 0 0) [] := ⟨_, _, _, rfl, rfl, Nat.le_refl _, fun _ => rfl, .inl rfl⟩

theorem rfFail_w (q g : Nat) (bs : List Nat) (bad : Bool) (w : World) (h : RfIs w q g bs bad) :
  Calls Tryz.prog 84 #[.pointer (some ⟨q, 0, none⟩)] w fun e w' => e = .returned (.tuple #[]) ∧ RfIs w' q g [] true ∧ Moves [q] w w' := by
 obtain ⟨v, hp, hv, hg⟩ := h
 obtain ⟨c0, c1, f0, f1⟩ := two_cells hp
 go_enter Tryz.func84, Tryz.ntmps84
 go_wp2
 go_end0
 refine ⟨rfl, ⟨.slice none 0 0, ?_, isB_nil _ _, hg⟩, (moves_set _ _ _ _).then (moves_set _ _ _ _)⟩
 have h1 := heap_set (i := 1) hp (.bool true)
 exact heap_set (i := 0) h1 (.slice none 0 0)

theorem rfWhole_w (q g : Nat) (bs : List Nat) (bad : Bool) (w : World) (h : RfIs w q g bs bad) :
  Calls Tryz.prog 47 #[.pointer (some ⟨q, 0, none⟩)] w fun e w' => e = .returned (.bool (!bad && ((bs.length : Int) == 0))) ∧ w = w' := by
 obtain ⟨v, hp, hv, hg⟩ := h
 obtain ⟨c0, c1, f0, f1⟩ := two_cells hp
 obtain ⟨ad, n, cap, rfl, hn, _⟩ := hv
 cases bad
 ·go_enter Tryz.func47, Tryz.ntmps47
  go_wp2
  go_ret
  exact ⟨by rw [hn]; rfl, rfl⟩
 ·go_enter Tryz.func47, Tryz.ntmps47
  go_wp2
  go_ret
  exact ⟨rfl, rfl⟩

set_option maxHeartbeats 1000000 in
theorem rfSome_w (q g : Nat) (bs : List Nat) (n : Nat) (z : Int) (hz : z = (n : Int)) (w : World) (h : RfIs w q g bs false) (hn : n ≤ bs.length) (hb : bs.length ≤ 1099511627776) :
  Calls Tryz.prog 117 #[.pointer (some ⟨q, 0, none⟩), .int .i64 z] w fun e w' => ∃ v', e = .returned v' ∧ Own w' v' (bs.take n) ∧ RfIs w' q g (bs.drop n) false ∧ Moves [q] w w' ∧ Fresh w v' := by
 subst hz
 obtain ⟨v, hp, hv, hg⟩ := h
 obtain ⟨c0, c1, f0, f1⟩ := two_cells hp
 have hv0 := hv
 obtain ⟨ad, len, cap, rfl, hl, hc, _⟩ := hv
 have h1 : ¬ (len : Int) < (n : Int) := by omega
 have h2 : (n : Int) ≤ (cap : Int) := by omega
 have h3 : (n : Int) ≤ (len : Int) := by omega
 have hm0 : Moves [] w (w.alloc (.cells #[] 5)) := (Moves.refl _ _).alloc _
 have ca0 := hm0.cell c0
 have ho0 := own_empty w
 have hf0 := fresh_empty w
 have ht0 := (isB_take hv0 n (by omega)).moves hm0 (by simp)
 have hl1 : ([] : List Nat).length + (bs.take n).length ≤ 1099511627776 := by rw [List.length_take]; simp; omega
 have HD : Hid (IsB w g (.slice (if cap = n then ad else ad.map (·.add n)) (len - n) (cap - n)) (bs.drop n)) := isB_drop hv0 n
 go_enter Tryz.func117, Tryz.ntmps117
 go_wp2_with (at_builtin; refine append_law (.tmp 24) (.tmp 30) rfl _ _ [] (bs.take n) g rfl rfl rfl ho0 ht0 hl1 ?_; intro v1 w1 ho1 m1 hat1; rw [List.nil_append] at ho1; have hA1 := appended hm0 hf0 m1 hat1; have hp1 := hA1.1.at hp (by simp); obtain ⟨k0, k1, kf0, kf1⟩ := two_cells hp1)
 ·go_ret
  have h : cap = n := by assumption
  have hd := HD.out
  rw [if_pos h, h, Nat.sub_self] at hd
  have hd1 := hd.moves hA1.1 (by simp)
  exact ⟨_, rfl, ho1.moves (moves_set _ _ _ _) (fun k hk => by have h5 := ho1.ne hp1 (by decide); simp; intro e; subst e; exact h5 hk), rf_set0 hp1 hd1 hg, (hA1.1.mono (by simp)).then (moves_set _ _ _ _), hA1.2⟩
 ·go_ret
  have h : ¬ cap = n := by assumption
  have hd := HD.out
  rw [if_neg h] at hd
  have hd1 := hd.moves hA1.1 (by simp)
  exact ⟨_, rfl, ho1.moves (moves_set _ _ _ _) (fun k hk => by have h5 := ho1.ne hp1 (by decide); simp; intro e; subst e; exact h5 hk), rf_set0 hp1 hd1 hg, (hA1.1.mono (by simp)).then (moves_set _ _ _ _), hA1.2⟩

theorem zeros_eq (n : Nat) : (madeCells (Value.int .u8 0).cells (n * 1)).toList = u8s (List.replicate n 0) := by
 rw [Nat.mul_one]
 exact (toList_madeCells_one _ _).trans (by simp [u8s])

theorem own_zeros {w : World} {v : Value} {n : Nat} (h : w.ownsRow 0 5 1 v n (madeCells (Value.int .u8 0).cells (n * 1)).toList) : Own w v (List.replicate n 0) := by
 unfold Own
 rw [zeros_eq] at h
 rw [List.length_replicate]
 exact h

set_option maxHeartbeats 1000000 in
theorem rfSome_fail_w (q g : Nat) (bs : List Nat) (bad : Bool) (n : Nat) (z : Int) (hz : z = (n : Int)) (w : World) (h : RfIs w q g bs bad) (hn : bad = true ∨ bs.length < n) (h8 : n ≤ 8) :
  Calls Tryz.prog 117 #[.pointer (some ⟨q, 0, none⟩), .int .i64 z] w fun e w' => ∃ v', e = .returned v' ∧ Own w' v' (List.replicate n 0) ∧ RfIs w' q g [] true ∧ Moves [q] w w' := by
 subst hz
 have h0 := h
 obtain ⟨i0, hi, hz0, hz1, hz2⟩ := info_parts Tryz.info5
 obtain ⟨v, hp, hv, hg⟩ := h
 obtain ⟨c0, c1, f0, f1⟩ := two_cells hp
 obtain ⟨ad, len, cap, rfl, hl, hc, _⟩ := hv
 have b2 : i0.bytes * n ≤ 281474976710656 := by rw [hz2]; omega
 have b3 : n ≤ maxLen := by unfold maxLen; omega
 have hmin : ¬ (8 : Int) < (n : Int) := by omega
 have hcase : bad = true ∨ (bad = false ∧ (len : Int) < (n : Int)) := by
  rcases hn with h | h
  ·exact .inl h
  ·cases bad
   ·exact .inr ⟨rfl, by omega⟩
   ·exact .inl rfl
 clear hn
 rcases hcase with rfl | ⟨rfl, hlt⟩
 all_goals go_enter Tryz.func117, Tryz.ntmps117
 all_goals go_wp2_with (first | (go_at_call 84; refine (rfFail_w _ g bs _ _ h0).mono ?_; rintro _ w1 ⟨rfl, hr1, m1⟩) | (at_make; refine wpList_make_full _ rfl (.tmp 22) (.tmp 22) 40 rfl 0 5 i0 (.int .u8 0) 1 Tryz.underlying40 hi hz0 hz1 .i64 .i64 _ _ n rfl rfl (by omega) (by omega) b2 b3 (Nat.zero_le _) ?_; intro w2 ho2 hg2))
 all_goals go_ret
 all_goals exact ⟨_, rfl, own_zeros ho2, hr1.moves ((Moves.refl [] _).grown hg2 (by simp)) (by simp) (by simp), m1.grown hg2 (by simp)⟩

theorem own_one {w : World} {v : Value} {a : Nat} (h : Own w v [a]) : ∃ gx cap, v = .slice (some ⟨gx, 0, none⟩) 1 cap ∧ w.cell? ⟨gx, 0, none⟩ = some (.int .u8 (a : Int)) := by
 rcases h.2 with ⟨_, h0⟩ | ⟨gx, cap, cur, rfl, hr⟩
 ·simp at h0
 ·have h1 : w.ownsRow 0 5 1 (.slice (some ⟨gx, 0, none⟩) 1 cap) 1 (u8s [a]) := h
  exact ⟨gx, cap, rfl, (h1.cellAt 0 (by omega)).trans rfl⟩
theorem own_four {w : World} {v : Value} {a b c d : Nat} (h : Own w v [a, b, c, d]) : ∃ gx cap, v = .slice (some ⟨gx, 0, none⟩) 4 cap ∧ w.cell? ⟨gx, 0, none⟩ = some (.int .u8 (a : Int)) ∧ w.cell? ⟨gx, 1, none⟩ = some (.int .u8 (b : Int)) ∧ w.cell? ⟨gx, 2, none⟩ = some (.int .u8 (c : Int)) ∧ w.cell? ⟨gx, 3, none⟩ = some (.int .u8 (d : Int)) := by
 rcases h.2 with ⟨_, h0⟩ | ⟨gx, cap, cur, rfl, hr⟩
 ·simp at h0
 ·have h1 : w.ownsRow 0 5 1 (.slice (some ⟨gx, 0, none⟩) 4 cap) 4 (u8s [a, b, c, d]) := h
  exact ⟨gx, cap, rfl, (h1.cellAt 0 (by omega)).trans rfl, (h1.cellAt 1 (by omega)).trans rfl, (h1.cellAt 2 (by omega)).trans rfl, (h1.cellAt 3 (by omega)).trans rfl⟩

theorem rfByte_core (q : Nat) (a : Nat) (X : World → Prop) (w : World)
  (hs : Calls Tryz.prog 117 #[.pointer (some ⟨q, 0, none⟩), .int .i64 1] w fun e w' => ∃ v', e = .returned v' ∧ Own w' v' [a] ∧ X w') :
  Calls Tryz.prog 118 #[.pointer (some ⟨q, 0, none⟩)] w fun e w' => e = .returned (.int .u8 (a : Int)) ∧ X w' := by
 go_enter Tryz.func118, Tryz.ntmps118
 go_wp2_with (go_at_call 117; refine hs.mono ?_; rintro _ w1 ⟨v1, rfl, ho1, hx1⟩; obtain ⟨gx, cap, rfl, k0⟩ := own_one ho1)
 go_ret
 exact ⟨rfl, hx1⟩

theorem or_add32 {x y M : Nat} (k : Nat) (hM : M = 2 ^ k) (hy : y < M) (h : x * M + y < 4294967296) : bits BinOp.or IntKind.u32 ((x * M : Nat) : Int) (y : Int) = ((x * M + y : Nat) : Int) := by
 have h1 : x * M < 4294967296 := Nat.lt_of_le_of_lt (Nat.le_add_right _ _) h
 have h2 : y < 4294967296 := Nat.lt_of_le_of_lt (Nat.le_add_left _ _) h
 have e5 := u32_or_nat (x * M) y h1 h2
 subst hM
 have e3 := Nat.two_pow_add_eq_or_of_lt (i := k) (b := y) hy x
 rw [Nat.mul_comm (2 ^ k) x] at e3
 rw [← e3] at e5
 exact e5

theorem lt_two {X Y M K : Nat} (hX : X < K) (hY : Y < M) : X * M + Y < K * M := by
 have h1 : X * M + Y < X * M + M := Nat.add_lt_add_left hY _
 have h2 : X * M + M = (X + 1) * M := (Nat.succ_mul X M).symm
 have h3 : (X + 1) * M ≤ K * M := Nat.mul_le_mul_right M hX
 rw [h2] at h1
 exact Nat.lt_of_lt_of_le h1 h3

theorem or_four {a b c d : Nat} (ha : a < 256) (hb : b < 256) (hc : c < 256) (hd : d < 256) :
  bits BinOp.or IntKind.u32 (bits BinOp.or IntKind.u32 (bits BinOp.or IntKind.u32 ((a : Int) * 16777216) ((b : Int) * 65536)) ((c : Int) * 256)) (d : Int) = (val [a, b, c, d] : Int) := by
 have p1 : b * 65536 < 16777216 := by omega
 have p3 : c * 256 < 65536 := by clear p1; omega
 have x1 : a * 256 + b < 65536 := lt_two (K := 256) ha hb
 have x2 : (a * 256 + b) * 256 + c < 16777216 := lt_two (K := 65536) x1 hc
 have p2 : a * 16777216 + b * 65536 < 4294967296 := lt_two (K := 256) ha p1
 have p4 : (a * 256 + b) * 65536 + c * 256 < 4294967296 := lt_two (K := 65536) x1 p3
 have p6 : ((a * 256 + b) * 256 + c) * 256 + d < 4294967296 := lt_two (K := 16777216) x2 hd
 have e1 := or_add32 24 (by decide) p1 p2
 have e2 := or_add32 16 (by decide) p3 p4
 have e3 := or_add32 8 (by decide) hd p6
 have f1 : ((a : Int) * 16777216) = ((a * 16777216 : Nat) : Int) := by rw [Int.natCast_mul]; rfl
 have f2 : ((b : Int) * 65536) = ((b * 65536 : Nat) : Int) := by rw [Int.natCast_mul]; rfl
 have f3 : ((c : Int) * 256) = ((c * 256 : Nat) : Int) := by rw [Int.natCast_mul]; rfl
 have f4 : a * 16777216 + b * 65536 = (a * 256 + b) * 65536 := by rw [Nat.add_mul, Nat.mul_assoc]
 have f5 : (a * 256 + b) * 65536 + c * 256 = ((a * 256 + b) * 256 + c) * 256 := by rw [Nat.add_mul _ c, Nat.mul_assoc (a * 256 + b)]
 rw [f1, f2, f3, e1, f4, e2, f5, e3]
 simp only [val, List.foldl_cons, List.foldl_nil, Nat.zero_mul, Nat.zero_add]

theorem or_two {A B : Nat} (hA : A < 4294967296) (hB : B < 4294967296) : bits BinOp.or IntKind.u64 ((A : Int) * 4294967296) (B : Int) = ((A * 4294967296 + B : Nat) : Int) := by
 have h1 : A * 4294967296 < 18446744073709551616 := by omega
 have h2 : B < 18446744073709551616 := by omega
 have e5 := u64_or_nat (A * 4294967296) B h1 h2
 have e3 := Nat.two_pow_add_eq_or_of_lt (i := 32) (b := B) hB A
 have e6 : 2 ^ 32 * A = A * 4294967296 := by omega
 rw [e6] at e3
 rw [← e3] at e5
 have f1 : ((A : Int) * 4294967296) = ((A * 4294967296 : Nat) : Int) := by omega
 rw [f1]
 exact e5

set_option maxHeartbeats 2000000 in
theorem rfNum_core (q : Nat) (a b c d : Nat) (ha : a < 256) (hb : b < 256) (hc : c < 256) (hd : d < 256) (X : World → Prop) (hX : ∀ w n, X w → X (w.drewN n)) (w : World)
  (hs : Calls Tryz.prog 117 #[.pointer (some ⟨q, 0, none⟩), .int .i64 4] w fun e w' => ∃ v', e = .returned v' ∧ Own w' v' [a, b, c, d] ∧ X w') :
  Calls Tryz.prog 83 #[.pointer (some ⟨q, 0, none⟩)] w fun e w' => e = .returned (.int .u32 (val [a, b, c, d] : Int)) ∧ X w' := by
 go_enter Tryz.func83, Tryz.ntmps83
 go_wp2_with (go_at_call 117; refine hs.mono ?_; rintro _ w1 ⟨v1, rfl, ho1, hx1⟩; obtain ⟨gx, cap, rfl, k0, k1, k2, k3⟩ := own_four ho1)
 go_quiet (fail)
 go_wp2
 go_ret
 exact ⟨by rw [← or_four ha hb hc hd]; rfl, hX _ _ hx1⟩

set_option maxHeartbeats 1000000 in
theorem rfNum_w (q g : Nat) (bs : List Nat) (w : World) (h : RfIs w q g bs false) (hn : 4 ≤ bs.length) (hb : bs.length ≤ 1099511627776) (ho : ∀ b ∈ bs, b < 256) :
  Calls Tryz.prog 83 #[.pointer (some ⟨q, 0, none⟩)] w fun e w' => e = .returned (.int .u32 (val (bs.take 4) : Int)) ∧ RfIs w' q g (bs.drop 4) false ∧ Moves [q] w w' := by
 obtain ⟨a, b, c, d, t, rfl⟩ : ∃ a b c d t, bs = a :: b :: c :: d :: t := by
  match bs, hn with
  | a :: b :: c :: d :: t, _ => exact ⟨a, b, c, d, t, rfl⟩
 refine rfNum_core q a b c d (ho a (by simp)) (ho b (by simp)) (ho c (by simp)) (ho d (by simp)) (fun w' => RfIs w' q g (List.drop 4 (a :: b :: c :: d :: t)) false ∧ Moves [q] w w') (fun w1 n hx => ⟨hx.1, ⟨hx.2.os, hx.2.tape, hx.2.output, hx.2.size, hx.2.block⟩⟩) w ?_
 refine (rfSome_w q g _ 4 _ (by rfl) w h hn hb).mono ?_
 rintro _ w' ⟨v', rfl, h1, h2, h3, _⟩
 exact ⟨v', rfl, h1, h2, h3⟩

theorem rfNum_fail_w (q g : Nat) (bs : List Nat) (bad : Bool) (w : World) (h : RfIs w q g bs bad) (hn : bad = true ∨ bs.length < 4) :
  Calls Tryz.prog 83 #[.pointer (some ⟨q, 0, none⟩)] w fun e w' => e = .returned (.int .u32 (val [0, 0, 0, 0] : Int)) ∧ RfIs w' q g [] true ∧ Moves [q] w w' := by
 refine rfNum_core q 0 0 0 0 (by omega) (by omega) (by omega) (by omega) (fun w' => RfIs w' q g [] true ∧ Moves [q] w w') (fun w1 n hx => ⟨hx.1, ⟨hx.2.os, hx.2.tape, hx.2.output, hx.2.size, hx.2.block⟩⟩) w ?_
 refine (rfSome_fail_w q g bs bad 4 _ (by rfl) w h hn (by omega)).mono ?_
 rintro _ w' ⟨v', rfl, h1, h2, h3⟩
 exact ⟨v', rfl, h1, h2, h3⟩

theorem rfByte_w (q g : Nat) (bs : List Nat) (w : World) (h : RfIs w q g bs false) (hn : 1 ≤ bs.length) (hb : bs.length ≤ 1099511627776) :
  Calls Tryz.prog 118 #[.pointer (some ⟨q, 0, none⟩)] w fun e w' => e = .returned (.int .u8 (val (bs.take 1) : Int)) ∧ RfIs w' q g (bs.drop 1) false ∧ Moves [q] w w' := by
 obtain ⟨a, t, rfl⟩ : ∃ a t, bs = a :: t := by
  match bs, hn with
  | a :: t, _ => exact ⟨a, t, rfl⟩
 have e : val (List.take 1 (a :: t)) = a := by simp [val]
 rw [e]
 refine rfByte_core q a (fun w' => RfIs w' q g (List.drop 1 (a :: t)) false ∧ Moves [q] w w') w ?_
 refine (rfSome_w q g _ 1 _ (by rfl) w h hn hb).mono ?_
 rintro _ w' ⟨v', rfl, h1, h2, h3, _⟩
 exact ⟨v', rfl, h1, h2, h3⟩

theorem rfByte_fail_w (q g : Nat) (bs : List Nat) (bad : Bool) (w : World) (h : RfIs w q g bs bad) (hn : bad = true ∨ bs.length < 1) :
  Calls Tryz.prog 118 #[.pointer (some ⟨q, 0, none⟩)] w fun e w' => e = .returned (.int .u8 ((0 : Nat) : Int)) ∧ RfIs w' q g [] true ∧ Moves [q] w w' := by
 refine rfByte_core q 0 (fun w' => RfIs w' q g [] true ∧ Moves [q] w w') w ?_
 refine (rfSome_fail_w q g bs bad 1 _ (by rfl) w h hn (by omega)).mono ?_
 rintro _ w' ⟨v', rfl, h1, h2, h3⟩
 exact ⟨v', rfl, h1, h2, h3⟩

theorem val_eight {bs : List Nat} (h : 8 ≤ bs.length) : val (bs.take 8) = val (bs.take 4) * 4294967296 + val ((bs.drop 4).take 4) := by
 match bs, h with
 | a :: b :: c :: d :: e :: f :: g :: i :: t, _ =>
  simp only [val, List.take_succ_cons, List.take_zero, List.drop_succ_cons, List.drop_zero, List.foldl_cons, List.foldl_nil]
  omega

set_option maxHeartbeats 1000000 in
theorem rfLong_w (q g : Nat) (bs : List Nat) (w : World) (h : RfIs w q g bs false) (hn : 8 ≤ bs.length) (hb : bs.length ≤ 1099511627776) (ho : ∀ b ∈ bs, b < 256) :
  Calls Tryz.prog 119 #[.pointer (some ⟨q, 0, none⟩)] w fun e w' => e = .returned (.int .u64 (val (bs.take 8) : Int)) ∧ RfIs w' q g (bs.drop 8) false ∧ Moves [q] w w' := by
 have hA := val_lt ho 4
 have hB := val_lt (bs := bs.drop 4) (fun z hz => ho z (List.mem_of_mem_drop hz)) 4
 have e8 := val_eight hn
 generalize hVA : val (bs.take 4) = A at hA e8
 generalize hVB : val ((bs.drop 4).take 4) = B at hB e8
 have HA : Hid (val (bs.take 4) = A) := hVA
 have HB : Hid (val ((bs.drop 4).take 4) = B) := hVB
 have H8 : Hid (val (bs.take 8) = A * 4294967296 + B) := e8
 have hA1 : A < 4294967296 := by omega
 have hB1 : B < 4294967296 := by omega
 have hA2 : (A : Int) < 4294967296 := by omega
 have hB2 : (B : Int) < 4294967296 := by omega
 have hor := or_two hA1 hB1
 have hd4 : 4 ≤ (bs.drop 4).length := by rw [List.length_drop]; omega
 have hd5 : (bs.drop 4).length ≤ 1099511627776 := by rw [List.length_drop]; omega
 have ho4 : ∀ z ∈ bs.drop 4, z < 256 := fun z hz => ho z (List.mem_of_mem_drop hz)
 clear hVA hVB e8 hA hB
 go_enter Tryz.func119, Tryz.ntmps119
 go_wp2_with (first | (go_at_call 83; refine (rfNum_w q g (bs.drop 4) _ hr1 hd4 hd5 ho4).mono ?_; rintro _ w2 ⟨rfl, hr2, m2⟩; rw [HB.out]) | (go_at_call 83; refine (rfNum_w q g bs _ h (by omega) hb ho).mono ?_; rintro _ w1 ⟨rfl, hr1, m1⟩; rw [HA.out]))
 go_ret
 refine ⟨by rw [H8.out]; first | rfl | (congr 2; omega), ?_, m1.then m2⟩
 have e : (bs.drop 4).drop 4 = bs.drop 8 := by rw [List.drop_drop]
 rw [← e]
 exact hr2

set_option maxHeartbeats 1000000 in
theorem rfLong_fail_w (q g : Nat) (bs : List Nat) (bad : Bool) (w : World) (h : RfIs w q g bs bad) (hn : bad = true ∨ bs.length < 8) (hb : bs.length ≤ 1099511627776) (ho : ∀ b ∈ bs, b < 256) :
  Calls Tryz.prog 119 #[.pointer (some ⟨q, 0, none⟩)] w fun e w' => ∃ n : Nat, e = .returned (.int .u64 (n : Int)) ∧ Pl.Fits n ∧ RfIs w' q g [] true ∧ Moves [q] w w' := by
 have e0 : val [0, 0, 0, 0] = 0 := by decide
 by_cases hc : bad = true ∨ bs.length < 4
 ·have H0 : Hid (val [0, 0, 0, 0] = 0) := e0
  go_enter Tryz.func119, Tryz.ntmps119
  go_wp2_with (first | (go_at_call 83; refine (rfNum_fail_w q g [] true _ hr1 (.inl rfl)).mono ?_; rintro _ w2 ⟨rfl, hr2, m2⟩; rw [H0.out]) | (go_at_call 83; refine (rfNum_fail_w q g bs bad _ h hc).mono ?_; rintro _ w1 ⟨rfl, hr1, m1⟩; rw [H0.out]))
  go_ret
  exact ⟨0, by first | rfl | decide, by unfold Pl.Fits; omega, hr2, m1.then m2⟩
 ·obtain rfl : bad = false := by cases bad <;> simp_all
  have h4 : 4 ≤ bs.length := by omega
  have h8 : bs.length < 8 := by rcases hn with h | h; simp at h; exact h
  have H0 : Hid (val [0, 0, 0, 0] = 0) := e0
  have hA := val_lt ho 4
  generalize hVA : val (bs.take 4) = A at hA
  have HA : Hid (val (bs.take 4) = A) := hVA
  have hA1 : A < 4294967296 := by omega
  have hA2 : (A : Int) < 4294967296 := by omega
  have hor := or_two hA1 (B := 0) (by omega)
  have hd4 : (bs.drop 4).length < 4 := by rw [List.length_drop]; omega
  clear hVA hA hc hn
  go_enter Tryz.func119, Tryz.ntmps119
  go_wp2_with (first | (go_at_call 83; refine (rfNum_fail_w q g (bs.drop 4) false _ hr1 (.inr hd4)).mono ?_; rintro _ w2 ⟨rfl, hr2, m2⟩; rw [H0.out]) | (go_at_call 83; refine (rfNum_w q g bs _ h h4 hb ho).mono ?_; rintro _ w1 ⟨rfl, hr1, m1⟩; rw [HA.out]))
  go_ret
  exact ⟨A * 4294967296 + 0, by rw [← hor]; rfl, by unfold Pl.Fits; omega, hr2, m1.then m2⟩

theorem rfFloat_w (q g : Nat) (bs : List Nat) (w : World) (h : RfIs w q g bs false) (hn : 8 ≤ bs.length) (hb : bs.length ≤ 1099511627776) (ho : ∀ b ∈ bs, b < 256) (hc : Pl.canon (val (bs.take 8)) = val (bs.take 8)) :
  Calls Tryz.prog 144 #[.pointer (some ⟨q, 0, none⟩)] w fun e w' => e = .returned (.float .f64 (val (bs.take 8))) ∧ RfIs w' q g (bs.drop 8) false ∧ Moves [q] w w' := by
 have hV8 := val_lt ho 8
 generalize hV : val (bs.take 8) = V at hc hV8
 have HV : Hid (val (bs.take 8) = V) := hV
 have HC : Hid (Pl.canon V = V) := hc
 have hfit : Pl.Fits V := by unfold Pl.Fits; omega
 have hfitc : Pl.Fits (Pl.canon V) := by rw [hc]; exact hfit
 have ht : ((Pl.canon (Pl.canon V) : Int) != (V : Int)) = false := by rw [hc, hc]; simp
 clear hV hc hV8
 go_enter Tryz.func144, Tryz.ntmps144
 go_wp2_with (first | (go_at_call 119; refine (rfLong_w _ g bs _ h hn hb ho).mono ?_; rintro _ w2 ⟨rfl, hr2, m2⟩; rw [HV.out]) | (go_at_call 127; refine (refFrom_w _ hfit _).mono ?_; rintro _ _ ⟨rfl, rfl⟩) | (go_at_call 128; refine (refBits_w _ hfitc _).mono ?_; rintro _ _ ⟨rfl, rfl⟩))
 go_ret
 exact ⟨by first | rfl | (rw [HC.out]; rfl), hr2, m2⟩

end Go.Proofs.YtcngllcifcpbkaaGreat
/-
 What the document's own reading of a Text does, and what 'rest' does where nothing can be read: it marks the document's Reader as bad.
-/
namespace Go.Proofs.YtcngllcifcpbkaaGreat
open Go.RowKit

theorem rfText_pre {w : World} {q g : Nat} {bs : List Nat} (h : RfIs w q g bs false) (V : Nat) (hV : V ≤ bs.length) :
  ∃ ad len cap, w.heap[q]? = some (.cells #[.slice ad len cap, .bool false] 93 (0, 0)) ∧ g ≠ q ∧ bs.length = len ∧ len ≤ cap ∧ IsB w g (.slice ad V cap) (bs.take V) ∧ Hid (IsB w g (.slice (if cap = V then ad else ad.map (·.add V)) (len - V) (cap - V)) (bs.drop V)) := by
 obtain ⟨v, hp, hv, hg⟩ := h
 have hv0 := hv
 obtain ⟨ad, len, cap, rfl, hl, hc, _⟩ := hv
 exact ⟨ad, len, cap, hp, hg, hl, hc, isB_take hv0 V (by omega), isB_drop hv0 V⟩

set_option maxRecDepth 20000 in
set_option maxHeartbeats 2000000 in
theorem rfText_w (q g : Nat) (bs : List Nat) (most : Int) (w : World) (h : RfIs w q g bs false) (hb : bs.length ≤ 1099511627776) (ho : ∀ b ∈ bs, b < 256) (hok : textOk bs most) :
  Calls Tryz.prog 85 #[.pointer (some ⟨q, 0, none⟩), .int .i64 most] w fun e w' => ∃ v', e = .returned v' ∧ Own w' v' ((bs.drop 4).take (val (bs.take 4))) ∧ RfIs w' q g ((bs.drop 4).drop (val (bs.take 4))) false ∧ Moves [q] w w' ∧ Fresh w v' := by
 obtain ⟨k1, k2, k3, k4⟩ := hok
 generalize hV : val (bs.take 4) = V at k2 k3 k4
 have HV : Hid (val (bs.take 4) = V) := hV
 have t1 : ¬ (1048576 : Int) < (V : Int) := by omega
 have hl1 : ([] : List Nat).length + ((bs.drop 4).take V).length ≤ 1099511627776 := by rw [List.length_take]; simp; omega
 clear hV
 by_cases hm : 0 ≤ most
 ·have t2 : ¬ most < (V : Int) := by have := k3 hm; omega
  clear k3
  go_enter Tryz.func85, Tryz.ntmps85
  go_wp2_with (first | (go_at_call 83; refine (rfNum_w _ g bs _ h k1 hb ho).mono ?_; rintro _ w2 ⟨rfl, hr2, m2⟩; rw [HV.out]; have hT := rfText_pre hr2 V k4; obtain ⟨ad2, len2, cap2, hp2, hg2, hl2, hc2, hv2, hd2⟩ := hT; obtain ⟨e0, e1, ef0, ef1⟩ := two_cells hp2; have t3 : ¬ (len2 : Int) < (V : Int)   := (by omega); have t4 : (V : Int) ≤ (cap2 : Int)   := (by omega); have t5 : (V : Int) ≤ (len2 : Int)   := (by omega); have hm0 : Moves [] w2 (w2.alloc (.cells #[] 5)) := (Moves.refl _ _).alloc _; have ca0 := hm0.cell e0; have ho0 := own_empty w2; have hf0 := fresh_empty w2; have ht0 := hv2.moves hm0 (by simp)) | (at_builtin; refine append_law (.tmp 38) (.tmp 44) rfl _ _ [] ((bs.drop 4).take V) g rfl rfl rfl ho0 ht0 hl1 ?_; intro v3 w3 ho3 m3 hat3; rw [List.nil_append] at ho3; have hA3 := appended hm0 hf0 m3 hat3; have hp3 := hA3.1.at hp2 (by simp); obtain ⟨k0, k1', kf0, kf1⟩ := two_cells hp3))
  ·go_ret
   have h : cap2 = V := by assumption
   have hd := hd2.out
   rw [if_pos h, h, Nat.sub_self] at hd
   have hd1 := hd.moves hA3.1 (by simp)
   simp only [List.drop_drop] at hd1
   exact ⟨_, rfl, ho3.moves (moves_set _ _ _ _) (fun k hk => by have h5 := ho3.ne hp3 (by decide); simp; intro e; subst e; exact h5 hk), rf_set0 hp3 hd1 hg2, m2.then ((hA3.1.mono (by simp)).then (moves_set _ _ _ _)), fun k hk => Nat.le_trans m2.size (hA3.2 k hk)⟩
  ·go_ret
   have h : ¬ cap2 = V := by assumption
   have hd := hd2.out
   rw [if_neg h] at hd
   have hd1 := hd.moves hA3.1 (by simp)
   simp only [List.drop_drop] at hd1
   exact ⟨_, rfl, ho3.moves (moves_set _ _ _ _) (fun k hk => by have h5 := ho3.ne hp3 (by decide); simp; intro e; subst e; exact h5 hk), rf_set0 hp3 hd1 hg2, m2.then ((hA3.1.mono (by simp)).then (moves_set _ _ _ _)), fun k hk => Nat.le_trans m2.size (hA3.2 k hk)⟩
 ·have t2 : ¬ 0 ≤ most := hm
  clear k3
  go_enter Tryz.func85, Tryz.ntmps85
  go_wp2_with (first | (go_at_call 83; refine (rfNum_w _ g bs _ h k1 hb ho).mono ?_; rintro _ w2 ⟨rfl, hr2, m2⟩; rw [HV.out]; have hT := rfText_pre hr2 V k4; obtain ⟨ad2, len2, cap2, hp2, hg2, hl2, hc2, hv2, hd2⟩ := hT; obtain ⟨e0, e1, ef0, ef1⟩ := two_cells hp2; have t3 : ¬ (len2 : Int) < (V : Int)   := (by omega); have t4 : (V : Int) ≤ (cap2 : Int)   := (by omega); have t5 : (V : Int) ≤ (len2 : Int)   := (by omega); have hm0 : Moves [] w2 (w2.alloc (.cells #[] 5)) := (Moves.refl _ _).alloc _; have ca0 := hm0.cell e0; have ho0 := own_empty w2; have hf0 := fresh_empty w2; have ht0 := hv2.moves hm0 (by simp)) | (at_builtin; refine append_law (.tmp 38) (.tmp 44) rfl _ _ [] ((bs.drop 4).take V) g rfl rfl rfl ho0 ht0 hl1 ?_; intro v3 w3 ho3 m3 hat3; rw [List.nil_append] at ho3; have hA3 := appended hm0 hf0 m3 hat3; have hp3 := hA3.1.at hp2 (by simp); obtain ⟨k0, k1', kf0, kf1⟩ := two_cells hp3))
  ·go_ret
   have h : cap2 = V := by assumption
   have hd := hd2.out
   rw [if_pos h, h, Nat.sub_self] at hd
   have hd1 := hd.moves hA3.1 (by simp)
   simp only [List.drop_drop] at hd1
   exact ⟨_, rfl, ho3.moves (moves_set _ _ _ _) (fun k hk => by have h5 := ho3.ne hp3 (by decide); simp; intro e; subst e; exact h5 hk), rf_set0 hp3 hd1 hg2, m2.then ((hA3.1.mono (by simp)).then (moves_set _ _ _ _)), fun k hk => Nat.le_trans m2.size (hA3.2 k hk)⟩
  ·go_ret
   have h : ¬ cap2 = V := by assumption
   have hd := hd2.out
   rw [if_neg h] at hd
   have hd1 := hd.moves hA3.1 (by simp)
   simp only [List.drop_drop] at hd1
   exact ⟨_, rfl, ho3.moves (moves_set _ _ _ _) (fun k hk => by have h5 := ho3.ne hp3 (by decide); simp; intro e; subst e; exact h5 hk), rf_set0 hp3 hd1 hg2, m2.then ((hA3.1.mono (by simp)).then (moves_set _ _ _ _)), fun k hk => Nat.le_trans m2.size (hA3.2 k hk)⟩

end Go.Proofs.YtcngllcifcpbkaaGreat
/-
 What 'rest' does where the next thing cannot be read: it marks the document's Reader as bad.
-/
namespace Go.Proofs.YtcngllcifcpbkaaGreat
open Go.RowKit

theorem read_any (F : Nat) (cap : Array Value) (v : Value) (g : Nat) (bs : List Nat) (w : World) (hv : IsB w g v bs) (hg : g ≠ w.heap.size) (Q1 Q2 : List Nat → World → Prop)
  (hcf : ∀ (args : Array Value) (w : World), (callFunc F args).run Tryz.prog w = .ok (.enter F args) w)
  (hf : ∀ w1, Begun w1 w.heap.size g bs false → Moves [] w w1 → Calls Tryz.prog F (#[.pointer (some ⟨w.heap.size, 0, none⟩)] ++ cap) w1 fun e w2 =>
   (e = .returned (.tuple #[]) ∧ ∃ bs', Begun w2 w.heap.size g bs' false ∧ Q1 bs' w2) ∨ (e = .panicked (stop w.heap.size) ∧ ∃ bs', Begun w2 w.heap.size g bs' true ∧ Q2 bs' w2)) :
  Calls Tryz.prog 43 #[v, .func (.func F) #[] cap] w fun e w' => (∃ bs', e = .returned (.bool ((bs'.length : Int) == 0)) ∧ ∃ w2, Q1 bs' w2 ∧ Moves [w.heap.size] w2 w') ∨ (e = .returned (.bool false) ∧ ∃ bs' w2, Q2 bs' w2 ∧ Moves [w.heap.size] w2 w') := by
 have hmf : ∀ (fn : Fn) (first cap : Array Value) (w : World), (Instr.makeFunc fn first cap).run Tryz.prog w = .ok (.func fn first cap) w := fun _ _ _ _ => rfl
 have hne : ∀ w : World, (binOp .eql 90 (.func (.func F) #[] cap) .nilFunc).run Tryz.prog w = .ok (.bool false) w := by intro w; kernel_rfl
 obtain ⟨hb1, hm1⟩ := begun hv hg
 obtain ⟨ad, n, c, rfl, hn, _⟩ := hv
 go_enter_defers Tryz.func43, Tryz.ntmps43
 go_wp2_with fail
 refine (hf _ hb1 hm1).mono ?_
 clear hf hb1 hm1
 rintro _ w2 (⟨rfl, bs', ⟨hr2, hq2⟩, hQ2⟩ | ⟨rfl, bs', ⟨hr2, hq2⟩, hQ2⟩)
 ·have hr2' := hr2
  obtain ⟨v2, hp2, hv2, hg2⟩ := hr2'
  obtain ⟨e0, e1, e2, ef0, ef1, ef2⟩ := three_cells hp2
  have cq := cell_of_one hq2
  go_wp2_with (go_at_call 77; refine (rleft_w _ g bs' false _ hr2).mono ?_; rintro _ _ ⟨rfl, rfl⟩)
  refine leaves_cons (f := 74) (args := #[.pointer (some ⟨w.heap.size + 1, 0, none⟩)]) (by simp) (by simp [go_sem]) ?_
  refine (caught_idle w.heap.size (w.heap.size + 1) _ hr2.rdAt hq2).mono ?_
  rintro e u' w3 ⟨rfl, rfl, m3⟩
  exact ⟨_, results_tmp rfl _ _ _, .inl ⟨bs', rfl, w2, hQ2, m3⟩⟩
 ·go_wp2_with fail
  refine leaves_cons (f := 74) (args := #[.pointer (some ⟨w.heap.size + 1, 0, none⟩)]) (by simp) (by simp [go_sem]) ?_
  refine (caught_stop w.heap.size (w.heap.size + 1) _ hr2.rdAt hq2 (by omega)).mono ?_
  rintro e u' w3 ⟨rfl, rfl, m3⟩
  simp only [settle]
  exact ⟨_, results_tmp rfl _ _ _, .inr ⟨rfl, bs', w2, hQ2, m3⟩⟩

end Go.Proofs.YtcngllcifcpbkaaGreat
