/-
  change.Write, change.WriteCond, and that nothing else was written.
-/
import Derived.Test.YtcamhlnkcoicpaaGreatCB21
import Derived.Test.YtcamhlnkcoicpaaGreatCB15
namespace Go.Proofs.YtcamhlnkcoicpaaGreat
open Go.RowKit

set_option maxRecDepth 100000 in
set_option maxHeartbeats 4000000 in
theorem chgWriteF_k4 (W w : World) (p : Nat) (a : Option Nat) (bs : List Nat) (col : ByteArray) (t : Int) (v : Pv) (av : Option Addr) (nv capv : Nat) (hS : WrS W w p a bs) (hb : bs.length ≤ 900000) :
    Calls Tryz.prog 144 #[.pointer (some ⟨p, 0, none⟩), .agg #[.int .i64 4, .string col, .int .i64 t, .int .i64 v.kind, .slice av nv capv, .float .f64 v.n]] w fun e w' => e = .returned (.tuple #[]) ∧ ∃ a', WrS2 W w a w' p a' (bs ++ [4]) := by
  replace hS := WrS2.start hS
  have hpe : ∀ w1 : World, (binOp .eql 105 (.pointer (some ⟨p, 0, none⟩)) (.pointer none)).run Tryz.prog w1 = .ok (.bool false) w1 := by intro w1; kernel_rfl
  have b1 := heap_alloc_new w (.cells #[.int .i64 4, .string col, .int .i64 t, .int .i64 v.kind, .slice av nv capv, .float .f64 v.n] 27)
  have hS1 := hS.after ((Moves.refl [] w).alloc (.cells #[.int .i64 4, .string col, .int .i64 t, .int .i64 v.kind, .slice av nv capv, .float .f64 v.n] 27))
  have hnew : w.heap.size ∉ p :: a.toList := hS.wr.new
  have hb1 : bs.length + 1 ≤ 1099511627776 := by omega
  clear hS
  go_enter Tryz.func144, Tryz.ntmps144
  go_wp2_with (first | (go_at_call 162; refine (kindByte_w 4 (by omega) (by omega) _).mono ?_; rintro _ _ ⟨rfl, rfl⟩) | (go_at_call 60; refine (wbyte_w _ a bs 4 _ (by first | rfl | omega) _ hS1.wr hb1).mono ?_; rintro _ w3 ⟨rfl, a3, hw3⟩; have hS3 := hS1.wrote hw3; have b3 := hw3.2.1.at b1 hnew; obtain ⟨c0, c1, c2, c3, c4, c5⟩ := six_cells b3; have hnew3 := hw3.keep hnew (lt_of_block b1)) | (go_at_call 147; refine (asks_w 4 false false false true _ (by simp)).mono ?_; rintro _ w4 ⟨rfl, m4⟩))
  go_end0
  exact ⟨rfl, a3, (hS3.after m4).after ((Moves.refl [] _).alloc _)⟩
set_option maxRecDepth 100000 in
set_option maxHeartbeats 4000000 in
theorem chgWriteF_k3 (W w : World) (p : Nat) (a : Option Nat) (bs : List Nat) (col : ByteArray) (t : Int) (v : Pv) (av : Option Addr) (nv capv : Nat) (hcol : col.size ≤ 16) (hS : WrS W w p a bs) (hb : bs.length ≤ 900000) :
    Calls Tryz.prog 144 #[.pointer (some ⟨p, 0, none⟩), .agg #[.int .i64 3, .string col, .int .i64 t, .int .i64 v.kind, .slice av nv capv, .float .f64 v.n]] w fun e w' => e = .returned (.tuple #[]) ∧ ∃ a', WrS2 W w a w' p a' ((bs ++ [3] ++ be 4 (sbs col).length ++ sbs col)) := by
  replace hS := WrS2.start hS
  have hpe : ∀ w1 : World, (binOp .eql 105 (.pointer (some ⟨p, 0, none⟩)) (.pointer none)).run Tryz.prog w1 = .ok (.bool false) w1 := by intro w1; kernel_rfl
  have b1 := heap_alloc_new w (.cells #[.int .i64 3, .string col, .int .i64 t, .int .i64 v.kind, .slice av nv capv, .float .f64 v.n] 27)
  have hS1 := hS.after ((Moves.refl [] w).alloc (.cells #[.int .i64 3, .string col, .int .i64 t, .int .i64 v.kind, .slice av nv capv, .float .f64 v.n] 27))
  have hnew : w.heap.size ∉ p :: a.toList := hS.wr.new
  have hb1 : bs.length + 1 ≤ 1099511627776 := by omega
  have hsl : (sbs col).length ≤ 1048576 := by rw [sbs_length]; omega
  have hbt : (bs ++ [3]).length + 2000000 ≤ 1099511627776 := by rw [List.length_append, List.length_singleton]; omega
  clear hS
  go_enter Tryz.func144, Tryz.ntmps144
  go_wp2_with (first | (go_at_call 162; refine (kindByte_w 3 (by omega) (by omega) _).mono ?_; rintro _ _ ⟨rfl, rfl⟩) | (go_at_call 60; refine (wbyte_w _ a bs 3 _ (by first | rfl | omega) _ hS1.wr hb1).mono ?_; rintro _ w3 ⟨rfl, a3, hw3⟩; have hS3 := hS1.wrote hw3; have b3 := hw3.2.1.at b1 hnew; obtain ⟨c0, c1, c2, c3, c4, c5⟩ := six_cells b3; have hnew3 := hw3.keep hnew (lt_of_block b1)) | (go_at_call 147; refine (asks_w 3 true false false true _ (by simp)).mono ?_; rintro _ w4 ⟨rfl, m4⟩; have ma : Moves [] w4 (w4.alloc (.cells #[.bool true, .bool false, .bool false] 189)) := (Moves.refl _ _).alloc _; have bp := heap_alloc_new w4 (.cells #[.bool true, .bool false, .bool false] 189); have hS5 := (hS3.after m4).after ma; have b5 := ma.at (m4.at b3 (by simp)) (by simp); obtain ⟨c0, c1, c2, c3, c4, c5⟩ := six_cells b5; obtain ⟨p0, p1, p2⟩ := three_c bp; have hnp : w4.heap.size ∉ p :: a3.toList := (hS3.after m4).wr.new; have hn5 : (w4.alloc (.cells #[.bool true, .bool false, .bool false] 189)).heap.size ∉ p :: a3.toList := hS5.wr.new; obtain ⟨capS, w6, hrun, hB, _, m6⟩ := strBytes_new (w4.alloc (.cells #[.bool true, .bool false, .bool false] 189)) col; have hS6 := hS5.after m6; have b6 := m6.at b5 (by simp); have bp6 := m6.at bp (by simp); clear hS5; generalize (w4.alloc (.cells #[.bool true, .bool false, .bool false] 189)).heap.size = g1 at hrun hB hn5) | (go_at_call 62; refine (wtext_any _ a3 (bs ++ [3]) (sbs col) g1 _ _ hS6.wr hbt hB hsl hn5).mono ?_; rintro _ w7 ⟨rfl, a7, hw7⟩; have hS7 := hS6.wrote hw7; have b7 := hw7.2.1.at b6 hnew3; obtain ⟨c0, c1, c2, c3, c4, c5⟩ := six_cells b7; have bp7 := hw7.2.1.at bp6 hnp; obtain ⟨q0, q1, q2⟩ := three_c bp7; have hnew7 := hw7.keep hnew3 (lt_of_block b6); have hnp7 := hw7.keep hnp (lt_of_block bp6)))
  go_end0
  exact ⟨rfl, a7, hS7⟩
set_option maxRecDepth 100000 in
set_option maxHeartbeats 4000000 in
theorem chgWriteF_k2 (W w : World) (p : Nat) (a : Option Nat) (bs : List Nat) (col : ByteArray) (t : Int) (v : Pv) (av : Option Addr) (nv capv : Nat) (hcol : col.size ≤ 16) (ht : 0 ≤ t ∧ t ≤ 1099511627776) (hS : WrS W w p a bs) (hb : bs.length ≤ 900000) :
    Calls Tryz.prog 144 #[.pointer (some ⟨p, 0, none⟩), .agg #[.int .i64 2, .string col, .int .i64 t, .int .i64 v.kind, .slice av nv capv, .float .f64 v.n]] w fun e w' => e = .returned (.tuple #[]) ∧ ∃ a', WrS2 W w a w' p a' (((bs ++ [2] ++ be 4 (sbs col).length ++ sbs col) ++ be 8 t.toNat)) := by
  replace hS := WrS2.start hS
  have hpe : ∀ w1 : World, (binOp .eql 105 (.pointer (some ⟨p, 0, none⟩)) (.pointer none)).run Tryz.prog w1 = .ok (.bool false) w1 := by intro w1; kernel_rfl
  have b1 := heap_alloc_new w (.cells #[.int .i64 2, .string col, .int .i64 t, .int .i64 v.kind, .slice av nv capv, .float .f64 v.n] 27)
  have hS1 := hS.after ((Moves.refl [] w).alloc (.cells #[.int .i64 2, .string col, .int .i64 t, .int .i64 v.kind, .slice av nv capv, .float .f64 v.n] 27))
  have hnew : w.heap.size ∉ p :: a.toList := hS.wr.new
  have hb1 : bs.length + 1 ≤ 1099511627776 := by omega
  have hsl : (sbs col).length ≤ 1048576 := by rw [sbs_length]; omega
  have hbt : (bs ++ [2]).length + 2000000 ≤ 1099511627776 := by rw [List.length_append, List.length_singleton]; omega
  have hcv : IntKind.u64.wrap t = (t.toNat : Int) := by rw [IntKind.wrap_u64]; omega
  have hbl : (bs ++ [2] ++ be 4 (sbs col).length ++ sbs col).length + 8 ≤ 1099511627776 := by simp only [List.length_append, List.length_singleton, be_length, sbs_length]; omega
  clear hS
  go_enter Tryz.func144, Tryz.ntmps144
  go_wp2_with (first | (go_at_call 162; refine (kindByte_w 2 (by omega) (by omega) _).mono ?_; rintro _ _ ⟨rfl, rfl⟩) | (go_at_call 60; refine (wbyte_w _ a bs 2 _ (by first | rfl | omega) _ hS1.wr hb1).mono ?_; rintro _ w3 ⟨rfl, a3, hw3⟩; have hS3 := hS1.wrote hw3; have b3 := hw3.2.1.at b1 hnew; obtain ⟨c0, c1, c2, c3, c4, c5⟩ := six_cells b3; have hnew3 := hw3.keep hnew (lt_of_block b1)) | (go_at_call 147; refine (asks_w 2 true true false true _ (by simp)).mono ?_; rintro _ w4 ⟨rfl, m4⟩; have ma : Moves [] w4 (w4.alloc (.cells #[.bool true, .bool true, .bool false] 189)) := (Moves.refl _ _).alloc _; have bp := heap_alloc_new w4 (.cells #[.bool true, .bool true, .bool false] 189); have hS5 := (hS3.after m4).after ma; have b5 := ma.at (m4.at b3 (by simp)) (by simp); obtain ⟨c0, c1, c2, c3, c4, c5⟩ := six_cells b5; obtain ⟨p0, p1, p2⟩ := three_c bp; have hnp : w4.heap.size ∉ p :: a3.toList := (hS3.after m4).wr.new; have hn5 : (w4.alloc (.cells #[.bool true, .bool true, .bool false] 189)).heap.size ∉ p :: a3.toList := hS5.wr.new; obtain ⟨capS, w6, hrun, hB, _, m6⟩ := strBytes_new (w4.alloc (.cells #[.bool true, .bool true, .bool false] 189)) col; have hS6 := hS5.after m6; have b6 := m6.at b5 (by simp); have bp6 := m6.at bp (by simp); clear hS5; generalize (w4.alloc (.cells #[.bool true, .bool true, .bool false] 189)).heap.size = g1 at hrun hB hn5) | (go_at_call 62; refine (wtext_any _ a3 (bs ++ [2]) (sbs col) g1 _ _ hS6.wr hbt hB hsl hn5).mono ?_; rintro _ w7 ⟨rfl, a7, hw7⟩; have hS7 := hS6.wrote hw7; have b7 := hw7.2.1.at b6 hnew3; obtain ⟨c0, c1, c2, c3, c4, c5⟩ := six_cells b7; have bp7 := hw7.2.1.at bp6 hnp; obtain ⟨q0, q1, q2⟩ := three_c bp7; have hnew7 := hw7.keep hnew3 (lt_of_block b6); have hnp7 := hw7.keep hnp (lt_of_block bp6)) | (go_at_call 163; refine (wlong_w _ a7 _ t.toNat _ (by omega) _ hS7.wr hbl).mono ?_; rintro _ w8 ⟨rfl, a8, hw8⟩; have hS8 := hS7.wrote hw8; have b8 := hw8.2.1.at b7 hnew7; obtain ⟨c0, c1, c2, c3, c4, c5⟩ := six_cells b8; have bp8 := hw8.2.1.at bp7 hnp7; obtain ⟨r0, r1, r2⟩ := three_c bp8))
  go_end0
  exact ⟨rfl, a8, hS8⟩
set_option maxRecDepth 100000 in
set_option maxHeartbeats 4000000 in
theorem chgWriteF_k1 (W w : World) (p : Nat) (a : Option Nat) (bs : List Nat) (col : ByteArray) (t : Int) (v : Pv) (av : Option Addr) (nv capv : Nat) (hv : VA W [.int .i64 v.kind, .slice av nv capv, .float .f64 v.n] v) (hcol : col.size ≤ 16) (ht : 0 ≤ t ∧ t ≤ 1099511627776) (hS : WrS W w p a bs) (hb : bs.length ≤ 900000) :
    Calls Tryz.prog 144 #[.pointer (some ⟨p, 0, none⟩), .agg #[.int .i64 1, .string col, .int .i64 t, .int .i64 v.kind, .slice av nv capv, .float .f64 v.n]] w fun e w' => e = .returned (.tuple #[]) ∧ ∃ a', WrS2 W w a w' p a' (((bs ++ [1] ++ be 4 (sbs col).length ++ sbs col) ++ be 8 t.toNat) ++ penc v) := by
  replace hS := WrS2.start hS
  have hpe : ∀ w1 : World, (binOp .eql 105 (.pointer (some ⟨p, 0, none⟩)) (.pointer none)).run Tryz.prog w1 = .ok (.bool false) w1 := by intro w1; kernel_rfl
  have b1 := heap_alloc_new w (.cells #[.int .i64 1, .string col, .int .i64 t, .int .i64 v.kind, .slice av nv capv, .float .f64 v.n] 27)
  have hS1 := hS.after ((Moves.refl [] w).alloc (.cells #[.int .i64 1, .string col, .int .i64 t, .int .i64 v.kind, .slice av nv capv, .float .f64 v.n] 27))
  have hnew : w.heap.size ∉ p :: a.toList := hS.wr.new
  have hb1 : bs.length + 1 ≤ 1099511627776 := by omega
  have hsl : (sbs col).length ≤ 1048576 := by rw [sbs_length]; omega
  have hbt : (bs ++ [1]).length + 2000000 ≤ 1099511627776 := by rw [List.length_append, List.length_singleton]; omega
  have hcv : IntKind.u64.wrap t = (t.toNat : Int) := by rw [IntKind.wrap_u64]; omega
  have hbl : (bs ++ [1] ++ be 4 (sbs col).length ++ sbs col).length + 8 ≤ 1099511627776 := by simp only [List.length_append, List.length_singleton, be_length, sbs_length]; omega
  have hbp : ((bs ++ [1] ++ be 4 (sbs col).length ++ sbs col) ++ be 8 t.toNat).length ≤ 1000000000 := by simp only [List.length_append, List.length_singleton, be_length, sbs_length]; omega
  clear hS
  go_enter Tryz.func144, Tryz.ntmps144
  go_wp2_with (first | (go_at_call 162; refine (kindByte_w 1 (by omega) (by omega) _).mono ?_; rintro _ _ ⟨rfl, rfl⟩) | (go_at_call 60; refine (wbyte_w _ a bs 1 _ (by first | rfl | omega) _ hS1.wr hb1).mono ?_; rintro _ w3 ⟨rfl, a3, hw3⟩; have hS3 := hS1.wrote hw3; have b3 := hw3.2.1.at b1 hnew; obtain ⟨c0, c1, c2, c3, c4, c5⟩ := six_cells b3; have hnew3 := hw3.keep hnew (lt_of_block b1)) | (go_at_call 147; refine (asks_w 1 true true true true _ (by simp)).mono ?_; rintro _ w4 ⟨rfl, m4⟩; have ma : Moves [] w4 (w4.alloc (.cells #[.bool true, .bool true, .bool true] 189)) := (Moves.refl _ _).alloc _; have bp := heap_alloc_new w4 (.cells #[.bool true, .bool true, .bool true] 189); have hS5 := (hS3.after m4).after ma; have b5 := ma.at (m4.at b3 (by simp)) (by simp); obtain ⟨c0, c1, c2, c3, c4, c5⟩ := six_cells b5; obtain ⟨p0, p1, p2⟩ := three_c bp; have hnp : w4.heap.size ∉ p :: a3.toList := (hS3.after m4).wr.new; have hn5 : (w4.alloc (.cells #[.bool true, .bool true, .bool true] 189)).heap.size ∉ p :: a3.toList := hS5.wr.new; obtain ⟨capS, w6, hrun, hB, _, m6⟩ := strBytes_new (w4.alloc (.cells #[.bool true, .bool true, .bool true] 189)) col; have hS6 := hS5.after m6; have b6 := m6.at b5 (by simp); have bp6 := m6.at bp (by simp); clear hS5; generalize (w4.alloc (.cells #[.bool true, .bool true, .bool true] 189)).heap.size = g1 at hrun hB hn5) | (go_at_call 62; refine (wtext_any _ a3 (bs ++ [1]) (sbs col) g1 _ _ hS6.wr hbt hB hsl hn5).mono ?_; rintro _ w7 ⟨rfl, a7, hw7⟩; have hS7 := hS6.wrote hw7; have b7 := hw7.2.1.at b6 hnew3; obtain ⟨c0, c1, c2, c3, c4, c5⟩ := six_cells b7; have bp7 := hw7.2.1.at bp6 hnp; obtain ⟨q0, q1, q2⟩ := three_c bp7; have hnew7 := hw7.keep hnew3 (lt_of_block b6); have hnp7 := hw7.keep hnp (lt_of_block bp6)) | (go_at_call 163; refine (wlong_w _ a7 _ t.toNat _ (by omega) _ hS7.wr hbl).mono ?_; rintro _ w8 ⟨rfl, a8, hw8⟩; have hS8 := hS7.wrote hw8; have b8 := hw8.2.1.at b7 hnew7; obtain ⟨c0, c1, c2, c3, c4, c5⟩ := six_cells b8; have bp8 := hw8.2.1.at bp7 hnp7; obtain ⟨r0, r1, r2⟩ := three_c bp8) | (go_at_call 161; refine (putS_w W _ p a8 _ _ _ _ _ _ v hv hS8.s hbp).mono ?_; rintro _ w9 ⟨rfl, a9, hw9⟩; have hS9 := hS8.wrote hw9))
  go_end0
  exact ⟨rfl, a9, hS9⟩
set_option maxRecDepth 100000 in
set_option maxHeartbeats 4000000 in
theorem chgWriteF_k5 (W w : World) (p : Nat) (a : Option Nat) (bs : List Nat) (col : ByteArray) (t : Int) (v : Pv) (av : Option Addr) (nv capv : Nat) (hv : VA W [.int .i64 v.kind, .slice av nv capv, .float .f64 v.n] v) (hcol : col.size ≤ 16) (ht : 0 ≤ t ∧ t ≤ 1099511627776) (hS : WrS W w p a bs) (hb : bs.length ≤ 900000) :
    Calls Tryz.prog 144 #[.pointer (some ⟨p, 0, none⟩), .agg #[.int .i64 5, .string col, .int .i64 t, .int .i64 v.kind, .slice av nv capv, .float .f64 v.n]] w fun e w' => e = .returned (.tuple #[]) ∧ ∃ a', WrS2 W w a w' p a' (((bs ++ [5] ++ be 4 (sbs col).length ++ sbs col) ++ be 8 t.toNat) ++ penc v) := by
  replace hS := WrS2.start hS
  have hpe : ∀ w1 : World, (binOp .eql 105 (.pointer (some ⟨p, 0, none⟩)) (.pointer none)).run Tryz.prog w1 = .ok (.bool false) w1 := by intro w1; kernel_rfl
  have b1 := heap_alloc_new w (.cells #[.int .i64 5, .string col, .int .i64 t, .int .i64 v.kind, .slice av nv capv, .float .f64 v.n] 27)
  have hS1 := hS.after ((Moves.refl [] w).alloc (.cells #[.int .i64 5, .string col, .int .i64 t, .int .i64 v.kind, .slice av nv capv, .float .f64 v.n] 27))
  have hnew : w.heap.size ∉ p :: a.toList := hS.wr.new
  have hb1 : bs.length + 1 ≤ 1099511627776 := by omega
  have hsl : (sbs col).length ≤ 1048576 := by rw [sbs_length]; omega
  have hbt : (bs ++ [5]).length + 2000000 ≤ 1099511627776 := by rw [List.length_append, List.length_singleton]; omega
  have hcv : IntKind.u64.wrap t = (t.toNat : Int) := by rw [IntKind.wrap_u64]; omega
  have hbl : (bs ++ [5] ++ be 4 (sbs col).length ++ sbs col).length + 8 ≤ 1099511627776 := by simp only [List.length_append, List.length_singleton, be_length, sbs_length]; omega
  have hbp : ((bs ++ [5] ++ be 4 (sbs col).length ++ sbs col) ++ be 8 t.toNat).length ≤ 1000000000 := by simp only [List.length_append, List.length_singleton, be_length, sbs_length]; omega
  clear hS
  go_enter Tryz.func144, Tryz.ntmps144
  go_wp2_with (first | (go_at_call 162; refine (kindByte_w 5 (by omega) (by omega) _).mono ?_; rintro _ _ ⟨rfl, rfl⟩) | (go_at_call 60; refine (wbyte_w _ a bs 5 _ (by first | rfl | omega) _ hS1.wr hb1).mono ?_; rintro _ w3 ⟨rfl, a3, hw3⟩; have hS3 := hS1.wrote hw3; have b3 := hw3.2.1.at b1 hnew; obtain ⟨c0, c1, c2, c3, c4, c5⟩ := six_cells b3; have hnew3 := hw3.keep hnew (lt_of_block b1)) | (go_at_call 147; refine (asks_w 5 true true true true _ (by simp)).mono ?_; rintro _ w4 ⟨rfl, m4⟩; have ma : Moves [] w4 (w4.alloc (.cells #[.bool true, .bool true, .bool true] 189)) := (Moves.refl _ _).alloc _; have bp := heap_alloc_new w4 (.cells #[.bool true, .bool true, .bool true] 189); have hS5 := (hS3.after m4).after ma; have b5 := ma.at (m4.at b3 (by simp)) (by simp); obtain ⟨c0, c1, c2, c3, c4, c5⟩ := six_cells b5; obtain ⟨p0, p1, p2⟩ := three_c bp; have hnp : w4.heap.size ∉ p :: a3.toList := (hS3.after m4).wr.new; have hn5 : (w4.alloc (.cells #[.bool true, .bool true, .bool true] 189)).heap.size ∉ p :: a3.toList := hS5.wr.new; obtain ⟨capS, w6, hrun, hB, _, m6⟩ := strBytes_new (w4.alloc (.cells #[.bool true, .bool true, .bool true] 189)) col; have hS6 := hS5.after m6; have b6 := m6.at b5 (by simp); have bp6 := m6.at bp (by simp); clear hS5; generalize (w4.alloc (.cells #[.bool true, .bool true, .bool true] 189)).heap.size = g1 at hrun hB hn5) | (go_at_call 62; refine (wtext_any _ a3 (bs ++ [5]) (sbs col) g1 _ _ hS6.wr hbt hB hsl hn5).mono ?_; rintro _ w7 ⟨rfl, a7, hw7⟩; have hS7 := hS6.wrote hw7; have b7 := hw7.2.1.at b6 hnew3; obtain ⟨c0, c1, c2, c3, c4, c5⟩ := six_cells b7; have bp7 := hw7.2.1.at bp6 hnp; obtain ⟨q0, q1, q2⟩ := three_c bp7; have hnew7 := hw7.keep hnew3 (lt_of_block b6); have hnp7 := hw7.keep hnp (lt_of_block bp6)) | (go_at_call 163; refine (wlong_w _ a7 _ t.toNat _ (by omega) _ hS7.wr hbl).mono ?_; rintro _ w8 ⟨rfl, a8, hw8⟩; have hS8 := hS7.wrote hw8; have b8 := hw8.2.1.at b7 hnew7; obtain ⟨c0, c1, c2, c3, c4, c5⟩ := six_cells b8; have bp8 := hw8.2.1.at bp7 hnp7; obtain ⟨r0, r1, r2⟩ := three_c bp8) | (go_at_call 161; refine (putS_w W _ p a8 _ _ _ _ _ _ v hv hS8.s hbp).mono ?_; rintro _ w9 ⟨rfl, a9, hw9⟩; have hS9 := hS8.wrote hw9))
  go_end0
  exact ⟨rfl, a9, hS9⟩
theorem chgWriteF_w (W w : World) (p : Nat) (a : Option Nat) (bs : List Nat) (c : Pchg) (av : Option Addr) (nv capv : Nat) (hv : VA W [.int .i64 c.v.kind, .slice av nv capv, .float .f64 c.v.n] c.v) (hr : cRight c = 0) (hS : WrS W w p a bs) (hb : bs.length ≤ 900000) :
    Calls Tryz.prog 144 #[.pointer (some ⟨p, 0, none⟩), .agg #[.int .i64 c.kind, .string c.col, .int .i64 c.t, .int .i64 c.v.kind, .slice av nv capv, .float .f64 c.v.n]] w fun e w' => e = .returned (.tuple #[]) ∧ ∃ a', WrS2 W w a w' p a' (bs ++ cenc c) := by
  obtain ⟨k, col, t, v⟩ := c
  have hk : k = 4 ∨ (k = 3 ∧ pname col = true) ∨ (k = 2 ∧ pname col = true ∧ ptime t = true) ∨ ((k = 1 ∨ k = 5) ∧ pname col = true ∧ ptime t = true) := by
    simp only [cRight] at hr
    by_cases k4 : k = 4
    · exact Or.inl k4
    by_cases k15 : ¬ (1 ≤ k ∧ k ≤ 5)
    · rw [if_pos k15] at hr; omega
    rw [if_neg k15, if_neg k4] at hr
    replace k15 := Decidable.not_not.1 k15
    by_cases hn : pname col = false
    · rw [if_pos hn] at hr; omega
    rw [if_neg hn] at hr
    have hn' : pname col = true := by simpa using hn
    by_cases k3 : k = 3
    · exact Or.inr (Or.inl ⟨k3, hn'⟩)
    rw [if_neg k3] at hr
    by_cases htt : ptime t = false
    · rw [if_pos htt] at hr; omega
    have ht' : ptime t = true := by simpa using htt
    by_cases k2 : k = 2
    · exact Or.inr (Or.inr (Or.inl ⟨k2, hn', ht'⟩))
    exact Or.inr (Or.inr (Or.inr ⟨by omega, hn', ht'⟩))
  have hsz : pname col = true → col.size ≤ 16 := by
    intro h; unfold pname at h; simp only [Bool.and_eq_true, decide_eq_true_eq] at h; exact h.2
  have htm : ptime t = true → 0 ≤ t ∧ t ≤ 1099511627776 := by
    intro h; unfold ptime at h; simp only [Bool.and_eq_true, decide_eq_true_eq] at h; omega
  rcases hk with rfl | ⟨rfl, hn⟩ | ⟨rfl, hn, h2⟩ | ⟨rfl | rfl, hn, h2⟩
  · refine (chgWriteF_k4 W w p a bs col t v av nv capv hS hb).mono ?_
    rintro e w' ⟨he, a', h⟩
    exact ⟨he, a', by simpa [cenc] using h⟩
  · refine (chgWriteF_k3 W w p a bs col t v av nv capv (hsz hn) hS hb).mono ?_
    rintro e w' ⟨he, a', h⟩
    exact ⟨he, a', by simpa [cenc, sbs_length] using h⟩
  · refine (chgWriteF_k2 W w p a bs col t v av nv capv (hsz hn) (htm h2) hS hb).mono ?_
    rintro e w' ⟨he, a', h⟩
    exact ⟨he, a', by simpa [cenc, sbs_length] using h⟩
  · refine (chgWriteF_k1 W w p a bs col t v av nv capv hv (hsz hn) (htm h2) hS hb).mono ?_
    rintro e w' ⟨he, a', h⟩
    exact ⟨he, a', by simpa [cenc, sbs_length] using h⟩
  · refine (chgWriteF_k5 W w p a bs col t v av nv capv hv (hsz hn) (htm h2) hS hb).mono ?_
    rintro e w' ⟨he, a', h⟩
    exact ⟨he, a', by simpa [cenc, sbs_length] using h⟩
set_option maxRecDepth 100000 in
set_option maxHeartbeats 4000000 in
theorem condWriteF_k0 (W w : World) (p : Nat) (a : Option Nat) (bs : List Nat) (want : Bool) (col : ByteArray) (v : Pv) (av : Option Addr) (nv capv : Nat) (hS : WrS W w p a bs) (hb : bs.length ≤ 900000) :
    Calls Tryz.prog 143 #[.pointer (some ⟨p, 0, none⟩), .agg #[.bool false, .bool want, .string col, .int .i64 v.kind, .slice av nv capv, .float .f64 v.n]] w fun e w' => e = .returned (.tuple #[]) ∧ ∃ a', WrS2 W w a w' p a' (bs ++ [0]) := by
  replace hS := WrS2.start hS
  have hpe : ∀ w1 : World, (binOp .eql 105 (.pointer (some ⟨p, 0, none⟩)) (.pointer none)).run Tryz.prog w1 = .ok (.bool false) w1 := by intro w1; kernel_rfl
  have b1 := heap_alloc_new w (.cells #[.bool false, .bool want, .string col, .int .i64 v.kind, .slice av nv capv, .float .f64 v.n] 30)
  obtain ⟨c0, c1, c2, c3, c4, c5⟩ := six_cells b1
  have hS1 := hS.after ((Moves.refl [] w).alloc (.cells #[.bool false, .bool want, .string col, .int .i64 v.kind, .slice av nv capv, .float .f64 v.n] 30))
  have hnew : w.heap.size ∉ p :: a.toList := hS.wr.new
  have hb1 : bs.length + 1 ≤ 1099511627776 := by omega
  clear hS
  go_enter Tryz.func143, Tryz.ntmps143
  go_wp2_with (first | (go_at_call 160; refine (condByte_w _ false want col v.kind av nv capv v.n 0 (.inl ⟨rfl, rfl⟩)).mono ?_; rintro _ w2 ⟨rfl, m2⟩; have hS2 := hS1.after m2; have b2 := m2.at b1 (by simp); obtain ⟨c0, c1, c2, c3, c4, c5⟩ := six_cells b2) | (go_at_call 60; refine (wbyte_w _ a bs 0 _ (by first | rfl | omega) _ hS2.wr hb1).mono ?_; rintro _ w3 ⟨rfl, a3, hw3⟩; have hS3 := hS2.wrote hw3; have b3 := hw3.2.1.at b2 hnew; obtain ⟨c0, c1, c2, c3, c4, c5⟩ := six_cells b3))
  go_end0
  exact ⟨rfl, a3, hS3⟩
set_option maxRecDepth 100000 in
set_option maxHeartbeats 4000000 in
theorem condWriteF_k1 (W w : World) (p : Nat) (a : Option Nat) (bs : List Nat) (col : ByteArray) (v : Pv) (av : Option Addr) (nv capv : Nat) (hcol : col.size ≤ 16) (hS : WrS W w p a bs) (hb : bs.length ≤ 900000) :
    Calls Tryz.prog 143 #[.pointer (some ⟨p, 0, none⟩), .agg #[.bool true, .bool false, .string col, .int .i64 v.kind, .slice av nv capv, .float .f64 v.n]] w fun e w' => e = .returned (.tuple #[]) ∧ ∃ a', WrS2 W w a w' p a' ((bs ++ [1] ++ be 4 (sbs col).length ++ sbs col)) := by
  replace hS := WrS2.start hS
  have hpe : ∀ w1 : World, (binOp .eql 105 (.pointer (some ⟨p, 0, none⟩)) (.pointer none)).run Tryz.prog w1 = .ok (.bool false) w1 := by intro w1; kernel_rfl
  have b1 := heap_alloc_new w (.cells #[.bool true, .bool false, .string col, .int .i64 v.kind, .slice av nv capv, .float .f64 v.n] 30)
  obtain ⟨c0, c1, c2, c3, c4, c5⟩ := six_cells b1
  have hS1 := hS.after ((Moves.refl [] w).alloc (.cells #[.bool true, .bool false, .string col, .int .i64 v.kind, .slice av nv capv, .float .f64 v.n] 30))
  have hnew : w.heap.size ∉ p :: a.toList := hS.wr.new
  have hb1 : bs.length + 1 ≤ 1099511627776 := by omega
  have hsl : (sbs col).length ≤ 1048576 := by rw [sbs_length]; omega
  have hbt : (bs ++ [1]).length + 2000000 ≤ 1099511627776 := by rw [List.length_append, List.length_singleton]; omega
  clear hS
  go_enter Tryz.func143, Tryz.ntmps143
  go_wp2_with (first | (go_at_call 160; refine (condByte_w _ true false col v.kind av nv capv v.n 1 (.inr (.inl ⟨rfl, rfl, rfl⟩))).mono ?_; rintro _ w2 ⟨rfl, m2⟩; have hS2 := hS1.after m2; have b2 := m2.at b1 (by simp); obtain ⟨c0, c1, c2, c3, c4, c5⟩ := six_cells b2) | (go_at_call 60; refine (wbyte_w _ a bs 1 _ (by first | rfl | omega) _ hS2.wr hb1).mono ?_; rintro _ w3 ⟨rfl, a3, hw3⟩; have hS3 := hS2.wrote hw3; have b3 := hw3.2.1.at b2 hnew; obtain ⟨c0, c1, c2, c3, c4, c5⟩ := six_cells b3; have hnew3 := hw3.keep hnew (lt_of_block b2); have hn3 : w3.heap.size ∉ p :: a3.toList := hS3.wr.new; obtain ⟨capS, w6, hrun, hB, _, m6⟩ := strBytes_new w3 col; have hS6 := hS3.after m6; have b6 := m6.at b3 (by simp); generalize w3.heap.size = g1 at hrun hB hn3) | (go_at_call 62; refine (wtext_any _ a3 (bs ++ [1]) (sbs col) g1 _ _ hS6.wr hbt hB hsl hn3).mono ?_; rintro _ w7 ⟨rfl, a7, hw7⟩; have hS7 := hS6.wrote hw7; have b7 := hw7.2.1.at b6 hnew3; obtain ⟨c0, c1, c2, c3, c4, c5⟩ := six_cells b7))
  go_end0
  exact ⟨rfl, a7, hS7⟩
set_option maxRecDepth 100000 in
set_option maxHeartbeats 4000000 in
theorem condWriteF_k2 (W w : World) (p : Nat) (a : Option Nat) (bs : List Nat) (col : ByteArray) (v : Pv) (av : Option Addr) (nv capv : Nat) (hv : VA W [.int .i64 v.kind, .slice av nv capv, .float .f64 v.n] v) (hcol : col.size ≤ 16) (hS : WrS W w p a bs) (hb : bs.length ≤ 900000) :
    Calls Tryz.prog 143 #[.pointer (some ⟨p, 0, none⟩), .agg #[.bool true, .bool true, .string col, .int .i64 v.kind, .slice av nv capv, .float .f64 v.n]] w fun e w' => e = .returned (.tuple #[]) ∧ ∃ a', WrS2 W w a w' p a' ((bs ++ [2] ++ be 4 (sbs col).length ++ sbs col) ++ penc v) := by
  replace hS := WrS2.start hS
  have hpe : ∀ w1 : World, (binOp .eql 105 (.pointer (some ⟨p, 0, none⟩)) (.pointer none)).run Tryz.prog w1 = .ok (.bool false) w1 := by intro w1; kernel_rfl
  have b1 := heap_alloc_new w (.cells #[.bool true, .bool true, .string col, .int .i64 v.kind, .slice av nv capv, .float .f64 v.n] 30)
  obtain ⟨c0, c1, c2, c3, c4, c5⟩ := six_cells b1
  have hS1 := hS.after ((Moves.refl [] w).alloc (.cells #[.bool true, .bool true, .string col, .int .i64 v.kind, .slice av nv capv, .float .f64 v.n] 30))
  have hnew : w.heap.size ∉ p :: a.toList := hS.wr.new
  have hb1 : bs.length + 1 ≤ 1099511627776 := by omega
  have hsl : (sbs col).length ≤ 1048576 := by rw [sbs_length]; omega
  have hbt : (bs ++ [2]).length + 2000000 ≤ 1099511627776 := by rw [List.length_append, List.length_singleton]; omega
  have hbp : (bs ++ [2] ++ be 4 (sbs col).length ++ sbs col).length ≤ 1000000000 := by simp only [List.length_append, List.length_singleton, be_length, sbs_length]; omega
  clear hS
  go_enter Tryz.func143, Tryz.ntmps143
  go_wp2_with (first | (go_at_call 160; refine (condByte_w _ true true col v.kind av nv capv v.n 2 (.inr (.inr ⟨rfl, rfl, rfl⟩))).mono ?_; rintro _ w2 ⟨rfl, m2⟩; have hS2 := hS1.after m2; have b2 := m2.at b1 (by simp); obtain ⟨c0, c1, c2, c3, c4, c5⟩ := six_cells b2) | (go_at_call 60; refine (wbyte_w _ a bs 2 _ (by first | rfl | omega) _ hS2.wr hb1).mono ?_; rintro _ w3 ⟨rfl, a3, hw3⟩; have hS3 := hS2.wrote hw3; have b3 := hw3.2.1.at b2 hnew; obtain ⟨c0, c1, c2, c3, c4, c5⟩ := six_cells b3; have hnew3 := hw3.keep hnew (lt_of_block b2); have hn3 : w3.heap.size ∉ p :: a3.toList := hS3.wr.new; obtain ⟨capS, w6, hrun, hB, _, m6⟩ := strBytes_new w3 col; have hS6 := hS3.after m6; have b6 := m6.at b3 (by simp); generalize w3.heap.size = g1 at hrun hB hn3) | (go_at_call 62; refine (wtext_any _ a3 (bs ++ [2]) (sbs col) g1 _ _ hS6.wr hbt hB hsl hn3).mono ?_; rintro _ w7 ⟨rfl, a7, hw7⟩; have hS7 := hS6.wrote hw7; have b7 := hw7.2.1.at b6 hnew3; obtain ⟨c0, c1, c2, c3, c4, c5⟩ := six_cells b7) | (go_at_call 161; refine (putS_w W _ p a7 _ _ _ _ _ _ v hv hS7.s hbp).mono ?_; rintro _ w9 ⟨rfl, a9, hw9⟩; have hS9 := hS7.wrote hw9))
  go_end0
  exact ⟨rfl, a9, hS9⟩
theorem condWriteF_w (W w : World) (p : Nat) (a : Option Nat) (bs : List Nat) (has want : Bool) (col : ByteArray) (v : Pv) (av : Option Addr) (nv capv : Nat) (hv : VA W [.int .i64 v.kind, .slice av nv capv, .float .f64 v.n] v) (hcol : has = true → col.size ≤ 16) (hS : WrS W w p a bs) (hb : bs.length ≤ 900000) :
    Calls Tryz.prog 143 #[.pointer (some ⟨p, 0, none⟩), .agg #[.bool has, .bool want, .string col, .int .i64 v.kind, .slice av nv capv, .float .f64 v.n]] w fun e w' => e = .returned (.tuple #[]) ∧ ∃ a', WrS2 W w a w' p a' (bs ++ cdenc has want col v) := by
  cases has with
  | false =>
    refine (condWriteF_k0 W w p a bs want col v av nv capv hS hb).mono ?_
    rintro e w' ⟨he, a', h⟩
    exact ⟨he, a', by simpa [cdenc] using h⟩
  | true =>
    cases want with
    | false =>
      refine (condWriteF_k1 W w p a bs col v av nv capv (hcol rfl) hS hb).mono ?_
      rintro e w' ⟨he, a', h⟩
      exact ⟨he, a', by simpa [cdenc, sbs_length] using h⟩
    | true =>
      refine (condWriteF_k2 W w p a bs col v av nv capv hv (hcol rfl) hS hb).mono ?_
      rintro e w' ⟨he, a', h⟩
      exact ⟨he, a', by simpa [cdenc, sbs_length] using h⟩
end Go.Proofs.YtcamhlnkcoicpaaGreat
