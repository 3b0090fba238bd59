/-
  A round of what reads hands to Read: a Byte, a Num, a Long, a Float that cannot be read.
-/
import Derived.Test.YtmcgjfnilmadoaaReads2
namespace Go.Proofs.Ytmcgjfnilmadoaa
open Go.RowKit
set_option linter.unusedVariables false

set_option maxRecDepth 100000 in
set_option maxHeartbeats 8000000 in
theorem k1_fail (w0 wr : World) (p g ql qs qr qa q b off len cap k : Nat) (bs : List Nat) (most : Int) (n x : Nat) (bv : Value) (gb : Nat) (bb : List Nat) (hI : RInv w0 wr p g ql qs qr qa q (.slice (some ⟨b, off, none⟩) len cap) bs k false)
    (hp : w0.heap.size ≤ p) (hq : w0.heap.size ≤ q) (hqs : w0.heap.size ≤ qs) (hqa : w0.heap.size ≤ qa) (hgs : g ≠ qs) (hga : g ≠ qa) (ho : ∀ z ∈ bs, z < 256) (hb : bs.length ≤ 1099511627776) (hlt : k < len) (h15 : k < 15) (hAt : AskAt w0 b (off + k * 5) ⟨1, most, n, x, bv, gb, bb⟩)
    (u7 u8 u9 u10 u11 u12 u13 u14 u15 u16 u17 u18 u19 u20 u21 u22 u23 u24 u25 u26 u27 u28 u29 u30 u31 u32 u33 u34 u35 u36 u37 u38 u39 u40 u41 u42 u43 u44 u45 u46 u47 u48 u49 u50 u51 u52 u53 u54 u55 u56 u57 u58 u59 u60 u61 u62 u63 u64 u65 u66 u67 u68 u69 u70 u71 u72 u73 u74 u75 u76 u77 u78 u79 u80 u81 u82 u83 u84 u85 u86 u87 u88 u89 u90 u91 u92 u93 u94 u95 u96 u97 u98 u99 u100 u101 u102 u103 u104 u105 u106 u107 u108 u109 : Value) (hok : ¬ 1 ≤ bs.length) :
    Code.wp Try.prog body31 (FailPost w0 p g ql qs qr qa q (.slice (some ⟨b, off, none⟩) len cap) bs k) ⟨#[.pointer (some ⟨p, 0, none⟩), .pointer (some ⟨ql, 0, none⟩), .pointer (some ⟨qs, 0, none⟩), .pointer (some ⟨qr, 0, none⟩), .pointer (some ⟨qa, 0, none⟩), undef, .int .i64 (k : Int), u7, u8, u9, u10, u11, u12, u13, u14, u15, u16, u17, u18, u19, u20, u21, u22, u23, u24, u25, u26, u27, u28, u29, u30, u31, u32, u33, u34, u35, u36, u37, u38, u39, u40, u41, u42, u43, u44, u45, u46, u47, u48, u49, u50, u51, u52, u53, u54, u55, u56, u57, u58, u59, u60, u61, u62, u63, u64, u65, u66, u67, u68, u69, u70, u71, u72, u73, u74, u75, u76, u77, u78, u79, u80, u81, u82, u83, u84, u85, u86, u87, u88, u89, u90, u91, u92, u93, u94, u95, u96, u97, u98, u99, u100, u101, u102, u103, u104, u105, u106, u107, u108, u109], []⟩ wr := by
  have hk3 : (k : Int) < (len : Int) := by omega
  have hk4 : (k : Int) < 15 := by omega
  have hk5 : (0 : Int) ≤ (k : Int) := by omega
  have cl := cell_of_one hI.hl
  have cs := cell_of_one hI.hs
  have fs := free_of_one hI.hs
  have cr := cell_of_one hI.hr
  have ca := cell_of_one hI.ha
  have fa := free_of_one hI.ha
  have AP := hI.apart
  obtain ⟨d0, d1, d2, d3, d4, dB, hn, hx, hoct⟩ := hAt
  simp only at d0 d1 d2 d3 d4 dB hn hx hoct
  have c0 := hI.mv.cell d0
  have c1 := hI.mv.cell d1
  have hbp' : b ∉ [p] := by have := lt_of_cell d0; simp at this ⊢; omega
  have hbq' : b ∉ [q] := by have := lt_of_cell d0; simp at this ⊢; omega
  have hbqs : b ≠ qs := by have := lt_of_cell d0; simp at this; omega
  have hsp : qs ∉ [p] := by have := AP.pqs; simp; omega
  have hrp : qr ∉ [p] := by have := AP.pqr; simp; omega
  have hsq : qs ∉ [q] := by have := AP.sq; simp; omega
  have hrq : qr ∉ [q] := by have := AP.rq; simp; omega
  have hrs : qr ≠ qs := AP.sr.symm
  have hlp : ql ∉ [p] := by have := AP.pql; simp; omega
  have hlq : ql ∉ [q] := by have := AP.lq; simp; omega
  have hls : ql ≠ qs := AP.ls
  have hqs' : q ≠ qs := AP.sq.symm
  have cld : wr.drew.cell? ⟨ql, 0, none⟩ = some (.slice (some ⟨b, off, none⟩) len cap) := cl
  have c1d : wr.drew.cell? ⟨b, off + k * 5 + 1, none⟩ = some (.int .i64 most) := c1
  have hrd : RdIs wr.drew p g bs false := hI.rd
  have hrf : RfIs wr.drew q g bs false := hI.rf
  have hqp : q ∉ [p] := by have := AP.pq; simp; omega
  have hgp : g ∉ [p] := by obtain ⟨_, _, _, h⟩ := hI.rd; simpa using h
  have csd : wr.drew.cell? ⟨qs, 0, none⟩ = some (.bool true) := cs
  have fsd : wr.drew.frozen? ⟨qs, 0, none⟩ = false := fs
  have crd : wr.drew.cell? ⟨qr, 0, none⟩ = some (.pointer (some ⟨q, 0, none⟩)) := cr
  clear AP d0 d1 d2 d3 d4
  clear hqa hga hq
  conv => arg 2; whnf
  go_wp2
  go_region_dies
  all_goals refine (rbyte_fail_w _ g bs _ hrd (by omega)).mono ?_
  all_goals rintro _ w2 ⟨rfl, hr2, m2⟩
  all_goals exact ⟨rfl, rfl, hI.failed hp hr2 (Moves.trans (Moves.drew (Moves.refl [p] wr)) m2 (fun x hx => .inl hx))⟩

set_option maxRecDepth 100000 in
set_option maxHeartbeats 8000000 in
theorem k2_fail (w0 wr : World) (p g ql qs qr qa q b off len cap k : Nat) (bs : List Nat) (most : Int) (n x : Nat) (bv : Value) (gb : Nat) (bb : List Nat) (hI : RInv w0 wr p g ql qs qr qa q (.slice (some ⟨b, off, none⟩) len cap) bs k false)
    (hp : w0.heap.size ≤ p) (hq : w0.heap.size ≤ q) (hqs : w0.heap.size ≤ qs) (hqa : w0.heap.size ≤ qa) (hgs : g ≠ qs) (hga : g ≠ qa) (ho : ∀ z ∈ bs, z < 256) (hb : bs.length ≤ 1099511627776) (hlt : k < len) (h15 : k < 15) (hAt : AskAt w0 b (off + k * 5) ⟨2, most, n, x, bv, gb, bb⟩)
    (u7 u8 u9 u10 u11 u12 u13 u14 u15 u16 u17 u18 u19 u20 u21 u22 u23 u24 u25 u26 u27 u28 u29 u30 u31 u32 u33 u34 u35 u36 u37 u38 u39 u40 u41 u42 u43 u44 u45 u46 u47 u48 u49 u50 u51 u52 u53 u54 u55 u56 u57 u58 u59 u60 u61 u62 u63 u64 u65 u66 u67 u68 u69 u70 u71 u72 u73 u74 u75 u76 u77 u78 u79 u80 u81 u82 u83 u84 u85 u86 u87 u88 u89 u90 u91 u92 u93 u94 u95 u96 u97 u98 u99 u100 u101 u102 u103 u104 u105 u106 u107 u108 u109 : Value) (hok : ¬ 4 ≤ bs.length) :
    Code.wp Try.prog body31 (FailPost w0 p g ql qs qr qa q (.slice (some ⟨b, off, none⟩) len cap) bs k) ⟨#[.pointer (some ⟨p, 0, none⟩), .pointer (some ⟨ql, 0, none⟩), .pointer (some ⟨qs, 0, none⟩), .pointer (some ⟨qr, 0, none⟩), .pointer (some ⟨qa, 0, none⟩), undef, .int .i64 (k : Int), u7, u8, u9, u10, u11, u12, u13, u14, u15, u16, u17, u18, u19, u20, u21, u22, u23, u24, u25, u26, u27, u28, u29, u30, u31, u32, u33, u34, u35, u36, u37, u38, u39, u40, u41, u42, u43, u44, u45, u46, u47, u48, u49, u50, u51, u52, u53, u54, u55, u56, u57, u58, u59, u60, u61, u62, u63, u64, u65, u66, u67, u68, u69, u70, u71, u72, u73, u74, u75, u76, u77, u78, u79, u80, u81, u82, u83, u84, u85, u86, u87, u88, u89, u90, u91, u92, u93, u94, u95, u96, u97, u98, u99, u100, u101, u102, u103, u104, u105, u106, u107, u108, u109], []⟩ wr := by
  have hk3 : (k : Int) < (len : Int) := by omega
  have hk4 : (k : Int) < 15 := by omega
  have hk5 : (0 : Int) ≤ (k : Int) := by omega
  have cl := cell_of_one hI.hl
  have cs := cell_of_one hI.hs
  have fs := free_of_one hI.hs
  have cr := cell_of_one hI.hr
  have ca := cell_of_one hI.ha
  have fa := free_of_one hI.ha
  have AP := hI.apart
  obtain ⟨d0, d1, d2, d3, d4, dB, hn, hx, hoct⟩ := hAt
  simp only at d0 d1 d2 d3 d4 dB hn hx hoct
  have c0 := hI.mv.cell d0
  have c1 := hI.mv.cell d1
  have hbp' : b ∉ [p] := by have := lt_of_cell d0; simp at this ⊢; omega
  have hbq' : b ∉ [q] := by have := lt_of_cell d0; simp at this ⊢; omega
  have hbqs : b ≠ qs := by have := lt_of_cell d0; simp at this; omega
  have hsp : qs ∉ [p] := by have := AP.pqs; simp; omega
  have hrp : qr ∉ [p] := by have := AP.pqr; simp; omega
  have hsq : qs ∉ [q] := by have := AP.sq; simp; omega
  have hrq : qr ∉ [q] := by have := AP.rq; simp; omega
  have hrs : qr ≠ qs := AP.sr.symm
  have hlp : ql ∉ [p] := by have := AP.pql; simp; omega
  have hlq : ql ∉ [q] := by have := AP.lq; simp; omega
  have hls : ql ≠ qs := AP.ls
  have hqs' : q ≠ qs := AP.sq.symm
  have cld : wr.drew.cell? ⟨ql, 0, none⟩ = some (.slice (some ⟨b, off, none⟩) len cap) := cl
  have c1d : wr.drew.cell? ⟨b, off + k * 5 + 1, none⟩ = some (.int .i64 most) := c1
  have hrd : RdIs wr.drew p g bs false := hI.rd
  have hrf : RfIs wr.drew q g bs false := hI.rf
  have hqp : q ∉ [p] := by have := AP.pq; simp; omega
  have hgp : g ∉ [p] := by obtain ⟨_, _, _, h⟩ := hI.rd; simpa using h
  have csd : wr.drew.cell? ⟨qs, 0, none⟩ = some (.bool true) := cs
  have fsd : wr.drew.frozen? ⟨qs, 0, none⟩ = false := fs
  have crd : wr.drew.cell? ⟨qr, 0, none⟩ = some (.pointer (some ⟨q, 0, none⟩)) := cr
  clear AP d0 d1 d2 d3 d4
  clear hqa hga hq
  conv => arg 2; whnf
  go_wp2
  go_region_dies
  all_goals refine (rnumr_fail_w _ g bs _ hrd (by omega)).mono ?_
  all_goals rintro _ w2 ⟨rfl, hr2, m2⟩
  all_goals exact ⟨rfl, rfl, hI.failed hp hr2 (Moves.trans (Moves.drew (Moves.refl [p] wr)) m2 (fun x hx => .inl hx))⟩

set_option maxRecDepth 100000 in
set_option maxHeartbeats 8000000 in
theorem k3_fail (w0 wr : World) (p g ql qs qr qa q b off len cap k : Nat) (bs : List Nat) (most : Int) (n x : Nat) (bv : Value) (gb : Nat) (bb : List Nat) (hI : RInv w0 wr p g ql qs qr qa q (.slice (some ⟨b, off, none⟩) len cap) bs k false)
    (hp : w0.heap.size ≤ p) (hq : w0.heap.size ≤ q) (hqs : w0.heap.size ≤ qs) (hqa : w0.heap.size ≤ qa) (hgs : g ≠ qs) (hga : g ≠ qa) (ho : ∀ z ∈ bs, z < 256) (hb : bs.length ≤ 1099511627776) (hlt : k < len) (h15 : k < 15) (hAt : AskAt w0 b (off + k * 5) ⟨3, most, n, x, bv, gb, bb⟩)
    (u7 u8 u9 u10 u11 u12 u13 u14 u15 u16 u17 u18 u19 u20 u21 u22 u23 u24 u25 u26 u27 u28 u29 u30 u31 u32 u33 u34 u35 u36 u37 u38 u39 u40 u41 u42 u43 u44 u45 u46 u47 u48 u49 u50 u51 u52 u53 u54 u55 u56 u57 u58 u59 u60 u61 u62 u63 u64 u65 u66 u67 u68 u69 u70 u71 u72 u73 u74 u75 u76 u77 u78 u79 u80 u81 u82 u83 u84 u85 u86 u87 u88 u89 u90 u91 u92 u93 u94 u95 u96 u97 u98 u99 u100 u101 u102 u103 u104 u105 u106 u107 u108 u109 : Value) (hok : ¬ 8 ≤ bs.length) :
    Code.wp Try.prog body31 (FailPost w0 p g ql qs qr qa q (.slice (some ⟨b, off, none⟩) len cap) bs k) ⟨#[.pointer (some ⟨p, 0, none⟩), .pointer (some ⟨ql, 0, none⟩), .pointer (some ⟨qs, 0, none⟩), .pointer (some ⟨qr, 0, none⟩), .pointer (some ⟨qa, 0, none⟩), undef, .int .i64 (k : Int), u7, u8, u9, u10, u11, u12, u13, u14, u15, u16, u17, u18, u19, u20, u21, u22, u23, u24, u25, u26, u27, u28, u29, u30, u31, u32, u33, u34, u35, u36, u37, u38, u39, u40, u41, u42, u43, u44, u45, u46, u47, u48, u49, u50, u51, u52, u53, u54, u55, u56, u57, u58, u59, u60, u61, u62, u63, u64, u65, u66, u67, u68, u69, u70, u71, u72, u73, u74, u75, u76, u77, u78, u79, u80, u81, u82, u83, u84, u85, u86, u87, u88, u89, u90, u91, u92, u93, u94, u95, u96, u97, u98, u99, u100, u101, u102, u103, u104, u105, u106, u107, u108, u109], []⟩ wr := by
  have hk3 : (k : Int) < (len : Int) := by omega
  have hk4 : (k : Int) < 15 := by omega
  have hk5 : (0 : Int) ≤ (k : Int) := by omega
  have cl := cell_of_one hI.hl
  have cs := cell_of_one hI.hs
  have fs := free_of_one hI.hs
  have cr := cell_of_one hI.hr
  have ca := cell_of_one hI.ha
  have fa := free_of_one hI.ha
  have AP := hI.apart
  obtain ⟨d0, d1, d2, d3, d4, dB, hn, hx, hoct⟩ := hAt
  simp only at d0 d1 d2 d3 d4 dB hn hx hoct
  have c0 := hI.mv.cell d0
  have c1 := hI.mv.cell d1
  have hbp' : b ∉ [p] := by have := lt_of_cell d0; simp at this ⊢; omega
  have hbq' : b ∉ [q] := by have := lt_of_cell d0; simp at this ⊢; omega
  have hbqs : b ≠ qs := by have := lt_of_cell d0; simp at this; omega
  have hsp : qs ∉ [p] := by have := AP.pqs; simp; omega
  have hrp : qr ∉ [p] := by have := AP.pqr; simp; omega
  have hsq : qs ∉ [q] := by have := AP.sq; simp; omega
  have hrq : qr ∉ [q] := by have := AP.rq; simp; omega
  have hrs : qr ≠ qs := AP.sr.symm
  have hlp : ql ∉ [p] := by have := AP.pql; simp; omega
  have hlq : ql ∉ [q] := by have := AP.lq; simp; omega
  have hls : ql ≠ qs := AP.ls
  have hqs' : q ≠ qs := AP.sq.symm
  have cld : wr.drew.cell? ⟨ql, 0, none⟩ = some (.slice (some ⟨b, off, none⟩) len cap) := cl
  have c1d : wr.drew.cell? ⟨b, off + k * 5 + 1, none⟩ = some (.int .i64 most) := c1
  have hrd : RdIs wr.drew p g bs false := hI.rd
  have hrf : RfIs wr.drew q g bs false := hI.rf
  have hqp : q ∉ [p] := by have := AP.pq; simp; omega
  have hgp : g ∉ [p] := by obtain ⟨_, _, _, h⟩ := hI.rd; simpa using h
  have csd : wr.drew.cell? ⟨qs, 0, none⟩ = some (.bool true) := cs
  have fsd : wr.drew.frozen? ⟨qs, 0, none⟩ = false := fs
  have crd : wr.drew.cell? ⟨qr, 0, none⟩ = some (.pointer (some ⟨q, 0, none⟩)) := cr
  clear AP d0 d1 d2 d3 d4
  clear hqa hga hq
  conv => arg 2; whnf
  go_wp2
  go_region_dies
  all_goals refine (rlongr_fail_w _ g bs _ hrd (by omega)).mono ?_
  all_goals rintro _ w2 ⟨rfl, hr2, m2⟩
  all_goals exact ⟨rfl, rfl, hI.failed hp hr2 (Moves.trans (Moves.drew (Moves.refl [p] wr)) m2 (fun x hx => .inl hx))⟩

set_option maxRecDepth 100000 in
set_option maxHeartbeats 8000000 in
theorem k4_fail (w0 wr : World) (p g ql qs qr qa q b off len cap k : Nat) (bs : List Nat) (most : Int) (n x : Nat) (bv : Value) (gb : Nat) (bb : List Nat) (hI : RInv w0 wr p g ql qs qr qa q (.slice (some ⟨b, off, none⟩) len cap) bs k false)
    (hp : w0.heap.size ≤ p) (hq : w0.heap.size ≤ q) (hqs : w0.heap.size ≤ qs) (hqa : w0.heap.size ≤ qa) (hgs : g ≠ qs) (hga : g ≠ qa) (ho : ∀ z ∈ bs, z < 256) (hb : bs.length ≤ 1099511627776) (hlt : k < len) (h15 : k < 15) (hAt : AskAt w0 b (off + k * 5) ⟨4, most, n, x, bv, gb, bb⟩)
    (u7 u8 u9 u10 u11 u12 u13 u14 u15 u16 u17 u18 u19 u20 u21 u22 u23 u24 u25 u26 u27 u28 u29 u30 u31 u32 u33 u34 u35 u36 u37 u38 u39 u40 u41 u42 u43 u44 u45 u46 u47 u48 u49 u50 u51 u52 u53 u54 u55 u56 u57 u58 u59 u60 u61 u62 u63 u64 u65 u66 u67 u68 u69 u70 u71 u72 u73 u74 u75 u76 u77 u78 u79 u80 u81 u82 u83 u84 u85 u86 u87 u88 u89 u90 u91 u92 u93 u94 u95 u96 u97 u98 u99 u100 u101 u102 u103 u104 u105 u106 u107 u108 u109 : Value) (hok : ¬ (8 ≤ bs.length ∧ Pl.canon (val (bs.take 8)) = val (bs.take 8))) :
    Code.wp Try.prog body31 (FailPost w0 p g ql qs qr qa q (.slice (some ⟨b, off, none⟩) len cap) bs k) ⟨#[.pointer (some ⟨p, 0, none⟩), .pointer (some ⟨ql, 0, none⟩), .pointer (some ⟨qs, 0, none⟩), .pointer (some ⟨qr, 0, none⟩), .pointer (some ⟨qa, 0, none⟩), undef, .int .i64 (k : Int), u7, u8, u9, u10, u11, u12, u13, u14, u15, u16, u17, u18, u19, u20, u21, u22, u23, u24, u25, u26, u27, u28, u29, u30, u31, u32, u33, u34, u35, u36, u37, u38, u39, u40, u41, u42, u43, u44, u45, u46, u47, u48, u49, u50, u51, u52, u53, u54, u55, u56, u57, u58, u59, u60, u61, u62, u63, u64, u65, u66, u67, u68, u69, u70, u71, u72, u73, u74, u75, u76, u77, u78, u79, u80, u81, u82, u83, u84, u85, u86, u87, u88, u89, u90, u91, u92, u93, u94, u95, u96, u97, u98, u99, u100, u101, u102, u103, u104, u105, u106, u107, u108, u109], []⟩ wr := by
  have hk3 : (k : Int) < (len : Int) := by omega
  have hk4 : (k : Int) < 15 := by omega
  have hk5 : (0 : Int) ≤ (k : Int) := by omega
  have cl := cell_of_one hI.hl
  have cs := cell_of_one hI.hs
  have fs := free_of_one hI.hs
  have cr := cell_of_one hI.hr
  have ca := cell_of_one hI.ha
  have fa := free_of_one hI.ha
  have AP := hI.apart
  obtain ⟨d0, d1, d2, d3, d4, dB, hn, hx, hoct⟩ := hAt
  simp only at d0 d1 d2 d3 d4 dB hn hx hoct
  have c0 := hI.mv.cell d0
  have c1 := hI.mv.cell d1
  have hbp' : b ∉ [p] := by have := lt_of_cell d0; simp at this ⊢; omega
  have hbq' : b ∉ [q] := by have := lt_of_cell d0; simp at this ⊢; omega
  have hbqs : b ≠ qs := by have := lt_of_cell d0; simp at this; omega
  have hsp : qs ∉ [p] := by have := AP.pqs; simp; omega
  have hrp : qr ∉ [p] := by have := AP.pqr; simp; omega
  have hsq : qs ∉ [q] := by have := AP.sq; simp; omega
  have hrq : qr ∉ [q] := by have := AP.rq; simp; omega
  have hrs : qr ≠ qs := AP.sr.symm
  have hlp : ql ∉ [p] := by have := AP.pql; simp; omega
  have hlq : ql ∉ [q] := by have := AP.lq; simp; omega
  have hls : ql ≠ qs := AP.ls
  have hqs' : q ≠ qs := AP.sq.symm
  have cld : wr.drew.cell? ⟨ql, 0, none⟩ = some (.slice (some ⟨b, off, none⟩) len cap) := cl
  have c1d : wr.drew.cell? ⟨b, off + k * 5 + 1, none⟩ = some (.int .i64 most) := c1
  have hrd : RdIs wr.drew p g bs false := hI.rd
  have hrf : RfIs wr.drew q g bs false := hI.rf
  have hqp : q ∉ [p] := by have := AP.pq; simp; omega
  have hgp : g ∉ [p] := by obtain ⟨_, _, _, h⟩ := hI.rd; simpa using h
  have csd : wr.drew.cell? ⟨qs, 0, none⟩ = some (.bool true) := cs
  have fsd : wr.drew.frozen? ⟨qs, 0, none⟩ = false := fs
  have crd : wr.drew.cell? ⟨qr, 0, none⟩ = some (.pointer (some ⟨q, 0, none⟩)) := cr
  clear AP d0 d1 d2 d3 d4
  clear hqa hga hq
  conv => arg 2; whnf
  go_wp2
  go_region_dies
  all_goals refine (rfloat_fail_w _ g bs _ hrd ho hok).mono ?_
  all_goals rintro _ w2 ⟨rfl, hr2, m2⟩
  all_goals exact ⟨rfl, rfl, hI.failed hp hr2 (Moves.trans (Moves.drew (Moves.refl [p] wr)) m2 (fun x hx => .inl hx))⟩

end Go.Proofs.Ytmcgjfnilmadoaa
