/-
  A round of what reads hands to Read: a Text that can be read.
-/
import Derived.Test.YtmcgjfnilmadoaaReads2
namespace Go.Proofs.Ytmcgjfnilmadoaa
open Go.RowKit
set_option linter.unusedVariables false

set_option maxRecDepth 100000 in
set_option maxHeartbeats 8000000 in
theorem k5_ok (w0 wr : World) (p g ql qs qr qa q b off len cap k : Nat) (bs : List Nat) (most : Int) (n x : Nat) (bv : Value) (gb : Nat) (bb : List Nat) (hI : RInv w0 wr p g ql qs qr qa q (.slice (some ⟨b, off, none⟩) len cap) bs k false)
    (hp : w0.heap.size ≤ p) (hq : w0.heap.size ≤ q) (hqs : w0.heap.size ≤ qs) (hqa : w0.heap.size ≤ qa) (hgs : g ≠ qs) (hga : g ≠ qa) (ho : ∀ z ∈ bs, z < 256) (hb : bs.length ≤ 1099511627776) (hlt : k < len) (h15 : k < 15) (hAt : AskAt w0 b (off + k * 5) ⟨5, most, n, x, bv, gb, bb⟩)
    (Q : Exit → Act → World → Prop) (u7 u8 u9 u10 u11 u12 u13 u14 u15 u16 u17 u18 u19 u20 u21 u22 u23 u24 u25 u26 u27 u28 u29 u30 u31 u32 u33 u34 u35 u36 u37 u38 u39 u40 u41 u42 u43 u44 u45 u46 u47 u48 u49 u50 u51 u52 u53 u54 u55 u56 u57 u58 u59 u60 u61 u62 u63 u64 u65 u66 u67 u68 u69 u70 u71 u72 u73 u74 u75 u76 u77 u78 u79 u80 u81 u82 u83 u84 u85 u86 u87 u88 u89 u90 u91 u92 u93 u94 u95 u96 u97 u98 u99 u100 u101 u102 u103 u104 u105 u106 u107 u108 u109 : Value) (hok : textOk bs most)
    (HQ : Hid (∀ (v7 v8 v9 v10 v11 v12 v13 v14 v15 v16 v17 v18 v19 v20 v21 v22 v23 v24 v25 v26 v27 v28 v29 v30 v31 v32 v33 v34 v35 v36 v37 v38 v39 v40 v41 v42 v43 v44 v45 v46 v47 v48 v49 v50 v51 v52 v53 v54 v55 v56 v57 v58 v59 v60 v61 v62 v63 v64 v65 v66 v67 v68 v69 v70 v71 v72 v73 v74 v75 v76 v77 v78 v79 v80 v81 v82 v83 v84 v85 v86 v87 v88 v89 v90 v91 v92 v93 v94 v95 v96 v97 v98 v99 v100 v101 v102 v103 v104 v105 v106 v107 v108 v109 : Value) (w' : World), (∃ bs' : List Nat, RInv w0 w' p g ql qs qr qa q (.slice (some ⟨b, off, none⟩) len cap) bs' (k + 1) false ∧ (∀ z ∈ bs', z < 256) ∧ bs'.length ≤ 1099511627776) → Q .normal ⟨#[.pointer (some ⟨p, 0, none⟩), .pointer (some ⟨ql, 0, none⟩), .pointer (some ⟨qs, 0, none⟩), .pointer (some ⟨qr, 0, none⟩), .pointer (some ⟨qa, 0, none⟩), undef, .int .i64 ((k : Int) + 1), v7, v8, v9, v10, v11, v12, v13, v14, v15, v16, v17, v18, v19, v20, v21, v22, v23, v24, v25, v26, v27, v28, v29, v30, v31, v32, v33, v34, v35, v36, v37, v38, v39, v40, v41, v42, v43, v44, v45, v46, v47, v48, v49, v50, v51, v52, v53, v54, v55, v56, v57, v58, v59, v60, v61, v62, v63, v64, v65, v66, v67, v68, v69, v70, v71, v72, v73, v74, v75, v76, v77, v78, v79, v80, v81, v82, v83, v84, v85, v86, v87, v88, v89, v90, v91, v92, v93, v94, v95, v96, v97, v98, v99, v100, v101, v102, v103, v104, v105, v106, v107, v108, v109], []⟩ w')) :
    Code.wp Try.prog body31 Q ⟨#[.pointer (some ⟨p, 0, none⟩), .pointer (some ⟨ql, 0, none⟩), .pointer (some ⟨qs, 0, none⟩), .pointer (some ⟨qr, 0, none⟩), .pointer (some ⟨qa, 0, none⟩), undef, .int .i64 (k : Int), u7, u8, u9, u10, u11, u12, u13, u14, u15, u16, u17, u18, u19, u20, u21, u22, u23, u24, u25, u26, u27, u28, u29, u30, u31, u32, u33, u34, u35, u36, u37, u38, u39, u40, u41, u42, u43, u44, u45, u46, u47, u48, u49, u50, u51, u52, u53, u54, u55, u56, u57, u58, u59, u60, u61, u62, u63, u64, u65, u66, u67, u68, u69, u70, u71, u72, u73, u74, u75, u76, u77, u78, u79, u80, u81, u82, u83, u84, u85, u86, u87, u88, u89, u90, u91, u92, u93, u94, u95, u96, u97, u98, u99, u100, u101, u102, u103, u104, u105, u106, u107, u108, u109], []⟩ wr := by
  have hk3 : (k : Int) < (len : Int) := by omega
  have hk4 : (k : Int) < 15 := by omega
  have hk5 : (0 : Int) ≤ (k : Int) := by omega
  have cl := cell_of_one hI.hl
  have cs := cell_of_one hI.hs
  have fs := free_of_one hI.hs
  have cr := cell_of_one hI.hr
  have ca := cell_of_one hI.ha
  have fa := free_of_one hI.ha
  have AP := hI.apart
  obtain ⟨d0, d1, d2, d3, d4, dB, hn, hx, hoct⟩ := hAt
  simp only at d0 d1 d2 d3 d4 dB hn hx hoct
  have c0 := hI.mv.cell d0
  have c1 := hI.mv.cell d1
  have hbp' : b ∉ [p] := by have := lt_of_cell d0; simp at this ⊢; omega
  have hbq' : b ∉ [q] := by have := lt_of_cell d0; simp at this ⊢; omega
  have hbqs : b ≠ qs := by have := lt_of_cell d0; simp at this; omega
  have hsp : qs ∉ [p] := by have := AP.pqs; simp; omega
  have hrp : qr ∉ [p] := by have := AP.pqr; simp; omega
  have hsq : qs ∉ [q] := by have := AP.sq; simp; omega
  have hrq : qr ∉ [q] := by have := AP.rq; simp; omega
  have hrs : qr ≠ qs := AP.sr.symm
  have hlp : ql ∉ [p] := by have := AP.pql; simp; omega
  have hlq : ql ∉ [q] := by have := AP.lq; simp; omega
  have hls : ql ≠ qs := AP.ls
  have hqs' : q ≠ qs := AP.sq.symm
  have cld : wr.drew.cell? ⟨ql, 0, none⟩ = some (.slice (some ⟨b, off, none⟩) len cap) := cl
  have c1d : wr.drew.cell? ⟨b, off + k * 5 + 1, none⟩ = some (.int .i64 most) := c1
  have hrd : RdIs wr.drew p g bs false := hI.rd
  have hrf : RfIs wr.drew q g bs false := hI.rf
  have hqp : q ∉ [p] := by have := AP.pq; simp; omega
  have hgp : g ∉ [p] := by obtain ⟨_, _, _, h⟩ := hI.rd; simpa using h
  have csd : wr.drew.cell? ⟨qs, 0, none⟩ = some (.bool true) := cs
  have fsd : wr.drew.frozen? ⟨qs, 0, none⟩ = false := fs
  have crd : wr.drew.cell? ⟨qr, 0, none⟩ = some (.pointer (some ⟨q, 0, none⟩)) := cr
  clear AP d0 d1 d2 d3 d4
  obtain ⟨bs', hbs'⟩ : ∃ bs', Hid (bs' = (bs.drop 4).drop (val (bs.take 4))) := ⟨_, rfl⟩
  have ho' : ∀ z ∈ bs', z < 256 := fun z hz => ho z (by rw [hbs'.out] at hz; exact List.mem_of_mem_drop (List.mem_of_mem_drop hz))
  have hb' : bs'.length ≤ 1099511627776 := by rw [hbs'.out]; simp only [List.length_drop]; omega
  obtain ⟨tx, htx⟩ : ∃ tx, Hid (tx = (bs.drop 4).take (val (bs.take 4))) := ⟨_, rfl⟩
  have hto : ∀ z ∈ tx, z < 256 := fun z hz => ho z (by rw [htx.out] at hz; exact List.mem_of_mem_drop (List.mem_of_mem_take hz))
  conv => arg 2; whnf
  go_wp2
  refine wp_region_noPanic ?_
  go_region_held (fun w' => w'.cell? ⟨qs, 0, none⟩ = some (.bool true) ∧ w'.cell? ⟨qr, 0, none⟩ = some (.pointer (some ⟨q, 0, none⟩)) ∧ w'.cell? ⟨ql, 0, none⟩ = some (.slice (some ⟨b, off, none⟩) len cap) ∧ w'.cell? ⟨b, off + k * 5 + 1, none⟩ = some (.int .i64 most)) (first | (go_keep; done) | exact S_set5 rfl k1 k2 k8 k9 hrs hls hbqs) (first | (go_at_call 22; refine (rtextr_w _ g bs _ _ hrd ho hok).mono ?_; rintro _ w2 ⟨v2, rfl, hx2, hr2, m2, f2⟩; rw [← htx.out] at hx2; have hs2 := run_str hx2.isB hto; have k1 := m2.cellOf csd hsp; have k2 := m2.cellOf crd hrp; have k4 := m2.frozenOf csd hsp fsd; have hf2 := hrf.moves m2 hqp hgp; have k8 := m2.cellOf cld hlp; have k9 := m2.cellOf c1d hbp') | (go_at_call 37; refine (rfText_w _ g bs _ _ hf2 hb ho hok).mono ?_; rintro _ w3 ⟨v3, rfl, hx3, hf3, m3, f3⟩; rw [← htx.out] at hx3; have hs3 := run_str hx3.isB hto; have hs4 := run_str (hx2.moves m3 (text_far hx2 hf2)).isB hto; have k5 := m3.cellOf k1 hsq; have k6 := m3.cellOf k2 hrq; have k7 := m3.frozenOf k1 hsq k4; have k10 := m3.cellOf k8 hlq; have k11 := m3.cellOf k9 hbq'; clear k1 k2 k4 k8 k9; have k1 := k5; have k2 := k6; have k4 := k7; have k8 := k10; have k9 := k11))
  all_goals (
    refine NoPanic.normal ?_
    have hJ := hI.both hp hq hqs hgs hr2 m2 hf3 m3
    rw [← hbs'.out] at hJ
    generalize World.setCell w3 ⟨qs, 0, none⟩ (.bool true) = W1 at hJ ⊢
    clear hrd hrf csd fsd crd cld c1d cs fs cr ca fa cl c0 c1 hI hr2 m2 hf3 m3 hf2 k1 k2 k4 k5 k6 k7 k8 k9 k10 k11 hs2 hs3 hs4 hx2 hx3 f2 f3
    have ca1 := cell_of_one hJ.ha
    have fa1 := free_of_one hJ.ha
    go_wp2
    have hK := hJ.at1 hqa hga ((k : Int) + 1) (by omega)
    generalize World.setCell W1 ⟨qa, 0, none⟩ (.int .i64 ((k : Int) + 1)) = W2 at hK ⊢
    clear hJ ca1 fa1
    have hrd2 : RdIs W2.drew p g bs' false := hK.rd
    have cs2 := cell_of_one hK.hs
    have fs2 := free_of_one hK.hs
    have cr2 := cell_of_one hK.hr
    obtain ⟨sv2, hq2, hB2, _⟩ := hK.rf
    obtain ⟨ad2, len2, cap2, rfl, hl2, _⟩ := hB2
    obtain ⟨z0, z1, _, _⟩ := two_cells hq2
    have hl3 : (((bs'.length : Nat) : Int) == (len2 : Int)) = true := by rw [hl2]; simp
    have fs2d : W2.drew.frozen? ⟨qs, 0, none⟩ = false := fs2
    go_region_held3 (fun w' => w'.cell? ⟨qs, 0, none⟩ = some (.bool true) ∧ w'.cell? ⟨qr, 0, none⟩ = some (.pointer (some ⟨q, 0, none⟩)) ∧ w'.cell? ⟨q, 1, none⟩ = some (.bool false) ∧ w'.cell? ⟨q, 0, none⟩ = some (.slice ad2 len2 cap2)) (first | (go_keep; done) | exact S_set4d cs2 cr2 z1 z0 hrs hqs') (first | (go_at_call 23; refine (rleft_w _ g bs' false _ hrd2).mono ?_; rintro _ _ ⟨rfl, rfl⟩))
    go_wp2
    apply HQ.out
    exact ⟨bs', hK.same1 hqs hgs, ho', hb'⟩)

end Go.Proofs.Ytmcgjfnilmadoaa
