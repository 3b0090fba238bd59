/-
  The function that 'reads' hands to Read: for every row of things and all bytes it comes to its end with both Readers at one place, or is left by the Reader's own panic at the first thing that cannot be read.
-/
import Derived.Test.YtmcgjfnilmadoaaK1
import Derived.Test.YtmcgjfnilmadoaaK3
import Derived.Test.YtmcgjfnilmadoaaK5
import Derived.Test.YtmcgjfnilmadoaaK6
import Derived.Test.YtmcgjfnilmadoaaF1
import Derived.Test.YtmcgjfnilmadoaaF5
namespace Go.Proofs.Ytmcgjfnilmadoaa
open Go.RowKit

set_option maxRecDepth 100000 in
set_option maxHeartbeats 8000000 in
theorem reads1_w (w0 : World) (p g ql qs qr qa q : Nat) (lv : Value) (L : List AskM) (bs0 : List Nat) (w : World) (hA : Asks w0 lv L) (hp : w0.heap.size ≤ p) (hq : w0.heap.size ≤ q) (hqs : w0.heap.size ≤ qs) (hqa : w0.heap.size ≤ qa) (hgs : g ≠ qs) (hga : g ≠ qa)
    (ho0 : ∀ z ∈ bs0, z < 256) (hb0 : bs0.length ≤ 1099511627776) (h : RInv w0 w p g ql qs qr qa q lv bs0 0 false) :
    Calls Try.prog 31 #[.pointer (some ⟨p, 0, none⟩), .pointer (some ⟨ql, 0, none⟩), .pointer (some ⟨qs, 0, none⟩), .pointer (some ⟨qr, 0, none⟩), .pointer (some ⟨qa, 0, none⟩)] w (Done1 w0 p g ql qs qr qa q lv L) := by
  obtain ⟨ad, len, cap, rfl, hlen, hcap, hL⟩ := hA
  have cl := cell_of_one h.hl
  go_enter Try.func31, Try.ntmps31
  go_wp2
  go_loopw [6] (fun i wr => ∃ k : Nat, k ≤ len ∧ k ≤ 15 ∧ i = .int .i64 k ∧ ∃ bs : List Nat, RInv w0 wr p g ql qs qr qa q (.slice ad len cap) bs k false ∧ (∀ z ∈ bs, z < 256) ∧ bs.length ≤ 1099511627776) (fun i _ => len - (intOf i).toNat)
  case atStart => exact ⟨0, Nat.zero_le _, Nat.zero_le _, rfl, bs0, h, ho0, hb0⟩
  case round =>
    clear h ho0 hb0 cl
    obtain ⟨k, hk1, hk2, rfl, bs, hI, ho, hb⟩ := hrel
    have cl := cell_of_one hI.hl
    by_cases hlt : k < len
    · by_cases h15 : k < 15
      · obtain ⟨A, hA⟩ : ∃ A, L[k]? = some A := ⟨L[k]'(by omega), by simp⟩
        obtain ⟨b, off, rfl, hAt⟩ := hL k A hA
        have HA : Hid (L[k]? = some A) := hA
        clear hA hL
        obtain ⟨kind, most, n, x, bv, gb, bb⟩ := A
        rcases kind_ways6 kind with rfl | rfl | rfl | rfl | rfl | rfl | ⟨q1, q2, q3, q4, q5, q6⟩
        · by_cases hok : 1 ≤ bs.length
          · skip
            refine k1_ok w0 wr p g ql qs qr qa q b off len cap k bs most n x bv gb bb hI hp hq hqs hqa hgs hga ho hb hlt h15 hAt _ _ _ _ _ _ _ _ _ _ _ _ _ _ _ _ _ _ _ _ _ _ _ _ _ _ _ _ _ _ _ _ _ _ _ _ _ _ _ _ _ _ _ _ _ _ _ _ _ _ _ _ _ _ _ _ _ _ _ _ _ _ _ _ _ _ _ _ _ _ _ _ _ _ _ _ _ _ _ _ _ _ _ _ _ _ _ _ _ _ _ _ _ _ _ _ _ _ _ _ _ _ _ _ hok ?_
            unfold Hid
            intro v7 v8 v9 v10 v11 v12 v13 v14 v15 v16 v17 v18 v19 v20 v21 v22 v23 v24 v25 v26 v27 v28 v29 v30 v31 v32 v33 v34 v35 v36 v37 v38 v39 v40 v41 v42 v43 v44 v45 v46 v47 v48 v49 v50 v51 v52 v53 v54 v55 v56 v57 v58 v59 v60 v61 v62 v63 v64 v65 v66 v67 v68 v69 v70 v71 v72 v73 v74 v75 v76 v77 v78 v79 v80 v81 v82 v83 v84 v85 v86 v87 v88 v89 v90 v91 v92 v93 v94 v95 v96 v97 v98 v99 v100 v101 v102 v103 v104 v105 v106 v107 v108 v109 w' h
            obtain ⟨bs', h1, h2, h3⟩ := h
            refine And.intro ⟨.int .i64 ((k : Int) + 1), v7, v8, v9, v10, v11, v12, v13, v14, v15, v16, v17, v18, v19, v20, v21, v22, v23, v24, v25, v26, v27, v28, v29, v30, v31, v32, v33, v34, v35, v36, v37, v38, v39, v40, v41, v42, v43, v44, v45, v46, v47, v48, v49, v50, v51, v52, v53, v54, v55, v56, v57, v58, v59, v60, v61, v62, v63, v64, v65, v66, v67, v68, v69, v70, v71, v72, v73, v74, v75, v76, v77, v78, v79, v80, v81, v82, v83, v84, v85, v86, v87, v88, v89, v90, v91, v92, v93, v94, v95, v96, v97, v98, v99, v100, v101, v102, v103, v104, v105, v106, v107, v108, v109, ⟨k + 1, by omega, by omega, by go_num, bs', h1, h2, h3⟩, rfl⟩ ?_
            simp [intOf]
            omega
          · skip
            refine Code.wp_mono ?_ (k1_fail w0 wr p g ql qs qr qa q b off len cap k bs most n x bv gb bb hI hp hq hqs hqa hgs hga ho hb hlt h15 hAt _ _ _ _ _ _ _ _ _ _ _ _ _ _ _ _ _ _ _ _ _ _ _ _ _ _ _ _ _ _ _ _ _ _ _ _ _ _ _ _ _ _ _ _ _ _ _ _ _ _ _ _ _ _ _ _ _ _ _ _ _ _ _ _ _ _ _ _ _ _ _ _ _ _ _ _ _ _ _ _ _ _ _ _ _ _ _ _ _ _ _ _ _ _ _ _ _ _ _ _ _ _ _ hok)
            intro e a' w' h
            cases e with
            | panic c =>
              obtain ⟨rfl, hd, hR⟩ := h
              exact ⟨hd, .inr ⟨rfl, bs, k, _, h15, HA.out, hR, .inr (.inl ⟨rfl, by omega⟩), hb, ho⟩⟩
            | normal => exact h.elim
            | exit _ => exact h.elim
            | goto _ => exact h.elim
            | ret => exact h.elim
            | outgrown => exact h.elim
        · by_cases hok : 4 ≤ bs.length
          · skip
            refine k2_ok w0 wr p g ql qs qr qa q b off len cap k bs most n x bv gb bb hI hp hq hqs hqa hgs hga ho hb hlt h15 hAt _ _ _ _ _ _ _ _ _ _ _ _ _ _ _ _ _ _ _ _ _ _ _ _ _ _ _ _ _ _ _ _ _ _ _ _ _ _ _ _ _ _ _ _ _ _ _ _ _ _ _ _ _ _ _ _ _ _ _ _ _ _ _ _ _ _ _ _ _ _ _ _ _ _ _ _ _ _ _ _ _ _ _ _ _ _ _ _ _ _ _ _ _ _ _ _ _ _ _ _ _ _ _ _ hok ?_
            unfold Hid
            intro v7 v8 v9 v10 v11 v12 v13 v14 v15 v16 v17 v18 v19 v20 v21 v22 v23 v24 v25 v26 v27 v28 v29 v30 v31 v32 v33 v34 v35 v36 v37 v38 v39 v40 v41 v42 v43 v44 v45 v46 v47 v48 v49 v50 v51 v52 v53 v54 v55 v56 v57 v58 v59 v60 v61 v62 v63 v64 v65 v66 v67 v68 v69 v70 v71 v72 v73 v74 v75 v76 v77 v78 v79 v80 v81 v82 v83 v84 v85 v86 v87 v88 v89 v90 v91 v92 v93 v94 v95 v96 v97 v98 v99 v100 v101 v102 v103 v104 v105 v106 v107 v108 v109 w' h
            obtain ⟨bs', h1, h2, h3⟩ := h
            refine And.intro ⟨.int .i64 ((k : Int) + 1), v7, v8, v9, v10, v11, v12, v13, v14, v15, v16, v17, v18, v19, v20, v21, v22, v23, v24, v25, v26, v27, v28, v29, v30, v31, v32, v33, v34, v35, v36, v37, v38, v39, v40, v41, v42, v43, v44, v45, v46, v47, v48, v49, v50, v51, v52, v53, v54, v55, v56, v57, v58, v59, v60, v61, v62, v63, v64, v65, v66, v67, v68, v69, v70, v71, v72, v73, v74, v75, v76, v77, v78, v79, v80, v81, v82, v83, v84, v85, v86, v87, v88, v89, v90, v91, v92, v93, v94, v95, v96, v97, v98, v99, v100, v101, v102, v103, v104, v105, v106, v107, v108, v109, ⟨k + 1, by omega, by omega, by go_num, bs', h1, h2, h3⟩, rfl⟩ ?_
            simp [intOf]
            omega
          · skip
            refine Code.wp_mono ?_ (k2_fail w0 wr p g ql qs qr qa q b off len cap k bs most n x bv gb bb hI hp hq hqs hqa hgs hga ho hb hlt h15 hAt _ _ _ _ _ _ _ _ _ _ _ _ _ _ _ _ _ _ _ _ _ _ _ _ _ _ _ _ _ _ _ _ _ _ _ _ _ _ _ _ _ _ _ _ _ _ _ _ _ _ _ _ _ _ _ _ _ _ _ _ _ _ _ _ _ _ _ _ _ _ _ _ _ _ _ _ _ _ _ _ _ _ _ _ _ _ _ _ _ _ _ _ _ _ _ _ _ _ _ _ _ _ _ hok)
            intro e a' w' h
            cases e with
            | panic c =>
              obtain ⟨rfl, hd, hR⟩ := h
              exact ⟨hd, .inr ⟨rfl, bs, k, _, h15, HA.out, hR, .inr (.inr (.inl ⟨rfl, by omega⟩)), hb, ho⟩⟩
            | normal => exact h.elim
            | exit _ => exact h.elim
            | goto _ => exact h.elim
            | ret => exact h.elim
            | outgrown => exact h.elim
        · by_cases hok : 8 ≤ bs.length
          · skip
            refine k3_ok w0 wr p g ql qs qr qa q b off len cap k bs most n x bv gb bb hI hp hq hqs hqa hgs hga ho hb hlt h15 hAt _ _ _ _ _ _ _ _ _ _ _ _ _ _ _ _ _ _ _ _ _ _ _ _ _ _ _ _ _ _ _ _ _ _ _ _ _ _ _ _ _ _ _ _ _ _ _ _ _ _ _ _ _ _ _ _ _ _ _ _ _ _ _ _ _ _ _ _ _ _ _ _ _ _ _ _ _ _ _ _ _ _ _ _ _ _ _ _ _ _ _ _ _ _ _ _ _ _ _ _ _ _ _ _ hok ?_
            unfold Hid
            intro v7 v8 v9 v10 v11 v12 v13 v14 v15 v16 v17 v18 v19 v20 v21 v22 v23 v24 v25 v26 v27 v28 v29 v30 v31 v32 v33 v34 v35 v36 v37 v38 v39 v40 v41 v42 v43 v44 v45 v46 v47 v48 v49 v50 v51 v52 v53 v54 v55 v56 v57 v58 v59 v60 v61 v62 v63 v64 v65 v66 v67 v68 v69 v70 v71 v72 v73 v74 v75 v76 v77 v78 v79 v80 v81 v82 v83 v84 v85 v86 v87 v88 v89 v90 v91 v92 v93 v94 v95 v96 v97 v98 v99 v100 v101 v102 v103 v104 v105 v106 v107 v108 v109 w' h
            obtain ⟨bs', h1, h2, h3⟩ := h
            refine And.intro ⟨.int .i64 ((k : Int) + 1), v7, v8, v9, v10, v11, v12, v13, v14, v15, v16, v17, v18, v19, v20, v21, v22, v23, v24, v25, v26, v27, v28, v29, v30, v31, v32, v33, v34, v35, v36, v37, v38, v39, v40, v41, v42, v43, v44, v45, v46, v47, v48, v49, v50, v51, v52, v53, v54, v55, v56, v57, v58, v59, v60, v61, v62, v63, v64, v65, v66, v67, v68, v69, v70, v71, v72, v73, v74, v75, v76, v77, v78, v79, v80, v81, v82, v83, v84, v85, v86, v87, v88, v89, v90, v91, v92, v93, v94, v95, v96, v97, v98, v99, v100, v101, v102, v103, v104, v105, v106, v107, v108, v109, ⟨k + 1, by omega, by omega, by go_num, bs', h1, h2, h3⟩, rfl⟩ ?_
            simp [intOf]
            omega
          · skip
            refine Code.wp_mono ?_ (k3_fail w0 wr p g ql qs qr qa q b off len cap k bs most n x bv gb bb hI hp hq hqs hqa hgs hga ho hb hlt h15 hAt _ _ _ _ _ _ _ _ _ _ _ _ _ _ _ _ _ _ _ _ _ _ _ _ _ _ _ _ _ _ _ _ _ _ _ _ _ _ _ _ _ _ _ _ _ _ _ _ _ _ _ _ _ _ _ _ _ _ _ _ _ _ _ _ _ _ _ _ _ _ _ _ _ _ _ _ _ _ _ _ _ _ _ _ _ _ _ _ _ _ _ _ _ _ _ _ _ _ _ _ _ _ _ hok)
            intro e a' w' h
            cases e with
            | panic c =>
              obtain ⟨rfl, hd, hR⟩ := h
              exact ⟨hd, .inr ⟨rfl, bs, k, _, h15, HA.out, hR, .inr (.inr (.inr (.inl ⟨rfl, by omega⟩))), hb, ho⟩⟩
            | normal => exact h.elim
            | exit _ => exact h.elim
            | goto _ => exact h.elim
            | ret => exact h.elim
            | outgrown => exact h.elim
        · by_cases hok : 8 ≤ bs.length ∧ Pl.canon (val (bs.take 8)) = val (bs.take 8)
          · skip
            refine k4_ok w0 wr p g ql qs qr qa q b off len cap k bs most n x bv gb bb hI hp hq hqs hqa hgs hga ho hb hlt h15 hAt _ _ _ _ _ _ _ _ _ _ _ _ _ _ _ _ _ _ _ _ _ _ _ _ _ _ _ _ _ _ _ _ _ _ _ _ _ _ _ _ _ _ _ _ _ _ _ _ _ _ _ _ _ _ _ _ _ _ _ _ _ _ _ _ _ _ _ _ _ _ _ _ _ _ _ _ _ _ _ _ _ _ _ _ _ _ _ _ _ _ _ _ _ _ _ _ _ _ _ _ _ _ _ _ hok.1 hok.2 ?_
            unfold Hid
            intro v7 v8 v9 v10 v11 v12 v13 v14 v15 v16 v17 v18 v19 v20 v21 v22 v23 v24 v25 v26 v27 v28 v29 v30 v31 v32 v33 v34 v35 v36 v37 v38 v39 v40 v41 v42 v43 v44 v45 v46 v47 v48 v49 v50 v51 v52 v53 v54 v55 v56 v57 v58 v59 v60 v61 v62 v63 v64 v65 v66 v67 v68 v69 v70 v71 v72 v73 v74 v75 v76 v77 v78 v79 v80 v81 v82 v83 v84 v85 v86 v87 v88 v89 v90 v91 v92 v93 v94 v95 v96 v97 v98 v99 v100 v101 v102 v103 v104 v105 v106 v107 v108 v109 w' h
            obtain ⟨bs', h1, h2, h3⟩ := h
            refine And.intro ⟨.int .i64 ((k : Int) + 1), v7, v8, v9, v10, v11, v12, v13, v14, v15, v16, v17, v18, v19, v20, v21, v22, v23, v24, v25, v26, v27, v28, v29, v30, v31, v32, v33, v34, v35, v36, v37, v38, v39, v40, v41, v42, v43, v44, v45, v46, v47, v48, v49, v50, v51, v52, v53, v54, v55, v56, v57, v58, v59, v60, v61, v62, v63, v64, v65, v66, v67, v68, v69, v70, v71, v72, v73, v74, v75, v76, v77, v78, v79, v80, v81, v82, v83, v84, v85, v86, v87, v88, v89, v90, v91, v92, v93, v94, v95, v96, v97, v98, v99, v100, v101, v102, v103, v104, v105, v106, v107, v108, v109, ⟨k + 1, by omega, by omega, by go_num, bs', h1, h2, h3⟩, rfl⟩ ?_
            simp [intOf]
            omega
          · skip
            refine Code.wp_mono ?_ (k4_fail w0 wr p g ql qs qr qa q b off len cap k bs most n x bv gb bb hI hp hq hqs hqa hgs hga ho hb hlt h15 hAt _ _ _ _ _ _ _ _ _ _ _ _ _ _ _ _ _ _ _ _ _ _ _ _ _ _ _ _ _ _ _ _ _ _ _ _ _ _ _ _ _ _ _ _ _ _ _ _ _ _ _ _ _ _ _ _ _ _ _ _ _ _ _ _ _ _ _ _ _ _ _ _ _ _ _ _ _ _ _ _ _ _ _ _ _ _ _ _ _ _ _ _ _ _ _ _ _ _ _ _ _ _ _ hok)
            intro e a' w' h
            cases e with
            | panic c =>
              obtain ⟨rfl, hd, hR⟩ := h
              exact ⟨hd, .inr ⟨rfl, bs, k, _, h15, HA.out, hR, .inr (.inr (.inr (.inr (.inl ⟨rfl, hok⟩)))), hb, ho⟩⟩
            | normal => exact h.elim
            | exit _ => exact h.elim
            | goto _ => exact h.elim
            | ret => exact h.elim
            | outgrown => exact h.elim
        · by_cases hok : textOk bs most
          · skip
            refine k5_ok w0 wr p g ql qs qr qa q b off len cap k bs most n x bv gb bb hI hp hq hqs hqa hgs hga ho hb hlt h15 hAt _ _ _ _ _ _ _ _ _ _ _ _ _ _ _ _ _ _ _ _ _ _ _ _ _ _ _ _ _ _ _ _ _ _ _ _ _ _ _ _ _ _ _ _ _ _ _ _ _ _ _ _ _ _ _ _ _ _ _ _ _ _ _ _ _ _ _ _ _ _ _ _ _ _ _ _ _ _ _ _ _ _ _ _ _ _ _ _ _ _ _ _ _ _ _ _ _ _ _ _ _ _ _ _ hok ?_
            unfold Hid
            intro v7 v8 v9 v10 v11 v12 v13 v14 v15 v16 v17 v18 v19 v20 v21 v22 v23 v24 v25 v26 v27 v28 v29 v30 v31 v32 v33 v34 v35 v36 v37 v38 v39 v40 v41 v42 v43 v44 v45 v46 v47 v48 v49 v50 v51 v52 v53 v54 v55 v56 v57 v58 v59 v60 v61 v62 v63 v64 v65 v66 v67 v68 v69 v70 v71 v72 v73 v74 v75 v76 v77 v78 v79 v80 v81 v82 v83 v84 v85 v86 v87 v88 v89 v90 v91 v92 v93 v94 v95 v96 v97 v98 v99 v100 v101 v102 v103 v104 v105 v106 v107 v108 v109 w' h
            obtain ⟨bs', h1, h2, h3⟩ := h
            refine And.intro ⟨.int .i64 ((k : Int) + 1), v7, v8, v9, v10, v11, v12, v13, v14, v15, v16, v17, v18, v19, v20, v21, v22, v23, v24, v25, v26, v27, v28, v29, v30, v31, v32, v33, v34, v35, v36, v37, v38, v39, v40, v41, v42, v43, v44, v45, v46, v47, v48, v49, v50, v51, v52, v53, v54, v55, v56, v57, v58, v59, v60, v61, v62, v63, v64, v65, v66, v67, v68, v69, v70, v71, v72, v73, v74, v75, v76, v77, v78, v79, v80, v81, v82, v83, v84, v85, v86, v87, v88, v89, v90, v91, v92, v93, v94, v95, v96, v97, v98, v99, v100, v101, v102, v103, v104, v105, v106, v107, v108, v109, ⟨k + 1, by omega, by omega, by go_num, bs', h1, h2, h3⟩, rfl⟩ ?_
            simp [intOf]
            omega
          · skip
            refine Code.wp_mono ?_ (k5_fail w0 wr p g ql qs qr qa q b off len cap k bs most n x bv gb bb hI hp hq hqs hqa hgs hga ho hb hlt h15 hAt _ _ _ _ _ _ _ _ _ _ _ _ _ _ _ _ _ _ _ _ _ _ _ _ _ _ _ _ _ _ _ _ _ _ _ _ _ _ _ _ _ _ _ _ _ _ _ _ _ _ _ _ _ _ _ _ _ _ _ _ _ _ _ _ _ _ _ _ _ _ _ _ _ _ _ _ _ _ _ _ _ _ _ _ _ _ _ _ _ _ _ _ _ _ _ _ _ _ _ _ _ _ _ hok)
            intro e a' w' h
            cases e with
            | panic c =>
              obtain ⟨rfl, hd, hR⟩ := h
              exact ⟨hd, .inr ⟨rfl, bs, k, _, h15, HA.out, hR, .inr (.inr (.inr (.inr (.inr ⟨rfl, hok⟩)))), hb, ho⟩⟩
            | normal => exact h.elim
            | exit _ => exact h.elim
            | goto _ => exact h.elim
            | ret => exact h.elim
            | outgrown => exact h.elim
        · skip
          refine Code.wp_mono ?_ (k6_fail w0 wr p g ql qs qr qa q b off len cap k bs most n x bv gb bb hI hp hq hqs hqa hgs hga ho hb hlt h15 hAt _ _ _ _ _ _ _ _ _ _ _ _ _ _ _ _ _ _ _ _ _ _ _ _ _ _ _ _ _ _ _ _ _ _ _ _ _ _ _ _ _ _ _ _ _ _ _ _ _ _ _ _ _ _ _ _ _ _ _ _ _ _ _ _ _ _ _ _ _ _ _ _ _ _ _ _ _ _ _ _ _ _ _ _ _ _ _ _ _ _ _ _ _ _ _ _ _ _ _ _ _ _ _ )
          intro e a' w' h
          cases e with
          | panic c =>
            obtain ⟨rfl, hd, hR⟩ := h
            exact ⟨hd, .inr ⟨rfl, bs, k, _, h15, HA.out, hR, .inl rfl, hb, ho⟩⟩
          | normal => exact h.elim
          | exit _ => exact h.elim
          | goto _ => exact h.elim
          | ret => exact h.elim
          | outgrown => exact h.elim
        · skip
          refine k7_ok kind w0 wr p g ql qs qr qa q b off len cap k bs most n x bv gb bb hI hp hq hqs hqa hgs hga ho hb hlt h15 hAt _ _ _ _ _ _ _ _ _ _ _ _ _ _ _ _ _ _ _ _ _ _ _ _ _ _ _ _ _ _ _ _ _ _ _ _ _ _ _ _ _ _ _ _ _ _ _ _ _ _ _ _ _ _ _ _ _ _ _ _ _ _ _ _ _ _ _ _ _ _ _ _ _ _ _ _ _ _ _ _ _ _ _ _ _ _ _ _ _ _ _ _ _ _ _ _ _ _ _ _ _ _ _ _ q1 q2 q3 q4 q5 q6 ?_
          unfold Hid
          intro v7 v8 v9 v10 v11 v12 v13 v14 v15 v16 v17 v18 v19 v20 v21 v22 v23 v24 v25 v26 v27 v28 v29 v30 v31 v32 v33 v34 v35 v36 v37 v38 v39 v40 v41 v42 v43 v44 v45 v46 v47 v48 v49 v50 v51 v52 v53 v54 v55 v56 v57 v58 v59 v60 v61 v62 v63 v64 v65 v66 v67 v68 v69 v70 v71 v72 v73 v74 v75 v76 v77 v78 v79 v80 v81 v82 v83 v84 v85 v86 v87 v88 v89 v90 v91 v92 v93 v94 v95 v96 v97 v98 v99 v100 v101 v102 v103 v104 v105 v106 v107 v108 v109 w' h
          obtain ⟨bs', h1, h2, h3⟩ := h
          refine And.intro ⟨.int .i64 ((k : Int) + 1), v7, v8, v9, v10, v11, v12, v13, v14, v15, v16, v17, v18, v19, v20, v21, v22, v23, v24, v25, v26, v27, v28, v29, v30, v31, v32, v33, v34, v35, v36, v37, v38, v39, v40, v41, v42, v43, v44, v45, v46, v47, v48, v49, v50, v51, v52, v53, v54, v55, v56, v57, v58, v59, v60, v61, v62, v63, v64, v65, v66, v67, v68, v69, v70, v71, v72, v73, v74, v75, v76, v77, v78, v79, v80, v81, v82, v83, v84, v85, v86, v87, v88, v89, v90, v91, v92, v93, v94, v95, v96, v97, v98, v99, v100, v101, v102, v103, v104, v105, v106, v107, v108, v109, ⟨k + 1, by omega, by omega, by go_num, bs', h1, h2, h3⟩, rfl⟩ ?_
          simp [intOf]
          omega
      · have hk4 : ¬ (k : Int) < 15 := by omega
        have hk3 : (k : Int) < (len : Int) := by omega
        have HK : Hid (k = min L.length 15) := by show k = min L.length 15; omega
        clear hL
        go_wp2
        go_end0
        exact .inl ⟨rfl, bs, HK.out ▸ hI⟩
    · have hk3 : ¬ (k : Int) < (len : Int) := by omega
      have HK : Hid (k = min L.length 15) := by show k = min L.length 15; omega
      clear hL
      go_wp2
      go_end0
      exact .inl ⟨rfl, bs, HK.out ▸ hI⟩

end Go.Proofs.Ytmcgjfnilmadoaa
