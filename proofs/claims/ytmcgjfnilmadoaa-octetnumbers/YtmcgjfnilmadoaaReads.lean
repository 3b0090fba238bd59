/-
  What 'reads' does: for all bytes and every row of things it returns true; nothing that was there is written.
-/
import Derived.Test.YtmcgjfnilmadoaaReads3
namespace Go.Proofs.Ytmcgjfnilmadoaa
open Go.RowKit

theorem heap_old {w : World} {k : Nat} {o x : Obj} (h : w.heap[k]? = some x) : (w.alloc o).heap[k]? = some x := (Below.heap_alloc _ _ _ (lt_of_block h)).trans h

/-- What lies in memory behind Read. -/
structure REnd (w0 w : World) (g ql qs qr qa q : Nat) (lv : Value) (bs : List Nat) (k : Nat) : Prop where
  hl : w.heap[ql]? = some (.cells #[lv] 27 (0, 0))
  hs : w.heap[qs]? = some (.cells #[.bool true] 4 (0, 0))
  hr : w.heap[qr]? = some (.cells #[.pointer (some ⟨q, 0, none⟩)] 59 (0, 0))
  ha : w.heap[qa]? = some (.cells #[.int .i64 (k : Int)] 3 (0, 0))
  rf : RfIs w q g bs false
  mv : Moves [] w0 w

theorem RInv.done {w0 w2 w' : World} {p g ql qs qr qa q : Nat} {lv : Value} {bs : List Nat} {k : Nat} {fl : Bool} (h : RInv w0 w2 p g ql qs qr qa q lv bs k fl) (m : Moves [p] w2 w') (hp : w0.heap.size ≤ p) : REnd w0 w' g ql qs qr qa q lv bs k := by
  have A := h.apart
  have hgp : g ≠ p := by obtain ⟨_, _, _, h⟩ := h.rd; exact h
  exact ⟨m.at h.hl (by simpa using A.pql.symm), m.at h.hs (by simpa using A.pqs.symm), m.at h.hr (by simpa using A.pqr.symm), m.at h.ha (by simpa using A.pqa.symm), h.rf.moves m (by simpa using A.pq.symm) (by simpa using hgp), h.mv.trans m (fun x hx => .inr (by simp at hx; omega))⟩

theorem reads_read (w0 : World) (v lv : Value) (g ql qs qr qa q : Nat) (bs : List Nat) (L : List AskM) (w : World) (hA : Asks w0 lv L) (hB : IsB w g v bs) (hg : g ≠ w.heap.size) (hgs : g ≠ qs) (hga : g ≠ qa) (ho : ∀ z ∈ bs, z < 256) (hb : bs.length ≤ 1099511627776)
    (hq : w0.heap.size ≤ q) (hqs : w0.heap.size ≤ qs) (hqa : w0.heap.size ≤ qa) (hE : REnd w0 w g ql qs qr qa q lv bs 0) :
    Calls Try.prog 12 #[v, .func (.func 31) #[] #[.pointer (some ⟨ql, 0, none⟩), .pointer (some ⟨qs, 0, none⟩), .pointer (some ⟨qr, 0, none⟩), .pointer (some ⟨qa, 0, none⟩)]] w fun e w' =>
      (∃ bs' : List Nat, e = .returned (.bool ((bs'.length : Int) == 0)) ∧ REnd w0 w' g ql qs qr qa q lv bs' (min L.length 15)) ∨
      (e = .returned (.bool false) ∧ ∃ bs' k A, k < 15 ∧ L[k]? = some A ∧ REnd w0 w' g ql qs qr qa q lv bs' k ∧ (A.kind = 6 ∨ fails A.kind A.most bs') ∧ bs'.length ≤ 1099511627776 ∧ ∀ z ∈ bs', z < 256) := by
  have hp : w0.heap.size ≤ w.heap.size := hE.mv.size
  refine (read_any 31 _ v g bs w hB hg (fun bs' w2 => RInv w0 w2 w.heap.size g ql qs qr qa q lv bs' (min L.length 15) false)
    (fun bs' w2 => ∃ k A, k < 15 ∧ L[k]? = some A ∧ RInv w0 w2 w.heap.size g ql qs qr qa q lv bs' k true ∧ (A.kind = 6 ∨ fails A.kind A.most bs') ∧ bs'.length ≤ 1099511627776 ∧ ∀ z ∈ bs', z < 256) (fun _ _ => rfl) ?_).mono ?_
  · intro w1 hbg m1
    have hI : RInv w0 w1 w.heap.size g ql qs qr qa q lv bs 0 false := ⟨hbg.1, hbg.2, m1.at hE.hl (by simp), m1.at hE.hs (by simp), m1.at hE.hr (by simp), m1.at hE.ha (by simp), hE.rf.moves m1 (by simp) (by simp), hE.mv.then m1⟩
    refine (reads1_w w0 w.heap.size g ql qs qr qa q lv L bs w1 hA hp hq hqs hqa hgs hga ho hb hI).mono ?_
    rintro _ w2 (⟨rfl, bs', h⟩ | ⟨rfl, bs', k, A, h1, h2, h3, h4, h5, h6⟩)
    · exact .inl ⟨rfl, bs', ⟨h.rd, h.pv⟩, h⟩
    · exact .inr ⟨rfl, bs', ⟨h3.rd, h3.pv⟩, k, A, h1, h2, h3, h4, h5, h6⟩
  · rintro _ w' (⟨bs', rfl, w2, h, m⟩ | ⟨rfl, bs', w2, ⟨k, A, h1, h2, h3, h4, h5, h6⟩, m⟩)
    · exact .inl ⟨bs', rfl, h.done m hp⟩
    · exact .inr ⟨rfl, bs', k, A, h1, h2, h3.done m hp, h4, h5, h6⟩

/-- The five variables that 'reads' makes. -/
theorem five (w : World) (lv v : Value) (g : Nat) (bs : List Nat) (hB : IsB w g v bs) (hg : g ≠ w.heap.size + 1) :
    REnd w (((((w.alloc (.cells #[lv] 27)).alloc (.cells #[v, .bool false] 61)).alloc (.cells #[.pointer (some ⟨w.heap.size + 1, 0, none⟩)] 59)).alloc (.cells #[.bool true] 4)).alloc (.cells #[.int .i64 0] 3)) g w.heap.size (w.heap.size + 3) (w.heap.size + 2) (w.heap.size + 4) (w.heap.size + 1) lv bs 0 := by
  have m : Moves [] w (((((w.alloc (.cells #[lv] 27)).alloc (.cells #[v, .bool false] 61)).alloc (.cells #[.pointer (some ⟨w.heap.size + 1, 0, none⟩)] 59)).alloc (.cells #[.bool true] 4)).alloc (.cells #[.int .i64 0] 3)) := (((((Moves.refl _ _).alloc _).alloc _).alloc _).alloc _).alloc _
  have e1 : (w.alloc (.cells #[lv] 27)).heap.size = w.heap.size + 1 := by simp
  have e2 : ((w.alloc (.cells #[lv] 27)).alloc (.cells #[v, .bool false] 61)).heap.size = w.heap.size + 2 := by simp
  have e3 : (((w.alloc (.cells #[lv] 27)).alloc (.cells #[v, .bool false] 61)).alloc (.cells #[.pointer (some ⟨w.heap.size + 1, 0, none⟩)] 59)).heap.size = w.heap.size + 3 := by simp
  have e4 : ((((w.alloc (.cells #[lv] 27)).alloc (.cells #[v, .bool false] 61)).alloc (.cells #[.pointer (some ⟨w.heap.size + 1, 0, none⟩)] 59)).alloc (.cells #[.bool true] 4)).heap.size = w.heap.size + 4 := by simp
  have n0 := heap_alloc_new w (.cells #[lv] 27)
  have n1 := heap_alloc_new (w.alloc (.cells #[lv] 27)) (.cells #[v, .bool false] 61)
  rw [e1] at n1
  have n2 := heap_alloc_new ((w.alloc (.cells #[lv] 27)).alloc (.cells #[v, .bool false] 61)) (.cells #[.pointer (some ⟨w.heap.size + 1, 0, none⟩)] 59)
  rw [e2] at n2
  have n3 := heap_alloc_new (((w.alloc (.cells #[lv] 27)).alloc (.cells #[v, .bool false] 61)).alloc (.cells #[.pointer (some ⟨w.heap.size + 1, 0, none⟩)] 59)) (.cells #[.bool true] 4)
  rw [e3] at n3
  have n4 := heap_alloc_new ((((w.alloc (.cells #[lv] 27)).alloc (.cells #[v, .bool false] 61)).alloc (.cells #[.pointer (some ⟨w.heap.size + 1, 0, none⟩)] 59)).alloc (.cells #[.bool true] 4)) (.cells #[.int .i64 0] 3)
  rw [e4] at n4
  exact ⟨heap_old (heap_old (heap_old (heap_old n0))), heap_old n3, heap_old (heap_old n2), n4, ⟨v, heap_old (heap_old (heap_old n1)), hB.moves m (by simp), hg⟩, m⟩

set_option maxHeartbeats 4000000 in
theorem reads_w (v lv : Value) (g0 : Nat) (bs : List Nat) (L : List AskM) (w : World) (hB : IsB w g0 v bs) (ho : ∀ z ∈ bs, z < 256) (hb : bs.length ≤ 1099511627776) (hA : Asks w lv L) :
    Calls Try.prog 7 #[v, lv] w fun e w' => e = .returned (.bool true) ∧ Moves [] w w' := by
  obtain ⟨g, hgS, hBg⟩ := hB.pick [w.heap.size + 1, w.heap.size + 3, w.heap.size + 4, w.heap.size + 5] (fun hne => by have := hB.lt hne; simp; omega)
  simp at hgS
  obtain ⟨g1, g3, g4, g5⟩ := hgS
  have hE := five w lv v g bs hBg g1
  have hBW := hBg.moves hE.mv (by simp)
  have hA0 := hA
  clear hB
  obtain ⟨ad, len, cap, rfl, hlen, hcap, hL⟩ := hA
  have hBg' := hBg
  obtain ⟨ad2, len2, cap2, rfl, _⟩ := hBg'
  go_enter Try.func7, Try.ntmps7
  go_wp2_with fail
  refine (reads_read w _ _ g w.heap.size (w.heap.size + 3) (w.heap.size + 2) (w.heap.size + 4) (w.heap.size + 1) bs L _ hA0 hBW (by simp; omega) g3 g4 ho hb (by omega) (by omega) (by omega) hE).mono ?_
  clear hE hBW
  rintro _ w2 (⟨bs', rfl, h⟩ | ⟨rfl, bs', k, A, h1, h2, h, h4, h5, h6⟩)
  · have cl := cell_of_one h.hl
    have cs := cell_of_one h.hs
    have cr := cell_of_one h.hr
    have ca := cell_of_one h.ha
    have hm : ¬ ((min L.length 15 : Nat) : Int) < (len : Int) ∨ (((min L.length 15 : Nat) : Int) < (len : Int) ∧ ¬ ((min L.length 15 : Nat) : Int) < 15) := by omega
    generalize (min L.length 15) = M at ca hm
    rcases hm with hm | ⟨hm1, hm2⟩
    · go_wp2_with (go_at_call 41; refine (rfWhole_w _ g bs' false _ h.rf).mono ?_; rintro _ _ ⟨rfl, rfl⟩)
      go_ret
      exact ⟨rfl, h.mv⟩
    · go_wp2_with (go_at_call 41; refine (rfWhole_w _ g bs' false _ h.rf).mono ?_; rintro _ _ ⟨rfl, rfl⟩)
      go_ret
      exact ⟨rfl, h.mv⟩
  · have cl := cell_of_one h.hl
    have cs := cell_of_one h.hs
    have fs := free_of_one h.hs
    have cr := cell_of_one h.hr
    have ca := cell_of_one h.ha
    obtain ⟨sv, hq2, _, _⟩ := h.rf
    obtain ⟨z0, z1, _, _⟩ := two_cells hq2
    have hkl : k < len := by
      have := (List.getElem?_eq_some_iff.1 h2).1
      omega
    have hk3 : (k : Int) < (len : Int) := by omega
    have hk4 : (k : Int) < 15 := by omega
    have hk5 : (0 : Int) ≤ (k : Int) := by omega
    obtain ⟨b, off, rfl, hAt⟩ := hL k A h2
    have hAt2 := hAt.moves h.mv
    have d0 := hAt.c0
    have hnq : w.heap.size + 3 ∉ [w.heap.size + 1] := by simp
    clear hL h2 hAt
    obtain ⟨kind, most, n, x, bv, gb, bb⟩ := A
    obtain ⟨c0, c1, c2, c3, c4, dB, _, _, _⟩ := hAt2
    simp only at c0 c1 c2 c3 c4 dB h4
    obtain ⟨adb, lenb, capb, rfl, _⟩ := dB
    rcases h4 with rfl | hf
    · go_wp2_with (first | (go_at_call 40; refine (rfFail_w _ g _ _ _ h.rf).mono ?_; rintro _ w3 ⟨rfl, hr3, m3⟩; have cs3 := m3.cellOf cs hnq; have cr3 := m3.cellOf cr (by simp)) | (go_at_call 41; refine (rfWhole_w _ g [] true _ hr3).mono ?_; rintro _ _ ⟨rfl, rfl⟩))
      go_ret
      exact ⟨rfl, h.mv.trans m3 (fun y hy => .inr (by simp at hy; omega))⟩
    · have hne : (kind != 6) = true := by
        have : kind ≠ 6 := by unfold fails at hf; omega
        simpa using this
      have hrf : RfIs w2.drew (w.heap.size + 1) g bs' false := h.rf
      have csd : w2.drew.cell? ⟨w.heap.size + 3, 0, none⟩ = some (.bool true) := cs
      have crd : w2.drew.cell? ⟨w.heap.size + 2, 0, none⟩ = some (.pointer (some ⟨w.heap.size + 1, 0, none⟩)) := cr
      have cld : w2.drew.cell? ⟨w.heap.size, 0, none⟩ = some (.slice (some ⟨b, off, none⟩) len cap) := cl
      have cad : w2.drew.cell? ⟨w.heap.size + 4, 0, none⟩ = some (.int .i64 (k : Int)) := ca
      have c0d : w2.drew.cell? ⟨b, off + k * 5, none⟩ = some (.int .i64 kind) := c0
      have c1d : w2.drew.cell? ⟨b, off + k * 5 + 1, none⟩ = some (.int .i64 most) := c1
      have c2d : w2.drew.cell? ⟨b, off + k * 5 + 2, none⟩ = some (.int .u64 (n : Int)) := c2
      have c3d : w2.drew.cell? ⟨b, off + k * 5 + 3, none⟩ = some (.float .f64 x) := c3
      have c4d : w2.drew.cell? ⟨b, off + k * 5 + 4, none⟩ = some (.slice adb lenb capb) := c4
      have hbq : b ∉ [w.heap.size + 1] := by have := lt_of_cell d0; simp at this ⊢; omega
      go_wp2
      go_region_held3 (fun w' => w'.cell? ⟨w.heap.size + 1 + 1, 0, none⟩ = some (.pointer (some ⟨w.heap.size + 1, 0, none⟩)) ∧ w'.cell? ⟨w.heap.size, 0, none⟩ = some (.slice (some ⟨b, off, none⟩) len cap) ∧ w'.cell? ⟨w.heap.size + 1 + 1 + 1 + 1, 0, none⟩ = some (.int .i64 (k : Int)) ∧ w'.cell? ⟨b, off + k * 5, none⟩ = some (.int .i64 kind) ∧ w'.cell? ⟨b, off + k * 5 + 1, none⟩ = some (.int .i64 most) ∧ w'.cell? ⟨b, off + k * 5 + 2, none⟩ = some (.int .u64 (n : Int)) ∧ w'.cell? ⟨b, off + k * 5 + 3, none⟩ = some (.float .f64 x) ∧ w'.cell? ⟨b, off + k * 5 + 4, none⟩ = some (.slice adb lenb capb)) (first | (go_keep; done) | exact ⟨crd, cld, cad, c0d, c1d, c2d, c3d, c4d⟩ | exact ⟨k1, k2, k3, j0, j1, j2, j3, j4⟩) (first | (go_at_call 39; refine (rest_w _ g bs' kind most n x _ _ hrf h5 h6 hf ⟨_, _, _, rfl⟩).mono ?_; rintro _ w3 ⟨rfl, hr3, m3⟩; have cs3 := m3.cellOf csd hnq; have k1 := m3.cellOf crd (by simp); have k2 := m3.cellOf cld (by simp); have k3 := m3.cellOf cad (by simp); have j0 := m3.cellOf c0d hbq; have j1 := m3.cellOf c1d hbq; have j2 := m3.cellOf c2d hbq; have j3 := m3.cellOf c3d hbq; have j4 := m3.cellOf c4d hbq))
      go_wp2_with (go_at_call 41; refine (rfWhole_w _ g [] true _ hr3).mono ?_; rintro _ _ ⟨rfl, rfl⟩)
      go_ret
      exact ⟨rfl, h.mv.drew.trans m3 (fun y hy => .inr (by simp at hy; omega))⟩
end Go.Proofs.Ytmcgjfnilmadoaa
