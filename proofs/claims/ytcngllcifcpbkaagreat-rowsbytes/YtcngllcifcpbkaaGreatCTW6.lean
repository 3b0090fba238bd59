/- ours -/
import Derived.Test.YtcngllcifcpbkaaGreatCBaseO
import Derived.Test.YtcngllcifcpbkaaGreatCBaseY
import Derived.Test.YtcngllcifcpbkaaGreatCRw4
namespace Go.Proofs.YtcngllcifcpbkaaGreat
open Go.RowKit

def encN (x : Pnam) : List Nat := be 4 x.name.size ++ sbs x.name ++ pencR x.r
def encNs (xs : List Pnam) : List Nat := (xs.map encN).flatten
def encT (xs : List Pnam) : List Nat := be 4 xs.length ++ encNs xs
theorem encNs_step {l : List Pnam} {j : Nat} {x : Pnam} (h : l[j]? = some x) : encNs (l.take (j + 1)) = encNs (l.take j) ++ encN x := by
 rw [List.take_add_one, h]
 simp [encNs]
theorem pname_size {s : ByteArray} (h : pname s = true) : s.size ≤ 16 := by unfold pname at h; simp only [Bool.and_eq_true, decide_eq_true_eq] at h; exact h.2
theorem encN_len {x : Pnam} (h1 : pname x.name = true) (h2 : pright x.r = true) : (encN x).length ≤ 337 := by
 have a := pname_size h1
 have b := (pencR_len h2).2
 unfold encN
 simp only [List.length_append, be_length, sbs_length]
 omega
theorem encNs_len {xs : List Pnam} (h : ∀ x ∈ xs, pname x.name = true ∧ pright x.r = true) : (encNs xs).length ≤ xs.length * 337 := by
 induction xs with
 | nil => simp [encNs]
 | cons x l ih =>
  have h1 := ih (fun y hy => h y (List.mem_cons_of_mem _ hy))
  have h2 := encN_len (h x List.mem_cons_self).1 (h x List.mem_cons_self).2
  have e : encNs (x :: l) = encN x ++ encNs l := by simp [encNs]
  rw [e, List.length_append, List.length_cons]
  omega
theorem InvN.encs {xs : List Pnam} (h : InvN xs) (j : Nat) : (encNs (xs.take j)).length ≤ 10784 := by
 have h1 := encNs_len (xs := xs.take j) (fun x hx => ⟨h.name x (List.mem_of_mem_take hx), h.right x (List.mem_of_mem_take hx)⟩)
 have h2 := h.len
 rw [List.length_take] at h1
 omega

set_option maxRecDepth 100000 in
set_option maxHeartbeats 4000000 in
theorem tabWrite_w (W W' w : World) (tp : Nat) (ta : Option Nat) (xs : List Pnam) (p : Nat) (a : Option Nat) (bs : List Nat) (h : TabIs W' W tp ta xs) (hI : InvN xs) (hS : WrS W w p a bs) (hb : bs.length ≤ 800000) :
  Calls Tryz.prog 15 #[.pointer (some ⟨tp, 0, none⟩), .pointer (some ⟨p, 0, none⟩)] w fun e w' => e = .returned (.tuple #[]) ∧ ∃ a', WrS W w' p a' (bs ++ encT xs) := by
 obtain ⟨v, hp, _, hG⟩ := h
 obtain ⟨ad, n, cap, rfl, hn, hc⟩ := hG.open
 obtain ⟨x1, _⟩ := one_cell hp
 have y1 := hS.moves.cell x1
 have HA : Hid (NamsAt W (.slice ad n cap) xs) := hG.at
 have HI : Hid (InvN xs) := hI
 have hn32 : n ≤ 32 := by have := hn.out; have := hI.len; omega
 have hwn : IntKind.u32.wrap (n : Int) = (n : Int) := by rw [IntKind.wrap_u32]; omega
 have hpe : ∀ w1 : World, (binOp .eql 41 (.pointer (some ⟨p, 0, none⟩)) (.pointer none)).run Tryz.prog w1 = .ok (.bool false) w1 := by intro w1; kernel_rfl
 have hb1 : bs.length + 8 ≤ 1099511627776 := by omega
 obtain ⟨E, hE⟩ : ∃ E, Hid (bs ++ be 4 n = E) := ⟨_, rfl⟩
 have hEl : E.length ≤ 800004 := by rw [← hE.out, List.length_append, be_length]; omega
 have hfin : Hid (bs ++ encT xs = E ++ encNs xs) := by
  show bs ++ encT xs = _
  rw [← hE.out, hn.out]
  unfold encT
  simp
 clear hG hp hI hc
 go_enter Tryz.func15, Tryz.ntmps15
 go_wp2_with (go_at_call 36; refine (wnum_w _ a bs n _ (by first | rfl | exact hwn) _ hS.wr hb1 (by omega)).mono ?_; rintro _ w3 ⟨rfl, a3, hw3⟩; rw [hE.out] at hw3; have hS3 := hS.wrote hw3; have y3 := hS3.moves.cell x1)
 clear hw3 y1 hS
 go_loopw [21] (fun i wr => ∃ (j : Nat) (a' : Option Nat), j ≤ n ∧ i = .int .i64 (j : Nat) ∧ WrS W wr p a' (E ++ encNs (xs.take j))) (fun i _ => n - (intOf i).toNat)
 case atStart => exact ⟨0, a3, Nat.zero_le _, rfl, by simpa [encNs] using hS3⟩
 case round =>
  obtain ⟨j, a5, hj, rfl, hS5⟩ := hrel
  clear hS3 y3
  by_cases hlt : j < n
  ·have hj3 : (j : Int) < n := by omega
   obtain ⟨x, hx⟩ : ∃ x, xs[j]? = some x := ⟨_, List.getElem?_eq_getElem (by have := hn.out; omega)⟩
   obtain ⟨g5, off5, a6, n6, c6, rfl, y0, y1, hn6, hC6⟩ := HA.out.at hx
   have z0 := hS5.moves.cell y0
   have z1 := hS5.moves.cell y1
   have hxm := List.mem_of_getElem? hx
   have hrt := HI.out.right x hxm
   have hask : pasked x.r = x.r := pasked_of hrt
   have hsz := pname_size (HI.out.name x hxm)
   have hlen := HI.out.encs j
   have HR : Hid (RowAt W (.agg #[.slice a6 n6 c6]) x.r) := ⟨_, rfl, hC6⟩
   obtain ⟨D, hD⟩ : ∃ D, E ++ encNs (xs.take j) = D := ⟨_, rfl⟩
   have hDl : D.length ≤ 810800 := by rw [← hD, List.length_append]; omega
   obtain ⟨D2, hD2⟩ : ∃ D2, Hid (D ++ be 4 (sbs x.name).length ++ sbs x.name = D2) := ⟨_, rfl⟩
   have hD2l : D2.length ≤ 900000 := by rw [← hD2.out]; simp only [List.length_append, be_length, sbs_length]; omega
   have HD : Hid (E ++ encNs (xs.take (j + 1)) = D2 ++ pencR (pasked x.r)) := by
    show E ++ encNs (xs.take (j + 1)) = _
    rw [encNs_step hx, ← hD2.out, ← hD, hask, sbs_length]
    unfold encN
    simp
   rw [hD] at hS5
   have b1 := heap_alloc_new wr (.cells #[.string x.name, .slice a6 n6 c6] 68)
   have hS1 := hS5.after ((Moves.refl [] wr).alloc (.cells #[.string x.name, .slice a6 n6 c6] 68))
   have hnew : wr.heap.size ∉ p :: a5.toList := hS5.wr.new
   obtain ⟨capS, w2, hrun, hB, _, m2⟩ := strBytes_new (wr.alloc (.cells #[.string x.name, .slice a6 n6 c6] 68)) x.name
   have hnew1 : (wr.alloc (.cells #[.string x.name, .slice a6 n6 c6] 68)).heap.size ∉ p :: a5.toList := hS1.wr.new
   have b2 := m2.at b1 (by simp)
   have hS2 := hS1.after m2
   have hb2 : D.length + 2000000 ≤ 1099511627776 := by omega
   have hl1 : (sbs x.name).length ≤ 1048576 := by rw [sbs_length]; omega
   clear hS1 hS5 hC6 y0 y1 hn6 hx hxm hrt hask hlen hD
   generalize (wr.alloc (.cells #[.string x.name, .slice a6 n6 c6] 68)).heap.size = g1 at *
   go_wp2_with (first | (go_at_call 37; refine (wtext_any _ a5 D (sbs x.name) g1 _ _ hS2.wr hb2 hB hl1 hnew1).mono ?_; rintro _ w3 ⟨rfl, a7, hw3⟩; rw [hD2.out] at hw3; have hS3 := hS2.wrote hw3; have b3 := hw3.2.1.at b2 hnew; obtain ⟨c0, c1⟩ := pair_cells b3) | (go_at_call 38; refine (rowWrite_w W _ _ a7 D2 _ x.r HR.out hS3 hD2l).mono ?_; rintro _ w7 ⟨rfl, a8, hS7⟩))
   go_roundw
   case rel => exact ⟨j + 1, a8, by omega, by go_num, by rw [HD.out]; exact hS7⟩
   case measure => simp [intOf]; omega
  ·have hj3 : ¬ (j : Int) < n := by omega
   obtain rfl : j = n := by omega
   have hfull : xs.take j = xs := by rw [hn.out, List.take_length]
   rw [hfull] at hS5
   go_wp2_with fail
   go_end0
   exact ⟨rfl, a5, by rw [hfin.out]; exact hS5⟩

set_option maxRecDepth 100000 in
set_option maxHeartbeats 4000000 in
theorem nWrite_w (W w : World) (mv : Value) (xs : List Pnam) (hm : NamsAt W mv xs) (m : Moves [] W w) (hI : InvN xs) :
  Calls Tryz.prog 16 #[.slice none 0 0, mv] w fun e w' => ∃ ad n cap, e = .returned (.slice ad n cap) ∧ Own w' (.slice ad n cap) (encT xs) ∧ Moves [] w w' ∧ Fresh w (.slice ad n cap) := by
 obtain ⟨ad, cap, hv, hc⟩ := hm.slice
 obtain ⟨nn, HN⟩ : ∃ nn, Hid (nn = xs.length) := ⟨_, rfl⟩
 rw [← HN.out] at hv hc
 subst hv
 have HA : Hid (NamsAt W (.slice ad nn cap) xs) := hm
 have HI : Hid (InvN xs) := hI
 have MW : Hid (Moves [] W w) := m
 have hn32 : nn ≤ 32 := by have := HN.out; have := hI.len; omega
 have hwn : IntKind.u32.wrap (nn : Int) = (nn : Int) := by rw [IntKind.wrap_u32]; omega
 obtain ⟨E, hE⟩ : ∃ E, Hid (be 4 nn = E) := ⟨_, rfl⟩
 have hEl : E.length = 4 := by rw [← hE.out, be_length]
 have hfin : Hid (encT xs = E ++ encNs xs) := by
  show encT xs = _
  rw [← hE.out, HN.out]
  rfl
 clear hm hI m
 go_enter Tryz.func16, Tryz.ntmps16
 go_wp2_with (go_at_call 39; refine (rnum_w _ 0 [] nn _ (by first | rfl | exact hwn) _ (isB_nil _ _) (by simp) (by omega)).mono ?_; rintro _ w1 ⟨v1, rfl, hO1, m1, f1⟩; rw [List.nil_append, hE.out] at hO1; have hI1 := hO1.isB; obtain ⟨ad1, n1, cap1, rfl, _⟩ := id hI1; clear hI1)
 go_loopw [0, 5] (fun vb vi wr => ∃ (k : Nat) (ad3 : Option Addr) (n3 cap3 : Nat), k ≤ nn ∧ (vb = .slice ad3 n3 cap3 ∧ vi = .int .i64 (k : Nat)) ∧ Moves [] w wr ∧ Own wr (.slice ad3 n3 cap3) (E ++ encNs (xs.take k)) ∧ Fresh w (.slice ad3 n3 cap3)) (fun _ vi _ => nn - (intOf vi).toNat)
 case atStart => exact ⟨0, ad1, n1, cap1, Nat.zero_le _, ⟨rfl, rfl⟩, m1, by simpa [encNs] using hO1, f1⟩
 case round =>
  obtain ⟨k, ad3, n3, cap3, hk, ⟨rfl, rfl⟩, mr, hO5, hF5⟩ := hrel
  clear hO1 m1 f1
  by_cases hlt : k < nn
  ·have hk3 : (k : Int) < nn := by omega
   obtain ⟨x, hx⟩ : ∃ x, xs[k]? = some x := ⟨_, List.getElem?_eq_getElem (by have := HN.out; omega)⟩
   obtain ⟨g6, off6, a6, n6, c6, rfl, y0, y1, hn6, hC6⟩ := HA.out.at hx
   have MWr : Hid (Moves [] W wr) := MW.out.then mr
   have z0 := MWr.out.cell y0
   have z1 := MWr.out.cell y1
   have hxm := List.mem_of_getElem? hx
   have hrt := HI.out.right x hxm
   have hsz := pname_size (HI.out.name x hxm)
   have hlen := HI.out.encs k
   have HR : Hid (RowAt W (.agg #[.slice a6 n6 c6]) x.r) := ⟨_, rfl, hC6⟩
   obtain ⟨D, hD⟩ : ∃ D, E ++ encNs (xs.take k) = D := ⟨_, rfl⟩
   have hDl : D.length ≤ 10800 := by rw [← hD, List.length_append]; omega
   obtain ⟨D2, HD2⟩ : ∃ D2, Hid (D ++ be 4 (sbs x.name).length ++ sbs x.name = D2) := ⟨_, rfl⟩
   have hD2l : D2.length ≤ 900000 := by rw [← HD2.out]; simp only [List.length_append, be_length, sbs_length]; omega
   have HD : Hid (E ++ encNs (xs.take (k + 1)) = D2 ++ pencR x.r) := by
    show E ++ encNs (xs.take (k + 1)) = _
    rw [encNs_step hx, ← HD2.out, ← hD, sbs_length]
    unfold encN
    simp
   rw [hD] at hO5
   have hDt : D.length + 2000000 ≤ 1099511627776 := by omega
   have hsl : (sbs x.name).length ≤ 1048576 := by rw [sbs_length]; omega
   clear hC6 y0 y1 hn6 hx hxm hlen hD hF5
   go_wp2_with fail
   have hS : ∀ w', Moves [] wr w' → w'.cell? ⟨g6, off6 + k * 2, none⟩ = some (.string x.name) ∧ w'.cell? ⟨g6, off6 + k * 2 + 1, none⟩ = some (.slice a6 n6 c6) := fun w' m' => ⟨m'.cell z0, m'.cell z1⟩
   have md : Moves [] wr wr.drew := (Moves.refl _ _).drew
   obtain ⟨wd, hwd⟩ : ∃ wd, wr.drew = wd := ⟨_, rfl⟩
   rw [hwd] at md
   obtain ⟨capA, wA, hrunA, hcA, _, mA0⟩ := strBytes_new wd x.name
   have mA := md.then mA0
   obtain ⟨gA, hgA⟩ : ∃ gA, wd.heap.size = gA := ⟨_, rfl⟩
   rw [hgA] at hrunA hcA
   clear mA0 hgA
   refine wp_region_noPanic ?_
   refine wp_region_held_drew (S := (fun w' => w'.cell? ⟨g6, off6 + k * 2, none⟩ = some (.string x.name) ∧ w'.cell? ⟨g6, off6 + k * 2 + 1, none⟩ = some (.slice a6 n6 c6))) (by kernel_rfl) ?_ (fun hHeld => ?_)
   ·first | (go_keep; done) | (refine hS _ ?_; first | with_reducible assumption | exact Moves.alloc (by with_reducible assumption) _)
   rw [hwd] at hHeld ⊢
   refine wpT 0 ⟨some 17, .move (.tmp 0), 40, "ref.go:90", #[], none⟩ ?_
   refine wpT 1 ⟨some 18, .move (.tmp 1), 24, "ref.go:90", #[], none⟩ ?_
   refine wpT 2 ⟨some 19, .move (.tmp 5), 3, "ref.go:90", #[], none⟩ ?_
   refine wpT 3 ⟨some 20, .indexAddr 24 (.tmp 18) (.tmp 19), 0, "ref.go:90", #[⟨1, .data⟩, ⟨2, .data⟩], none⟩ ?_
   refine wpT 4 ⟨some 21, .fieldAddr 68 (.tmp 20) 0, 0, "ref.go:90", #[⟨3, .data⟩], none⟩ ?_
   refine wpT 5 ⟨some 22, .load 9 (.tmp 21), 9, "ref.go:90", #[⟨4, .data⟩], none⟩ ?_
   refine wpT 8 ⟨some 25, .move (.tmp 1), 24, "ref.go:90", #[], none⟩ ?_
   refine wpT 9 ⟨some 26, .move (.tmp 5), 3, "ref.go:90", #[], none⟩ ?_
   refine wpT 10 ⟨some 27, .indexAddr 24 (.tmp 25) (.tmp 26), 0, "ref.go:90", #[⟨8, .data⟩, ⟨9, .data⟩], none⟩ ?_
   refine wpT 11 ⟨some 28, .fieldAddr 68 (.tmp 27) 1, 0, "ref.go:90", #[⟨10, .data⟩], none⟩ ?_
   refine wpT 12 ⟨some 29, .load 52 (.tmp 28), 52, "ref.go:90", #[⟨11, .data⟩], none⟩ ?_
   refine wpR 6 ⟨some 23, .convert 9 40 (.tmp 22), 40, "ref.go:90", #[⟨5, .data⟩], none⟩ (fun K hK => ?_)
   go_simp
   refine hK.out _ _ ?_ (fun hHeld => ?_)
   ·(refine hS _ ?_; first | with_reducible assumption | exact Moves.alloc (by with_reducible assumption) _)
   clear hK K
   try simp only [Act.put, sp1, sp2, sp3]
   refine wpR 7 ⟨some 24, .call ⟨.value (.func 41), #[.tmp 17, .tmp 23], #[40, 40]⟩, 40, "ref.go:90", #[⟨0, .data⟩, ⟨6, .data⟩], none⟩ (fun K hK => ?_)
   go_simp
   (go_at_call 41; refine (rtext_w _ _ D _ gA (sbs x.name) _ (hO5.moves mA (by simp)).isB hcA hDt hsl).mono ?_; rintro _ w8 ⟨v8, rfl, hO8, m8, f8⟩)
   have M8 := mA.then m8
   have hI8 := hO8.isB
   obtain ⟨ad8, n8, cap8, rfl, _⟩ := id hI8
   rw [HD2.out] at hI8
   refine hK.out _ _ ?_ (fun hHeld => ?_)
   ·(refine hS _ ?_; first | with_reducible assumption | exact Moves.alloc (by with_reducible assumption) _)
   clear hK K
   try simp only [Act.put, sp1, sp2, sp3]
   refine wpR 13 ⟨some 30, .call ⟨.value (.func 40), #[.tmp 24, .tmp 29], #[40, 52]⟩, 40, "ref.go:90", #[⟨7, .data⟩, ⟨12, .data⟩, ⟨7, .chain⟩], none⟩ (fun K hK => ?_)
   go_simp
   (go_at_call 40; refine (refWrite_w W _ _ _ D2 _ x.r hI8 hD2l HR.out (MWr.out.then M8) hrt).mono ?_; rintro _ w9 ⟨ad9, n9, cap9, rfl, hO9, m9, f9⟩)
   have M9 := M8.then m9
   refine hK.out _ _ ?_ (fun hHeld => ?_)
   ·(refine hS _ ?_; first | with_reducible assumption | exact Moves.alloc (by with_reducible assumption) _)
   clear hK K
   try simp only [Act.put, sp1, sp2, sp3]
   refine wpT 14 ⟨some 0, .assign (.tmp 30), 40, "ref.go:90", #[⟨13, .data⟩, ⟨13, .chain⟩, ⟨0, .phase⟩, ⟨1, .phase⟩, ⟨2, .phase⟩, ⟨3, .phase⟩, ⟨4, .phase⟩, ⟨5, .phase⟩, ⟨6, .phase⟩, ⟨7, .phase⟩, ⟨8, .phase⟩, ⟨9, .phase⟩, ⟨10, .phase⟩, ⟨11, .phase⟩, ⟨12, .phase⟩, ⟨13, .phase⟩], none⟩ ?_
   refine wpAnyH_done (by kernel_rfl) ?_ _
   refine NoPanic.normal ?_
   go_wp2_with fail
   go_roundw
   case rel => exact ⟨k + 1, ad9, n9, cap9, by omega, ⟨rfl, by go_num⟩, mr.then M9, by rw [HD.out]; exact hO9, fun j hj => Nat.le_trans (mr.then M8).size (f9 j hj)⟩
   case measure => simp [intOf]; omega
  ·have hk3 : ¬ (k : Int) < nn := by omega
   obtain rfl : nn = k := by omega
   have hfull : xs.take nn = xs := by rw [HN.out, List.take_length]
   rw [hfull] at hO5
   go_wp2_with fail
   go_ret
   exact ⟨_, _, _, rfl, by rw [hfin.out]; exact hO5, mr, hF5⟩
end Go.Proofs.YtcngllcifcpbkaaGreat
