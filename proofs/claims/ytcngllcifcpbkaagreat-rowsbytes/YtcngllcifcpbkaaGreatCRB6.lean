/- ours -/
import Derived.Test.YtcngllcifcpbkaaGreatCPlay6
import Derived.Test.YtcngllcifcpbkaaGreatCTW6
import Derived.Test.YtcngllcifcpbkaaGreatCBy6
import Derived.Test.YtcngllcifcpbkaaGreatCRB4
namespace Go.Proofs.YtcngllcifcpbkaaGreat
open Go.RowKit

theorem be_small (k n : Nat) : ∀ z ∈ be k n, z < 256 := by
 exact fun z hz => mem_be hz
theorem encT_oct {w : World} {v : Value} {xs : List Pnam} (h : NamsAt w v xs) (hI : InvN xs) : ∀ z ∈ encT xs, z < 256 := by
 obtain ⟨ad, cap, rfl, _⟩ := h.slice
 intro z hz
 unfold encT at hz
 rcases List.mem_append.1 hz with hz | hz
 ·exact be_small _ _ z hz
 ·unfold encNs at hz
  obtain ⟨l, hl, hz⟩ := List.mem_flatten.1 hz
  obtain ⟨x, hx, rfl⟩ := List.mem_map.1 hl
  obtain ⟨k, hk⟩ := List.getElem?_of_mem hx
  obtain ⟨_, _, a2, n2, c2, _, _, _, _, hC⟩ := h.at hk
  unfold encN at hz
  rcases List.mem_append.1 hz with hz | hz
  ·rcases List.mem_append.1 hz with hz | hz
   ·exact be_small _ _ z hz
   ·exact sbs_oct _ z hz
  ·exact pencR_oct (hI.right x hx) (rowAt_oct ⟨_, rfl, hC⟩) z hz
theorem encT_len {xs : List Pnam} (hI : InvN xs) : 4 ≤ (encT xs).length ∧ (encT xs).length ≤ 10788 := by
 have h := hI.encs xs.length
 rw [List.take_length] at h
 unfold encT
 rw [List.length_append, be_length]
 omega
theorem turn_of (z : Int) (n : Nat) (hn : 0 < n) (hn2 : n ≤ 20000) : ∃ r : Nat, r < n ∧ (wrap64 (z.tmod n + n)).tmod n = (r : Int) := by
 have h1 : z.tmod n < n := Int.tmod_lt_of_pos z (by omega)
 have h2 : -(n : Int) < z.tmod n := Int.lt_tmod_of_pos z (by omega)
 generalize z.tmod n = m at h1 h2
 have e1 : wrap64 (m + n) = m + n := by unfold wrap64; omega
 rw [e1]
 have h3 := Int.tmod_lt_of_pos (m + n) (show (0 : Int) < n by omega)
 have h4 := Int.tmod_nonneg (n : Int) (show (0 : Int) ≤ m + n by omega)
 exact ⟨((m + n).tmod n).toNat, by omega, by omega⟩

set_option maxRecDepth 100000 in
set_option maxHeartbeats 8000000 in
theorem rowsBytes_w (u0 bv iv : Value) (t : Nat) (w : World) (h0 : AArgs w u0) (gb : Nat) (bs : List Nat) (hB : IsB w gb bv bs) (hob : ∀ y ∈ bs, y < 256) (hi : IArg iv) (ht : t < 256) :
  Calls Tryz.prog 4 #[u0, bv, iv, .int .u8 (t : Int)] w fun e w' => e = .returned (.bool true) ∧ Moves [] w w' := by
 obtain ⟨z, rfl⟩ := hi
 obtain ⟨adb, nb, cb, rfl, _⟩ := id hB
 have hp := play6_w w w u0 h0 (Moves.refl _ _)
 have hpe : ∀ (p : Nat) (w1 : World), (binOp .eql 41 (.pointer (some ⟨p, 0, none⟩)) (.pointer none)).run Tryz.prog w1 = .ok (.bool false) w1 := by intro p w1; kernel_rfl
 clear h0
 go_enter Tryz.func4, Tryz.ntmps4
 go_wp2_with (first
  | (go_at_call 5; refine hp.mono ?_; rintro _ w2 ⟨p, a, xs, ad, nm, cap, rfl, hT, hN, hI, m2⟩; have HT : Hid (TabIs w w2 p a xs) := hT; have HN : Hid (NamsAt w2 (.slice ad nm cap) xs) := hN; have HI : Hid (InvN xs) := hI; clear hT hN hI hp)
  | (go_at_call 14; refine (new_w _).mono ?_; rintro _ w3 ⟨rfl, hW3, m3⟩; have hS3 : WrS w2 w3 w2.heap.size none [] := ⟨hW3, m3, Nat.le_refl _, by simp⟩)
  | (go_at_call 15; refine (tabWrite_w w2 w w3 p a xs _ none [] HT.out HI.out hS3 (by simp)).mono ?_; rintro _ w4 ⟨rfl, a4, hS4⟩; rw [List.nil_append] at hS4)
  | (go_at_call 16; refine (nWrite_w w2 w4 _ xs HN.out hS4.moves HI.out).mono ?_; rintro _ w5 ⟨adx, n, capx, rfl, hOx, m5, fx⟩))
 obtain ⟨pw, hpw⟩ : ∃ pw, w2.heap.size = pw := ⟨_, rfl⟩
 have hel := encT_len HI.out
 have heo := encT_oct HN.out HI.out
 obtain ⟨E, hE⟩ : ∃ E, encT xs = E := ⟨_, rfl⟩
 rw [hE] at hOx hel heo hS4
 have hS5 := hS4.after m5
 rw [hpw] at hS5 ⊢
 have HS4 : Hid (WrS w2 w5 pw a4 E) := hS5
 have oE := heo
 have lE : E.length ≤ 1099511627776 := by omega
 have HOX : Hid (Own w5 (.slice adx n capx) E) := hOx
 have M5 : Moves [] w w5 := m2.then (hS4.moves.then m5)
 have hnE : E.length = n := by
  obtain ⟨_, _, _, e, e2, _⟩ := hOx.isB
  simp at e
  omega
 have hn0 : 0 < n := by omega
 have hnI : (0 : Int) < n := by omega
 have hn2 : n ≤ 20000 := by omega
 obtain ⟨r, hr, hk⟩ := turn_of z n hn0 hn2
 have hps5 : 0 < w5.heap.size := by
  obtain ⟨_, hpp, _⟩ := HS4.out.wr
  have := lt_of_block hpp
  omega
 clear hE hS4 hS3 hW3 hS5 hpw hel heo hOx m5 m3 m2 hpe
 refine region_ssaQ (by kernel_rfl) (fun ix => ix + 34) [34, 35, 36, 37, 38, 39] (fun ix (w : World) (v : Value) => match ix with | 0 => v = .pointer (some ⟨pw, 0, none⟩) | 1 => ∃ ad1 n1 cap1, v = .slice ad1 n1 cap1 ∧ Own w (.slice ad1 n1 cap1) E | 2 => v = .string (strOf E) | 3 => v = .slice adx n capx | 4 => v = .string (strOf E) | 5 => v = .bool false | _ => True) (Moves []) (by kernel_rfl) ?_ ?_ ?_ ((Moves.refl _ _).drew) (fun _ _ _ => Moves.then) (fun ix u u' v h m => ?_) ?_ ?_
 ·intro ix hix
  have hix : ix < 6 := hix
  show _ < 80
  try dsimp only
  repeat (first | omega | split)
 ·intro ix jx hix hjx hne
  have hix : ix < 6 := hix
  have hjx : jx < 6 := hjx
  try dsimp only
  repeat (first | omega | split)
 ·intro ix hix
  have hix : ix < 6 := hix
  match ix, hix with
  | 0, _ => decide
  | 1, _ => decide
  | 2, _ => decide
  | 3, _ => decide
  | 4, _ => decide
  | 5, _ => decide
  | m + 6, h => exact absurd h (by omega)
 ·match ix with
  | 0 => exact h
  | 1 => exact (by obtain ⟨ad1, n1, cap1, e, hO⟩ := h; exact ⟨ad1, n1, cap1, e, hO.moves m (by simp)⟩)
  | 2 => exact h
  | 3 => exact h
  | 4 => exact h
  | 5 => exact h
  | m + 6 => trivial
 ·intro ix hix a u hR hsz hold hF K hK
  have hix : ix < 6 := hix
  match ix, hix with
  | 0, _ =>
   have e12 : a.tmps.getD 12 undef = .pointer (some ⟨pw, 0, none⟩) := hold 12 (by intro kk hkk; have hkk : kk < 6 := hkk; (try dsimp only); (repeat (first | omega | split)))
   refine wpOp_val (v := .pointer (some ⟨pw, 0, none⟩)) rfl rfl ?_ (hK _ _ rfl (Moves.refl _ _))
   go_simp
   try rfl
  | 1, _ =>
   have e34 : a.tmps.getD 34 undef = .pointer (some ⟨pw, 0, none⟩) := hF 0 (by decide) (by kernel_rfl)
   refine wpOp_of_wp rfl rfl ?_
   go_simp
   go_at_call 17
   refine (done_w _ a4 E _ (HS4.out.wr.moves hR (by simp) (by simp)) lE).mono ?_
   rintro _ u2 ⟨v5, rfl, ho5, m5, _⟩
   obtain ⟨ad1, n1, cap1, rfl, _⟩ := id ho5.isB
   exact hK _ _ ⟨ad1, n1, cap1, rfl, ho5⟩ m5
  | 2, _ =>
   have f35 := hF 1 (by decide) (by kernel_rfl)
   obtain ⟨ad1, n1, cap1, hv, hO⟩ := f35
   have e35 : a.tmps.getD 35 undef = .slice ad1 n1 cap1 := hv
   exact wpOp_of_wp rfl rfl (wp_convert1 40 9 35 rfl _ _ e35 (run_str hO.isB oE) (hK _ _ rfl (Moves.refl _ _)))
  | 3, _ =>
   have e13 : a.tmps.getD 13 undef = .slice adx n capx := hold 13 (by intro kk hkk; have hkk : kk < 6 := hkk; (try dsimp only); (repeat (first | omega | split)))
   refine wpOp_val (v := .slice adx n capx) rfl rfl ?_ (hK _ _ rfl (Moves.refl _ _))
   go_simp
   try rfl
  | 4, _ =>
   have e37 : a.tmps.getD 37 undef = .slice adx n capx := hF 3 (by decide) (by kernel_rfl)
   exact wpOp_of_wp rfl rfl (wp_convert1 40 9 37 rfl _ _ e37 (run_str (HOX.out.moves hR (by simp)).isB oE) (hK _ _ rfl (Moves.refl _ _)))
  | 5, _ =>
   have f36 := hF 2 (by decide) (by kernel_rfl)
   have f38 := hF 4 (by decide) (by kernel_rfl)
   have e36 : a.tmps.getD 36 undef = .string (strOf E) := f36
   have e38 : a.tmps.getD 38 undef = .string (strOf E) := f38
   refine wpOp_val (v := .bool false) rfl rfl ?_ (hK _ _ rfl (Moves.refl _ _))
   go_simp
   try rfl
  | m + 6, h => exact absurd h (by omega)
 intro v u hall hR
 have e39 : v 39 = .bool false := hall 5 (by decide)
 simp only [List.foldl_cons, List.foldl_nil, List.setIfInBounds_toArray, List.set_cons_zero, List.set_cons_succ, e39]
 clear e39 hall
 generalize v 34 = u34
 generalize v 35 = u35
 generalize v 36 = u36
 generalize v 37 = u37
 generalize v 38 = u38
 obtain ⟨w2', hw2⟩ : ∃ w2', u = w2' := ⟨_, rfl⟩
 rw [hw2] at hR ⊢
 have hO2 := HOX.out.moves hR (by simp)
 have ma2 : Moves [] w2' (w2'.alloc (.cells #[] 5)) := (Moves.refl _ _).alloc _
 have hx2 := (hO2.moves ma2 (by simp)).isB
 have hC : OctN 20000 (bs.take 60) := ⟨by rw [List.length_take]; omega, fun y hy => hob y (List.mem_of_mem_take hy)⟩
 have hEN : OctN 20000 E := ⟨by omega, oE⟩
 have hET : OctN 20000 (E.take r) := ⟨by rw [List.length_take]; omega, fun y hy => oE y (List.mem_of_mem_take hy)⟩
 have hN20 : 20000 ≤ 1000000 := by omega
 have hrI : (r : Int) < n := by omega
 have hrc : (r : Int) ≤ capx := by
  obtain ⟨_, _, _, e, _, h3, _⟩ := hO2.isB
  simp at e
  obtain ⟨rfl, rfl, rfl⟩ := e
  omega
 have HEL : Hid (E.length = n) := hnE
 have HBB : Hid (IsB w gb (.slice adb nb cb) bs) := hB
 have MR : Moves [] w w2' := M5.then hR
 clear hnE hw2 hB
 go_wp2_with (at_builtin; refine append_law (.tmp 50) (.tmp 51) rfl _ _ [] E _ rfl rfl rfl (own_empty w2') hx2 (by have := HEL.out; simp; omega) ?_; intro y w3 hy m3 hat3; rw [List.nil_append] at hy; obtain ⟨M3, f3⟩ := appended ma2 (fresh_empty w2') m3 hat3; obtain ⟨gy, capy, rfl, hrow⟩ := own_row hy (by have := HEL.out; omega); obtain ⟨b0, hb0, kc, kf, kown⟩ := hrow r (by have := HEL.out; omega); rw [HEL.out]; have hb1 : b0 < 256 := oE b0 (List.mem_of_getElem? hb0); have hxor := u8_xor_nat b0 t hb1 ht; have hy3 := kown (b0 ^^^ t); have hxt : b0 ^^^ t < 256 := Nat.xor_lt_two_pow (n := 8) hb1 ht; have hgy : w2'.heap.size ≤ gy := f3 gy rfl; have ms := moves_set w3 gy r (.int .u8 ((b0 ^^^ t : Nat) : Int)); have M4 : Moves [] w2' (w3.setCell ⟨gy, r, none⟩ (.int .u8 ((b0 ^^^ t : Nat) : Int))) := M3.trans ms (fun x hx => .inr (by simp at hx; omega)); have hE3 : OctN 20000 (E.set r (b0 ^^^ t)) := ⟨(by rw [List.length_set]; have := HEL.out; omega), set_oct oE hxt⟩; rw [HEL.out] at hy3; clear hrow kown hy)
 obtain ⟨w4, hw4⟩ : ∃ w4, w3.setCell ⟨gy, r, none⟩ (.int .u8 ((b0 ^^^ t : Nat) : Int)) = w4 := ⟨_, rfl⟩
 rw [hw4] at hy3 M4 ⊢
 have hx4 := hO2.moves M4 (by simp)
 have hps : 0 < w4.heap.size := Nat.lt_of_lt_of_le (Nat.lt_of_lt_of_le hps5 hR.size) M4.size
 refine (reads6_w 20000 hN20 _ _ E w4 hx4.isB hEN hps).mono ?_
 rintro _ w6 ⟨rfl, m6⟩
 have hy4 := hy3.moves m6 (by simp)
 go_wp2_with (go_at_call 18; refine (reads6_w 20000 hN20 _ _ _ _ hy4.isB hE3 (Nat.lt_of_lt_of_le hps m6.size)).mono ?_; rintro _ w7 ⟨rfl, m7⟩; clear hy4)
 have hx7 := isB_take (hx4.moves (m6.then m7) (by simp)).isB r (by omega)
 go_wp2_with (go_at_call 18; refine (reads6_w 20000 hN20 _ _ _ _ hx7 hET (Nat.lt_of_lt_of_le hps (m6.then m7).size)).mono ?_; rintro _ w8 ⟨rfl, m8⟩; clear hx7)
 have M8 : Moves [] w w8 := (MR.then M4).then ((m6.then m7).then m8)
 have hb8 := HBB.out.moves M8 (by simp)
 go_wp2_with (first | (go_at_call 19; refine (cut_w _ gb bs 60 _ rfl _ hb8).mono ?_; rintro _ _ ⟨vc, rfl, hvc, rfl⟩) | (go_at_call 18; refine (reads6_w 20000 hN20 _ gb _ _ hvc hC (Nat.lt_of_lt_of_le hps ((m6.then m7).then m8).size)).mono ?_; rintro _ w9 ⟨rfl, m9⟩) | (go_at_call 13; refine (known6_w _).mono ?_; rintro _ w10 ⟨rfl, m10⟩))
 go_ret
 exact ⟨rfl, (M8.then m9).then m10⟩
end Go.Proofs.YtcngllcifcpbkaaGreat
