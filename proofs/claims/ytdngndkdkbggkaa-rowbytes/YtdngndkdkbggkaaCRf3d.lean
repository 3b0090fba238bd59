/-
  What the document's own Get of a value does: it takes a value where the document lets it, and else marks its Reader as bad; no other memory is written.
-/
import Derived.Test.YtdngndkdkbggkaaCRf3c
namespace Go.Proofs.Ytdngndkdkbggkaa
open Go.RowKit

/-- What the document's Get hands back. -/
structure RGot (w w' : World) (q g : Nat) (k : Int) (tx : List Nat) (n : Nat) (rest : List Nat) (c : Vm) : Prop where
  kind : c.kind = k
  bs : c.bs = tx
  n : c.n = n
  own : Own w' c.bv tx
  fresh : Fresh w c.bv
  isIn : c.In w'
  rd : RfIs w' q g rest false
  moves : Moves [q] w w'

theorem RfIs.ltq {w : World} {q g : Nat} {bs : List Nat} {fl : Bool} (h : RfIs w q g bs fl) : q < w.heap.size := by
  obtain ⟨v, hp, _⟩ := h
  exact lt_of_block hp
theorem RfIs.ltg {w : World} {q g : Nat} {bs : List Nat} {fl : Bool} (h : RfIs w q g bs fl) (hn : 1 ≤ bs.length) : g < w.heap.size := by
  obtain ⟨v, _, hb, _⟩ := h
  exact hb.lt (by intro e; rw [e] at hn; simp at hn)
theorem RfIs.moves0 {w w' : World} {q g : Nat} {fl : Bool} {S : List Nat} (h : RfIs w q g [] fl) (m : Moves S w w') (hq : q ∉ S) : RfIs w' q g [] fl := by
  obtain ⟨v, h1, ⟨ad, n, cap, k1, k2, k3, k4, _⟩, h3⟩ := h
  exact ⟨v, m.at h1 hq, ⟨ad, n, cap, k1, k2, k3, k4, .inl rfl⟩, h3⟩

set_option maxHeartbeats 2000000 in
theorem rGet_ok (q g : Nat) (bs : List Nat) (k : Int) (tx : List Nat) (n : Nat) (rest : List Nat) (w : World) (h : RfIs w q g bs false) (hb : bs.length ≤ 1099511627776) (ho : ∀ b ∈ bs, b < 256) (hd : VDec bs k tx n rest) :
    Calls Try.prog 76 #[.pointer (some ⟨q, 0, none⟩)] w fun e w' => ∃ c : Vm, e = .returned c.val ∧ RGot w w' q g k tx n rest c := by
  obtain ⟨h1, hd⟩ := hd
  have hp := h.ltq
  have hg := h.ltg h1
  have ho' : ∀ b ∈ bs.drop 1, b < 256 := fun b hb => ho b (List.mem_of_mem_drop hb)
  have hb' : (bs.drop 1).length ≤ 1099511627776 := by rw [List.length_drop]; omega
  have hm0 : Moves [] w (w.alloc (.cells #[.int .i64 0, .slice none 0 0, .float .f64 0] 61)) := (Moves.refl _ _).alloc _
  have hr0 := h.moves hm0 (by simp) (by simp)
  have hbx : w.heap.size ∉ [q] := by simp; omega
  have q0 : (w.alloc (.cells #[.int .i64 0, .slice none 0 0, .float .f64 0] 61)).heap[w.heap.size]? = some (.cells #[.int .i64 0, .slice none 0 0, .float .f64 0] 61 (0, 0)) := heap_alloc_new _ _
  rcases hd with ⟨hv, hok, rfl, htx, rfl, hrest⟩ | ⟨hv, ⟨hc1, hc2⟩, rfl, rfl, hn, hrest⟩
  · have HV : Hid ((val (bs.take 1) : Int) = 1) := by
      show (val (bs.take 1) : Int) = 1
      omega
    have HT : Hid (tx = ((bs.drop 1).drop 4).take (val ((bs.drop 1).take 4))) := htx
    have HR : Hid (rest = ((bs.drop 1).drop 4).drop (val ((bs.drop 1).take 4))) := hrest
    clear hv htx hrest
    go_enter Try.func76, Try.ntmps76
    go_wp2_with (first | (go_at_call 72; refine (rfByte_w _ g bs _ hr0 h1 hb).mono ?_; rintro _ w2 ⟨rfl, hr2, m2⟩; rw [HV.out]; have q2 := m2.at q0 hbx) | (go_at_call 73; refine (rfText_w _ g (bs.drop 1) 16 _ hr2 hb' ho' hok).mono ?_; rintro _ w3 ⟨v3, rfl, ho3, hr3, m3, f3⟩; rw [← HT.out] at ho3; rw [← HR.out] at hr3; have q3 := m3.at q2 hbx; have hi3 := ho3.isB; obtain ⟨ad3, n3, cap3, rfl, _⟩ := hi3; obtain ⟨d0, d1, d2, e0, e1, e2⟩ := three_cells q3))
    try simp only [Exit.inBlock, Exit.then]
    have M4 : Moves [q] w w3 := ((hm0.mono (by simp)).then m2).then m3
    have s3 : Moves [w.heap.size] w3 (((w3.setCell ⟨w.heap.size, 0, none⟩ (.int .i64 1)).setCell ⟨w.heap.size, 1, none⟩ (.slice ad3 n3 cap3)).setCell ⟨w.heap.size, 2, none⟩ (.float .f64 0)) := ((moves_set _ _ _ _).then (moves_set _ _ _ _)).then (moves_set _ _ _ _)
    have s1 := heap_set (i := 2) (heap_set (i := 1) (heap_set (i := 0) q3 (.int .i64 1)) (.slice ad3 n3 cap3)) (.float .f64 0)
    have hsz : w.heap.size < w2.heap.size := lt_of_block q2
    have hO := ho3.moves s3 (fun k hk => by have := f3 k hk; simp; omega)
    have hox : ∀ z ∈ tx, z < 256 := fun z hz => by rw [HT.out] at hz; exact ho' z (List.mem_of_mem_drop (List.mem_of_mem_take hz))
    refine bodyPost_ret (ret_val rfl _ _ _ _ _ _ rfl s1) rfl ⟨⟨1, .slice ad3 n3 cap3, (Value.slice ad3 n3 cap3).ownBlock.getD 0, tx, 0⟩, rfl, ⟨rfl, rfl, rfl, hO, fun k hk => by have := f3 k hk; omega, ⟨hO.isB, fits_zero, hox⟩, ?_, M4.trans s3 (fun x hx => .inr (by simp at hx; omega))⟩⟩
    exact hr3.moves s3 (by simp; omega) (by simp; omega)
  · have HV : Hid ((val (bs.take 1) : Int) = 2) := by
      show (val (bs.take 1) : Int) = 2
      omega
    have HN : Hid (n = val ((bs.drop 1).take 8)) := hn
    have HR : Hid (rest = (bs.drop 1).drop 8) := hrest
    have HF : Hid (Pl.Fits n) := by rw [hn]; exact val_lt8 ho'
    clear hv hn hrest
    go_enter Try.func76, Try.ntmps76
    go_wp2_with (first | (go_at_call 72; refine (rfByte_w _ g bs _ hr0 h1 hb).mono ?_; rintro _ w2 ⟨rfl, hr2, m2⟩; rw [HV.out]; have q2 := m2.at q0 hbx) | (go_at_call 114; refine (rfFloat_w _ g (bs.drop 1) _ hr2 hc1 hb' ho' hc2).mono ?_; rintro _ w3 ⟨rfl, hr3, m3⟩; rw [← HN.out]; rw [← HR.out] at hr3; have q3 := m3.at q2 hbx; obtain ⟨d0, d1, d2, e0, e1, e2⟩ := three_cells q3))
    try simp only [Exit.inBlock, Exit.then]
    have M4 : Moves [q] w w3 := ((hm0.mono (by simp)).then m2).then m3
    have s3 : Moves [w.heap.size] w3 (((w3.setCell ⟨w.heap.size, 0, none⟩ (.int .i64 2)).setCell ⟨w.heap.size, 1, none⟩ (.slice none 0 0)).setCell ⟨w.heap.size, 2, none⟩ (.float .f64 n)) := ((moves_set _ _ _ _).then (moves_set _ _ _ _)).then (moves_set _ _ _ _)
    have s1 := heap_set (i := 2) (heap_set (i := 1) (heap_set (i := 0) q3 (.int .i64 2)) (.slice none 0 0)) (.float .f64 n)
    refine bodyPost_ret (ret_val rfl _ _ _ _ _ _ rfl s1) rfl ⟨⟨2, .slice none 0 0, 0, [], n⟩, rfl, ⟨rfl, rfl, rfl, Own.nil _, Fresh.nil _, ⟨isB_nil _ _, HF.out, by simp⟩, ?_, M4.trans s3 (fun x hx => .inr (by simp at hx; omega))⟩⟩
    exact hr3.moves s3 (by simp; omega) (by simp; omega)

end Go.Proofs.Ytdngndkdkbggkaa
