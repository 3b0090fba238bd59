/-
  What octet's Writer does: each method returns, and what was written is the bytes that were there and those of what was handed in; no other memory is written. Conditions: the bytes together are at most 2 to the 40th.
-/
import Derived.Test.YtcamhlnkcoicpaaGreatCWorlds
namespace Go.Proofs.YtcamhlnkcoicpaaGreat
open Go.RowKit

/-- At block p lies a Writer that has written bs, in the row of block a. -/
def Wr (w : World) (p : Nat) (a : Option Nat) (bs : List Nat) : Prop :=
  ∃ v, w.heap[p]? = some (.cells #[v] 145 (0, 0)) ∧ v.ownBlock = a ∧ Own w v bs

/-- From w0 to w the Writer at p alone was written to, and has bs now. -/
def Wrote (w0 : World) (p : Nat) (a0 : Option Nat) (w : World) (a : Option Nat) (bs : List Nat) : Prop :=
  Wr w p a bs ∧ Moves (p :: a0.toList) w0 w ∧ (a = a0 ∨ ∃ k, a = some k ∧ w0.heap.size ≤ k)

theorem Wrote.refl {w : World} {p : Nat} {a : Option Nat} {bs : List Nat} (h : Wr w p a bs) : Wrote w p a w a bs := ⟨h, Moves.refl _ _, .inl rfl⟩
theorem Wrote.step {w0 w1 w2 : World} {p : Nat} {a0 a1 a2 : Option Nat} {bs cs : List Nat} (h : Wrote w0 p a0 w1 a1 bs) (k : Wrote w1 p a1 w2 a2 cs) : Wrote w0 p a0 w2 a2 cs := by
  obtain ⟨h1, h2, h3⟩ := h
  obtain ⟨k1, k2, k3⟩ := k
  refine ⟨k1, h2.trans k2 ?_, ?_⟩
  · intro x hx
    rcases List.mem_cons.1 hx with rfl | hx
    · exact .inl (by simp)
    · rcases h3 with rfl | ⟨k, rfl, hk⟩
      · exact .inl (by simp [hx])
      · simp at hx; subst hx; exact .inr hk
  · rcases k3 with rfl | ⟨k, rfl, hk⟩
    · exact h3
    · exact .inr ⟨k, rfl, Nat.le_trans h2.size hk⟩

theorem new_w (w : World) : Calls Tryz.prog 53 #[] w fun e w' => e = .returned (.pointer (some ⟨w.heap.size, 0, none⟩)) ∧ Wr w' w.heap.size none [] ∧ Moves [] w w' := by
  go_enter Tryz.func53, Tryz.ntmps53
  go_wp2
  go_ret
  exact ⟨rfl, ⟨_, heap_alloc_new _ _, rfl, Own.nil _⟩, (Moves.refl _ _).alloc _⟩

theorem has_new (w : World) (b : Nat) : IsB (w.alloc (.cells #[.int .u8 (b : Int)] 5)) w.heap.size (.slice (some ⟨w.heap.size, 0, none⟩) 1 1) [b] := by
  refine ⟨_, _, _, rfl, rfl, Nat.le_refl _, fun h => by simp at h, .inr ⟨0, rfl, fun j c hj => ?_⟩⟩
  match j, hj with
  | 0, hj =>
    simp at hj
    subst hj
    have := heap_alloc_new w (.cells #[.int .u8 (b : Int)] 5)
    show (match (w.alloc (.cells #[.int .u8 (b : Int)] 5)).heap[w.heap.size]? with | some (.cells c _ _) => _ | _ => _) = _
    rw [this]; rfl

/-- What the store of the grown row leaves. -/
theorem wrote_store {w w1 w2 : World} {p : Nat} {v v' : Value} {bs cs : List Nat} (h : w.heap[p]? = some (.cells #[v] 145 (0, 0))) (hm : Moves [] w w1) (hlt : w.heap.size ≤ w1.heap.size)
    (ho : Own w2 v' cs) (hv : Own w v bs) (m : Moves v.ownBlock.toList w1 w2) (hb : Lain w1 v v') :
    w2.heap[p]? = some (.cells #[v] 145 (0, 0)) ∧ Wrote w p v.ownBlock (w2.setCell ⟨p, 0, none⟩ v') v'.ownBlock cs := by
  have hne := hv.ne h (by decide)
  have h1 := hm.at h (by simp)
  have h2 : w2.heap[p]? = some (.cells #[v] 145 (0, 0)) := m.at h1 (by intro hx; apply hne; cases hq : v.ownBlock <;> simp_all)
  have hne' := ho.ne h2 (by decide)
  refine ⟨h2, ⟨v', one_setCell h2, rfl, ?_⟩, ?_, ?_⟩
  · have := ownsRow_setCell_other ho (a := ⟨p, 0, none⟩) hne' v'
    exact this
  · refine Moves.setCell ?_ (.inl (by simp)) _
    exact (hm.mono (by simp)).trans m (fun x hx => .inl (by simp [hx]))
  · rcases hb with e | e
    · exact .inl e
    · exact .inr ⟨_, e, hlt⟩

theorem wbyte_w (p : Nat) (a : Option Nat) (bs : List Nat) (n : Nat) (x : Int) (hx : x = (n : Int)) (w : World) (h : Wr w p a bs) (hb : bs.length + 1 ≤ 1099511627776) :
    Calls Tryz.prog 60 #[.pointer (some ⟨p, 0, none⟩), .int .u8 x] w fun e w' => e = .returned (.tuple #[]) ∧ ∃ a', Wrote w p a w' a' (bs ++ [n]) := by
  subst hx
  obtain ⟨v, hp, rfl, hv⟩ := h
  have c0 := cell_of_one hp
  have f0 := free_of_one hp
  have hm : Moves [] w (w.alloc (.cells #[.int .u8 (n : Int)] 5)) := (Moves.refl _ _).alloc _
  have hv' : Own (w.alloc (.cells #[.int .u8 (n : Int)] 5)) v bs := hv.moves hm (by simp)
  have hnew := has_new w n
  go_enter Tryz.func60, Tryz.ntmps60
  go_wp2_with (at_builtin; refine append_law (.tmp 8) (.tmp 10) rfl v _ bs [n] w.heap.size rfl rfl rfl hv' hnew hb ?_)
  intro v' w2 ho m hat
  have hlt : w.heap.size ≤ (w.alloc (.cells #[.int .u8 (n : Int)] 5)).heap.size := hm.size
  obtain ⟨h2, hw⟩ := wrote_store hp hm hlt ho hv m hat
  have c2 := cell_of_one h2
  have f2 := free_of_one h2
  obtain ⟨g, n', cap, rfl⟩ := ho.cap (by simp)
  clear hm hv' hnew c0 f0 hp hlt m hat
  go_wp2
  go_end0
  exact ⟨rfl, _, hw⟩

theorem be_step (n size j : Nat) : (List.range (j + 1)).map (fun t => n / 256 ^ (size - 1 - t) % 256) = (List.range j).map (fun t => n / 256 ^ (size - 1 - t) % 256) ++ [n / 256 ^ (size - 1 - j) % 256] := by
  rw [List.range_succ]; simp

/-- The first j of size bytes of n, the highest first. -/
def hi (size n j : Nat) : List Nat := (List.range j).map fun t => n / 256 ^ (size - 1 - t) % 256
theorem hi_length (size n j : Nat) : (hi size n j).length = j := by simp [hi]

set_option maxHeartbeats 1000000 in
theorem wnumber_w (p : Nat) (a : Option Nat) (bs : List Nat) (n size : Nat) (z : Int) (hz : z = (size : Int)) (w : World) (h : Wr w p a bs) (hb : bs.length + 8 ≤ 1099511627776) (hs : size ≤ 8) :
    Calls Tryz.prog 114 #[.pointer (some ⟨p, 0, none⟩), .int .u64 (n : Int), .int .i64 z] w fun e w' => e = .returned (.tuple #[]) ∧ ∃ a', Wrote w p a w' a' (bs ++ hi size n size) := by
  subst hz
  go_enter Tryz.func114, Tryz.ntmps114
  go_wp2
  go_loopw [6] (fun i wr => ∃ k : Nat, k ≤ size ∧ i = .int .i64 ((k : Int) - 1) ∧ ∃ a', Wrote w p a wr a' (bs ++ hi size n (size - k))) (fun i _ => (intOf i + 1).toNat)
  case atStart => exact ⟨size, Nat.le_refl _, by go_num, a, by simpa [hi] using Wrote.refl h⟩
  case round =>
    obtain ⟨k, hk, rfl, a', hw⟩ := hrel
    cases k with
    | zero =>
      go_wp2
      go_end0
      exact ⟨rfl, a', by simpa using hw⟩
    | succ m =>
      have e : ((m + 1 : Nat) : Int) - 1 = (m : Int) := by omega
      rw [e]
      clear e
      have hx : ((n : Int) / 2 ^ (8 * m) % 256) = ((n / 256 ^ m % 256 : Nat) : Int) := by
        have : (256 : Nat) ^ m = 2 ^ (8 * m) := by rw [Nat.pow_mul]
        rw [this]
        simp
      have hlen : (bs ++ hi size n (size - (m + 1))).length + 1 ≤ 1099511627776 := by rw [List.length_append, hi_length]; omega
      have hstep : bs ++ hi size n (size - m) = (bs ++ hi size n (size - (m + 1))) ++ [n / 256 ^ m % 256] := by
        have h1 := be_step n size (size - (m + 1))
        have e1 : size - (m + 1) + 1 = size - m := by omega
        have e2 : size - 1 - (size - (m + 1)) = m := by omega
        rw [e1, e2] at h1
        unfold hi
        rw [h1, List.append_assoc]
      have HS : Hid (bs ++ hi size n (size - m) = (bs ++ hi size n (size - (m + 1))) ++ [n / 256 ^ m % 256]) := hstep
      have HX : Hid ((n : Int) / 2 ^ (8 * m) % 256 = ((n / 256 ^ m % 256 : Nat) : Int)) := hx
      clear hx hstep
      go_wp2_with (go_at_call 60; refine (wbyte_w _ a' _ (n / 256 ^ m % 256) _ HX.out _ hw.1 hlen).mono ?_; rintro _ w2 ⟨rfl, a2, hw2⟩)
      go_roundw
      case rel =>
        refine ⟨m, by omega, by go_num, a2, ?_⟩
        rw [HS.out]
        exact hw.step hw2
      case measure => simp [intOf]

/-- What a Num and a Long are as bytes. -/
def be (size n : Nat) : List Nat := hi size n size
theorem be_length (size n : Nat) : (be size n).length = size := hi_length _ _ _

theorem wnum_w (p : Nat) (a : Option Nat) (bs : List Nat) (n : Nat) (x : Int) (hx : x = (n : Int)) (w : World) (h : Wr w p a bs) (hb : bs.length + 8 ≤ 1099511627776) (hn : n < 4294967296) :
    Calls Tryz.prog 61 #[.pointer (some ⟨p, 0, none⟩), .int .u32 x] w fun e w' => e = .returned (.tuple #[]) ∧ ∃ a', Wrote w p a w' a' (bs ++ be 4 n) := by
  subst hx
  have hn1 : (n : Int) < 18446744073709551616 := by omega
  go_enter Tryz.func61, Tryz.ntmps61
  go_wp2_with (go_at_call 114; refine (wnumber_w _ a _ n 4 _ (by rfl) _ h hb (by omega)).mono ?_; rintro _ w2 ⟨rfl, a2, hw2⟩)
  go_end0
  exact ⟨rfl, a2, hw2⟩

theorem wlong_w (p : Nat) (a : Option Nat) (bs : List Nat) (n : Nat) (x : Int) (hx : x = (n : Int)) (w : World) (h : Wr w p a bs) (hb : bs.length + 8 ≤ 1099511627776) :
    Calls Tryz.prog 163 #[.pointer (some ⟨p, 0, none⟩), .int .u64 x] w fun e w' => e = .returned (.tuple #[]) ∧ ∃ a', Wrote w p a w' a' (bs ++ be 8 n) := by
  subst hx
  go_enter Tryz.func163, Tryz.ntmps163
  go_wp2_with (go_at_call 114; refine (wnumber_w _ a _ n 8 _ (by rfl) _ h hb (by omega)).mono ?_; rintro _ w2 ⟨rfl, a2, hw2⟩)
  go_end0
  exact ⟨rfl, a2, hw2⟩

theorem wfloat_w (p : Nat) (a : Option Nat) (bs : List Nat) (n : Nat) (w : World) (h : Wr w p a bs) (hb : bs.length + 8 ≤ 1099511627776) :
    Calls Tryz.prog 172 #[.pointer (some ⟨p, 0, none⟩), .float .f64 n] w fun e w' => e = .returned (.tuple #[]) ∧ ∃ a', Wrote w p a w' a' (bs ++ be 8 (Pl.canon n)) := by
  go_enter Tryz.func172, Tryz.ntmps172
  go_wp2_with (first | (go_at_call 179; refine (numBits_w _ _).mono ?_; rintro _ _ ⟨rfl, rfl⟩) | (go_at_call 163; refine (wlong_w _ a _ (Pl.canon n) _ rfl _ h hb).mono ?_; rintro _ w2 ⟨rfl, a2, hw2⟩))
  go_end0
  exact ⟨rfl, a2, hw2⟩

set_option maxHeartbeats 1000000 in
theorem wtext_w (p : Nat) (a : Option Nat) (bs cs : List Nat) (g : Nat) (v : Value) (w : World) (h : Wr w p a bs) (hb : bs.length + 2000000 ≤ 1099511627776) (hc : IsB w g v cs) (hl : cs.length ≤ 1048576) (hg : g ≠ p) (hga : a ≠ some g) :
    Calls Tryz.prog 62 #[.pointer (some ⟨p, 0, none⟩), v] w fun e w' => e = .returned (.bool true) ∧ ∃ a', Wrote w p a w' a' (bs ++ be 4 cs.length ++ cs) := by
  have hc0 := hc
  obtain ⟨ad, n, cap, rfl, rfl, h1, h2, h3⟩ := hc
  have h1 : ¬ (1048576 : Int) < (cs.length : Int) := by omega
  have hlt : cs.length < 4294967296 := by omega
  have hb1 : bs.length + 8 ≤ 1099511627776 := by omega
  have hb2 : (bs ++ be 4 cs.length).length + cs.length ≤ 1099511627776 := by rw [List.length_append, be_length]; omega
  have hgS : g ∉ p :: a.toList := by
    intro hx
    rcases List.mem_cons.1 hx with hx | hx
    · exact hg hx
    · exact hga (by cases a <;> simp_all)
  have HB : Hid (Has w g ad cs) := h3
  clear h2 h3 hb hl
  go_enter Tryz.func62, Tryz.ntmps62
  go_wp2_with (first | (go_at_call 61; refine (wnum_w _ a _ cs.length _ rfl _ h hb1 hlt).mono ?_; rintro _ w2 ⟨rfl, a2, hw2⟩; have hw2' := hw2; obtain ⟨⟨v2, hp2, hva2, hv2⟩, hm2, ha2⟩ := hw2'; have c2 := cell_of_one hp2; have f2 := free_of_one hp2; have hc2 := hc0.moves hm2 hgS) | (at_builtin; refine append_law (.tmp 17) (.tmp 18) rfl v2 _ (bs ++ be 4 cs.length) cs g rfl rfl rfl hv2 hc2 hb2 ?_; intro v3 w3 ho3 m3 hat3; have hst := wrote_store hp2 (Moves.refl _ _) (Nat.le_refl _) ho3 hv2 m3 hat3; have c3 := cell_of_one hst.1; have f3 := free_of_one hst.1; obtain ⟨g3, n3, cap3, rfl⟩ := ho3.cap (by rw [List.length_append, List.length_append, be_length]; omega)))
  go_ret
  have hs2 := hst.2
  rw [hva2] at hs2
  exact ⟨rfl, _, hw2.step hs2⟩

/-- What make leaves. -/
theorem made_row {w w1 : World} {n : Nat} (h : w1.ownsRow 0 5 1 (.slice (some ⟨w.heap.size, 0, none⟩) n n) n (madeCells (Value.int .u8 0).cells (n * 1)).toList) (hg : w.grownBy w1 none) :
    Hid (w1.heap[w.heap.size]? = some (.cells (List.replicate n (Value.int .u8 0)).toArray 5 (0, 0))) ∧ Moves [] w w1 ∧ Below w.heap.size w w1 := by
  have m : Moves [] w w1 := (Moves.refl _ _).grown hg (by simp)
  refine ⟨?_, m, m.below (by simp) (Nat.le_refl _)⟩
  rcases h.2 with ⟨h1, _⟩ | ⟨g, cap, cur, h1, _, h2, _, _, h5, h6⟩
  · simp at h1
  · simp only [Value.slice.injEq, Option.some.injEq, Addr.mk.injEq, and_true] at h1
    obtain ⟨rfl, _, rfl⟩ := h1
    have e0 : (madeCells (Value.int .u8 0).cells (n * 1)).toList = List.replicate n (Value.int .u8 0) := by rw [Nat.mul_one]; exact toList_madeCells_one _ _
    rw [e0] at h6
    have e : cur.toList.take (n * 1) = cur.toList := List.take_of_length_le (by simp; omega)
    rw [e] at h6
    have e2 : cur = (List.replicate n (Value.int .u8 0)).toArray := by rw [← h6]
    rw [e2] at h2
    exact h2

/-- copy of all of a row of bytes into a new row of zeros. -/
theorem copy_run {w w0 : World} (g0 g n cap : Nat) (ad : Option Addr) (bs : List Nat) (hrow : Hid (w.heap[g0]? = some (.cells (List.replicate n (Value.int .u8 0)).toArray 5 (0, 0))))
    (hc : IsB w g (.slice ad n cap) bs) (hb : bs.length ≤ 1099511627776) (B : Nat) (hB : Below B w0 w) (hBg : B ≤ g0) :
    ∃ w', (Builtin.copy_ #[23, 23] 3 #[.slice (some ⟨g0, 0, none⟩) n n, .slice ad n cap]).run Tryz.prog w = .ok (goInt n) w' ∧ Own w' (.slice (some ⟨g0, 0, none⟩) n n) bs ∧ Below B w0 w' := by
  obtain ⟨i0, hi, hz0, hz1, hz2⟩ := info_parts Tryz.info5
  obtain ⟨ad', n', cap', hv, hn, _, _, hh⟩ := hc
  cases hv
  have hl : (u8s bs).length = n := by rw [u8s_length]; exact hn
  have hsz : (Tryz.prog.info? 5).map (·.size) = some 1 := by rw [hi]; simp [hz1]
  rcases hh with rfl | ⟨off, rfl, hcell⟩
  · simp at hn
    subst hn
    refine ⟨w, run_copy_none (P := Tryz.prog) w 23 23 3 5 _ _ 0 0 0 cap Tryz.underlying23 hsz rfl, ?_, hB⟩
    have e := hrow.out
    exact ⟨by simp [u8s], .inr ⟨g0, 0, _, rfl, Nat.zero_le _, e, by simp, by unfold maxLen; omega, by simp, by simp [u8s]⟩⟩
  · have hr := run_copy_row (P := Tryz.prog) w 23 23 3 5 g0 0 n n ⟨g, off, none⟩ n cap _ 5 (u8s bs) Tryz.underlying23 hsz hrow.out (by rw [hl]; exact (Nat.min_self n).symm) (fun j u hj => by
      obtain ⟨b, hjb, rfl⟩ := u8s_get hj
      have := hcell j b hjb
      have e : (⟨g, off, none⟩ : Addr).add j = ⟨g, off + j, none⟩ := by unfold Addr.add; split <;> simp_all
      rw [e]; exact this) (by rw [hl]; simp) (u8s_one bs)
    have e1 : ((List.replicate n (Value.int .u8 0)).toArray.toList.take 0 ++ u8s bs ++ (List.replicate n (Value.int .u8 0)).toArray.toList.drop (0 + (u8s bs).length)) = u8s bs := by
      rw [hl]; simp
    rw [e1, hl] at hr
    refine ⟨_, hr, ?_, below_setRow hB hBg _⟩
    have e := setRow_heap w g0 _ (u8s bs).toArray 5 (0, 0) hrow.out
    exact ⟨by simp [u8s], .inr ⟨g0, n, _, by rw [hn], Nat.zero_le _, e, by omega, by unfold maxLen; omega, by simp [u8s, hn], by rw [List.toList_toArray]; exact List.take_of_length_le (by rw [u8s_length]; omega)⟩⟩

set_option maxHeartbeats 1000000 in
theorem fresh_w (v : Value) (g : Nat) (bs : List Nat) (w : World) (h : IsB w g v bs) (hb : bs.length ≤ 1099511627776) :
    Calls Tryz.prog 102 #[v] w fun e w' => ∃ v', e = .returned v' ∧ Own w' v' bs ∧ Moves [] w w' ∧ Fresh w v' := by
  obtain ⟨i0, hi, hz0, hz1, hz2⟩ := info_parts Tryz.info5
  have h0 := h
  obtain ⟨ad, n, cap, rfl, hn, _⟩ := h
  have b2 : i0.bytes * n ≤ 281474976710656 := by rw [hz2]; omega
  have b3 : n ≤ maxLen := by unfold maxLen; omega
  go_enter Tryz.func102, Tryz.ntmps102
  go_wp2_with (at_make; refine wpList_make_full _ rfl (.tmp 5) (.tmp 5) 23 rfl 0 5 i0 (.int .u8 0) 1 Tryz.underlying23 hi hz0 hz1 .i64 .i64 _ _ n rfl rfl rfl rfl b2 b3 (Nat.zero_le _) ?_; intro w1 ho1 hg1; have hd1 := made_row ho1 hg1; have hc1 := h0.moves hd1.2.1 (by simp); obtain ⟨w2, hrun, ho2, hB2⟩ := copy_run _ _ _ _ _ bs hd1.1 hc1 hb _ hd1.2.2 (Nat.le_refl _))
  go_ret
  exact ⟨_, rfl, ho2, ⟨hB2.os, hB2.tape, hB2.output, hB2.size, fun k hk _ => hB2.block k hk⟩, fun k hk => by simp [Value.ownBlock] at hk; omega⟩

theorem done_w (p : Nat) (a : Option Nat) (bs : List Nat) (w : World) (h : Wr w p a bs) (hb : bs.length ≤ 1099511627776) :
    Calls Tryz.prog 55 #[.pointer (some ⟨p, 0, none⟩)] w fun e w' => ∃ v', e = .returned v' ∧ Own w' v' bs ∧ Moves [] w w' ∧ Fresh w v' := by
  obtain ⟨v, hp, rfl, hv⟩ := h
  have c0 := cell_of_one hp
  have hv' := hv.isB
  go_enter Tryz.func55, Tryz.ntmps55
  go_wp2_with (go_at_call 102; refine (fresh_w _ _ bs _ hv' hb).mono ?_; rintro _ w2 ⟨v2, rfl, h2, m2, f2⟩)
  go_ret
  exact ⟨_, rfl, h2, m2, f2⟩
end Go.Proofs.YtcamhlnkcoicpaaGreat
