/-
  What octet's Reader does while its Read runs: each method takes the bytes that the document says and returns what they stand for, or, where they lack or are wrong, leaves by the Reader's own panic; no other memory is written.
-/
import Derived.Test.YtcamhlnkcoicpaaGreatCB04
namespace Go.Proofs.YtcamhlnkcoicpaaGreat
open Go.RowKit

/-- At block p lies an open Reader that has bs still to be read, in block g. -/
def RdIs (w : World) (p g : Nat) (bs : List Nat) (fl : Bool) : Prop :=
  ∃ v, w.heap[p]? = some (.cells #[v, .bool true, .bool fl] 149 (0, 0)) ∧ IsB w g v bs ∧ g ≠ p

/-- What a Reader panics with. -/
def stop (p : Nat) : List PanicEntry := [{ v := .iface 184 (.agg #[.pointer (some ⟨p, 0, none⟩)]), recovered := false }]

theorem three_cells {w : World} {p : Nat} {a b c : Value} {t : TypeId} (h : w.heap[p]? = some (.cells #[a, b, c] t (0, 0))) :
    w.cell? ⟨p, 0, none⟩ = some a ∧ w.cell? ⟨p, 1, none⟩ = some b ∧ w.cell? ⟨p, 2, none⟩ = some c ∧ w.frozen? ⟨p, 0, none⟩ = false ∧ w.frozen? ⟨p, 1, none⟩ = false ∧ w.frozen? ⟨p, 2, none⟩ = false := by
  simp [World.cell?, World.frozen?, h]

theorem heap_set {w : World} {p i : Nat} {c : Array Value} {t : TypeId} {fz : Nat × Nat} (h : w.heap[p]? = some (.cells c t fz)) (u : Value) :
    (w.setCell ⟨p, i, none⟩ u).heap[p]? = some (.cells (c.setIfInBounds i u) t fz) := by
  have hlt := lt_of_block h
  have h' : w.heap[p] = .cells c t fz := by simpa [Array.getElem?_eq_getElem hlt] using h
  show (w.heap.modify p _)[p]? = _
  rw [Array.getElem?_eq_getElem (by simpa using hlt), Array.getElem_modify_self, h']
  rfl

theorem moves_set (w : World) (p i : Nat) (u : Value) : Moves [p] w (w.setCell ⟨p, i, none⟩ u) := (Moves.refl _ _).setCell (.inl (by simp)) _

theorem rd_set0 {w : World} {p g : Nat} {v u : Value} {fl : Bool} {bs : List Nat} (h : w.heap[p]? = some (.cells #[v, .bool true, .bool fl] 149 (0, 0))) (hu : IsB w g u bs) (hg : g ≠ p) : RdIs (w.setCell ⟨p, 0, none⟩ u) p g bs fl :=
  ⟨u, heap_set h u, hu.moves (moves_set w p 0 u) (by simpa using hg), hg⟩

theorem Has.drop {w : World} {g : Nat} {ad : Option Addr} {bs : List Nat} (h : Has w g ad bs) (n cap : Nat) (hc : bs.length ≤ cap) : Has w g (if cap = n then ad else ad.map (·.add n)) (bs.drop n) := by
  by_cases hd : bs.drop n = []
  · exact .inl hd
  · have hlt : n < bs.length := by
      refine Nat.lt_of_not_le fun hle => hd (List.drop_of_length_le hle)
    rw [if_neg (by omega)]
    rcases h with rfl | ⟨off, rfl, h2⟩
    · simp at hlt
    · refine .inr ⟨off + n, ?_, fun j b hj => ?_⟩
      · simp only [Option.map_some, Option.some.injEq]
        unfold Addr.add; split <;> simp_all
      · rw [List.getElem?_drop] at hj
        have := h2 (n + j) b hj
        rw [← Nat.add_assoc] at this
        exact this

theorem rfail_w (p g : Nat) (bs : List Nat) (w : World) (h : RdIs w p g bs false) :
    Calls Tryz.prog 111 #[.pointer (some ⟨p, 0, none⟩)] w fun e w' => e = .panicked (stop p) ∧ RdIs w' p g bs true ∧ Moves [p] w w' := by
  obtain ⟨v, hp, hv, hg⟩ := h
  obtain ⟨c0, c1, c2, f0, f1, f2⟩ := three_cells hp
  have hm := moves_set w p 2 (.bool true)
  have hr : RdIs (w.setCell ⟨p, 2, none⟩ (.bool true)) p g bs true := ⟨v, heap_set hp _, hv.moves hm (by simpa using hg), hg⟩
  go_enter Tryz.func111, Tryz.ntmps111
  go_wp2
  exact ⟨rfl, rfl, hr, hm⟩

theorem rleft_w (p g : Nat) (bs : List Nat) (fl : Bool) (w : World) (h : RdIs w p g bs fl) :
    Calls Tryz.prog 106 #[.pointer (some ⟨p, 0, none⟩)] w fun e w' => e = .returned (.int .i64 (bs.length : Int)) ∧ w = w' := by
  obtain ⟨v, hp, hv, hg⟩ := h
  obtain ⟨c0, c1, c2, f0, f1, f2⟩ := three_cells hp
  obtain ⟨ad, n, cap, rfl, hn, _⟩ := hv
  go_enter Tryz.func106, Tryz.ntmps106
  go_wp2
  go_ret
  exact ⟨by rw [hn]; rfl, rfl⟩

theorem isB_drop {w : World} {g : Nat} {ad : Option Addr} {len cap : Nat} {bs : List Nat} (h : IsB w g (.slice ad len cap) bs) (n : Nat) :
    IsB w g (.slice (if cap = n then ad else ad.map (·.add n)) (len - n) (cap - n)) (bs.drop n) := by
  obtain ⟨ad', len', cap', hv, hl, hc, ha, hh⟩ := h
  cases hv
  refine ⟨_, _, _, rfl, by rw [List.length_drop, hl], by omega, fun h => ?_, hh.drop n cap (by omega)⟩
  split at h
  · omega
  · have : ad = none := by cases ad <;> simp_all
    have := ha this
    omega
theorem isB_take {w : World} {g : Nat} {ad : Option Addr} {len cap : Nat} {bs : List Nat} (h : IsB w g (.slice ad len cap) bs) (n : Nat) (hn : n ≤ len) :
    IsB w g (.slice ad n cap) (bs.take n) := by
  obtain ⟨ad', len', cap', hv, hl, hc, ha, hh⟩ := h
  cases hv
  exact ⟨_, _, _, rfl, by rw [List.length_take]; omega, by omega, ha, hh.take n⟩

theorem rtake_w (p g : Nat) (bs : List Nat) (n : Nat) (z : Int) (hz : z = (n : Int)) (w : World) (h : RdIs w p g bs false) (hn : n ≤ bs.length) :
    Calls Tryz.prog 117 #[.pointer (some ⟨p, 0, none⟩), .int .i64 z] w fun e w' => ∃ v', e = .returned v' ∧ IsB w' g v' (bs.take n) ∧ RdIs w' p g (bs.drop n) false ∧ Moves [p] w w' := by
  subst hz
  obtain ⟨v, hp, hv, hg⟩ := h
  obtain ⟨c0, c1, c2, f0, f1, f2⟩ := three_cells hp
  have hv0 := hv
  obtain ⟨ad, len, cap, rfl, hl, hc, _⟩ := hv
  have h1 : ¬ (len : Int) < (n : Int) := by omega
  have h2 : (n : Int) ≤ (cap : Int) := by omega
  have h3 : (n : Int) ≤ (len : Int) := by omega
  have hd := isB_drop hv0 n
  have ht := isB_take hv0 n (by omega)
  have hgS : g ∉ [p] := by simpa using hg
  have HD : Hid (IsB w g (.slice (if cap = n then ad else ad.map (·.add n)) (len - n) (cap - n)) (bs.drop n)) := hd
  have HT : Hid (IsB w g (.slice ad n cap) (bs.take n)) := ht
  clear hd ht
  go_enter Tryz.func117, Tryz.ntmps117
  go_wp2
  · go_ret
    have h : cap = n := by assumption
    have hd := HD.out
    have ht := HT.out
    rw [if_pos h, h, Nat.sub_self] at hd
    rw [h] at ht
    exact ⟨_, rfl, ht.moves (moves_set _ _ _ _) hgS, rd_set0 hp hd hg, moves_set _ _ _ _⟩
  · go_ret
    have h : ¬ cap = n := by assumption
    have hd := HD.out
    rw [if_neg h] at hd
    exact ⟨_, rfl, HT.out.moves (moves_set _ _ _ _) hgS, rd_set0 hp hd hg, moves_set _ _ _ _⟩

theorem rtake_fail_w (p g : Nat) (bs : List Nat) (n : Nat) (z : Int) (hz : z = (n : Int)) (w : World) (h : RdIs w p g bs false) (hn : bs.length < n) :
    Calls Tryz.prog 117 #[.pointer (some ⟨p, 0, none⟩), .int .i64 z] w fun e w' => e = .panicked (stop p) ∧ RdIs w' p g bs true ∧ Moves [p] w w' := by
  subst hz
  have h0 := h
  obtain ⟨v, hp, hv, hg⟩ := h
  obtain ⟨c0, c1, c2, f0, f1, f2⟩ := three_cells hp
  obtain ⟨ad, len, cap, rfl, hl, hc, _⟩ := hv
  have h1 : (len : Int) < (n : Int) := by omega
  go_enter Tryz.func117, Tryz.ntmps117
  go_wp2_with (go_at_call 111; refine (rfail_w _ g bs _ h0).mono ?_; rintro _ w2 ⟨rfl, hr2, m2⟩)
  exact ⟨rfl, rfl, hr2, m2⟩

/-- The number that bytes stand for, the highest first. -/
def val (bs : List Nat) : Nat := bs.foldl (fun n b => n * 256 + b) 0
theorem val_take_succ {bs : List Nat} {j b : Nat} (h : bs[j]? = some b) : val (bs.take (j + 1)) = val (bs.take j) * 256 + b := by
  unfold val
  rw [List.take_add_one, h]
  simp
theorem val_lt {bs : List Nat} (h : ∀ b ∈ bs, b < 256) (j : Nat) : val (bs.take j) < 256 ^ j := by
  induction j with
  | zero => simp [val]
  | succ n ih =>
    cases hb : bs[n]? with
    | none =>
      have : bs.take (n + 1) = bs.take n := by rw [List.take_add_one, hb]; simp
      rw [this, Nat.pow_succ]; omega
    | some b =>
      rw [val_take_succ hb, Nat.pow_succ]
      have := h b (List.mem_of_getElem? hb)
      omega

theorem or_byte {V b : Nat} (hb : b < 256) (hV : V * 256 + b < 18446744073709551616) : bits BinOp.or IntKind.u64 (IntKind.u64.wrap ((V : Int) * 256)) (b : Int) = ((V * 256 + b : Nat) : Int) := by
  have e1 : IntKind.u64.wrap ((V : Int) * 256) = ((V * 256 : Nat) : Int) := by
    rw [IntKind.wrap_u64]; omega
  have h1 : V * 256 < 18446744073709551616 := Nat.lt_of_le_of_lt (Nat.le_add_right _ _) hV
  have h2 : b < 18446744073709551616 := Nat.lt_trans hb (by decide)
  have e5 := u64_or_nat (V * 256) b h1 h2
  have e3 := Nat.two_pow_add_eq_or_of_lt (i := 8) (b := b) hb V
  have e6 : 2 ^ 8 * V = V * 256 := by omega
  rw [e6] at e3
  rw [← e3] at e5
  rw [e1]
  exact e5

set_option maxHeartbeats 1000000 in
theorem rnumber_w (p g : Nat) (bs : List Nat) (n : Nat) (z : Int) (hz : z = (n : Int)) (w : World) (h : RdIs w p g bs false) (hn : n ≤ bs.length) (h8 : n ≤ 8) (ho : ∀ b ∈ bs, b < 256) :
    Calls Tryz.prog 115 #[.pointer (some ⟨p, 0, none⟩), .int .i64 z] w fun e w' => e = .returned (.int .u64 (val (bs.take n) : Int)) ∧ RdIs w' p g (bs.drop n) false ∧ Moves [p] w w' := by
  subst hz
  go_enter Tryz.func115, Tryz.ntmps115
  go_wp2_with (go_at_call 117; refine (rtake_w _ g bs n _ rfl _ h hn).mono ?_; rintro _ w2 ⟨v2, rfl, hv2, hr2, m2⟩; obtain ⟨ad, len, cap, rfl, hl, hc, ha, hh⟩ := hv2)
  go_loop [5, 12] (fun x i => ∃ j : Nat, j ≤ len ∧ i = .int .i64 j ∧ x = .int .u64 (val (bs.take j) : Int)) (fun _ i => len - (intOf i).toNat)
  case atStart => exact ⟨0, Nat.zero_le _, rfl, rfl⟩
  case round =>
    obtain ⟨j, hj, rfl, rfl⟩ := hrel
    have hlen : len = n := by rw [← hl, List.length_take]; omega
    by_cases hjl : j < len
    · have hj1 : (j : Int) < (len : Int) := by omega
      obtain ⟨b, hb⟩ : ∃ b, (bs.take n)[j]? = some b := by
        cases hq : (bs.take n)[j]? with
        | none => rw [List.getElem?_eq_none_iff] at hq; omega
        | some b => exact ⟨b, rfl⟩
      rcases hh with h0 | ⟨off, rfl, hcell⟩
      · rw [h0] at hl; simp at hl; omega
      · have cj := hcell j b hb
        have hb' : bs[j]? = some b := by
          rw [List.getElem?_take] at hb
          split at hb
          · exact hb
          · simp at hb
        have hb2 : b < 256 := ho b (List.mem_of_getElem? hb')
        have hV := val_lt ho (j + 1)
        rw [val_take_succ hb'] at hV
        have h264 : (256 : Nat) ^ (j + 1) ≤ 256 ^ 8 := Nat.pow_le_pow_right (by omega) (by omega)
        have hor := or_byte hb2 (V := val (bs.take j)) (by omega)
        have HV : Hid (val (bs.take (j + 1)) = val (bs.take j) * 256 + b) := val_take_succ hb'
        clear hV h264 hb hb' hcell
        go_wp2
        go_round
        case rel => exact ⟨j + 1, by omega, by go_num, by rw [HV.out]; first | rfl | (rw [hor])⟩
        case measure => simp [intOf]; omega
    · have hj1 : ¬ (j : Int) < (len : Int) := by omega
      have hjn : j = n := by omega
      have HJ : Hid (j = n) := hjn
      clear hjn hlen
      go_wp2
      go_ret
      exact ⟨by rw [HJ.out]; rfl, hr2, m2⟩

theorem rnumber_fail_w (p g : Nat) (bs : List Nat) (n : Nat) (z : Int) (hz : z = (n : Int)) (w : World) (h : RdIs w p g bs false) (hn : bs.length < n) :
    Calls Tryz.prog 115 #[.pointer (some ⟨p, 0, none⟩), .int .i64 z] w fun e w' => e = .panicked (stop p) ∧ RdIs w' p g bs true ∧ Moves [p] w w' := by
  subst hz
  go_enter Tryz.func115, Tryz.ntmps115
  go_wp2_with (go_at_call 117; refine (rtake_fail_w _ g bs n _ rfl _ h hn).mono ?_; rintro _ w2 ⟨rfl, hr2, m2⟩)
  exact ⟨rfl, rfl, hr2, m2⟩

theorem rbyte_w (p g : Nat) (bs : List Nat) (w : World) (h : RdIs w p g bs false) (hn : 1 ≤ bs.length) (ho : ∀ b ∈ bs, b < 256) :
    Calls Tryz.prog 64 #[.pointer (some ⟨p, 0, none⟩)] w fun e w' => e = .returned (.int .u8 (val (bs.take 1) : Int)) ∧ RdIs w' p g (bs.drop 1) false ∧ Moves [p] w w' := by
  have hv := val_lt ho 1
  have hv1 : (val (bs.take 1) : Int) < 256 := by omega
  go_enter Tryz.func64, Tryz.ntmps64
  go_wp2_with (go_at_call 115; refine (rnumber_w _ g bs 1 _ (by rfl) _ h hn (by omega) ho).mono ?_; rintro _ w2 ⟨rfl, hr2, m2⟩)
  go_ret
  exact ⟨rfl, hr2, m2⟩
theorem rbyte_fail_w (p g : Nat) (bs : List Nat) (w : World) (h : RdIs w p g bs false) (hn : bs.length < 1) :
    Calls Tryz.prog 64 #[.pointer (some ⟨p, 0, none⟩)] w fun e w' => e = .panicked (stop p) ∧ RdIs w' p g bs true ∧ Moves [p] w w' := by
  go_enter Tryz.func64, Tryz.ntmps64
  go_wp2_with (go_at_call 115; refine (rnumber_fail_w _ g bs 1 _ (by rfl) _ h hn).mono ?_; rintro _ w2 ⟨rfl, hr2, m2⟩)
  exact ⟨rfl, rfl, hr2, m2⟩

theorem rnumr_w (p g : Nat) (bs : List Nat) (w : World) (h : RdIs w p g bs false) (hn : 4 ≤ bs.length) (ho : ∀ b ∈ bs, b < 256) :
    Calls Tryz.prog 65 #[.pointer (some ⟨p, 0, none⟩)] w fun e w' => e = .returned (.int .u32 (val (bs.take 4) : Int)) ∧ RdIs w' p g (bs.drop 4) false ∧ Moves [p] w w' := by
  have hv := val_lt ho 4
  have hv1 : (val (bs.take 4) : Int) < 4294967296 := by omega
  go_enter Tryz.func65, Tryz.ntmps65
  go_wp2_with (go_at_call 115; refine (rnumber_w _ g bs 4 _ (by rfl) _ h hn (by omega) ho).mono ?_; rintro _ w2 ⟨rfl, hr2, m2⟩)
  go_ret
  exact ⟨rfl, hr2, m2⟩
theorem rnumr_fail_w (p g : Nat) (bs : List Nat) (w : World) (h : RdIs w p g bs false) (hn : bs.length < 4) :
    Calls Tryz.prog 65 #[.pointer (some ⟨p, 0, none⟩)] w fun e w' => e = .panicked (stop p) ∧ RdIs w' p g bs true ∧ Moves [p] w w' := by
  go_enter Tryz.func65, Tryz.ntmps65
  go_wp2_with (go_at_call 115; refine (rnumber_fail_w _ g bs 4 _ (by rfl) _ h hn).mono ?_; rintro _ w2 ⟨rfl, hr2, m2⟩)
  exact ⟨rfl, rfl, hr2, m2⟩

theorem rlongr_w (p g : Nat) (bs : List Nat) (w : World) (h : RdIs w p g bs false) (hn : 8 ≤ bs.length) (ho : ∀ b ∈ bs, b < 256) :
    Calls Tryz.prog 166 #[.pointer (some ⟨p, 0, none⟩)] w fun e w' => e = .returned (.int .u64 (val (bs.take 8) : Int)) ∧ RdIs w' p g (bs.drop 8) false ∧ Moves [p] w w' := by
  go_enter Tryz.func166, Tryz.ntmps166
  go_wp2_with (go_at_call 115; refine (rnumber_w _ g bs 8 _ (by rfl) _ h hn (by omega) ho).mono ?_; rintro _ w2 ⟨rfl, hr2, m2⟩)
  go_ret
  exact ⟨rfl, hr2, m2⟩
theorem rlongr_fail_w (p g : Nat) (bs : List Nat) (w : World) (h : RdIs w p g bs false) (hn : bs.length < 8) :
    Calls Tryz.prog 166 #[.pointer (some ⟨p, 0, none⟩)] w fun e w' => e = .panicked (stop p) ∧ RdIs w' p g bs true ∧ Moves [p] w w' := by
  go_enter Tryz.func166, Tryz.ntmps166
  go_wp2_with (go_at_call 115; refine (rnumber_fail_w _ g bs 8 _ (by rfl) _ h hn).mono ?_; rintro _ w2 ⟨rfl, hr2, m2⟩)
  exact ⟨rfl, rfl, hr2, m2⟩

theorem failAt_w (p g : Nat) (v : Value) (bs cs : List Nat) (w : World) (h : RdIs w p g bs false) (hv : IsB w g v cs) :
    Calls Tryz.prog 116 #[.pointer (some ⟨p, 0, none⟩), v] w fun e w' => e = .panicked (stop p) ∧ RdIs w' p g cs true ∧ Moves [p] w w' := by
  obtain ⟨u, hp, hu, hg⟩ := h
  obtain ⟨c0, c1, c2, f0, f1, f2⟩ := three_cells hp
  have hr := rd_set0 hp hv hg
  have hm := moves_set w p 0 v
  obtain ⟨ad, len, cap, rfl, _⟩ := hv
  go_enter Tryz.func116, Tryz.ntmps116
  go_wp2_with (go_at_call 111; refine (rfail_w _ g cs _ hr).mono ?_; rintro _ w2 ⟨rfl, hr2, m2⟩)
  exact ⟨rfl, rfl, hr2, hm.then m2⟩

end Go.Proofs.YtcamhlnkcoicpaaGreat
