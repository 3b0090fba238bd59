/- ours -/
import Derived.Test.YtilbbnmhnacnlaaGreatCB01
import Derived.Recover
import Derived.LaidEqlPtr
/-
  What octet's Reader does while its Read runs: each method takes the bytes that the document says and returns what they stand for, or, where they lack or are wrong, leaves by the Reader's own panic; no other memory is written.
-/
namespace Go.Proofs.YtilbbnmhnacnlaaGreat
open Go.RowKit

def RdIs (w : World) (p g : Nat) (bs : List Nat) (fl : Bool) : Prop :=
  ∃ v, w.heap[p]? = some (.cells #[v, .bool true, .bool fl] 201 (0, 0)) ∧ IsB w g v bs ∧ g ≠ p

def stop (p : Nat) : List PanicEntry := [{ v := .iface 226 (.agg #[.pointer (some ⟨p, 0, none⟩)]), recovered := false }]

theorem three_cells {w : World} {p : Nat} {a b c : Value} {t : TypeId} (h : w.heap[p]? = some (.cells #[a, b, c] t (0, 0))) :
    w.cell? ⟨p, 0, none⟩ = some a ∧ w.cell? ⟨p, 1, none⟩ = some b ∧ w.cell? ⟨p, 2, none⟩ = some c ∧ w.frozen? ⟨p, 0, none⟩ = false ∧ w.frozen? ⟨p, 1, none⟩ = false ∧ w.frozen? ⟨p, 2, none⟩ = false := by
  simp [World.cell?, World.frozen?, h]

theorem heap_set {w : World} {p i : Nat} {c : Array Value} {t : TypeId} {fz : Nat × Nat} (h : w.heap[p]? = some (.cells c t fz)) (u : Value) :
    (w.setCell ⟨p, i, none⟩ u).heap[p]? = some (.cells (c.setIfInBounds i u) t fz) := by
  have hlt := lt_of_block h
  have h' : w.heap[p] = .cells c t fz := by simpa [Array.getElem?_eq_getElem hlt] using h
  show (w.heap.modify p _)[p]? = _
  rw [Array.getElem?_eq_getElem (by simpa using hlt), Array.getElem_modify_self, h']
  rfl

theorem moves_set (w : World) (p i : Nat) (u : Value) : Moves [p] w (w.setCell ⟨p, i, none⟩ u) := (Moves.refl _ _).setCell (.inl (by simp)) _

theorem rd_set0 {w : World} {p g : Nat} {v u : Value} {fl : Bool} {bs : List Nat} (h : w.heap[p]? = some (.cells #[v, .bool true, .bool fl] 201 (0, 0))) (hu : IsB w g u bs) (hg : g ≠ p) : RdIs (w.setCell ⟨p, 0, none⟩ u) p g bs fl :=
  ⟨u, heap_set h u, hu.moves (moves_set w p 0 u) (by simpa using hg), hg⟩

theorem Has.drop {w : World} {g : Nat} {ad : Option Addr} {bs : List Nat} (h : Has w g ad bs) (n cap : Nat) (hc : bs.length ≤ cap) : Has w g (if cap = n then ad else ad.map (·.add n)) (bs.drop n) := by
  by_cases hd : bs.drop n = []
  · exact .inl hd
  · have hlt : n < bs.length := by
      refine Nat.lt_of_not_le fun hle => hd (List.drop_of_length_le hle)
    rw [if_neg (by omega)]
    rcases h with rfl | ⟨off, rfl, h2⟩
    · simp at hlt
    · refine .inr ⟨off + n, ?_, fun j b hj => ?_⟩
      · simp only [Option.map_some, Option.some.injEq]
        unfold Addr.add; split <;> simp_all
      · rw [List.getElem?_drop] at hj
        have := h2 (n + j) b hj
        rw [← Nat.add_assoc] at this
        exact this

theorem rfail_w (p g : Nat) (bs : List Nat) (w : World) (h : RdIs w p g bs false) :
    Calls Tryz.prog 142 #[.pointer (some ⟨p, 0, none⟩)] w fun e w' => e = .panicked (stop p) ∧ RdIs w' p g bs true ∧ Moves [p] w w' := by
  obtain ⟨v, hp, hv, hg⟩ := h
  obtain ⟨c0, c1, c2, f0, f1, f2⟩ := three_cells hp
  have hm := moves_set w p 2 (.bool true)
  have hr : RdIs (w.setCell ⟨p, 2, none⟩ (.bool true)) p g bs true := ⟨v, heap_set hp _, hv.moves hm (by simpa using hg), hg⟩
  go_enter Tryz.func142, Tryz.ntmps142
  go_wp2
  exact ⟨rfl, rfl, hr, hm⟩

theorem rleft_w (p g : Nat) (bs : List Nat) (fl : Bool) (w : World) (h : RdIs w p g bs fl) :
    Calls Tryz.prog 134 #[.pointer (some ⟨p, 0, none⟩)] w fun e w' => e = .returned (.int .i64 (bs.length : Int)) ∧ w = w' := by
  obtain ⟨v, hp, hv, hg⟩ := h
  obtain ⟨c0, c1, c2, f0, f1, f2⟩ := three_cells hp
  obtain ⟨ad, n, cap, rfl, hn, _⟩ := hv
  go_enter Tryz.func134, Tryz.ntmps134
  go_wp2
  go_ret
  exact ⟨by rw [hn]; rfl, rfl⟩

theorem isB_drop {w : World} {g : Nat} {ad : Option Addr} {len cap : Nat} {bs : List Nat} (h : IsB w g (.slice ad len cap) bs) (n : Nat) :
    IsB w g (.slice (if cap = n then ad else ad.map (·.add n)) (len - n) (cap - n)) (bs.drop n) := by
  obtain ⟨ad', len', cap', hv, hl, hc, ha, hh⟩ := h
  cases hv
  refine ⟨_, _, _, rfl, by rw [List.length_drop, hl], by omega, fun h => ?_, hh.drop n cap (by omega)⟩
  split at h
  · omega
  · have : ad = none := by cases ad <;> simp_all
    have := ha this
    omega
theorem isB_take {w : World} {g : Nat} {ad : Option Addr} {len cap : Nat} {bs : List Nat} (h : IsB w g (.slice ad len cap) bs) (n : Nat) (hn : n ≤ len) :
    IsB w g (.slice ad n cap) (bs.take n) := by
  obtain ⟨ad', len', cap', hv, hl, hc, ha, hh⟩ := h
  cases hv
  exact ⟨_, _, _, rfl, by rw [List.length_take]; omega, by omega, ha, hh.take n⟩

theorem rtake_w (p g : Nat) (bs : List Nat) (n : Nat) (z : Int) (hz : z = (n : Int)) (w : World) (h : RdIs w p g bs false) (hn : n ≤ bs.length) :
    Calls Tryz.prog 174 #[.pointer (some ⟨p, 0, none⟩), .int .i64 z] w fun e w' => ∃ v', e = .returned v' ∧ IsB w' g v' (bs.take n) ∧ RdIs w' p g (bs.drop n) false ∧ Moves [p] w w' := by
  subst hz
  obtain ⟨v, hp, hv, hg⟩ := h
  obtain ⟨c0, c1, c2, f0, f1, f2⟩ := three_cells hp
  have hv0 := hv
  obtain ⟨ad, len, cap, rfl, hl, hc, _⟩ := hv
  have h1 : ¬ (len : Int) < (n : Int) := by omega
  have h2 : (n : Int) ≤ (cap : Int) := by omega
  have h3 : (n : Int) ≤ (len : Int) := by omega
  have hd := isB_drop hv0 n
  have ht := isB_take hv0 n (by omega)
  have hgS : g ∉ [p] := by simpa using hg
  have HD : Hid (IsB w g (.slice (if cap = n then ad else ad.map (·.add n)) (len - n) (cap - n)) (bs.drop n)) := hd
  have HT : Hid (IsB w g (.slice ad n cap) (bs.take n)) := ht
  clear hd ht
  go_enter Tryz.func174, Tryz.ntmps174
  go_wp2
  · go_ret
    have h : cap = n := by assumption
    have hd := HD.out
    have ht := HT.out
    rw [if_pos h, h, Nat.sub_self] at hd
    rw [h] at ht
    exact ⟨_, rfl, ht.moves (moves_set _ _ _ _) hgS, rd_set0 hp hd hg, moves_set _ _ _ _⟩
  · go_ret
    have h : ¬ cap = n := by assumption
    have hd := HD.out
    rw [if_neg h] at hd
    exact ⟨_, rfl, HT.out.moves (moves_set _ _ _ _) hgS, rd_set0 hp hd hg, moves_set _ _ _ _⟩

theorem rtake_fail_w (p g : Nat) (bs : List Nat) (n : Nat) (z : Int) (hz : z = (n : Int)) (w : World) (h : RdIs w p g bs false) (hn : bs.length < n) :
    Calls Tryz.prog 174 #[.pointer (some ⟨p, 0, none⟩), .int .i64 z] w fun e w' => e = .panicked (stop p) ∧ RdIs w' p g bs true ∧ Moves [p] w w' := by
  subst hz
  have h0 := h
  obtain ⟨v, hp, hv, hg⟩ := h
  obtain ⟨c0, c1, c2, f0, f1, f2⟩ := three_cells hp
  obtain ⟨ad, len, cap, rfl, hl, hc, _⟩ := hv
  have h1 : (len : Int) < (n : Int) := by omega
  go_enter Tryz.func174, Tryz.ntmps174
  go_wp2_with (go_at_call 142; refine (rfail_w _ g bs _ h0).mono ?_; rintro _ w2 ⟨rfl, hr2, m2⟩)
  exact ⟨rfl, rfl, hr2, m2⟩

def val (bs : List Nat) : Nat := bs.foldl (fun n b => n * 256 + b) 0
theorem val_take_succ {bs : List Nat} {j b : Nat} (h : bs[j]? = some b) : val (bs.take (j + 1)) = val (bs.take j) * 256 + b := by
  unfold val
  rw [List.take_add_one, h]
  simp
theorem val_lt {bs : List Nat} (h : ∀ b ∈ bs, b < 256) (j : Nat) : val (bs.take j) < 256 ^ j := by
  induction j with
  | zero => simp [val]
  | succ n ih =>
    cases hb : bs[n]? with
    | none =>
      have : bs.take (n + 1) = bs.take n := by rw [List.take_add_one, hb]; simp
      rw [this, Nat.pow_succ]; omega
    | some b =>
      rw [val_take_succ hb, Nat.pow_succ]
      have := h b (List.mem_of_getElem? hb)
      omega

theorem or_byte {V b : Nat} (hb : b < 256) (hV : V * 256 + b < 18446744073709551616) : bits BinOp.or IntKind.u64 (IntKind.u64.wrap ((V : Int) * 256)) (b : Int) = ((V * 256 + b : Nat) : Int) := by
  have e1 : IntKind.u64.wrap ((V : Int) * 256) = ((V * 256 : Nat) : Int) := by
    rw [IntKind.wrap_u64]; omega
  have h1 : V * 256 < 18446744073709551616 := Nat.lt_of_le_of_lt (Nat.le_add_right _ _) hV
  have h2 : b < 18446744073709551616 := Nat.lt_trans hb (by decide)
  have e5 := u64_or_nat (V * 256) b h1 h2
  have e3 := Nat.two_pow_add_eq_or_of_lt (i := 8) (b := b) hb V
  have e6 : 2 ^ 8 * V = V * 256 := by omega
  rw [e6] at e3
  rw [← e3] at e5
  rw [e1]
  exact e5

set_option maxHeartbeats 1000000 in
theorem rnumber_w (p g : Nat) (bs : List Nat) (n : Nat) (z : Int) (hz : z = (n : Int)) (w : World) (h : RdIs w p g bs false) (hn : n ≤ bs.length) (h8 : n ≤ 8) (ho : ∀ b ∈ bs, b < 256) :
    Calls Tryz.prog 168 #[.pointer (some ⟨p, 0, none⟩), .int .i64 z] w fun e w' => e = .returned (.int .u64 (val (bs.take n) : Int)) ∧ RdIs w' p g (bs.drop n) false ∧ Moves [p] w w' := by
  subst hz
  go_enter Tryz.func168, Tryz.ntmps168
  go_wp2_with (go_at_call 174; refine (rtake_w _ g bs n _ rfl _ h hn).mono ?_; rintro _ w2 ⟨v2, rfl, hv2, hr2, m2⟩; obtain ⟨ad, len, cap, rfl, hl, hc, ha, hh⟩ := hv2)
  go_loop [5, 12] (fun x i => ∃ j : Nat, j ≤ len ∧ i = .int .i64 j ∧ x = .int .u64 (val (bs.take j) : Int)) (fun _ i => len - (intOf i).toNat)
  case atStart => exact ⟨0, Nat.zero_le _, rfl, rfl⟩
  case round =>
    obtain ⟨j, hj, rfl, rfl⟩ := hrel
    have hlen : len = n := by rw [← hl, List.length_take]; omega
    by_cases hjl : j < len
    · have hj1 : (j : Int) < (len : Int) := by omega
      obtain ⟨b, hb⟩ : ∃ b, (bs.take n)[j]? = some b := by
        cases hq : (bs.take n)[j]? with
        | none => rw [List.getElem?_eq_none_iff] at hq; omega
        | some b => exact ⟨b, rfl⟩
      rcases hh with h0 | ⟨off, rfl, hcell⟩
      · rw [h0] at hl; simp at hl; omega
      · have cj := hcell j b hb
        have hb' : bs[j]? = some b := by
          rw [List.getElem?_take] at hb
          split at hb
          · exact hb
          · simp at hb
        have hb2 : b < 256 := ho b (List.mem_of_getElem? hb')
        have hV := val_lt ho (j + 1)
        rw [val_take_succ hb'] at hV
        have h264 : (256 : Nat) ^ (j + 1) ≤ 256 ^ 8 := Nat.pow_le_pow_right (by omega) (by omega)
        have hor := or_byte hb2 (V := val (bs.take j)) (by omega)
        have HV : Hid (val (bs.take (j + 1)) = val (bs.take j) * 256 + b) := val_take_succ hb'
        clear hV h264 hb hb' hcell
        go_wp2
        go_round
        case rel => exact ⟨j + 1, by omega, by go_num, by rw [HV.out]; first | rfl | (rw [hor])⟩
        case measure => simp [intOf]; omega
    · have hj1 : ¬ (j : Int) < (len : Int) := by omega
      have hjn : j = n := by omega
      have HJ : Hid (j = n) := hjn
      clear hjn hlen
      go_wp2
      go_ret
      exact ⟨by rw [HJ.out]; rfl, hr2, m2⟩

theorem rnumber_fail_w (p g : Nat) (bs : List Nat) (n : Nat) (z : Int) (hz : z = (n : Int)) (w : World) (h : RdIs w p g bs false) (hn : bs.length < n) :
    Calls Tryz.prog 168 #[.pointer (some ⟨p, 0, none⟩), .int .i64 z] w fun e w' => e = .panicked (stop p) ∧ RdIs w' p g bs true ∧ Moves [p] w w' := by
  subst hz
  go_enter Tryz.func168, Tryz.ntmps168
  go_wp2_with (go_at_call 174; refine (rtake_fail_w _ g bs n _ rfl _ h hn).mono ?_; rintro _ w2 ⟨rfl, hr2, m2⟩)
  exact ⟨rfl, rfl, hr2, m2⟩

theorem rbyte_w (p g : Nat) (bs : List Nat) (w : World) (h : RdIs w p g bs false) (hn : 1 ≤ bs.length) (ho : ∀ b ∈ bs, b < 256) :
    Calls Tryz.prog 135 #[.pointer (some ⟨p, 0, none⟩)] w fun e w' => e = .returned (.int .u8 (val (bs.take 1) : Int)) ∧ RdIs w' p g (bs.drop 1) false ∧ Moves [p] w w' := by
  have hv := val_lt ho 1
  have hv1 : (val (bs.take 1) : Int) < 256 := by omega
  go_enter Tryz.func135, Tryz.ntmps135
  go_wp2_with (go_at_call 168; refine (rnumber_w _ g bs 1 _ (by rfl) _ h hn (by omega) ho).mono ?_; rintro _ w2 ⟨rfl, hr2, m2⟩)
  go_ret
  exact ⟨rfl, hr2, m2⟩
theorem rbyte_fail_w (p g : Nat) (bs : List Nat) (w : World) (h : RdIs w p g bs false) (hn : bs.length < 1) :
    Calls Tryz.prog 135 #[.pointer (some ⟨p, 0, none⟩)] w fun e w' => e = .panicked (stop p) ∧ RdIs w' p g bs true ∧ Moves [p] w w' := by
  go_enter Tryz.func135, Tryz.ntmps135
  go_wp2_with (go_at_call 168; refine (rnumber_fail_w _ g bs 1 _ (by rfl) _ h hn).mono ?_; rintro _ w2 ⟨rfl, hr2, m2⟩)
  exact ⟨rfl, rfl, hr2, m2⟩

theorem rnumr_w (p g : Nat) (bs : List Nat) (w : World) (h : RdIs w p g bs false) (hn : 4 ≤ bs.length) (ho : ∀ b ∈ bs, b < 256) :
    Calls Tryz.prog 139 #[.pointer (some ⟨p, 0, none⟩)] w fun e w' => e = .returned (.int .u32 (val (bs.take 4) : Int)) ∧ RdIs w' p g (bs.drop 4) false ∧ Moves [p] w w' := by
  have hv := val_lt ho 4
  have hv1 : (val (bs.take 4) : Int) < 4294967296 := by omega
  go_enter Tryz.func139, Tryz.ntmps139
  go_wp2_with (go_at_call 168; refine (rnumber_w _ g bs 4 _ (by rfl) _ h hn (by omega) ho).mono ?_; rintro _ w2 ⟨rfl, hr2, m2⟩)
  go_ret
  exact ⟨rfl, hr2, m2⟩
theorem rnumr_fail_w (p g : Nat) (bs : List Nat) (w : World) (h : RdIs w p g bs false) (hn : bs.length < 4) :
    Calls Tryz.prog 139 #[.pointer (some ⟨p, 0, none⟩)] w fun e w' => e = .panicked (stop p) ∧ RdIs w' p g bs true ∧ Moves [p] w w' := by
  go_enter Tryz.func139, Tryz.ntmps139
  go_wp2_with (go_at_call 168; refine (rnumber_fail_w _ g bs 4 _ (by rfl) _ h hn).mono ?_; rintro _ w2 ⟨rfl, hr2, m2⟩)
  exact ⟨rfl, rfl, hr2, m2⟩

theorem rlongr_w (p g : Nat) (bs : List Nat) (w : World) (h : RdIs w p g bs false) (hn : 8 ≤ bs.length) (ho : ∀ b ∈ bs, b < 256) :
    Calls Tryz.prog 196 #[.pointer (some ⟨p, 0, none⟩)] w fun e w' => e = .returned (.int .u64 (val (bs.take 8) : Int)) ∧ RdIs w' p g (bs.drop 8) false ∧ Moves [p] w w' := by
  go_enter Tryz.func196, Tryz.ntmps196
  go_wp2_with (go_at_call 168; refine (rnumber_w _ g bs 8 _ (by rfl) _ h hn (by omega) ho).mono ?_; rintro _ w2 ⟨rfl, hr2, m2⟩)
  go_ret
  exact ⟨rfl, hr2, m2⟩
theorem rlongr_fail_w (p g : Nat) (bs : List Nat) (w : World) (h : RdIs w p g bs false) (hn : bs.length < 8) :
    Calls Tryz.prog 196 #[.pointer (some ⟨p, 0, none⟩)] w fun e w' => e = .panicked (stop p) ∧ RdIs w' p g bs true ∧ Moves [p] w w' := by
  go_enter Tryz.func196, Tryz.ntmps196
  go_wp2_with (go_at_call 168; refine (rnumber_fail_w _ g bs 8 _ (by rfl) _ h hn).mono ?_; rintro _ w2 ⟨rfl, hr2, m2⟩)
  exact ⟨rfl, rfl, hr2, m2⟩

theorem failAt_w (p g : Nat) (v : Value) (bs cs : List Nat) (w : World) (h : RdIs w p g bs false) (hv : IsB w g v cs) :
    Calls Tryz.prog 172 #[.pointer (some ⟨p, 0, none⟩), v] w fun e w' => e = .panicked (stop p) ∧ RdIs w' p g cs true ∧ Moves [p] w w' := by
  obtain ⟨u, hp, hu, hg⟩ := h
  obtain ⟨c0, c1, c2, f0, f1, f2⟩ := three_cells hp
  have hr := rd_set0 hp hv hg
  have hm := moves_set w p 0 v
  obtain ⟨ad, len, cap, rfl, _⟩ := hv
  go_enter Tryz.func172, Tryz.ntmps172
  go_wp2_with (go_at_call 142; refine (rfail_w _ g cs _ hr).mono ?_; rintro _ w2 ⟨rfl, hr2, m2⟩)
  exact ⟨rfl, rfl, hr2, hm.then m2⟩

end Go.Proofs.YtilbbnmhnacnlaaGreat
/-
  What octet's Reader does with a Float and a Text while its Read runs: it takes them where the document lets it, and else leaves by its own panic with all bytes still left; no other memory is written.
-/
namespace Go.Proofs.YtilbbnmhnacnlaaGreat
open Go.RowKit

theorem RdIs.moves {w w' : World} {p g : Nat} {bs : List Nat} {fl : Bool} {S : List Nat} (h : RdIs w p g bs fl) (m : Moves S w w') (hp : p ∉ S) (hg : g ∉ S) : RdIs w' p g bs fl := by
  obtain ⟨v, h1, h2, h3⟩ := h
  exact ⟨v, m.at h1 hp, h2.moves m hg, h3⟩

theorem rfloat_ok_w (p g : Nat) (bs : List Nat) (w : World) (h : RdIs w p g bs false) (hn : 8 ≤ bs.length) (ho : ∀ b ∈ bs, b < 256) (hc : Pl.canon (val (bs.take 8)) = val (bs.take 8)) :
    Calls Tryz.prog 210 #[.pointer (some ⟨p, 0, none⟩)] w fun e w' => e = .returned (.float .f64 (val (bs.take 8))) ∧ RdIs w' p g (bs.drop 8) false ∧ Moves [p] w w' := by
  have h0 := h
  obtain ⟨v, hp, hv, hg⟩ := h
  obtain ⟨c0, c1, c2, f0, f1, f2⟩ := three_cells hp
  generalize hV : val (bs.take 8) = V at hc
  have HV : Hid (val (bs.take 8) = V) := hV
  have HC : Hid (Pl.canon V = V) := hc
  have ht : ((Pl.canon (Pl.canon V) : Int) != (V : Int)) = false := by rw [hc, hc]; simp
  have ht2 : ((V : Int) != (V : Int)) = false := by simp
  obtain ⟨ad, len, cap, rfl, _⟩ := hv
  clear hV
  go_enter Tryz.func210, Tryz.ntmps210
  go_wp2_with (first | (go_at_call 196; refine (rlongr_w _ g bs _ h0 hn ho).mono ?_; rintro _ w2 ⟨rfl, hr2, m2⟩; rw [HV.out]) | (go_at_call 216; refine (numFrom_w _ _).mono ?_; rintro _ _ ⟨rfl, rfl⟩) | (go_at_call 217; refine (numBits_w _ _).mono ?_; rintro _ _ ⟨rfl, rfl⟩))
  go_ret
  exact ⟨by first | rfl | (rw [HC.out]; rfl), hr2, m2⟩

theorem rfloat_fail_w (p g : Nat) (bs : List Nat) (w : World) (h : RdIs w p g bs false) (ho : ∀ b ∈ bs, b < 256) (hc : ¬ (8 ≤ bs.length ∧ Pl.canon (val (bs.take 8)) = val (bs.take 8))) :
    Calls Tryz.prog 210 #[.pointer (some ⟨p, 0, none⟩)] w fun e w' => e = .panicked (stop p) ∧ RdIs w' p g bs true ∧ Moves [p] w w' := by
  have h0 := h
  obtain ⟨v, hp, hv, hg⟩ := h
  obtain ⟨c0, c1, c2, f0, f1, f2⟩ := three_cells hp
  have hv0 := hv
  have hgS : g ∉ [p] := by simpa using hg
  obtain ⟨ad, len, cap, rfl, _⟩ := hv
  by_cases hn : 8 ≤ bs.length
  · have hc' : ¬ Pl.canon (val (bs.take 8)) = val (bs.take 8) := fun e => hc ⟨hn, e⟩
    clear hc
    generalize hV : val (bs.take 8) = V at hc'
    have HV : Hid (val (bs.take 8) = V) := hV
    have ht : ((Pl.canon (Pl.canon V) : Int) != (V : Int)) = true := by rw [Pl.canon_canon]; simp; omega
    clear hV hc'
    go_enter Tryz.func210, Tryz.ntmps210
    go_wp2_with (first | (go_at_call 196; refine (rlongr_w _ g bs _ h0 hn ho).mono ?_; rintro _ w2 ⟨rfl, hr2, m2⟩; rw [HV.out]; have hv2 := hv0.moves m2 hgS) | (go_at_call 216; refine (numFrom_w _ _).mono ?_; rintro _ _ ⟨rfl, rfl⟩) | (go_at_call 217; refine (numBits_w _ _).mono ?_; rintro _ _ ⟨rfl, rfl⟩) | (go_at_call 172; refine (failAt_w _ g _ _ bs _ hr2 hv2).mono ?_; rintro _ w3 ⟨rfl, hr3, m3⟩))
    exact ⟨rfl, rfl, hr3, m2.then m3⟩
  · go_enter Tryz.func210, Tryz.ntmps210
    go_wp2_with (go_at_call 196; refine (rlongr_fail_w _ g bs _ h0 (by omega)).mono ?_; rintro _ w2 ⟨rfl, hr2, m2⟩)
    exact ⟨rfl, rfl, hr2, m2⟩

def textOk (bs : List Nat) (most : Int) : Prop :=
  4 ≤ bs.length ∧ val (bs.take 4) ≤ 1048576 ∧ (0 ≤ most → (val (bs.take 4) : Int) ≤ most) ∧ val (bs.take 4) ≤ (bs.drop 4).length

set_option maxHeartbeats 2000000 in
theorem rtextr_w (p g : Nat) (bs : List Nat) (most : Int) (w : World) (h : RdIs w p g bs false) (ho : ∀ b ∈ bs, b < 256) (hok : textOk bs most) :
    Calls Tryz.prog 140 #[.pointer (some ⟨p, 0, none⟩), .int .i64 most] w fun e w' => ∃ v', e = .returned v' ∧ Own w' v' ((bs.drop 4).take (val (bs.take 4))) ∧ RdIs w' p g ((bs.drop 4).drop (val (bs.take 4))) false ∧ Moves [p] w w' ∧ Fresh w v' := by
  have h0 := h
  obtain ⟨v, hp, hv, hg⟩ := h
  obtain ⟨c0, c1, c2, f0, f1, f2⟩ := three_cells hp
  obtain ⟨ad, len, cap, rfl, _⟩ := hv
  obtain ⟨k1, k2, k3, k4⟩ := hok
  generalize hV : val (bs.take 4) = V at k2 k3 k4
  have HV : Hid (val (bs.take 4) = V) := hV
  have t1 : ¬ (1048576 : Int) < (V : Int) := by omega
  have hl1 : ((bs.drop 4).take V).length ≤ 1099511627776 := by rw [List.length_take]; omega
  clear hV
  by_cases hm : 0 ≤ most
  · have t2 : ¬ most < (V : Int) := by have := k3 hm; omega
    clear k3
    go_enter Tryz.func140, Tryz.ntmps140
    go_wp2_with (first | (go_at_call 139; refine (rnumr_w _ g bs _ h0 k1 ho).mono ?_; rintro _ w2 ⟨rfl, hr2, m2⟩; rw [HV.out]; have hr2' := hr2; obtain ⟨v2, hp2, hv2, hg2⟩ := hr2'; obtain ⟨e0, e1, e2, ef0, ef1, ef2⟩ := three_cells hp2; obtain ⟨ad2, len2, cap2, rfl, hl2, _⟩ := hv2; have t3 : ¬ (len2 : Int) < (V : Int) := by omega) | (go_at_call 174; refine (rtake_w _ g (bs.drop 4) V _ rfl _ hr2 k4).mono ?_; rintro _ w3 ⟨v3, rfl, hv3, hr3, m3⟩) | (go_at_call 173; refine (fresh_w _ g _ _ hv3 hl1).mono ?_; rintro _ w4 ⟨v4, rfl, ho4, m4, f4⟩))
    go_ret
    exact ⟨_, rfl, ho4, hr3.moves m4 (by simp) (by simp), (m2.then m3).then (m4.mono (by simp)), fun k hk => Nat.le_trans m2.size (Nat.le_trans m3.size (f4 k hk))⟩
  · have t2 : ¬ 0 ≤ most := hm
    clear k3
    go_enter Tryz.func140, Tryz.ntmps140
    go_wp2_with (first | (go_at_call 139; refine (rnumr_w _ g bs _ h0 k1 ho).mono ?_; rintro _ w2 ⟨rfl, hr2, m2⟩; rw [HV.out]; have hr2' := hr2; obtain ⟨v2, hp2, hv2, hg2⟩ := hr2'; obtain ⟨e0, e1, e2, ef0, ef1, ef2⟩ := three_cells hp2; obtain ⟨ad2, len2, cap2, rfl, hl2, _⟩ := hv2; have t3 : ¬ (len2 : Int) < (V : Int) := by omega) | (go_at_call 174; refine (rtake_w _ g (bs.drop 4) V _ rfl _ hr2 k4).mono ?_; rintro _ w3 ⟨v3, rfl, hv3, hr3, m3⟩) | (go_at_call 173; refine (fresh_w _ g _ _ hv3 hl1).mono ?_; rintro _ w4 ⟨v4, rfl, ho4, m4, f4⟩))
    go_ret
    exact ⟨_, rfl, ho4, hr3.moves m4 (by simp) (by simp), (m2.then m3).then (m4.mono (by simp)), fun k hk => Nat.le_trans m2.size (Nat.le_trans m3.size (f4 k hk))⟩

set_option maxHeartbeats 2000000 in
theorem rtextr_fail_w (p g : Nat) (bs : List Nat) (most : Int) (w : World) (h : RdIs w p g bs false) (ho : ∀ b ∈ bs, b < 256) (hok : ¬ textOk bs most) :
    Calls Tryz.prog 140 #[.pointer (some ⟨p, 0, none⟩), .int .i64 most] w fun e w' => e = .panicked (stop p) ∧ RdIs w' p g bs true ∧ Moves [p] w w' := by
  have h0 := h
  obtain ⟨v, hp, hv, hg⟩ := h
  obtain ⟨c0, c1, c2, f0, f1, f2⟩ := three_cells hp
  have hv0 := hv
  have hgS : g ∉ [p] := by simpa using hg
  obtain ⟨ad, len, cap, rfl, _⟩ := hv
  by_cases k1 : 4 ≤ bs.length
  · have hok' : ¬ (val (bs.take 4) ≤ 1048576 ∧ (0 ≤ most → (val (bs.take 4) : Int) ≤ most) ∧ val (bs.take 4) ≤ (bs.drop 4).length) := fun e => hok ⟨k1, e⟩
    clear hok
    generalize hV : val (bs.take 4) = V at hok'
    have HV : Hid (val (bs.take 4) = V) := hV
    clear hV
    by_cases k2 : V ≤ 1048576
    · have t1 : ¬ (1048576 : Int) < (V : Int) := by omega
      by_cases hm : 0 ≤ most
      · by_cases k3 : most < (V : Int)
        · clear hok'
          go_enter Tryz.func140, Tryz.ntmps140
          go_wp2_with (first | (go_at_call 139; refine (rnumr_w _ g bs _ h0 k1 ho).mono ?_; rintro _ w2 ⟨rfl, hr2, m2⟩; rw [HV.out]; have hr2' := hr2; obtain ⟨v2, hp2, hv2, hg2⟩ := hr2'; obtain ⟨e0, e1, e2, ef0, ef1, ef2⟩ := three_cells hp2; obtain ⟨ad2, len2, cap2, rfl, hl2, _⟩ := hv2; have hvm := hv0.moves m2 hgS) | (go_at_call 172; refine (failAt_w _ g _ _ bs _ hr2 hvm).mono ?_; rintro _ w3 ⟨rfl, hr3, m3⟩))
          exact ⟨rfl, rfl, hr3, m2.then m3⟩
        · have k4 : ¬ V ≤ (bs.drop 4).length := fun e => hok' ⟨k2, fun _ => by omega, e⟩
          clear hok'
          go_enter Tryz.func140, Tryz.ntmps140
          go_wp2_with (first | (go_at_call 139; refine (rnumr_w _ g bs _ h0 k1 ho).mono ?_; rintro _ w2 ⟨rfl, hr2, m2⟩; rw [HV.out]; have hr2' := hr2; obtain ⟨v2, hp2, hv2, hg2⟩ := hr2'; obtain ⟨e0, e1, e2, ef0, ef1, ef2⟩ := three_cells hp2; obtain ⟨ad2, len2, cap2, rfl, hl2, _⟩ := hv2; have hvm := hv0.moves m2 hgS; have t3 : (len2 : Int) < (V : Int) := by omega) | (go_at_call 172; refine (failAt_w _ g _ _ bs _ hr2 hvm).mono ?_; rintro _ w3 ⟨rfl, hr3, m3⟩))
          exact ⟨rfl, rfl, hr3, m2.then m3⟩
      · have k4 : ¬ V ≤ (bs.drop 4).length := fun e => hok' ⟨k2, fun e => absurd e hm, e⟩
        clear hok'
        go_enter Tryz.func140, Tryz.ntmps140
        go_wp2_with (first | (go_at_call 139; refine (rnumr_w _ g bs _ h0 k1 ho).mono ?_; rintro _ w2 ⟨rfl, hr2, m2⟩; rw [HV.out]; have hr2' := hr2; obtain ⟨v2, hp2, hv2, hg2⟩ := hr2'; obtain ⟨e0, e1, e2, ef0, ef1, ef2⟩ := three_cells hp2; obtain ⟨ad2, len2, cap2, rfl, hl2, _⟩ := hv2; have hvm := hv0.moves m2 hgS; have t3 : (len2 : Int) < (V : Int) := by omega) | (go_at_call 172; refine (failAt_w _ g _ _ bs _ hr2 hvm).mono ?_; rintro _ w3 ⟨rfl, hr3, m3⟩))
        exact ⟨rfl, rfl, hr3, m2.then m3⟩
    · have t1 : (1048576 : Int) < (V : Int) := by omega
      clear hok'
      go_enter Tryz.func140, Tryz.ntmps140
      go_wp2_with (first | (go_at_call 139; refine (rnumr_w _ g bs _ h0 k1 ho).mono ?_; rintro _ w2 ⟨rfl, hr2, m2⟩; rw [HV.out]; have hr2' := hr2; obtain ⟨v2, hp2, hv2, hg2⟩ := hr2'; obtain ⟨e0, e1, e2, ef0, ef1, ef2⟩ := three_cells hp2; obtain ⟨ad2, len2, cap2, rfl, hl2, _⟩ := hv2; have hvm := hv0.moves m2 hgS) | (go_at_call 172; refine (failAt_w _ g _ _ bs _ hr2 hvm).mono ?_; rintro _ w3 ⟨rfl, hr3, m3⟩))
      exact ⟨rfl, rfl, hr3, m2.then m3⟩
  · go_enter Tryz.func140, Tryz.ntmps140
    go_wp2_with (go_at_call 139; refine (rnumr_fail_w _ g bs _ h0 (by omega)).mono ?_; rintro _ w2 ⟨rfl, hr2, m2⟩)
    exact ⟨rfl, rfl, hr2, m2⟩

end Go.Proofs.YtilbbnmhnacnlaaGreat
/-
  What Read does: it calls its function once with a Reader of the bytes, closes the Reader behind it, and returns whether all bytes were taken; where the Reader's own panic left the function it returns false.
-/
namespace Go.Proofs.YtilbbnmhnacnlaaGreat
open Go.RowKit

def RdAt (w : World) (p : Nat) : Prop := ∃ v o f, w.heap[p]? = some (.cells #[v, .bool o, .bool f] 201 (0, 0))

theorem close_w (p : Nat) (w : World) (h : RdAt w p) :
    Calls Tryz.prog 132 #[.pointer (some ⟨p, 0, none⟩)] w fun e w' => e = .returned (.tuple #[]) ∧ Moves [p] w w' := by
  obtain ⟨v, o, f, hp⟩ := h
  obtain ⟨c0, c1, c2, f0, f1, f2⟩ := three_cells hp
  go_enter Tryz.func132, Tryz.ntmps132
  go_wp2
  go_end0
  exact ⟨rfl, (moves_set _ _ _ _).then (moves_set _ _ _ _)⟩

theorem Tryz.info201 : (Tryz.prog.info? 201).map (fun i => (i.zero, i.size, i.bytes)) = some (some (.agg #[.slice none 0 0, .bool false, .bool false]), 3, 32) := by kernel_rfl

theorem stoppedBy_w (p : Nat) (w : World) :
    Calls Tryz.prog 133 #[.pointer (some ⟨p, 0, none⟩), .iface 226 (.agg #[.pointer (some ⟨p, 0, none⟩)])] w fun e w' => e = .returned (.bool true) ∧ Moves [] w w' := by
  have hta : ∀ w1 : World, (Instr.typeAssert (.iface 226 (.agg #[.pointer (some ⟨p, 0, none⟩)])) 20 226 true).run Tryz.prog w1 = .ok (.tuple #[.agg #[.pointer (some ⟨p, 0, none⟩)], .bool true]) w1 := by intro w1; kernel_rfl
  have hpe : ∀ w1 : World, (binOp .eql 176 (.pointer (some ⟨p, 0, none⟩)) (.pointer (some ⟨p, 0, none⟩))).run Tryz.prog w1 = .ok (.bool true) w1 := by
    intro w1
    obtain ⟨j, hj, _⟩ := info_parts Tryz.info201
    exact run_eql_ptr_same (P := Tryz.prog) (w := w1) ⟨p, 0, none⟩ Tryz.underlying176 hj
  go_enter Tryz.func133, Tryz.ntmps133
  go_wp2
  go_ret
  exact ⟨rfl, (Moves.refl _ _).alloc _⟩

theorem RdIs.rdAt {w : World} {p g : Nat} {bs : List Nat} {fl : Bool} (h : RdIs w p g bs fl) : RdAt w p := by
  obtain ⟨v, h, _⟩ := h
  exact ⟨v, true, fl, h⟩

theorem caught_idle (p q : Nat) (w : World) (h : RdAt w p) (hq : w.heap[q]? = some (.cells #[.pointer (some ⟨p, 0, none⟩)] 176 (0, 0))) :
    CallsD Tryz.prog 131 #[.pointer (some ⟨q, 0, none⟩)] .returning w fun e u' w' => e = .returned (.tuple #[]) ∧ u' = .returning ∧ Moves [p] w w' := by
  have cq := cell_of_one hq
  refine callsD_of_wpS Tryz.func131 rfl fun c₀ cs hu => ?_
  have hfr : (#[Value.pointer (some ⟨q, 0, none⟩)] ++ Array.replicate (Tryz.f131.ntmps - #[Value.pointer (some ⟨q, 0, none⟩)].size) undef) = #[Value.pointer (some ⟨q, 0, none⟩), undef, undef, undef, undef, undef, undef, undef, undef, undef, undef, undef, undef, undef] := by rw [Tryz.ntmps131]; rfl
  rw [hfr]
  clear hfr
  apply wpS_seq
  apply wpS_of_wp
  go_wp2_with (go_at_call 132; refine (close_w _ _ h).mono ?_; rintro _ w2 ⟨rfl, m2⟩)
  show Code.wpS _ _ _ _ _ _
  apply wpS_seq
  apply wpS_region
  simp [wpOpsS, go_sem, recoverD, hu, Exit.thenS]
  apply wpS_of_wp
  go_wp2
  refine ⟨rfl, .returning, by cases c₀; simp_all, .tuple #[], ?_, rfl, rfl, m2⟩
  simp [results, Tryz.results131]

theorem caught_stop (p q : Nat) (w : World) (h : RdAt w p) (hq : w.heap[q]? = some (.cells #[.pointer (some ⟨p, 0, none⟩)] 176 (0, 0))) (hqp : q ≠ p) :
    CallsD Tryz.prog 131 #[.pointer (some ⟨q, 0, none⟩)] (.panicking (stop p)) w fun e u' w' => e = .returned (.tuple #[]) ∧ u' = .panicking [{ v := .iface 226 (.agg #[.pointer (some ⟨p, 0, none⟩)]), recovered := true }] ∧ Moves [p] w w' := by
  have cq := cell_of_one hq
  refine callsD_of_wpS Tryz.func131 rfl fun c₀ cs hu => ?_
  have hfr : (#[Value.pointer (some ⟨q, 0, none⟩)] ++ Array.replicate (Tryz.f131.ntmps - #[Value.pointer (some ⟨q, 0, none⟩)].size) undef) = #[Value.pointer (some ⟨q, 0, none⟩), undef, undef, undef, undef, undef, undef, undef, undef, undef, undef, undef, undef, undef] := by rw [Tryz.ntmps131]; rfl
  rw [hfr]
  clear hfr
  unfold stop at hu
  apply wpS_seq
  apply wpS_of_wp
  go_wp2_with (go_at_call 132; refine (close_w _ _ h).mono ?_; rintro _ w2 ⟨rfl, m2⟩)
  have cq2 := cell_of_one (m2.at hq (by simpa using hqp))
  show Code.wpS _ _ _ _ _ _
  apply wpS_seq
  apply wpS_region
  simp [wpOpsS, go_sem, recoverD, hu, Exit.thenS]
  apply wpS_of_wp
  go_wp2_with (go_at_call 133; refine (stoppedBy_w _ _).mono ?_; rintro _ w3 ⟨rfl, m3⟩)
  refine ⟨rfl, _, rfl, .tuple #[], ?_, rfl, rfl, m2.then (m3.mono (by simp))⟩
  simp [results, Tryz.results131]

end Go.Proofs.YtilbbnmhnacnlaaGreat
