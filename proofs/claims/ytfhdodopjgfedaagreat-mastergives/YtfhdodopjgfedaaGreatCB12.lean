/-
  Reader2, Read, ReadW, Known, Back1, Open, RefR, RefT, Rest: our texts of these names, laid into one.
-/
import Derived.Test.YtfhdodopjgfedaaGreatCReader
import Derived.Recover
import Derived.LaidEqlPtr
import Derived.Deep.RegionWith
import Derived.Deep.RegionHeld3
import Derived.Deep.Slices
import Derived.Deep.Fields
import Derived.BigQuiet
/-
  What octet's Reader does with a Float and a Text while its Read runs: it takes them where the document lets it, and else leaves by its own panic with all bytes still left; no other memory is written.
-/
namespace Go.Proofs.YtfhdodopjgfedaaGreat
open Go.RowKit

theorem RdIs.moves {w w' : World} {p g : Nat} {bs : List Nat} {fl : Bool} {S : List Nat} (h : RdIs w p g bs fl) (m : Moves S w w') (hp : p ∉ S) (hg : g ∉ S) : RdIs w' p g bs fl := by
  obtain ⟨v, h1, h2, h3⟩ := h
  exact ⟨v, m.at h1 hp, h2.moves m hg, h3⟩

theorem rfloat_ok_w (p g : Nat) (bs : List Nat) (w : World) (h : RdIs w p g bs false) (hn : 8 ≤ bs.length) (ho : ∀ b ∈ bs, b < 256) (hc : Pl.canon (val (bs.take 8)) = val (bs.take 8)) :
    Calls Tryz.prog 210 #[.pointer (some ⟨p, 0, none⟩)] w fun e w' => e = .returned (.float .f64 (val (bs.take 8))) ∧ RdIs w' p g (bs.drop 8) false ∧ Moves [p] w w' := by
  have h0 := h
  obtain ⟨v, hp, hv, hg⟩ := h
  obtain ⟨c0, c1, c2, f0, f1, f2⟩ := three_cells hp
  generalize hV : val (bs.take 8) = V at hc
  have HV : Hid (val (bs.take 8) = V) := hV
  have HC : Hid (Pl.canon V = V) := hc
  have ht : ((Pl.canon (Pl.canon V) : Int) != (V : Int)) = false := by rw [hc, hc]; simp
  have ht2 : ((V : Int) != (V : Int)) = false := by simp
  obtain ⟨ad, len, cap, rfl, _⟩ := hv
  clear hV
  go_enter Tryz.func210, Tryz.ntmps210
  go_wp2_with (first | (go_at_call 196; refine (rlongr_w _ g bs _ h0 hn ho).mono ?_; rintro _ w2 ⟨rfl, hr2, m2⟩; rw [HV.out]) | (go_at_call 216; refine (numFrom_w _ _).mono ?_; rintro _ _ ⟨rfl, rfl⟩) | (go_at_call 217; refine (numBits_w _ _).mono ?_; rintro _ _ ⟨rfl, rfl⟩))
  go_ret
  exact ⟨by first | rfl | (rw [HC.out]; rfl), hr2, m2⟩

theorem rfloat_fail_w (p g : Nat) (bs : List Nat) (w : World) (h : RdIs w p g bs false) (ho : ∀ b ∈ bs, b < 256) (hc : ¬ (8 ≤ bs.length ∧ Pl.canon (val (bs.take 8)) = val (bs.take 8))) :
    Calls Tryz.prog 210 #[.pointer (some ⟨p, 0, none⟩)] w fun e w' => e = .panicked (stop p) ∧ RdIs w' p g bs true ∧ Moves [p] w w' := by
  have h0 := h
  obtain ⟨v, hp, hv, hg⟩ := h
  obtain ⟨c0, c1, c2, f0, f1, f2⟩ := three_cells hp
  have hv0 := hv
  have hgS : g ∉ [p] := by simpa using hg
  obtain ⟨ad, len, cap, rfl, _⟩ := hv
  by_cases hn : 8 ≤ bs.length
  · have hc' : ¬ Pl.canon (val (bs.take 8)) = val (bs.take 8) := fun e => hc ⟨hn, e⟩
    clear hc
    generalize hV : val (bs.take 8) = V at hc'
    have HV : Hid (val (bs.take 8) = V) := hV
    have ht : ((Pl.canon (Pl.canon V) : Int) != (V : Int)) = true := by rw [Pl.canon_canon]; simp; omega
    clear hV hc'
    go_enter Tryz.func210, Tryz.ntmps210
    go_wp2_with (first | (go_at_call 196; refine (rlongr_w _ g bs _ h0 hn ho).mono ?_; rintro _ w2 ⟨rfl, hr2, m2⟩; rw [HV.out]; have hv2 := hv0.moves m2 hgS) | (go_at_call 216; refine (numFrom_w _ _).mono ?_; rintro _ _ ⟨rfl, rfl⟩) | (go_at_call 217; refine (numBits_w _ _).mono ?_; rintro _ _ ⟨rfl, rfl⟩) | (go_at_call 172; refine (failAt_w _ g _ _ bs _ hr2 hv2).mono ?_; rintro _ w3 ⟨rfl, hr3, m3⟩))
    exact ⟨rfl, rfl, hr3, m2.then m3⟩
  · go_enter Tryz.func210, Tryz.ntmps210
    go_wp2_with (go_at_call 196; refine (rlongr_fail_w _ g bs _ h0 (by omega)).mono ?_; rintro _ w2 ⟨rfl, hr2, m2⟩)
    exact ⟨rfl, rfl, hr2, m2⟩

/-- May a Text of that length be read there? -/
def textOk (bs : List Nat) (most : Int) : Prop :=
  4 ≤ bs.length ∧ val (bs.take 4) ≤ 1048576 ∧ (0 ≤ most → (val (bs.take 4) : Int) ≤ most) ∧ val (bs.take 4) ≤ (bs.drop 4).length

set_option maxHeartbeats 2000000 in
theorem rtextr_w (p g : Nat) (bs : List Nat) (most : Int) (w : World) (h : RdIs w p g bs false) (ho : ∀ b ∈ bs, b < 256) (hok : textOk bs most) :
    Calls Tryz.prog 140 #[.pointer (some ⟨p, 0, none⟩), .int .i64 most] w fun e w' => ∃ v', e = .returned v' ∧ Own w' v' ((bs.drop 4).take (val (bs.take 4))) ∧ RdIs w' p g ((bs.drop 4).drop (val (bs.take 4))) false ∧ Moves [p] w w' ∧ Fresh w v' := by
  have h0 := h
  obtain ⟨v, hp, hv, hg⟩ := h
  obtain ⟨c0, c1, c2, f0, f1, f2⟩ := three_cells hp
  obtain ⟨ad, len, cap, rfl, _⟩ := hv
  obtain ⟨k1, k2, k3, k4⟩ := hok
  generalize hV : val (bs.take 4) = V at k2 k3 k4
  have HV : Hid (val (bs.take 4) = V) := hV
  have t1 : ¬ (1048576 : Int) < (V : Int) := by omega
  have hl1 : ((bs.drop 4).take V).length ≤ 1099511627776 := by rw [List.length_take]; omega
  clear hV
  by_cases hm : 0 ≤ most
  · have t2 : ¬ most < (V : Int) := by have := k3 hm; omega
    clear k3
    go_enter Tryz.func140, Tryz.ntmps140
    go_wp2_with (first | (go_at_call 139; refine (rnumr_w _ g bs _ h0 k1 ho).mono ?_; rintro _ w2 ⟨rfl, hr2, m2⟩; rw [HV.out]; have hr2' := hr2; obtain ⟨v2, hp2, hv2, hg2⟩ := hr2'; obtain ⟨e0, e1, e2, ef0, ef1, ef2⟩ := three_cells hp2; obtain ⟨ad2, len2, cap2, rfl, hl2, _⟩ := hv2; have t3 : ¬ (len2 : Int) < (V : Int) := by omega) | (go_at_call 174; refine (rtake_w _ g (bs.drop 4) V _ rfl _ hr2 k4).mono ?_; rintro _ w3 ⟨v3, rfl, hv3, hr3, m3⟩) | (go_at_call 173; refine (fresh_w _ g _ _ hv3 hl1).mono ?_; rintro _ w4 ⟨v4, rfl, ho4, m4, f4⟩))
    go_ret
    exact ⟨_, rfl, ho4, hr3.moves m4 (by simp) (by simp), (m2.then m3).then (m4.mono (by simp)), fun k hk => Nat.le_trans m2.size (Nat.le_trans m3.size (f4 k hk))⟩
  · have t2 : ¬ 0 ≤ most := hm
    clear k3
    go_enter Tryz.func140, Tryz.ntmps140
    go_wp2_with (first | (go_at_call 139; refine (rnumr_w _ g bs _ h0 k1 ho).mono ?_; rintro _ w2 ⟨rfl, hr2, m2⟩; rw [HV.out]; have hr2' := hr2; obtain ⟨v2, hp2, hv2, hg2⟩ := hr2'; obtain ⟨e0, e1, e2, ef0, ef1, ef2⟩ := three_cells hp2; obtain ⟨ad2, len2, cap2, rfl, hl2, _⟩ := hv2; have t3 : ¬ (len2 : Int) < (V : Int) := by omega) | (go_at_call 174; refine (rtake_w _ g (bs.drop 4) V _ rfl _ hr2 k4).mono ?_; rintro _ w3 ⟨v3, rfl, hv3, hr3, m3⟩) | (go_at_call 173; refine (fresh_w _ g _ _ hv3 hl1).mono ?_; rintro _ w4 ⟨v4, rfl, ho4, m4, f4⟩))
    go_ret
    exact ⟨_, rfl, ho4, hr3.moves m4 (by simp) (by simp), (m2.then m3).then (m4.mono (by simp)), fun k hk => Nat.le_trans m2.size (Nat.le_trans m3.size (f4 k hk))⟩

set_option maxHeartbeats 2000000 in
theorem rtextr_fail_w (p g : Nat) (bs : List Nat) (most : Int) (w : World) (h : RdIs w p g bs false) (ho : ∀ b ∈ bs, b < 256) (hok : ¬ textOk bs most) :
    Calls Tryz.prog 140 #[.pointer (some ⟨p, 0, none⟩), .int .i64 most] w fun e w' => e = .panicked (stop p) ∧ RdIs w' p g bs true ∧ Moves [p] w w' := by
  have h0 := h
  obtain ⟨v, hp, hv, hg⟩ := h
  obtain ⟨c0, c1, c2, f0, f1, f2⟩ := three_cells hp
  have hv0 := hv
  have hgS : g ∉ [p] := by simpa using hg
  obtain ⟨ad, len, cap, rfl, _⟩ := hv
  by_cases k1 : 4 ≤ bs.length
  · have hok' : ¬ (val (bs.take 4) ≤ 1048576 ∧ (0 ≤ most → (val (bs.take 4) : Int) ≤ most) ∧ val (bs.take 4) ≤ (bs.drop 4).length) := fun e => hok ⟨k1, e⟩
    clear hok
    generalize hV : val (bs.take 4) = V at hok'
    have HV : Hid (val (bs.take 4) = V) := hV
    clear hV
    by_cases k2 : V ≤ 1048576
    · have t1 : ¬ (1048576 : Int) < (V : Int) := by omega
      by_cases hm : 0 ≤ most
      · by_cases k3 : most < (V : Int)
        · clear hok'
          go_enter Tryz.func140, Tryz.ntmps140
          go_wp2_with (first | (go_at_call 139; refine (rnumr_w _ g bs _ h0 k1 ho).mono ?_; rintro _ w2 ⟨rfl, hr2, m2⟩; rw [HV.out]; have hr2' := hr2; obtain ⟨v2, hp2, hv2, hg2⟩ := hr2'; obtain ⟨e0, e1, e2, ef0, ef1, ef2⟩ := three_cells hp2; obtain ⟨ad2, len2, cap2, rfl, hl2, _⟩ := hv2; have hvm := hv0.moves m2 hgS) | (go_at_call 172; refine (failAt_w _ g _ _ bs _ hr2 hvm).mono ?_; rintro _ w3 ⟨rfl, hr3, m3⟩))
          exact ⟨rfl, rfl, hr3, m2.then m3⟩
        · have k4 : ¬ V ≤ (bs.drop 4).length := fun e => hok' ⟨k2, fun _ => by omega, e⟩
          clear hok'
          go_enter Tryz.func140, Tryz.ntmps140
          go_wp2_with (first | (go_at_call 139; refine (rnumr_w _ g bs _ h0 k1 ho).mono ?_; rintro _ w2 ⟨rfl, hr2, m2⟩; rw [HV.out]; have hr2' := hr2; obtain ⟨v2, hp2, hv2, hg2⟩ := hr2'; obtain ⟨e0, e1, e2, ef0, ef1, ef2⟩ := three_cells hp2; obtain ⟨ad2, len2, cap2, rfl, hl2, _⟩ := hv2; have hvm := hv0.moves m2 hgS; have t3 : (len2 : Int) < (V : Int) := by omega) | (go_at_call 172; refine (failAt_w _ g _ _ bs _ hr2 hvm).mono ?_; rintro _ w3 ⟨rfl, hr3, m3⟩))
          exact ⟨rfl, rfl, hr3, m2.then m3⟩
      · have k4 : ¬ V ≤ (bs.drop 4).length := fun e => hok' ⟨k2, fun e => absurd e hm, e⟩
        clear hok'
        go_enter Tryz.func140, Tryz.ntmps140
        go_wp2_with (first | (go_at_call 139; refine (rnumr_w _ g bs _ h0 k1 ho).mono ?_; rintro _ w2 ⟨rfl, hr2, m2⟩; rw [HV.out]; have hr2' := hr2; obtain ⟨v2, hp2, hv2, hg2⟩ := hr2'; obtain ⟨e0, e1, e2, ef0, ef1, ef2⟩ := three_cells hp2; obtain ⟨ad2, len2, cap2, rfl, hl2, _⟩ := hv2; have hvm := hv0.moves m2 hgS; have t3 : (len2 : Int) < (V : Int) := by omega) | (go_at_call 172; refine (failAt_w _ g _ _ bs _ hr2 hvm).mono ?_; rintro _ w3 ⟨rfl, hr3, m3⟩))
        exact ⟨rfl, rfl, hr3, m2.then m3⟩
    · have t1 : (1048576 : Int) < (V : Int) := by omega
      clear hok'
      go_enter Tryz.func140, Tryz.ntmps140
      go_wp2_with (first | (go_at_call 139; refine (rnumr_w _ g bs _ h0 k1 ho).mono ?_; rintro _ w2 ⟨rfl, hr2, m2⟩; rw [HV.out]; have hr2' := hr2; obtain ⟨v2, hp2, hv2, hg2⟩ := hr2'; obtain ⟨e0, e1, e2, ef0, ef1, ef2⟩ := three_cells hp2; obtain ⟨ad2, len2, cap2, rfl, hl2, _⟩ := hv2; have hvm := hv0.moves m2 hgS) | (go_at_call 172; refine (failAt_w _ g _ _ bs _ hr2 hvm).mono ?_; rintro _ w3 ⟨rfl, hr3, m3⟩))
      exact ⟨rfl, rfl, hr3, m2.then m3⟩
  · go_enter Tryz.func140, Tryz.ntmps140
    go_wp2_with (go_at_call 139; refine (rnumr_fail_w _ g bs _ h0 (by omega)).mono ?_; rintro _ w2 ⟨rfl, hr2, m2⟩)
    exact ⟨rfl, rfl, hr2, m2⟩

end Go.Proofs.YtfhdodopjgfedaaGreat
/-
  What Read does: it calls its function once with a Reader of the bytes, closes the Reader behind it, and returns whether all bytes were taken; where the Reader's own panic left the function it returns false.
-/
namespace Go.Proofs.YtfhdodopjgfedaaGreat
open Go.RowKit

/-- At block p lies a Reader. -/
def RdAt (w : World) (p : Nat) : Prop := ∃ v o f, w.heap[p]? = some (.cells #[v, .bool o, .bool f] 201 (0, 0))

theorem close_w (p : Nat) (w : World) (h : RdAt w p) :
    Calls Tryz.prog 132 #[.pointer (some ⟨p, 0, none⟩)] w fun e w' => e = .returned (.tuple #[]) ∧ Moves [p] w w' := by
  obtain ⟨v, o, f, hp⟩ := h
  obtain ⟨c0, c1, c2, f0, f1, f2⟩ := three_cells hp
  go_enter Tryz.func132, Tryz.ntmps132
  go_wp2
  go_end0
  exact ⟨rfl, (moves_set _ _ _ _).then (moves_set _ _ _ _)⟩

theorem Tryz.info201 : (Tryz.prog.info? 201).map (fun i => (i.zero, i.size, i.bytes)) = some (some (.agg #[.slice none 0 0, .bool false, .bool false]), 3, 32) := by kernel_rfl

theorem stoppedBy_w (p : Nat) (w : World) :
    Calls Tryz.prog 133 #[.pointer (some ⟨p, 0, none⟩), .iface 226 (.agg #[.pointer (some ⟨p, 0, none⟩)])] w fun e w' => e = .returned (.bool true) ∧ Moves [] w w' := by
  have hta : ∀ w1 : World, (Instr.typeAssert (.iface 226 (.agg #[.pointer (some ⟨p, 0, none⟩)])) 20 226 true).run Tryz.prog w1 = .ok (.tuple #[.agg #[.pointer (some ⟨p, 0, none⟩)], .bool true]) w1 := by intro w1; kernel_rfl
  have hpe : ∀ w1 : World, (binOp .eql 176 (.pointer (some ⟨p, 0, none⟩)) (.pointer (some ⟨p, 0, none⟩))).run Tryz.prog w1 = .ok (.bool true) w1 := by
    intro w1
    obtain ⟨j, hj, _⟩ := info_parts Tryz.info201
    exact run_eql_ptr_same (P := Tryz.prog) (w := w1) ⟨p, 0, none⟩ Tryz.underlying176 hj
  go_enter Tryz.func133, Tryz.ntmps133
  go_wp2
  go_ret
  exact ⟨rfl, (Moves.refl _ _).alloc _⟩

theorem RdIs.rdAt {w : World} {p g : Nat} {bs : List Nat} {fl : Bool} (h : RdIs w p g bs fl) : RdAt w p := by
  obtain ⟨v, h, _⟩ := h
  exact ⟨v, true, fl, h⟩

theorem caught_idle (p q : Nat) (w : World) (h : RdAt w p) (hq : w.heap[q]? = some (.cells #[.pointer (some ⟨p, 0, none⟩)] 176 (0, 0))) :
    CallsD Tryz.prog 131 #[.pointer (some ⟨q, 0, none⟩)] .returning w fun e u' w' => e = .returned (.tuple #[]) ∧ u' = .returning ∧ Moves [p] w w' := by
  have cq := cell_of_one hq
  refine callsD_of_wpS Tryz.func131 rfl fun c₀ cs hu => ?_
  have hfr : (#[Value.pointer (some ⟨q, 0, none⟩)] ++ Array.replicate (Tryz.f131.ntmps - #[Value.pointer (some ⟨q, 0, none⟩)].size) undef) = #[Value.pointer (some ⟨q, 0, none⟩), undef, undef, undef, undef, undef, undef, undef, undef, undef, undef, undef, undef, undef] := by rw [Tryz.ntmps131]; rfl
  rw [hfr]
  clear hfr
  apply wpS_seq
  apply wpS_of_wp
  go_wp2_with (go_at_call 132; refine (close_w _ _ h).mono ?_; rintro _ w2 ⟨rfl, m2⟩)
  show Code.wpS _ _ _ _ _ _
  apply wpS_seq
  apply wpS_region
  simp [wpOpsS, go_sem, recoverD, hu, Exit.thenS]
  apply wpS_of_wp
  go_wp2
  refine ⟨rfl, .returning, by cases c₀; simp_all, .tuple #[], ?_, rfl, rfl, m2⟩
  simp [results, Tryz.results131]

theorem caught_stop (p q : Nat) (w : World) (h : RdAt w p) (hq : w.heap[q]? = some (.cells #[.pointer (some ⟨p, 0, none⟩)] 176 (0, 0))) (hqp : q ≠ p) :
    CallsD Tryz.prog 131 #[.pointer (some ⟨q, 0, none⟩)] (.panicking (stop p)) w fun e u' w' => e = .returned (.tuple #[]) ∧ u' = .panicking [{ v := .iface 226 (.agg #[.pointer (some ⟨p, 0, none⟩)]), recovered := true }] ∧ Moves [p] w w' := by
  have cq := cell_of_one hq
  refine callsD_of_wpS Tryz.func131 rfl fun c₀ cs hu => ?_
  have hfr : (#[Value.pointer (some ⟨q, 0, none⟩)] ++ Array.replicate (Tryz.f131.ntmps - #[Value.pointer (some ⟨q, 0, none⟩)].size) undef) = #[Value.pointer (some ⟨q, 0, none⟩), undef, undef, undef, undef, undef, undef, undef, undef, undef, undef, undef, undef, undef] := by rw [Tryz.ntmps131]; rfl
  rw [hfr]
  clear hfr
  unfold stop at hu
  apply wpS_seq
  apply wpS_of_wp
  go_wp2_with (go_at_call 132; refine (close_w _ _ h).mono ?_; rintro _ w2 ⟨rfl, m2⟩)
  have cq2 := cell_of_one (m2.at hq (by simpa using hqp))
  show Code.wpS _ _ _ _ _ _
  apply wpS_seq
  apply wpS_region
  simp [wpOpsS, go_sem, recoverD, hu, Exit.thenS]
  apply wpS_of_wp
  go_wp2_with (go_at_call 133; refine (stoppedBy_w _ _).mono ?_; rintro _ w3 ⟨rfl, m3⟩)
  refine ⟨rfl, _, rfl, .tuple #[], ?_, rfl, rfl, m2.then (m3.mono (by simp))⟩
  simp [results, Tryz.results131]

end Go.Proofs.YtfhdodopjgfedaaGreat
/-
  What Read does, whatever its function: where the function comes to its end, Read returns whether all bytes were taken; where the Reader's own panic left it, false. Behind it nothing is written but the Reader.
-/
namespace Go.Proofs.YtfhdodopjgfedaaGreat
open Go.RowKit

/-- What lies in memory when Read calls its function: the Reader at block p, and behind it the variable that holds its address. -/
def Begun (w : World) (p g : Nat) (bs : List Nat) (fl : Bool) : Prop :=
  RdIs w p g bs fl ∧ w.heap[p + 1]? = some (.cells #[.pointer (some ⟨p, 0, none⟩)] 176 (0, 0))

theorem begun {w : World} {g : Nat} {v : Value} {bs : List Nat} (hv : IsB w g v bs) (hg : g ≠ w.heap.size) :
    Begun ((w.alloc (.cells #[v, .bool true, .bool false] 201)).alloc (.cells #[.pointer (some ⟨w.heap.size, 0, none⟩)] 176)) w.heap.size g bs false ∧
    Moves [] w ((w.alloc (.cells #[v, .bool true, .bool false] 201)).alloc (.cells #[.pointer (some ⟨w.heap.size, 0, none⟩)] 176)) := by
  have m : Moves [] w ((w.alloc (.cells #[v, .bool true, .bool false] 201)).alloc (.cells #[.pointer (some ⟨w.heap.size, 0, none⟩)] 176)) := ((Moves.refl _ _).alloc _).alloc _
  refine ⟨⟨⟨v, ?_, hv.moves m (by simp), hg⟩, ?_⟩, m⟩
  · exact (Below.heap_alloc _ _ _ (by simp)).trans (heap_alloc_new _ _)
  · have e := heap_alloc_new (w.alloc (.cells #[v, .bool true, .bool false] 201)) (.cells #[.pointer (some ⟨w.heap.size, 0, none⟩)] 176)
    have e2 : (w.alloc (.cells #[v, .bool true, .bool false] 201)).heap.size = w.heap.size + 1 := by simp
    rw [e2] at e
    exact e

end Go.Proofs.YtfhdodopjgfedaaGreat
/-
  What 'known' does: it returns true, and writes nothing that was there.
-/
namespace Go.Proofs.YtfhdodopjgfedaaGreat
open Go.RowKit

/-- The bytes as a string. -/
def strOf (bs : List Nat) : ByteArray := ⟨(bs.map UInt8.ofNat).toArray⟩

theorem run_str {w : World} {g : Nat} {v : Value} {bs : List Nat} (h : IsB w g v bs) (ho : ∀ b ∈ bs, b < 256) : (convert 27 9 v).run Tryz.prog w = .ok (.string (strOf bs)) w := by
  obtain ⟨ad, n, cap, rfl, hn, hc, ha, hh⟩ := h
  rcases hh with rfl | ⟨off, rfl, hcell⟩
  · simp at hn
    subst hn
    cases ad with
    | none =>
      rw [run_convert_bytes_string w 27 9 5 none 0 cap Tryz.underlying27 Tryz.underlying5 Tryz.underlying9]
      rfl
    | some a =>
      have := run_convert_bytes_back (P := Tryz.prog) w 27 9 5 a cap [] Tryz.underlying27 Tryz.underlying5 Tryz.underlying9 (fun j hj => by simp at hj)
      exact this
  · have := run_convert_bytes_back (P := Tryz.prog) w 27 9 5 ⟨g, off, none⟩ cap (bs.map UInt8.ofNat) Tryz.underlying27 Tryz.underlying5 Tryz.underlying9 (fun j hj => by
      have hj' : j < bs.length := by simpa using hj
      have h1 := hcell j bs[j] (by simp)
      have e : (⟨g, off, none⟩ : Addr).add j = ⟨g, off + j, none⟩ := by unfold Addr.add; split <;> simp_all
      have h2 := ho bs[j] (List.getElem_mem hj')
      have e2 : (bs.map UInt8.ofNat)[j].toNat = bs[j] := by
        rw [List.getElem_map]
        exact UInt8.toNat_ofNat_of_lt h2
      rw [e, h1, e2])
    rw [List.length_map, hn] at this
    exact this

end Go.Proofs.YtfhdodopjgfedaaGreat
/-
  What the function that OctetBack hands to Read does: it reads all that was written, finds it the same, and nothing is left.
-/
namespace Go.Proofs.YtfhdodopjgfedaaGreat
open Go.RowKit

theorem Moves.cellOf {S : List Nat} {w w' : World} (m : Moves S w w') {a : Addr} {v : Value} (h : w.cell? a = some v) (ha : a.block ∉ S) : w'.cell? a = some v :=
  (World.cell?_of_block (w := w) (m.block a.block (lt_of_cell h) ha)).trans h

theorem wrap_u8 (n : Int) : IntKind.u8.wrap n = n % 256 := by simp [IntKind.wrap, IntKind.bits, IntKind.signed]
theorem wrap_u32 (n : Int) : IntKind.u32.wrap n = n % 4294967296 := by simp [IntKind.wrap, IntKind.bits, IntKind.signed]

theorem mem_be {size n b : Nat} (h : b ∈ be size n) : b < 256 := by
  unfold be hi at h
  obtain ⟨t, _, rfl⟩ := List.mem_map.1 h
  exact Nat.mod_lt _ (by decide)

theorem val_append (a : List Nat) (b : Nat) : val (a ++ [b]) = val a * 256 + b := by simp [val]

theorem val_hi {size n : Nat} (h : n < 256 ^ size) : ∀ j, j ≤ size → val (hi size n j) = n / 256 ^ (size - j)
  | 0, _ => by
    have e : hi size n 0 = [] := by simp [hi]
    rw [e, Nat.sub_zero, Nat.div_eq_of_lt h]; rfl
  | j + 1, hj => by
    have ih := val_hi h j (by omega)
    have e : hi size n (j + 1) = hi size n j ++ [n / 256 ^ (size - 1 - j) % 256] := be_step n size j
    have e2 : size - j = (size - 1 - j) + 1 := by omega
    have e3 : size - (j + 1) = size - 1 - j := by omega
    rw [e, val_append, ih, e2, e3, Nat.pow_succ, ← Nat.div_div_eq_div_mul]
    omega

theorem val_be {size n : Nat} (h : n < 256 ^ size) : val (be size n) = n := by
  unfold be
  rw [val_hi h size (Nat.le_refl _), Nat.sub_self]
  simp

theorem take_of {bs hd rest : List Nat} {n : Nat} (hb : bs = hd ++ rest) (hl : hd.length = n) : bs.take n = hd ∧ bs.drop n = rest ∧ n ≤ bs.length := by
  subst hb hl
  simp

end Go.Proofs.YtfhdodopjgfedaaGreat
/-
  Arguments opened: a slice of bytes and a slice of things to be written or read, as the rows' reading finds them in memory.
-/
namespace Go.Proofs.YtfhdodopjgfedaaGreat
open Go.RowKit
open Go.ChangeShapes Go.WideShapes

end Go.Proofs.YtfhdodopjgfedaaGreat
/-
  What the document's own reading does: each method takes the bytes that the document says and returns what they stand for, or marks itself as bad; no other memory is written.
-/
namespace Go.Proofs.YtfhdodopjgfedaaGreat
open Go.RowKit

theorem isB_nil (w : World) (g : Nat) : IsB w g (.slice none 0 0) [] := ⟨_, _, _, rfl, rfl, Nat.le_refl _, fun _ => rfl, .inl rfl⟩

end Go.Proofs.YtfhdodopjgfedaaGreat
/-
  What the document's own reading of a Text does, and what 'rest' does where nothing can be read: it marks the document's Reader as bad.
-/
namespace Go.Proofs.YtfhdodopjgfedaaGreat
open Go.RowKit

end Go.Proofs.YtfhdodopjgfedaaGreat
/-
  What 'rest' does where the next thing cannot be read: it marks the document's Reader as bad.
-/
namespace Go.Proofs.YtfhdodopjgfedaaGreat
open Go.RowKit

/-- Read, whatever its function: both ways. -/
theorem read_any (F : Nat) (cap : Array Value) (v : Value) (g : Nat) (bs : List Nat) (w : World) (hv : IsB w g v bs) (hg : g ≠ w.heap.size) (Q1 Q2 : List Nat → World → Prop)
    (hcf : ∀ (args : Array Value) (w : World), (callFunc F args).run Tryz.prog w = .ok (.enter F args) w)
    (hf : ∀ w1, Begun w1 w.heap.size g bs false → Moves [] w w1 → Calls Tryz.prog F (#[.pointer (some ⟨w.heap.size, 0, none⟩)] ++ cap) w1 fun e w2 =>
      (e = .returned (.tuple #[]) ∧ ∃ bs', Begun w2 w.heap.size g bs' false ∧ Q1 bs' w2) ∨ (e = .panicked (stop w.heap.size) ∧ ∃ bs', Begun w2 w.heap.size g bs' true ∧ Q2 bs' w2)) :
    Calls Tryz.prog 103 #[v, .func (.func F) #[] cap] w fun e w' => (∃ bs', e = .returned (.bool ((bs'.length : Int) == 0)) ∧ ∃ w2, Q1 bs' w2 ∧ Moves [w.heap.size] w2 w') ∨ (e = .returned (.bool false) ∧ ∃ bs' w2, Q2 bs' w2 ∧ Moves [w.heap.size] w2 w') := by
  have hmf : ∀ (fn : Fn) (first cap : Array Value) (w : World), (Instr.makeFunc fn first cap).run Tryz.prog w = .ok (.func fn first cap) w := fun _ _ _ _ => rfl
  have hne : ∀ w : World, (binOp .eql 178 (.func (.func F) #[] cap) .nilFunc).run Tryz.prog w = .ok (.bool false) w := by intro w; kernel_rfl
  obtain ⟨hb1, hm1⟩ := begun hv hg
  obtain ⟨ad, n, c, rfl, hn, _⟩ := hv
  go_enter_defers Tryz.func103, Tryz.ntmps103
  go_wp2_with fail
  refine (hf _ hb1 hm1).mono ?_
  clear hf hb1 hm1
  rintro _ w2 (⟨rfl, bs', ⟨hr2, hq2⟩, hQ2⟩ | ⟨rfl, bs', ⟨hr2, hq2⟩, hQ2⟩)
  · have hr2' := hr2
    obtain ⟨v2, hp2, hv2, hg2⟩ := hr2'
    obtain ⟨e0, e1, e2, ef0, ef1, ef2⟩ := three_cells hp2
    have cq := cell_of_one hq2
    go_wp2_with (go_at_call 134; refine (rleft_w _ g bs' false _ hr2).mono ?_; rintro _ _ ⟨rfl, rfl⟩)
    refine leaves_cons (f := 131) (args := #[.pointer (some ⟨w.heap.size + 1, 0, none⟩)]) (by simp) (by simp [go_sem]) ?_
    refine (caught_idle w.heap.size (w.heap.size + 1) _ hr2.rdAt hq2).mono ?_
    rintro e u' w3 ⟨rfl, rfl, m3⟩
    exact ⟨_, results_tmp rfl _ _ _, .inl ⟨bs', rfl, w2, hQ2, m3⟩⟩
  · go_wp2_with fail
    refine leaves_cons (f := 131) (args := #[.pointer (some ⟨w.heap.size + 1, 0, none⟩)]) (by simp) (by simp [go_sem]) ?_
    refine (caught_stop w.heap.size (w.heap.size + 1) _ hr2.rdAt hq2 (by omega)).mono ?_
    rintro e u' w3 ⟨rfl, rfl, m3⟩
    simp only [settle]
    exact ⟨_, results_tmp rfl _ _ _, .inr ⟨rfl, bs', w2, hQ2, m3⟩⟩

end Go.Proofs.YtfhdodopjgfedaaGreat
