/-
  Reader2, Read, ReadW, Known, Back1: our texts of these names, laid into one.
-/
import Derived.Test.YtcamhlnkcoicpaaGreatCReader
import Derived.Recover
import Derived.LaidEqlPtr
import Derived.Deep.RegionWith
import Derived.Deep.RegionHeld3
/-
  What octet's Reader does with a Float and a Text while its Read runs: it takes them where the document lets it, and else leaves by its own panic with all bytes still left; no other memory is written.
-/
namespace Go.Proofs.YtcamhlnkcoicpaaGreat
open Go.RowKit

theorem RdIs.moves {w w' : World} {p g : Nat} {bs : List Nat} {fl : Bool} {S : List Nat} (h : RdIs w p g bs fl) (m : Moves S w w') (hp : p ∉ S) (hg : g ∉ S) : RdIs w' p g bs fl := by
  obtain ⟨v, h1, h2, h3⟩ := h
  exact ⟨v, m.at h1 hp, h2.moves m hg, h3⟩

theorem rfloat_ok_w (p g : Nat) (bs : List Nat) (w : World) (h : RdIs w p g bs false) (hn : 8 ≤ bs.length) (ho : ∀ b ∈ bs, b < 256) (hc : Pl.canon (val (bs.take 8)) = val (bs.take 8)) :
    Calls Tryz.prog 175 #[.pointer (some ⟨p, 0, none⟩)] w fun e w' => e = .returned (.float .f64 (val (bs.take 8))) ∧ RdIs w' p g (bs.drop 8) false ∧ Moves [p] w w' := by
  have h0 := h
  obtain ⟨v, hp, hv, hg⟩ := h
  obtain ⟨c0, c1, c2, f0, f1, f2⟩ := three_cells hp
  generalize hV : val (bs.take 8) = V at hc
  have HV : Hid (val (bs.take 8) = V) := hV
  have HC : Hid (Pl.canon V = V) := hc
  have ht : ((Pl.canon (Pl.canon V) : Int) != (V : Int)) = false := by rw [hc, hc]; simp
  have ht2 : ((V : Int) != (V : Int)) = false := by simp
  obtain ⟨ad, len, cap, rfl, _⟩ := hv
  clear hV
  go_enter Tryz.func175, Tryz.ntmps175
  go_wp2_with (first | (go_at_call 166; refine (rlongr_w _ g bs _ h0 hn ho).mono ?_; rintro _ w2 ⟨rfl, hr2, m2⟩; rw [HV.out]) | (go_at_call 180; refine (numFrom_w _ _).mono ?_; rintro _ _ ⟨rfl, rfl⟩) | (go_at_call 179; refine (numBits_w _ _).mono ?_; rintro _ _ ⟨rfl, rfl⟩))
  go_ret
  exact ⟨by first | rfl | (rw [HC.out]; rfl), hr2, m2⟩

theorem rfloat_fail_w (p g : Nat) (bs : List Nat) (w : World) (h : RdIs w p g bs false) (ho : ∀ b ∈ bs, b < 256) (hc : ¬ (8 ≤ bs.length ∧ Pl.canon (val (bs.take 8)) = val (bs.take 8))) :
    Calls Tryz.prog 175 #[.pointer (some ⟨p, 0, none⟩)] w fun e w' => e = .panicked (stop p) ∧ RdIs w' p g bs true ∧ Moves [p] w w' := by
  have h0 := h
  obtain ⟨v, hp, hv, hg⟩ := h
  obtain ⟨c0, c1, c2, f0, f1, f2⟩ := three_cells hp
  have hv0 := hv
  have hgS : g ∉ [p] := by simpa using hg
  obtain ⟨ad, len, cap, rfl, _⟩ := hv
  by_cases hn : 8 ≤ bs.length
  · have hc' : ¬ Pl.canon (val (bs.take 8)) = val (bs.take 8) := fun e => hc ⟨hn, e⟩
    clear hc
    generalize hV : val (bs.take 8) = V at hc'
    have HV : Hid (val (bs.take 8) = V) := hV
    have ht : ((Pl.canon (Pl.canon V) : Int) != (V : Int)) = true := by rw [Pl.canon_canon]; simp; omega
    clear hV hc'
    go_enter Tryz.func175, Tryz.ntmps175
    go_wp2_with (first | (go_at_call 166; refine (rlongr_w _ g bs _ h0 hn ho).mono ?_; rintro _ w2 ⟨rfl, hr2, m2⟩; rw [HV.out]; have hv2 := hv0.moves m2 hgS) | (go_at_call 180; refine (numFrom_w _ _).mono ?_; rintro _ _ ⟨rfl, rfl⟩) | (go_at_call 179; refine (numBits_w _ _).mono ?_; rintro _ _ ⟨rfl, rfl⟩) | (go_at_call 116; refine (failAt_w _ g _ _ bs _ hr2 hv2).mono ?_; rintro _ w3 ⟨rfl, hr3, m3⟩))
    exact ⟨rfl, rfl, hr3, m2.then m3⟩
  · go_enter Tryz.func175, Tryz.ntmps175
    go_wp2_with (go_at_call 166; refine (rlongr_fail_w _ g bs _ h0 (by omega)).mono ?_; rintro _ w2 ⟨rfl, hr2, m2⟩)
    exact ⟨rfl, rfl, hr2, m2⟩

/-- May a Text of that length be read there? -/
def textOk (bs : List Nat) (most : Int) : Prop :=
  4 ≤ bs.length ∧ val (bs.take 4) ≤ 1048576 ∧ (0 ≤ most → (val (bs.take 4) : Int) ≤ most) ∧ val (bs.take 4) ≤ (bs.drop 4).length

set_option maxHeartbeats 2000000 in
theorem rtextr_w (p g : Nat) (bs : List Nat) (most : Int) (w : World) (h : RdIs w p g bs false) (ho : ∀ b ∈ bs, b < 256) (hok : textOk bs most) :
    Calls Tryz.prog 66 #[.pointer (some ⟨p, 0, none⟩), .int .i64 most] w fun e w' => ∃ v', e = .returned v' ∧ Own w' v' ((bs.drop 4).take (val (bs.take 4))) ∧ RdIs w' p g ((bs.drop 4).drop (val (bs.take 4))) false ∧ Moves [p] w w' ∧ Fresh w v' := by
  have h0 := h
  obtain ⟨v, hp, hv, hg⟩ := h
  obtain ⟨c0, c1, c2, f0, f1, f2⟩ := three_cells hp
  obtain ⟨ad, len, cap, rfl, _⟩ := hv
  obtain ⟨k1, k2, k3, k4⟩ := hok
  generalize hV : val (bs.take 4) = V at k2 k3 k4
  have HV : Hid (val (bs.take 4) = V) := hV
  have t1 : ¬ (1048576 : Int) < (V : Int) := by omega
  have hl1 : ((bs.drop 4).take V).length ≤ 1099511627776 := by rw [List.length_take]; omega
  clear hV
  by_cases hm : 0 ≤ most
  · have t2 : ¬ most < (V : Int) := by have := k3 hm; omega
    clear k3
    go_enter Tryz.func66, Tryz.ntmps66
    go_wp2_with (first | (go_at_call 65; refine (rnumr_w _ g bs _ h0 k1 ho).mono ?_; rintro _ w2 ⟨rfl, hr2, m2⟩; rw [HV.out]; have hr2' := hr2; obtain ⟨v2, hp2, hv2, hg2⟩ := hr2'; obtain ⟨e0, e1, e2, ef0, ef1, ef2⟩ := three_cells hp2; obtain ⟨ad2, len2, cap2, rfl, hl2, _⟩ := hv2; have t3 : ¬ (len2 : Int) < (V : Int) := by omega) | (go_at_call 117; refine (rtake_w _ g (bs.drop 4) V _ rfl _ hr2 k4).mono ?_; rintro _ w3 ⟨v3, rfl, hv3, hr3, m3⟩) | (go_at_call 102; refine (fresh_w _ g _ _ hv3 hl1).mono ?_; rintro _ w4 ⟨v4, rfl, ho4, m4, f4⟩))
    go_ret
    exact ⟨_, rfl, ho4, hr3.moves m4 (by simp) (by simp), (m2.then m3).then (m4.mono (by simp)), fun k hk => Nat.le_trans m2.size (Nat.le_trans m3.size (f4 k hk))⟩
  · have t2 : ¬ 0 ≤ most := hm
    clear k3
    go_enter Tryz.func66, Tryz.ntmps66
    go_wp2_with (first | (go_at_call 65; refine (rnumr_w _ g bs _ h0 k1 ho).mono ?_; rintro _ w2 ⟨rfl, hr2, m2⟩; rw [HV.out]; have hr2' := hr2; obtain ⟨v2, hp2, hv2, hg2⟩ := hr2'; obtain ⟨e0, e1, e2, ef0, ef1, ef2⟩ := three_cells hp2; obtain ⟨ad2, len2, cap2, rfl, hl2, _⟩ := hv2; have t3 : ¬ (len2 : Int) < (V : Int) := by omega) | (go_at_call 117; refine (rtake_w _ g (bs.drop 4) V _ rfl _ hr2 k4).mono ?_; rintro _ w3 ⟨v3, rfl, hv3, hr3, m3⟩) | (go_at_call 102; refine (fresh_w _ g _ _ hv3 hl1).mono ?_; rintro _ w4 ⟨v4, rfl, ho4, m4, f4⟩))
    go_ret
    exact ⟨_, rfl, ho4, hr3.moves m4 (by simp) (by simp), (m2.then m3).then (m4.mono (by simp)), fun k hk => Nat.le_trans m2.size (Nat.le_trans m3.size (f4 k hk))⟩

set_option maxHeartbeats 2000000 in
theorem rtextr_fail_w (p g : Nat) (bs : List Nat) (most : Int) (w : World) (h : RdIs w p g bs false) (ho : ∀ b ∈ bs, b < 256) (hok : ¬ textOk bs most) :
    Calls Tryz.prog 66 #[.pointer (some ⟨p, 0, none⟩), .int .i64 most] w fun e w' => e = .panicked (stop p) ∧ RdIs w' p g bs true ∧ Moves [p] w w' := by
  have h0 := h
  obtain ⟨v, hp, hv, hg⟩ := h
  obtain ⟨c0, c1, c2, f0, f1, f2⟩ := three_cells hp
  have hv0 := hv
  have hgS : g ∉ [p] := by simpa using hg
  obtain ⟨ad, len, cap, rfl, _⟩ := hv
  by_cases k1 : 4 ≤ bs.length
  · have hok' : ¬ (val (bs.take 4) ≤ 1048576 ∧ (0 ≤ most → (val (bs.take 4) : Int) ≤ most) ∧ val (bs.take 4) ≤ (bs.drop 4).length) := fun e => hok ⟨k1, e⟩
    clear hok
    generalize hV : val (bs.take 4) = V at hok'
    have HV : Hid (val (bs.take 4) = V) := hV
    clear hV
    by_cases k2 : V ≤ 1048576
    · have t1 : ¬ (1048576 : Int) < (V : Int) := by omega
      by_cases hm : 0 ≤ most
      · by_cases k3 : most < (V : Int)
        · clear hok'
          go_enter Tryz.func66, Tryz.ntmps66
          go_wp2_with (first | (go_at_call 65; refine (rnumr_w _ g bs _ h0 k1 ho).mono ?_; rintro _ w2 ⟨rfl, hr2, m2⟩; rw [HV.out]; have hr2' := hr2; obtain ⟨v2, hp2, hv2, hg2⟩ := hr2'; obtain ⟨e0, e1, e2, ef0, ef1, ef2⟩ := three_cells hp2; obtain ⟨ad2, len2, cap2, rfl, hl2, _⟩ := hv2; have hvm := hv0.moves m2 hgS) | (go_at_call 116; refine (failAt_w _ g _ _ bs _ hr2 hvm).mono ?_; rintro _ w3 ⟨rfl, hr3, m3⟩))
          exact ⟨rfl, rfl, hr3, m2.then m3⟩
        · have k4 : ¬ V ≤ (bs.drop 4).length := fun e => hok' ⟨k2, fun _ => by omega, e⟩
          clear hok'
          go_enter Tryz.func66, Tryz.ntmps66
          go_wp2_with (first | (go_at_call 65; refine (rnumr_w _ g bs _ h0 k1 ho).mono ?_; rintro _ w2 ⟨rfl, hr2, m2⟩; rw [HV.out]; have hr2' := hr2; obtain ⟨v2, hp2, hv2, hg2⟩ := hr2'; obtain ⟨e0, e1, e2, ef0, ef1, ef2⟩ := three_cells hp2; obtain ⟨ad2, len2, cap2, rfl, hl2, _⟩ := hv2; have hvm := hv0.moves m2 hgS; have t3 : (len2 : Int) < (V : Int) := by omega) | (go_at_call 116; refine (failAt_w _ g _ _ bs _ hr2 hvm).mono ?_; rintro _ w3 ⟨rfl, hr3, m3⟩))
          exact ⟨rfl, rfl, hr3, m2.then m3⟩
      · have k4 : ¬ V ≤ (bs.drop 4).length := fun e => hok' ⟨k2, fun e => absurd e hm, e⟩
        clear hok'
        go_enter Tryz.func66, Tryz.ntmps66
        go_wp2_with (first | (go_at_call 65; refine (rnumr_w _ g bs _ h0 k1 ho).mono ?_; rintro _ w2 ⟨rfl, hr2, m2⟩; rw [HV.out]; have hr2' := hr2; obtain ⟨v2, hp2, hv2, hg2⟩ := hr2'; obtain ⟨e0, e1, e2, ef0, ef1, ef2⟩ := three_cells hp2; obtain ⟨ad2, len2, cap2, rfl, hl2, _⟩ := hv2; have hvm := hv0.moves m2 hgS; have t3 : (len2 : Int) < (V : Int) := by omega) | (go_at_call 116; refine (failAt_w _ g _ _ bs _ hr2 hvm).mono ?_; rintro _ w3 ⟨rfl, hr3, m3⟩))
        exact ⟨rfl, rfl, hr3, m2.then m3⟩
    · have t1 : (1048576 : Int) < (V : Int) := by omega
      clear hok'
      go_enter Tryz.func66, Tryz.ntmps66
      go_wp2_with (first | (go_at_call 65; refine (rnumr_w _ g bs _ h0 k1 ho).mono ?_; rintro _ w2 ⟨rfl, hr2, m2⟩; rw [HV.out]; have hr2' := hr2; obtain ⟨v2, hp2, hv2, hg2⟩ := hr2'; obtain ⟨e0, e1, e2, ef0, ef1, ef2⟩ := three_cells hp2; obtain ⟨ad2, len2, cap2, rfl, hl2, _⟩ := hv2; have hvm := hv0.moves m2 hgS) | (go_at_call 116; refine (failAt_w _ g _ _ bs _ hr2 hvm).mono ?_; rintro _ w3 ⟨rfl, hr3, m3⟩))
      exact ⟨rfl, rfl, hr3, m2.then m3⟩
  · go_enter Tryz.func66, Tryz.ntmps66
    go_wp2_with (go_at_call 65; refine (rnumr_fail_w _ g bs _ h0 (by omega)).mono ?_; rintro _ w2 ⟨rfl, hr2, m2⟩)
    exact ⟨rfl, rfl, hr2, m2⟩

end Go.Proofs.YtcamhlnkcoicpaaGreat
/-
  What Read does: it calls its function once with a Reader of the bytes, closes the Reader behind it, and returns whether all bytes were taken; where the Reader's own panic left the function it returns false.
-/
namespace Go.Proofs.YtcamhlnkcoicpaaGreat
open Go.RowKit

/-- At block p lies a Reader. -/
def RdAt (w : World) (p : Nat) : Prop := ∃ v o f, w.heap[p]? = some (.cells #[v, .bool o, .bool f] 149 (0, 0))

theorem close_w (p : Nat) (w : World) (h : RdAt w p) :
    Calls Tryz.prog 104 #[.pointer (some ⟨p, 0, none⟩)] w fun e w' => e = .returned (.tuple #[]) ∧ Moves [p] w w' := by
  obtain ⟨v, o, f, hp⟩ := h
  obtain ⟨c0, c1, c2, f0, f1, f2⟩ := three_cells hp
  go_enter Tryz.func104, Tryz.ntmps104
  go_wp2
  go_end0
  exact ⟨rfl, (moves_set _ _ _ _).then (moves_set _ _ _ _)⟩

theorem Tryz.info149 : (Tryz.prog.info? 149).map (fun i => (i.zero, i.size, i.bytes)) = some (some (.agg #[.slice none 0 0, .bool false, .bool false]), 3, 32) := by kernel_rfl

theorem stoppedBy_w (p : Nat) (w : World) :
    Calls Tryz.prog 105 #[.pointer (some ⟨p, 0, none⟩), .iface 184 (.agg #[.pointer (some ⟨p, 0, none⟩)])] w fun e w' => e = .returned (.bool true) ∧ Moves [] w w' := by
  have hta : ∀ w1 : World, (Instr.typeAssert (.iface 184 (.agg #[.pointer (some ⟨p, 0, none⟩)])) 20 184 true).run Tryz.prog w1 = .ok (.tuple #[.agg #[.pointer (some ⟨p, 0, none⟩)], .bool true]) w1 := by intro w1; kernel_rfl
  have hpe : ∀ w1 : World, (binOp .eql 110 (.pointer (some ⟨p, 0, none⟩)) (.pointer (some ⟨p, 0, none⟩))).run Tryz.prog w1 = .ok (.bool true) w1 := by
    intro w1
    obtain ⟨j, hj, _⟩ := info_parts Tryz.info149
    exact run_eql_ptr_same (P := Tryz.prog) (w := w1) ⟨p, 0, none⟩ Tryz.underlying110 hj
  go_enter Tryz.func105, Tryz.ntmps105
  go_wp2
  go_ret
  exact ⟨rfl, (Moves.refl _ _).alloc _⟩

theorem RdIs.rdAt {w : World} {p g : Nat} {bs : List Nat} {fl : Bool} (h : RdIs w p g bs fl) : RdAt w p := by
  obtain ⟨v, h, _⟩ := h
  exact ⟨v, true, fl, h⟩

theorem caught_idle (p q : Nat) (w : World) (h : RdAt w p) (hq : w.heap[q]? = some (.cells #[.pointer (some ⟨p, 0, none⟩)] 110 (0, 0))) :
    CallsD Tryz.prog 103 #[.pointer (some ⟨q, 0, none⟩)] .returning w fun e u' w' => e = .returned (.tuple #[]) ∧ u' = .returning ∧ Moves [p] w w' := by
  have cq := cell_of_one hq
  refine callsD_of_wpS Tryz.func103 rfl fun c₀ cs hu => ?_
  have hfr : (#[Value.pointer (some ⟨q, 0, none⟩)] ++ Array.replicate (Tryz.f103.ntmps - #[Value.pointer (some ⟨q, 0, none⟩)].size) undef) = #[Value.pointer (some ⟨q, 0, none⟩), undef, undef, undef, undef, undef, undef, undef, undef, undef, undef, undef, undef, undef] := by rw [Tryz.ntmps103]; rfl
  rw [hfr]
  clear hfr
  apply wpS_seq
  apply wpS_of_wp
  go_wp2_with (go_at_call 104; refine (close_w _ _ h).mono ?_; rintro _ w2 ⟨rfl, m2⟩)
  show Code.wpS _ _ _ _ _ _
  apply wpS_seq
  apply wpS_region
  simp [wpOpsS, go_sem, recoverD, hu, Exit.thenS]
  apply wpS_of_wp
  go_wp2
  refine ⟨rfl, .returning, by cases c₀; simp_all, .tuple #[], ?_, rfl, rfl, m2⟩
  simp [results, Tryz.results103]

theorem caught_stop (p q : Nat) (w : World) (h : RdAt w p) (hq : w.heap[q]? = some (.cells #[.pointer (some ⟨p, 0, none⟩)] 110 (0, 0))) (hqp : q ≠ p) :
    CallsD Tryz.prog 103 #[.pointer (some ⟨q, 0, none⟩)] (.panicking (stop p)) w fun e u' w' => e = .returned (.tuple #[]) ∧ u' = .panicking [{ v := .iface 184 (.agg #[.pointer (some ⟨p, 0, none⟩)]), recovered := true }] ∧ Moves [p] w w' := by
  have cq := cell_of_one hq
  refine callsD_of_wpS Tryz.func103 rfl fun c₀ cs hu => ?_
  have hfr : (#[Value.pointer (some ⟨q, 0, none⟩)] ++ Array.replicate (Tryz.f103.ntmps - #[Value.pointer (some ⟨q, 0, none⟩)].size) undef) = #[Value.pointer (some ⟨q, 0, none⟩), undef, undef, undef, undef, undef, undef, undef, undef, undef, undef, undef, undef, undef] := by rw [Tryz.ntmps103]; rfl
  rw [hfr]
  clear hfr
  unfold stop at hu
  apply wpS_seq
  apply wpS_of_wp
  go_wp2_with (go_at_call 104; refine (close_w _ _ h).mono ?_; rintro _ w2 ⟨rfl, m2⟩)
  have cq2 := cell_of_one (m2.at hq (by simpa using hqp))
  show Code.wpS _ _ _ _ _ _
  apply wpS_seq
  apply wpS_region
  simp [wpOpsS, go_sem, recoverD, hu, Exit.thenS]
  apply wpS_of_wp
  go_wp2_with (go_at_call 105; refine (stoppedBy_w _ _).mono ?_; rintro _ w3 ⟨rfl, m3⟩)
  refine ⟨rfl, _, rfl, .tuple #[], ?_, rfl, rfl, m2.then (m3.mono (by simp))⟩
  simp [results, Tryz.results103]

end Go.Proofs.YtcamhlnkcoicpaaGreat
/-
  What Read does, whatever its function: where the function comes to its end, Read returns whether all bytes were taken; where the Reader's own panic left it, false. Behind it nothing is written but the Reader.
-/
namespace Go.Proofs.YtcamhlnkcoicpaaGreat
open Go.RowKit

/-- What lies in memory when Read calls its function: the Reader at block p, and behind it the variable that holds its address. -/
def Begun (w : World) (p g : Nat) (bs : List Nat) (fl : Bool) : Prop :=
  RdIs w p g bs fl ∧ w.heap[p + 1]? = some (.cells #[.pointer (some ⟨p, 0, none⟩)] 110 (0, 0))

theorem begun {w : World} {g : Nat} {v : Value} {bs : List Nat} (hv : IsB w g v bs) (hg : g ≠ w.heap.size) :
    Begun ((w.alloc (.cells #[v, .bool true, .bool false] 149)).alloc (.cells #[.pointer (some ⟨w.heap.size, 0, none⟩)] 110)) w.heap.size g bs false ∧
    Moves [] w ((w.alloc (.cells #[v, .bool true, .bool false] 149)).alloc (.cells #[.pointer (some ⟨w.heap.size, 0, none⟩)] 110)) := by
  have m : Moves [] w ((w.alloc (.cells #[v, .bool true, .bool false] 149)).alloc (.cells #[.pointer (some ⟨w.heap.size, 0, none⟩)] 110)) := ((Moves.refl _ _).alloc _).alloc _
  refine ⟨⟨⟨v, ?_, hv.moves m (by simp), hg⟩, ?_⟩, m⟩
  · exact (Below.heap_alloc _ _ _ (by simp)).trans (heap_alloc_new _ _)
  · have e := heap_alloc_new (w.alloc (.cells #[v, .bool true, .bool false] 149)) (.cells #[.pointer (some ⟨w.heap.size, 0, none⟩)] 110)
    have e2 : (w.alloc (.cells #[v, .bool true, .bool false] 149)).heap.size = w.heap.size + 1 := by simp
    rw [e2] at e
    exact e

end Go.Proofs.YtcamhlnkcoicpaaGreat
/-
  What 'known' does: it returns true, and writes nothing that was there.
-/
namespace Go.Proofs.YtcamhlnkcoicpaaGreat
open Go.RowKit

/-- The bytes as a string. -/
def strOf (bs : List Nat) : ByteArray := ⟨(bs.map UInt8.ofNat).toArray⟩

theorem run_str {w : World} {g : Nat} {v : Value} {bs : List Nat} (h : IsB w g v bs) (ho : ∀ b ∈ bs, b < 256) : (convert 23 9 v).run Tryz.prog w = .ok (.string (strOf bs)) w := by
  obtain ⟨ad, n, cap, rfl, hn, hc, ha, hh⟩ := h
  rcases hh with rfl | ⟨off, rfl, hcell⟩
  · simp at hn
    subst hn
    cases ad with
    | none =>
      rw [run_convert_bytes_string w 23 9 5 none 0 cap Tryz.underlying23 Tryz.underlying5 Tryz.underlying9]
      rfl
    | some a =>
      have := run_convert_bytes_back (P := Tryz.prog) w 23 9 5 a cap [] Tryz.underlying23 Tryz.underlying5 Tryz.underlying9 (fun j hj => by simp at hj)
      exact this
  · have := run_convert_bytes_back (P := Tryz.prog) w 23 9 5 ⟨g, off, none⟩ cap (bs.map UInt8.ofNat) Tryz.underlying23 Tryz.underlying5 Tryz.underlying9 (fun j hj => by
      have hj' : j < bs.length := by simpa using hj
      have h1 := hcell j bs[j] (by simp)
      have e : (⟨g, off, none⟩ : Addr).add j = ⟨g, off + j, none⟩ := by unfold Addr.add; split <;> simp_all
      have h2 := ho bs[j] (List.getElem_mem hj')
      have e2 : (bs.map UInt8.ofNat)[j].toNat = bs[j] := by
        rw [List.getElem_map]
        exact UInt8.toNat_ofNat_of_lt h2
      rw [e, h1, e2])
    rw [List.length_map, hn] at this
    exact this

end Go.Proofs.YtcamhlnkcoicpaaGreat
/-
  What the function that OctetBack hands to Read does: it reads all that was written, finds it the same, and nothing is left.
-/
namespace Go.Proofs.YtcamhlnkcoicpaaGreat
open Go.RowKit

theorem Moves.cellOf {S : List Nat} {w w' : World} (m : Moves S w w') {a : Addr} {v : Value} (h : w.cell? a = some v) (ha : a.block ∉ S) : w'.cell? a = some v :=
  (World.cell?_of_block (w := w) (m.block a.block (lt_of_cell h) ha)).trans h

theorem wrap_u8 (n : Int) : IntKind.u8.wrap n = n % 256 := by simp [IntKind.wrap, IntKind.bits, IntKind.signed]
theorem wrap_u32 (n : Int) : IntKind.u32.wrap n = n % 4294967296 := by simp [IntKind.wrap, IntKind.bits, IntKind.signed]

theorem mem_be {size n b : Nat} (h : b ∈ be size n) : b < 256 := by
  unfold be hi at h
  obtain ⟨t, _, rfl⟩ := List.mem_map.1 h
  exact Nat.mod_lt _ (by decide)

theorem val_append (a : List Nat) (b : Nat) : val (a ++ [b]) = val a * 256 + b := by simp [val]

theorem val_hi {size n : Nat} (h : n < 256 ^ size) : ∀ j, j ≤ size → val (hi size n j) = n / 256 ^ (size - j)
  | 0, _ => by
    have e : hi size n 0 = [] := by simp [hi]
    rw [e, Nat.sub_zero, Nat.div_eq_of_lt h]; rfl
  | j + 1, hj => by
    have ih := val_hi h j (by omega)
    have e : hi size n (j + 1) = hi size n j ++ [n / 256 ^ (size - 1 - j) % 256] := be_step n size j
    have e2 : size - j = (size - 1 - j) + 1 := by omega
    have e3 : size - (j + 1) = size - 1 - j := by omega
    rw [e, val_append, ih, e2, e3, Nat.pow_succ, ← Nat.div_div_eq_div_mul]
    omega

theorem val_be {size n : Nat} (h : n < 256 ^ size) : val (be size n) = n := by
  unfold be
  rw [val_hi h size (Nat.le_refl _), Nat.sub_self]
  simp

theorem take_of {bs hd rest : List Nat} {n : Nat} (hb : bs = hd ++ rest) (hl : hd.length = n) : bs.take n = hd ∧ bs.drop n = rest ∧ n ≤ bs.length := by
  subst hb hl
  simp

end Go.Proofs.YtcamhlnkcoicpaaGreat
