/-
  What Read does: it calls its function once with a Reader of the bytes, closes the Reader behind it, and returns whether all bytes were taken; where the Reader's own panic left the function it returns false.
-/
import Derived.Test.YtpofalalfemkhaaReader2
import Derived.Recover
import Derived.LaidEqlPtr
namespace Go.Proofs.Ytpofalalfemkhaa
open Go.RowKit

/-- At block p lies a Reader. -/
def RdAt (w : World) (p : Nat) : Prop := ∃ v o f, w.heap[p]? = some (.cells #[v, .bool o, .bool f] 110 (0, 0))

theorem close_w (p : Nat) (w : World) (h : RdAt w p) :
    Calls Try.prog 72 #[.pointer (some ⟨p, 0, none⟩)] w fun e w' => e = .returned (.tuple #[]) ∧ Moves [p] w w' := by
  obtain ⟨v, o, f, hp⟩ := h
  obtain ⟨c0, c1, c2, f0, f1, f2⟩ := three_cells hp
  go_enter Try.func72, Try.ntmps72
  go_wp2
  go_end0
  exact ⟨rfl, (moves_set _ _ _ _).then (moves_set _ _ _ _)⟩

theorem Try.info110 : (Try.prog.info? 110).map (fun i => (i.zero, i.size, i.bytes)) = some (some (.agg #[.slice none 0 0, .bool false, .bool false]), 3, 32) := by kernel_rfl

theorem stoppedBy_w (p : Nat) (w : World) :
    Calls Try.prog 73 #[.pointer (some ⟨p, 0, none⟩), .iface 133 (.agg #[.pointer (some ⟨p, 0, none⟩)])] w fun e w' => e = .returned (.bool true) ∧ Moves [] w w' := by
  have hta : ∀ w1 : World, (Instr.typeAssert (.iface 133 (.agg #[.pointer (some ⟨p, 0, none⟩)])) 20 133 true).run Try.prog w1 = .ok (.tuple #[.agg #[.pointer (some ⟨p, 0, none⟩)], .bool true]) w1 := by intro w1; kernel_rfl
  have hpe : ∀ w1 : World, (binOp .eql 78 (.pointer (some ⟨p, 0, none⟩)) (.pointer (some ⟨p, 0, none⟩))).run Try.prog w1 = .ok (.bool true) w1 := by
    intro w1
    obtain ⟨j, hj, _⟩ := info_parts Try.info110
    exact run_eql_ptr_same (P := Try.prog) (w := w1) ⟨p, 0, none⟩ Try.underlying78 hj
  go_enter Try.func73, Try.ntmps73
  go_wp2
  go_ret
  exact ⟨rfl, (Moves.refl _ _).alloc _⟩

theorem RdAt.moves {w w' : World} {p : Nat} {S : List Nat} (h : RdAt w p) (m : Moves S w w') (hp : p ∉ S) : RdAt w' p := by
  obtain ⟨v, o, f, h⟩ := h
  exact ⟨v, o, f, m.at h hp⟩
theorem RdIs.rdAt {w : World} {p g : Nat} {bs : List Nat} {fl : Bool} (h : RdIs w p g bs fl) : RdAt w p := by
  obtain ⟨v, h, _⟩ := h
  exact ⟨v, true, fl, h⟩

theorem caught_idle (p q : Nat) (w : World) (h : RdAt w p) (hq : w.heap[q]? = some (.cells #[.pointer (some ⟨p, 0, none⟩)] 78 (0, 0))) :
    CallsD Try.prog 71 #[.pointer (some ⟨q, 0, none⟩)] .returning w fun e u' w' => e = .returned (.tuple #[]) ∧ u' = .returning ∧ Moves [p] w w' := by
  have cq := cell_of_one hq
  refine callsD_of_wpS Try.func71 rfl fun c₀ cs hu => ?_
  have hfr : (#[Value.pointer (some ⟨q, 0, none⟩)] ++ Array.replicate (Try.f71.ntmps - #[Value.pointer (some ⟨q, 0, none⟩)].size) undef) = #[Value.pointer (some ⟨q, 0, none⟩), undef, undef, undef, undef, undef, undef, undef, undef, undef, undef, undef, undef, undef] := by rw [Try.ntmps71]; rfl
  rw [hfr]
  clear hfr
  apply wpS_seq
  apply wpS_of_wp
  go_wp2_with (go_at_call 72; refine (close_w _ _ h).mono ?_; rintro _ w2 ⟨rfl, m2⟩)
  show Code.wpS _ _ _ _ _ _
  apply wpS_seq
  apply wpS_region
  simp [wpOpsS, go_sem, recoverD, hu, Exit.thenS]
  apply wpS_of_wp
  go_wp2
  refine ⟨rfl, .returning, by cases c₀; simp_all, .tuple #[], ?_, rfl, rfl, m2⟩
  simp [results, Try.results71]

theorem caught_stop (p q : Nat) (w : World) (h : RdAt w p) (hq : w.heap[q]? = some (.cells #[.pointer (some ⟨p, 0, none⟩)] 78 (0, 0))) (hqp : q ≠ p) :
    CallsD Try.prog 71 #[.pointer (some ⟨q, 0, none⟩)] (.panicking (stop p)) w fun e u' w' => e = .returned (.tuple #[]) ∧ u' = .panicking [{ v := .iface 133 (.agg #[.pointer (some ⟨p, 0, none⟩)]), recovered := true }] ∧ Moves [p] w w' := by
  have cq := cell_of_one hq
  refine callsD_of_wpS Try.func71 rfl fun c₀ cs hu => ?_
  have hfr : (#[Value.pointer (some ⟨q, 0, none⟩)] ++ Array.replicate (Try.f71.ntmps - #[Value.pointer (some ⟨q, 0, none⟩)].size) undef) = #[Value.pointer (some ⟨q, 0, none⟩), undef, undef, undef, undef, undef, undef, undef, undef, undef, undef, undef, undef, undef] := by rw [Try.ntmps71]; rfl
  rw [hfr]
  clear hfr
  unfold stop at hu
  apply wpS_seq
  apply wpS_of_wp
  go_wp2_with (go_at_call 72; refine (close_w _ _ h).mono ?_; rintro _ w2 ⟨rfl, m2⟩)
  have cq2 := cell_of_one (m2.at hq (by simpa using hqp))
  show Code.wpS _ _ _ _ _ _
  apply wpS_seq
  apply wpS_region
  simp [wpOpsS, go_sem, recoverD, hu, Exit.thenS]
  apply wpS_of_wp
  go_wp2_with (go_at_call 73; refine (stoppedBy_w _ _).mono ?_; rintro _ w3 ⟨rfl, m3⟩)
  refine ⟨rfl, _, rfl, .tuple #[], ?_, rfl, rfl, m2.then (m3.mono (by simp))⟩
  simp [results, Try.results71]

end Go.Proofs.Ytpofalalfemkhaa
