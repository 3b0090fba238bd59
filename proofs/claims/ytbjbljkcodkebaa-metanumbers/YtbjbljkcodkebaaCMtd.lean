/-
  law11's known; what is held against what.
-/
import Derived.Test.YtbjbljkcodkebaaCMtb
namespace Go.Proofs.Ytbjbljkcodkebaa
open Go.RowKit

theorem perm_sort {zs ys : List Ptb} (hp : zs.Perm ys) (hs : SortT zs) (hr : RiseZ (ys.map Ptb.lo)) : zs = ys := by
  have hr' : ys.Pairwise (fun a b => zlt a.lo b.lo = true) := by
    unfold RiseZ at hr
    rw [List.pairwise_map] at hr
    exact hr
  have hs2 : SortT ys := hr'.imp (fun h => zlt_asymm h)
  refine List.Perm.eq_of_pairwise (le := fun (a b : Ptb) => zlt b.lo a.lo = false) ?_ hs hs2 hp
  intro a b ha hb h1 h2
  have e := zlt_total h2 h1
  have ha' := hp.mem_iff.1 ha
  obtain ⟨i, hi, rfl⟩ := List.getElem_of_mem ha'
  obtain ⟨j, hj, rfl⟩ := List.getElem_of_mem hb
  rcases Nat.lt_trichotomy i j with h | h | h
  · have := List.pairwise_iff_getElem.1 hr' i j hi hj h
    rw [e, zlt_self] at this
    simp at this
  · subst h; rfl
  · have := List.pairwise_iff_getElem.1 hr' j i hj hi h
    rw [e, zlt_self] at this
    simp at this

theorem field_grp (w : World) (lo hi : ByteArray) (g n : Int) : (Instr.field 25 (.agg #[.string lo, .string hi, .int .i64 g, .int .i64 n]) 1).run Try.prog w = .ok (.int .i64 g) w := by kernel_rfl

def k11 : List Ptb := [⟨⟨#[]⟩, ⟨#[]⟩, 1, 1⟩]
def k12 : List Ptb := [⟨⟨#[]⟩, ⟨#[109]⟩, 1, 2⟩, ⟨⟨#[109]⟩, ⟨#[]⟩, 2, 3⟩]
theorem zbsl (a : Array UInt8) : (ByteArray.mk a).toList = a.toList := by rw [ByteArray.toList_eq]
theorem k11_may : mayT k11 = 0 := by
  simp only [mayT, k11, Ptb.sp, List.map_cons, List.map_nil, spCov, spK, spR, spB, spE, bz, zlt, zbsl]
  decide
theorem k12_may : mayT k12 = 0 := by
  simp only [mayT, k12, Ptb.sp, List.map_cons, List.map_nil, spCov, spK, spR, spB, spE, bz, zlt, zeq, zbsl]
  decide
theorem k12_row : inRow k12 = true := by
  simp only [k12, inRow, Ptb.sp, spJ, spR, spB, spE, bz, zlt, zeq, zbsl]
  decide
theorem k12_with : tbWith k11 k12 = k12 := by
  have h : tbMeet k12 ⟨⟨#[]⟩, ⟨#[]⟩, 1, 1⟩ = true := by
    simp only [k12, tbMeet, Ptb.sp, List.any_cons, List.any_nil, spM, spH, spR, spB, spE, bz, zlt, zbsl]
    decide
  unfold tbWith k11
  simp [h]
theorem may_cov {xs : List Ptb} (h : mayT xs = 0) : spCov (xs.map Ptb.sp) = true ∧ xs.any tbBad = false ∧ xs.length ≤ 16 := by
  unfold mayT at h
  split at h
  · simp at h
  · rename_i h1
    split at h
    · simp at h
    · simp only [Bool.or_eq_true, Bool.not_eq_true', not_or, Bool.not_eq_false, Bool.not_eq_true] at h1
      exact ⟨h1.1, h1.2, by omega⟩
theorem k12_put {r : Int} {xs' : List Ptb} (h : PutIs k11 k12 r xs') : r = 0 ∧ xs' = k12 := by
  rcases h with ⟨h | h, _⟩ | ⟨_, _, zs, h1, h2, h3, h4⟩
  · simp [k12] at h
  · rw [k12_row] at h; simp at h
  · rw [k12_with] at h1
    have e := perm_sort h1 h2 (cov_rise (may_cov k12_may).1).1
    subst e
    rw [k12_may] at h3
    subst h3
    exact ⟨rfl, by rw [h4]; rfl⟩
theorem k12_last : LastZ (k12.map Ptb.lo) ⟨#[122]⟩ 1 := by
  refine ⟨by decide, fun k x hx hk => ?_, fun k x hx hk => ?_⟩
  · match k, hx, hk with
    | 0, hx, _ =>
      simp [k12] at hx
      subst hx
      exact zlt_nil _
    | 1, hx, _ =>
      simp [k12] at hx
      subst hx
      simp only [zlt, zbsl]
      decide
  · match k, hx, hk with
    | k + 2, hx, _ => simp [k12] at hx

set_option maxRecDepth 100000 in
set_option maxHeartbeats 2000000 in
theorem known11_w (w : World) : Calls Try.prog 13 #[] w fun e w' => e = .returned (.bool true) ∧ Moves [] w w' := by
  have mA : Moves [] w (w.alloc (.cells #[.string ⟨#[]⟩, .string ⟨#[]⟩, .int .i64 1, .int .i64 1] 25)) := (Moves.refl _ _).alloc _
  have hnew := mtNew_yes _ _ _ k11 (tb_new w ⟨⟨#[]⟩, ⟨#[]⟩, 1, 1⟩) (by decide) k11_may
  have hnil : ∀ w1 : World, Calls Try.prog 7 #[.slice none 0 0] w1 fun e w' => e = .returned (.tuple #[.pointer none, .int .i64 1]) ∧ Moves [] w1 w' := by
    intro w1
    have := mtNew_no w1 0 (.slice none 0 0) [] (TbL.nil _ _) (by decide) (by simp [mayT, spCov])
    rw [show mayT [] = 1 by simp [mayT, spCov]] at this
    exact this
  go_enter Try.func13, Try.ntmps13
  go_wp2_with fail
  refine hnew.mono ?_
  rintro _ w2 ⟨p, rfl, hM, hp, m2⟩
  have hpe : ∀ w1 : World, (binOp .eql 28 (.pointer (some ⟨p, 0, none⟩)) (.pointer none)).run Try.prog w1 = .ok (.bool false) w1 := by intro w1; kernel_rfl
  go_wp2_with fail
  refine (hnil w2).mono ?_
  rintro _ w3 ⟨rfl, m3⟩
  have HM3 : Hid (MtIs w3 p k11) := hM.moves0 m3
  have hput := mtPut_w _ p k11 (HM3.out.moves0 ((Moves.refl [] w3).alloc (.cells #[.string ⟨#[]⟩, .string ⟨#[109]⟩, .int .i64 1, .int .i64 2, .string ⟨#[109]⟩, .string ⟨#[]⟩, .int .i64 2, .int .i64 3] 25))) (by decide) (by decide) w3.heap.size (.slice (some ⟨w3.heap.size, 0, none⟩) 2 2) k12 ⟨_, _, _, rfl, rfl, Nat.le_refl _, fun h => by simp at h, TbAt.block (xs := k12) (heap_alloc_new w3 _)⟩ (by decide)
  clear hM hnew hnil
  go_wp2_with fail
  refine hput.mono ?_
  rintro _ w4 ⟨r, xs', rfl, hP, hM4, m4⟩
  obtain ⟨rfl, rfl⟩ := k12_put hP
  have hlen := mtLen_w w4 p k12 hM4 (by decide) (by decide)
  have hfin := fun w5 (m : Moves [] w4 w5) => mtFind_w w5 p k12 (hM4.moves0 m) (may_cov k12_may).1 (by decide) ⟨#[122]⟩ 1 k12_last ⟨⟨#[109]⟩, ⟨#[]⟩, 2, 3⟩ rfl
  have hp2 : w.heap.size ≤ p := by have := mA.size; omega
  have M4 : Moves [] w w4 := (((mA.then m2).then m3).alloc (.cells #[.string ⟨#[]⟩, .string ⟨#[109]⟩, .int .i64 1, .int .i64 2, .string ⟨#[109]⟩, .string ⟨#[]⟩, .int .i64 2, .int .i64 3] 25)).trans m4 (fun k hk => .inr (by simp at hk; omega))
  clear hput hP hM4
  go_wp2_with fail
  refine hlen.mono ?_
  rintro _ w5 ⟨rfl, m5⟩
  have hfg := fun w1 => field_grp w1 ⟨#[109]⟩ ⟨#[]⟩ 2 3
  go_wp2_with fail
  refine (hfin w5 m5).mono ?_
  rintro _ w6 ⟨rfl, m6⟩
  go_wp2_with fail
  go_ret
  exact ⟨rfl, (M4.then m5).then m6⟩
end Go.Proofs.Ytbjbljkcodkebaa
