/-
  Small steps of OctetTells: a place within a row, and a byte of a row of the call's own turned.
-/
import Derived.Test.YtmcgjfnilmadoaaReads
namespace Go.Proofs.Ytmcgjfnilmadoaa
open Go.RowKit

theorem within_w (z h : Int) (hz1 : -9223372036854775808 ≤ z) (hz2 : z ≤ 9223372036854775807) (h0 : 0 ≤ h) (h1 : h ≤ 1000000) (w : World) :
    Calls Try.prog 14 #[.int .i64 z, .int .i64 0, .int .i64 h] w fun e w' => ∃ r : Nat, e = .returned (.int .i64 (r : Int)) ∧ (r : Int) ≤ h ∧ w = w' := by
  by_cases ha : 0 ≤ z
  · by_cases hb : z ≤ h
    · go_enter Try.func14, Try.ntmps14
      go_wp2
      go_ret
      exact ⟨z.toNat, by rw [Int.toNat_of_nonneg ha]; rfl, by omega, rfl⟩
    · have hm := Int.tmod_lt_of_pos z (show 0 < h + 1 by omega)
      have hn := Int.tmod_nonneg (h + 1) ha
      generalize hr : z.tmod (h + 1) = r at hm hn
      have hne : ¬ h + 1 = 0 := by omega
      have hrl : ¬ r < 0 := by omega
      go_enter Try.func14, Try.ntmps14
      go_wp2
      go_ret
      exact ⟨r.toNat, by rw [Int.toNat_of_nonneg hn]; rfl, by omega, rfl⟩
  · have hm := Int.lt_tmod_of_pos z (show 0 < h + 1 by omega)
    have hn : z.tmod (h + 1) ≤ 0 := by
      have := Int.tmod_nonneg (h + 1) (show 0 ≤ -z by omega)
      rw [Int.neg_tmod] at this
      omega
    generalize hr : z.tmod (h + 1) = r at hm hn
    have hne : ¬ h + 1 = 0 := by omega
    have hd0 : decide (0 ≤ z) = false := decide_eq_false ha
    clear ha
    by_cases hrl : r < 0
    · go_enter Try.func14, Try.ntmps14
      go_wp2
      go_ret
      exact ⟨(r + h + 1).toNat, by rw [Int.toNat_of_nonneg (by omega)]; first | rfl | (congr 2; omega), by omega, rfl⟩
    · go_enter Try.func14, Try.ntmps14
      go_wp2
      go_ret
      exact ⟨r.toNat, by rw [Int.toNat_of_nonneg (by omega)]; rfl, by omega, rfl⟩

theorem own_row {w : World} {v : Value} {bs : List Nat} (h : Own w v bs) (hpos : 0 < bs.length) : ∃ g cap, v = .slice (some ⟨g, 0, none⟩) bs.length cap ∧
    ∀ j, j < bs.length → ∃ b, bs[j]? = some b ∧ w.cell? ⟨g, j, none⟩ = some (.int .u8 (b : Int)) ∧ w.frozen? ⟨g, j, none⟩ = false ∧ ∀ u : Nat, Own (w.setCell ⟨g, j, none⟩ (.int .u8 (u : Int))) v (bs.set j u) := by
  rcases h.2 with ⟨_, h0⟩ | ⟨g, cap, cur, rfl, hr⟩
  · omega
  · have h1 : w.ownsRow 0 5 1 (.slice (some ⟨g, 0, none⟩) bs.length cap) bs.length (u8s bs) := h
    refine ⟨g, cap, rfl, fun j hj => ⟨bs[j], by simp, ?_, h1.frozenAt j, fun u => ?_⟩⟩
    · rw [h1.cellAt j (by omega)]
      simp [u8s, hj]
    · have := h1.stored j (.int .u8 (u : Int))
      unfold Own
      rw [List.length_set]
      have e : u8s (bs.set j u) = (u8s bs).set j (.int .u8 (u : Int)) := by simp [u8s, List.map_set]
      rw [e]
      exact this.1

end Go.Proofs.Ytmcgjfnilmadoaa
