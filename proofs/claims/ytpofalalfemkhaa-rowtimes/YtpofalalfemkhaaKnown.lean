/-
  What 'known' does: it returns true, and writes nothing that was there.
-/
import Derived.Test.YtpofalalfemkhaaReadW
import Derived.Deep.RegionWith
namespace Go.Proofs.Ytpofalalfemkhaa
open Go.RowKit

/-- The bytes as a string. -/
def strOf (bs : List Nat) : ByteArray := ⟨(bs.map UInt8.ofNat).toArray⟩

theorem run_str {w : World} {g : Nat} {v : Value} {bs : List Nat} (h : IsB w g v bs) (ho : ∀ b ∈ bs, b < 256) : (convert 25 9 v).run Try.prog w = .ok (.string (strOf bs)) w := by
  obtain ⟨ad, n, cap, rfl, hn, hc, ha, hh⟩ := h
  rcases hh with rfl | ⟨off, rfl, hcell⟩
  · simp at hn
    subst hn
    cases ad with
    | none =>
      rw [run_convert_bytes_string w 25 9 5 none 0 cap Try.underlying25 Try.underlying5 Try.underlying9]
      rfl
    | some a =>
      have := run_convert_bytes_back (P := Try.prog) w 25 9 5 a cap [] Try.underlying25 Try.underlying5 Try.underlying9 (fun j hj => by simp at hj)
      exact this
  · have := run_convert_bytes_back (P := Try.prog) w 25 9 5 ⟨g, off, none⟩ cap (bs.map UInt8.ofNat) Try.underlying25 Try.underlying5 Try.underlying9 (fun j hj => by
      have hj' : j < bs.length := by simpa using hj
      have h1 := hcell j bs[j] (by simp)
      have e : (⟨g, off, none⟩ : Addr).add j = ⟨g, off + j, none⟩ := by unfold Addr.add; split <;> simp_all
      have h2 := ho bs[j] (List.getElem_mem hj')
      have e2 : (bs.map UInt8.ofNat)[j].toNat = bs[j] := by
        rw [List.getElem_map]
        exact UInt8.toNat_ofNat_of_lt h2
      rw [e, h1, e2])
    rw [List.length_map, hn] at this
    exact this

theorem be_258 : be 4 258 = [0, 0, 1, 2] := by decide

theorem Begun.moves {w w' : World} {p g : Nat} {bs bs' : List Nat} {fl fl' : Bool} (h : Begun w p g bs fl) (hr : RdIs w' p g bs' fl') (m : Moves [p] w w') : Begun w' p g bs' fl' :=
  ⟨hr, m.at h.2 (by simp)⟩

end Go.Proofs.Ytpofalalfemkhaa
