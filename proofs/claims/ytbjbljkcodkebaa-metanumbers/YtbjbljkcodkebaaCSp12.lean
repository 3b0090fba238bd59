/-
  Spans as bytes: what Write leaves, what Take takes of it.
-/
import Derived.Test.YtbjbljkcodkebaaCLi0
import Derived.Test.YtbjbljkcodkebaaCSp10
import Derived.Test.YtbjbljkcodkebaaCBaseC
import Derived.Test.YtbjbljkcodkebaaCBaseD
import Derived.Lib.ConvBytes
namespace Go.Proofs.Ytbjbljkcodkebaa
open Go.RowKit

/-- A span as bytes. -/
def spEnc (s : Psp) : List Nat := be 4 s.lo.size ++ zbs s.lo ++ (be 4 s.hi.size ++ zbs s.hi)

theorem ztake {s : ByteArray} {rest : List Nat} (h : s.size ≤ 1000) : val ((be 4 s.size ++ zbs s ++ rest).take 4) = s.size ∧ (be 4 s.size ++ zbs s ++ rest).drop 4 = zbs s ++ rest ∧ 4 ≤ (be 4 s.size ++ zbs s ++ rest).length := by
  obtain ⟨u1, u2, u3⟩ := take_of (bs := be 4 s.size ++ zbs s ++ rest) (hd := be 4 s.size) (rest := zbs s ++ rest) (n := 4) (by simp) (be_length _ _)
  rw [u1, u2]
  exact ⟨val_be (by omega), rfl, u3⟩
set_option maxRecDepth 100000 in
theorem takeEnd_ok (p g : Nat) (s : ByteArray) (rest : List Nat) (w : World) (h : RdIs w p g (be 4 s.size ++ zbs s ++ rest) false) (ho : ∀ b ∈ be 4 s.size ++ zbs s ++ rest, b < 256) (hs : s.size ≤ 16) :
    Calls Try.prog 91 #[.pointer (some ⟨p, 0, none⟩)] w fun e w' => e = .returned (.string s) ∧ RdIs w' p g rest false ∧ Moves [p] w w' := by
  obtain ⟨e1, e2, e3⟩ := ztake (s := s) (rest := rest) (by omega)
  have hok : textOk (be 4 s.size ++ zbs s ++ rest) 16 := by
    unfold textOk
    rw [e1, e2]
    refine ⟨e3, by omega, fun _ => by omega, ?_⟩
    rw [List.length_append, zbs_length]
    omega
  have hR := rtextr_w p g _ 16 w h ho hok
  rw [e1, e2] at hR
  rw [show (zbs s ++ rest).take s.size = zbs s from by rw [← zbs_length s]; simp, show (zbs s ++ rest).drop s.size = rest from by rw [← zbs_length s]; simp] at hR
  have hz := zbs_oct s
  have hk := zbs_back s
  clear h ho e1 e2 e3 hok
  go_enter Try.func91, Try.ntmps91
  go_wp2_with fail
  refine hR.mono ?_
  rintro _ w2 ⟨v, rfl, hO, hr, m, _⟩
  have hrun := run_str hO.isB hz
  rw [hk] at hrun
  go_wp2_with fail
  go_ret
  exact ⟨rfl, hr, m⟩
theorem spEnc_oct (s : Psp) : ∀ b ∈ spEnc s, b < 256 := by
  unfold spEnc
  intro b hb
  rcases List.mem_append.1 hb with h | h <;> rcases List.mem_append.1 h with h | h
  · exact mem_be h
  · exact zbs_oct _ b h
  · exact mem_be h
  · exact zbs_oct _ b h
end Go.Proofs.Ytbjbljkcodkebaa
