/-
  law9's looks and play: a cache and the document's entries, call by call.
-/
import Derived.Test.YtoijkdknjbgebaaCOn6
import Derived.Test.YtoijkdknjbgebaaCOe1
namespace Go.Proofs.Ytoijkdknjbgebaa
open Go.RowKit

theorem sayT_oct (x : Pt) (q : Int) : ∀ b ∈ sayT x q, b < 256 := by
  unfold sayT
  split
  · exact zbs_oct _
  · simp

set_option maxRecDepth 100000 in
set_option maxHeartbeats 4000000 in
theorem looks_w (W w : World) (p : Nat) (a : Option Nat) (xs m : List Pt) (v : Value) (c q : Int) (h : CaIs W w p a xs) (hA : Agree xs m) (hE : EntsAt w v m) (hl : xs.length ≤ 100000) (hb : ∀ x ∈ m, x.a.size ≤ 1048576) :
    Calls Try.prog 19 #[.pointer (some ⟨p, 0, none⟩), v, .int .i64 c, .int .i64 q] w fun e w' => e = .returned (.bool true) ∧ Moves [] w w' := by
  have h1 := olook_w W w p a xs c q h hA.rise (by omega)
  obtain ⟨ad, n, cap, rfl, hn, _⟩ := hE.open
  have h2 := fun w' (mv : Moves [] w w') => reLook_w _ m c q w' (hE.moves mv) hA.one (by rw [hA.len]; omega) hb
  rw [hA.of] at h2
  obtain ⟨lk, hlk⟩ : ∃ lk, lookT (ofT xs c) q = lk := ⟨_, rfl⟩
  have ho := sayT_oct (ofT xs c) q
  obtain ⟨bs, hbs⟩ : ∃ bs, sayT (ofT xs c) q = bs := ⟨_, rfl⟩
  rw [hlk, hbs] at h1 h2
  rw [hbs] at ho
  clear hlk hbs h hE
  go_enter Try.func19, Try.ntmps19
  go_wp2_with fail
  refine h1.mono ?_
  rintro _ w1 ⟨v1, g1, rfl, hB1, m1, -⟩
  go_wp2_with fail
  refine (h2 w1 m1).mono ?_
  rintro _ w2 ⟨v2, rfl, ⟨g2, hB2⟩, m2⟩
  have r1 := run_str (hB1.moves m2 (by simp)) ho
  have r2 := run_str hB2 ho
  obtain ⟨z, hz⟩ : ∃ z, strOf bs = z := ⟨_, rfl⟩
  rw [hz] at r1 r2
  clear h1 h2 hB1 hB2 ho hz
  go_wp2_with fail
  go_ret
  exact ⟨rfl, m1.then m2⟩

/-- What may be in a cache. -/
def MayT (x : Pt) : Prop := 0 ≤ x.c ∧ x.c ≤ 255 ∧ 1 ≤ x.s ∧ x.s ≤ 1073741824 ∧ x.a.size ≤ 20
theorem strOf_size (bs : List Nat) : (strOf bs).size = bs.length := by
  show (Array.size _) = _
  simp
theorem keepT_mem {xs : List Pt} {x y : Pt} (h : y ∈ keepT xs x) : y = x ∨ y ∈ xs := by
  unfold keepT at h
  split at h
  · rcases putT_mem.1 h with h | h
    · exact .inl h
    · exact .inr h.1
  · exact .inr h
end Go.Proofs.Ytoijkdknjbgebaa
