/-
  Lists of one's own, of elements of any size: how they lie, how they grow; what stays; texts as bytes. Plain laws, no program in sight but for the numbers of its types.
-/
import Derived.Test.YtbjbljkcodkebaaCBaseD
import Derived.Sort.Walk0
import Derived.Laws.CopyRow
import Derived.Lib.ConvBytes
namespace Go.Proofs.Ytbjbljkcodkebaa
open Go.RowKit

theorem one_cell {w : World} {p : Nat} {a : Value} {t : TypeId} (h : w.heap[p]? = some (.cells #[a] t (0, 0))) : w.cell? ⟨p, 0, none⟩ = some a ∧ w.frozen? ⟨p, 0, none⟩ = false := by
  simp [World.cell?, World.frozen?, h]
theorem set_one {w : World} {p : Nat} {a : Value} {t : TypeId} (h : w.heap[p]? = some (.cells #[a] t (0, 0))) (u : Value) : (w.setCell ⟨p, 0, none⟩ u).heap[p]? = some (.cells #[u] t (0, 0)) := heap_set (i := 0) h u
/-- What a piece of code leaves, told by the slots that it may have written: the rest is walked once. -/
theorem wp_some7 {P : Program} {c : Code} {Q : Exit → Act → World → Prop} {a0 : Act} {w0 : World} (sl : List Nat) (H : (Nat → Value) → World → Prop)
    (h1 : c.wp P (fun e a w => e = .normal ∧ a = { tmps := sl.foldl (fun t s => t.setIfInBounds s (a.tmps.getD s undef)) a0.tmps, defers := a0.defers } ∧ H (fun s => a.tmps.getD s undef) w) a0 w0)
    (h2 : ∀ (u : Nat → Value) w, H u w → Q .normal { tmps := sl.foldl (fun t s => t.setIfInBounds s (u s)) a0.tmps, defers := a0.defers } w) : c.wp P Q a0 w0 :=
  Code.wp_mono (fun e a w ⟨he, ha, hH⟩ => by subst he; rw [ha]; exact h2 _ w hH) h1

/-- The bytes of a text. -/
def zbs (s : ByteArray) : List Nat := s.data.toList.map UInt8.toNat
theorem zbs_length (s : ByteArray) : (zbs s).length = s.size := by unfold zbs; rw [List.length_map]; rfl
theorem zbs_oct (s : ByteArray) : ∀ b ∈ zbs s, b < 256 := by
  intro b hb
  simp only [zbs, List.mem_map] at hb
  obtain ⟨u, _, rfl⟩ := hb
  exact u.toNat_lt
theorem zbs_back (s : ByteArray) : strOf (zbs s) = s := by
  unfold strOf zbs
  rw [List.map_map]
  have : (UInt8.ofNat ∘ UInt8.toNat) = id := by funext u; simp
  rw [this, List.map_id]
/-- []byte(s). -/
theorem zbytes_run (w : World) (s : ByteArray) : ∃ g cap w', (convert 9 75 (.string s)).run Try.prog w = .ok (.slice (some ⟨g, 0, none⟩) s.size cap) w' ∧ IsB w' g (.slice (some ⟨g, 0, none⟩) s.size cap) (zbs s) ∧ Moves [] w w' ∧ w.heap.size ≤ g := by
  refine ⟨w.heap.size, _, _, Lib.run_convert_string_bytes w 9 75 5 s Try.underlying9 Try.underlying75 Try.underlying5, ?_, ?_, Nat.le_refl _⟩
  · refine ⟨_, _, _, rfl, zbs_length s, grownCap_ge _ _ _ _, fun h => by simp at h, .inr ⟨0, rfl, fun j b hj => ?_⟩⟩
    have hlt : j < s.size := by
      have := (List.getElem?_eq_some_iff.1 hj).1
      rw [zbs_length] at this
      exact this
    rw [Nat.zero_add, Lib.bytesWorld_cell _ _ _ _ hlt]
    simp only [zbs, List.getElem?_map, Option.map_eq_some_iff] at hj
    obtain ⟨u, hu, rfl⟩ := hj
    rw [List.getD_eq_getElem?_getD, hu]
    rfl
  · refine ⟨rfl, rfl, rfl, ?_, fun k hk _ => Lib.bytesWorld_at_old _ _ _ _ hk⟩
    rw [Lib.bytesWorld_size]
    omega
theorem zafter {w w1 w2 : World} {p : Nat} {a a2 : Option Nat} {bs : List Nat} (m : Moves [] w w1) (h : Wrote w1 p a w2 a2 bs) : Wrote w p a w2 a2 bs := by
  refine ⟨h.1, (m.mono (by simp)).then h.2.1, ?_⟩
  rcases h.2.2 with e | ⟨k, e, hk⟩
  · exact .inl e
  · exact .inr ⟨k, e, Nat.le_trans m.size hk⟩
theorem zne {w : World} {p g : Nat} {a : Option Nat} {bs : List Nat} (h : Wr w p a bs) (hg : w.heap.size ≤ g) : g ∉ p :: a.toList := by
  intro hx
  rcases List.mem_cons.1 hx with e | e
  · obtain ⟨v, hp, _⟩ := h
    have := lt_of_block hp
    omega
  · have := h.lt (Option.mem_toList.1 e)
    omega
end Go.Proofs.Ytbjbljkcodkebaa
