/- ours -/
import Derived.Test.YtilbbnmhnacnlaaGreatCB02
import Derived.Deep.RegionWith
import Derived.Deep.RegionHeld3
/-
  What Read does, whatever its function: where the function comes to its end, Read returns whether all bytes were taken; where the Reader's own panic left it, false. Behind it nothing is written but the Reader.
-/
namespace Go.Proofs.YtilbbnmhnacnlaaGreat
open Go.RowKit

def Begun (w : World) (p g : Nat) (bs : List Nat) (fl : Bool) : Prop :=
  RdIs w p g bs fl ∧ w.heap[p + 1]? = some (.cells #[.pointer (some ⟨p, 0, none⟩)] 176 (0, 0))

theorem begun {w : World} {g : Nat} {v : Value} {bs : List Nat} (hv : IsB w g v bs) (hg : g ≠ w.heap.size) :
    Begun ((w.alloc (.cells #[v, .bool true, .bool false] 201)).alloc (.cells #[.pointer (some ⟨w.heap.size, 0, none⟩)] 176)) w.heap.size g bs false ∧
    Moves [] w ((w.alloc (.cells #[v, .bool true, .bool false] 201)).alloc (.cells #[.pointer (some ⟨w.heap.size, 0, none⟩)] 176)) := by
  have m : Moves [] w ((w.alloc (.cells #[v, .bool true, .bool false] 201)).alloc (.cells #[.pointer (some ⟨w.heap.size, 0, none⟩)] 176)) := ((Moves.refl _ _).alloc _).alloc _
  refine ⟨⟨⟨v, ?_, hv.moves m (by simp), hg⟩, ?_⟩, m⟩
  · exact (Below.heap_alloc _ _ _ (by simp)).trans (heap_alloc_new _ _)
  · have e := heap_alloc_new (w.alloc (.cells #[v, .bool true, .bool false] 201)) (.cells #[.pointer (some ⟨w.heap.size, 0, none⟩)] 176)
    have e2 : (w.alloc (.cells #[v, .bool true, .bool false] 201)).heap.size = w.heap.size + 1 := by simp
    rw [e2] at e
    exact e

end Go.Proofs.YtilbbnmhnacnlaaGreat
/-
  What 'known' does: it returns true, and writes nothing that was there.
-/
namespace Go.Proofs.YtilbbnmhnacnlaaGreat
open Go.RowKit

def strOf (bs : List Nat) : ByteArray := ⟨(bs.map UInt8.ofNat).toArray⟩

theorem run_str {w : World} {g : Nat} {v : Value} {bs : List Nat} (h : IsB w g v bs) (ho : ∀ b ∈ bs, b < 256) : (convert 27 9 v).run Tryz.prog w = .ok (.string (strOf bs)) w := by
  obtain ⟨ad, n, cap, rfl, hn, hc, ha, hh⟩ := h
  rcases hh with rfl | ⟨off, rfl, hcell⟩
  · simp at hn
    subst hn
    cases ad with
    | none =>
      rw [run_convert_bytes_string w 27 9 5 none 0 cap Tryz.underlying27 Tryz.underlying5 Tryz.underlying9]
      rfl
    | some a =>
      have := run_convert_bytes_back (P := Tryz.prog) w 27 9 5 a cap [] Tryz.underlying27 Tryz.underlying5 Tryz.underlying9 (fun j hj => by simp at hj)
      exact this
  · have := run_convert_bytes_back (P := Tryz.prog) w 27 9 5 ⟨g, off, none⟩ cap (bs.map UInt8.ofNat) Tryz.underlying27 Tryz.underlying5 Tryz.underlying9 (fun j hj => by
      have hj' : j < bs.length := by simpa using hj
      have h1 := hcell j bs[j] (by simp)
      have e : (⟨g, off, none⟩ : Addr).add j = ⟨g, off + j, none⟩ := by unfold Addr.add; split <;> simp_all
      have h2 := ho bs[j] (List.getElem_mem hj')
      have e2 : (bs.map UInt8.ofNat)[j].toNat = bs[j] := by
        rw [List.getElem_map]
        exact UInt8.toNat_ofNat_of_lt h2
      rw [e, h1, e2])
    rw [List.length_map, hn] at this
    exact this

end Go.Proofs.YtilbbnmhnacnlaaGreat
/-
  What the function that OctetBack hands to Read does: it reads all that was written, finds it the same, and nothing is left.
-/
namespace Go.Proofs.YtilbbnmhnacnlaaGreat
open Go.RowKit

theorem Moves.cellOf {S : List Nat} {w w' : World} (m : Moves S w w') {a : Addr} {v : Value} (h : w.cell? a = some v) (ha : a.block ∉ S) : w'.cell? a = some v :=
  (World.cell?_of_block (w := w) (m.block a.block (lt_of_cell h) ha)).trans h

theorem wrap_u8 (n : Int) : IntKind.u8.wrap n = n % 256 := by simp [IntKind.wrap, IntKind.bits, IntKind.signed]
theorem wrap_u32 (n : Int) : IntKind.u32.wrap n = n % 4294967296 := by simp [IntKind.wrap, IntKind.bits, IntKind.signed]

theorem mem_be {size n b : Nat} (h : b ∈ be size n) : b < 256 := by
  unfold be hi at h
  obtain ⟨t, _, rfl⟩ := List.mem_map.1 h
  exact Nat.mod_lt _ (by decide)

theorem val_append (a : List Nat) (b : Nat) : val (a ++ [b]) = val a * 256 + b := by simp [val]

theorem val_hi {size n : Nat} (h : n < 256 ^ size) : ∀ j, j ≤ size → val (hi size n j) = n / 256 ^ (size - j)
  | 0, _ => by
    have e : hi size n 0 = [] := by simp [hi]
    rw [e, Nat.sub_zero, Nat.div_eq_of_lt h]; rfl
  | j + 1, hj => by
    have ih := val_hi h j (by omega)
    have e : hi size n (j + 1) = hi size n j ++ [n / 256 ^ (size - 1 - j) % 256] := be_step n size j
    have e2 : size - j = (size - 1 - j) + 1 := by omega
    have e3 : size - (j + 1) = size - 1 - j := by omega
    rw [e, val_append, ih, e2, e3, Nat.pow_succ, ← Nat.div_div_eq_div_mul]
    omega

theorem val_be {size n : Nat} (h : n < 256 ^ size) : val (be size n) = n := by
  unfold be
  rw [val_hi h size (Nat.le_refl _), Nat.sub_self]
  simp

theorem take_of {bs hd rest : List Nat} {n : Nat} (hb : bs = hd ++ rest) (hl : hd.length = n) : bs.take n = hd ∧ bs.drop n = rest ∧ n ≤ bs.length := by
  subst hb hl
  simp

end Go.Proofs.YtilbbnmhnacnlaaGreat
