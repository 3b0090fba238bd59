/-
  Dk5, Dk6: our texts of these names, laid into one.
-/
import Derived.Test.YtedehhnhmkeglaaCB06
import Derived.Test.YtedehhnhmkeglaaCB02
import Derived.Test.YtedehhnhmkeglaaCB01
/-
  Lists of rows of bytes, and of calls of disks, as they are handed in.
-/
namespace Go.Proofs.Ytedehhnhmkeglaa
open Go.RowKit
open Go.ChangeShapes Go.WideShapes

set_option maxRecDepth 100000 in
theorem lsb_of_raw {H : Type} {enc : TypeId × Value → H} {W : World} {base fuel : Nat} {spare : Nat → Bool} {held : Bool} {v : Value} {x : DataW H × List MemPlace}
    (h : DataW.trod enc Try.prog W base spare held fuel 26 [v] = some x) : ∃ bss, LsB W v bss := by
  rcases Go.Deep.open_slice1 Try.underlying26 (by kernel_rfl) h with ⟨hcs, _⟩ | ⟨ad, len, cap, m, n, V, D, Pls, hcs, _, hl, hm, hmm, _, hx⟩
  · simp at hcs
    subst hcs
    exact ⟨[], LsB.nil _⟩
  · simp at hcs
    subst hcs
    have hlm : len ≤ m := by rw [hmm]; split <;> omega
    have key : ∀ k, k < len → ∃ bs : List Nat, (∃ g, IsB W g (V k) bs) ∧ (∀ b ∈ bs, b < 256) ∧ ∃ b off, ad = ⟨b, off, none⟩ ∧ W.cell? ⟨b, off + k, none⟩ = some (V k) := by
      intro k hk
      obtain ⟨hc, hd⟩ := hx k (by omega)
      obtain ⟨g, bs, hB, ho⟩ := isB_of_trod hd
      have hsp := World.cell?_spot (hx 0 (by omega)).1
      obtain ⟨b, off, spot⟩ := ad
      obtain rfl : spot = none := by simpa [Addr.add] using hsp
      have e : (⟨b, off, none⟩ : Addr).add k = ⟨b, off + k, none⟩ := by unfold Addr.add; split <;> simp_all
      rw [e] at hc
      exact ⟨bs, ⟨g, hB⟩, ho, b, off, rfl, hc⟩
    obtain ⟨F, hF⟩ := Go.Deep.choose_lt key
    refine ⟨(List.range len).map F, some ad, (List.range len).map V, cap, by simp, by simpa using hl, fun h => by simp at h, fun k s hs => ?_, ?_⟩
    · have hk : k < len := by
        have := (List.getElem?_eq_some_iff.1 hs).1
        simpa using this
      simp [hk] at hs
      subst hs
      obtain ⟨_, _, b, off, e, hc⟩ := hF k hk
      exact ⟨b, off, by rw [e], hc⟩
    · have : ∀ l : List Nat, (∀ k ∈ l, k < len) → BsV W (l.map V) (l.map F) := by
        intro l hl
        induction l with
        | nil => trivial
        | cons a t ih =>
          obtain ⟨h1, h2, _⟩ := hF a (hl a (by simp))
          exact ⟨⟨h1, h2⟩, ih (fun k hk => hl k (by simp [hk]))⟩
      exact this _ (fun k hk => by simpa using hk)
/-- A list of calls that was handed in. -/
def DkArgs (W : World) (v : Value) : Prop := ∃ ad len cap, v = .slice ad len cap ∧ len ≤ cap ∧ ∀ k, k < len → ∃ b off z0 a1 l1 c1 g bs a2 l2 c2 bss, ad = some ⟨b, off, none⟩ ∧ W.cell? ⟨b, off + k * 3, none⟩ = some (.int .i64 z0) ∧ W.cell? ⟨b, off + k * 3 + 1, none⟩ = some (.slice a1 l1 c1) ∧ W.cell? ⟨b, off + k * 3 + 2, none⟩ = some (.slice a2 l2 c2) ∧ IsB W g (.slice a1 l1 c1) bs ∧ (∀ z ∈ bs, z < 256) ∧ LsB W (.slice a2 l2 c2) bss
set_option maxRecDepth 100000 in
theorem dkargs_of_raw {H : Type} {enc : TypeId × Value → H} {W : World} {base fuel : Nat} {spare : Nat → Bool} {held : Bool} {v : Value} {x : DataW H × List MemPlace}
    (h : DataW.trod enc Try.prog W base spare held fuel 29 [v] = some x) : DkArgs W v := by
  have c4 : Try.prog.cellsOf 32 = 3 := by kernel_rfl
  rcases Go.Deep.open_slice Try.underlying29 h with ⟨hcs, _⟩ | ⟨ad, len, cap, m, n, D, Pls, hcs, _, hl, hm, hmm, _, hx⟩
  · simp at hcs
    subst hcs
    exact ⟨none, 0, 0, rfl, Nat.le_refl _, fun k hk => absurd hk (by omega)⟩
  · simp at hcs
    subst hcs
    have hlm : len ≤ m := by rw [hmm]; split <;> omega
    refine ⟨_, _, _, rfl, hl, fun k hk => ?_⟩
    obtain ⟨cs', h1, h2⟩ := hx k (by omega)
    obtain ⟨cs0, h01, _⟩ := hx 0 (by omega)
    rw [c4] at h1 h01
    obtain ⟨b, off, rfl, hlen, hcell⟩ := struct_cells (by omega) h01 h1
    obtain ⟨xs, q, hk, hxy, _, hxl, hf⟩ := DataW.trod_struct Try.underlying32 h2
    have c3 : Try.prog.cellsOf 3 = 1 := by kernel_rfl
    have cB : Try.prog.cellsOf 30 = 1 := by kernel_rfl
    have cL : Try.prog.cellsOf 26 = 1 := by kernel_rfl
    match xs, hxl, cs', hlen with
    | [y0, y1, y2], _, [v0, v1, v2], _ =>
      have g0 := hf 0 _ rfl
      have g1 := hf 1 _ rfl
      have g2 := hf 2 _ rfl
      simp [c3, cB, cL] at g0 g1 g2
      obtain ⟨z0, hz0, _, _⟩ := DataW.trod_int Try.underlying3 g0
      obtain ⟨g, bs, hB, ho⟩ := isB_of_trod g1
      have hB' := hB
      obtain ⟨a3, l3, cc3, rfl, _⟩ := hB'
      obtain ⟨bss, hL⟩ := lsb_of_raw g2
      have hL' := hL
      obtain ⟨a4, vs4, cc4, rfl, _⟩ := hL'
      simp at hz0
      subst hz0
      exact ⟨b, off, z0, a3, l3, cc3, g, bs, a4, _, cc4, bss, rfl, hcell 0 _ rfl, hcell 1 _ rfl, hcell 2 _ rfl, hB, ho, hL⟩
set_option maxRecDepth 100000 in
theorem dkargs_of_trod {H : Type} {enc : TypeId × Value → H} {W : World} {base b0 : Nat} {r : Reach} {spare : Nat → Bool} {held : Bool} {v : Value} {d : DataW H} {p : List MemPlace}
    (hv : Value.okWide Try.prog W r b0 29 v) (h : DataW.Trod enc Try.prog W base spare held 29 v d p) : DkArgs W v := by
  obtain ⟨a, len, cap, rfl⟩ := okWide_slice Try.underlying29 hv
  obtain ⟨fuel, hf⟩ := h
  exact dkargs_of_raw (by simpa [Value.cells] using hf)
end Go.Proofs.Ytedehhnhmkeglaa
/-
  The walk of DiskCopies.
-/
namespace Go.Proofs.Ytedehhnhmkeglaa
open Go.RowKit

/-- The beginnings of rows. -/
def cut20 (bss : List (List Nat)) : List (List Nat) := bss.map (·.take 20)
theorem cut20_len (bss : List (List Nat)) : ∀ s ∈ cut20 bss, s.length ≤ 1000 := by
  intro s hs
  simp only [cut20, List.mem_map] at hs
  obtain ⟨b, _, rfl⟩ := hs
  rw [List.length_take]
  omega
theorem take_oct {bs : List Nat} (h : ∀ b ∈ bs, b < 256) (n : Nat) : ∀ b ∈ bs.take n, b < 256 := fun b hb => h b (List.mem_of_mem_take hb)
theorem BsV.one {w : World} {vs : List Value} {bss : List (List Nat)} (h : BsV w vs bss) : ∀ u ∈ vs, u.oneCell' = true := All2.mem (p := fun u => u.oneCell' = true) (fun a b ⟨⟨g, q⟩, _⟩ => by obtain ⟨_, _, _, rfl, _⟩ := q; rfl) h

theorem bb_empty (w : World) : OwnBB (w.alloc (.cells #[] 30)) (.slice (some ⟨w.heap.size, 0, none⟩) 0 0) [] := OwnBB.empty (heap_alloc_new w _)
/-- Cut of a row that lay in an elder world: so does what it answers. -/
theorem cut_old (v : Value) (g : Nat) (bs : List Nat) (W w : World) (h : IsB W g v bs) :
    Calls Try.prog 11 #[v, .int .i64 20] w fun e w' => ∃ v', e = .returned v' ∧ IsB W g v' (bs.take 20) ∧ w = w' := by
  have h0 := h
  obtain ⟨ad, len, cap, rfl, h1, h2, h3, h4⟩ := h
  by_cases hlt : 20 < len
  · have hlt1 : (20 : Int) < (len : Int) := by omega
    have hlt2 : (20 : Int) ≤ (cap : Int) := by omega
    go_enter Try.func11, Try.ntmps11
    go_wp2
    go_ret
    refine ⟨_, rfl, ⟨ad, 20, cap, rfl, by rw [List.length_take]; omega, by omega, h3, ?_⟩, rfl⟩
    exact h4.take 20
  · have hlt1 : ¬ (20 : Int) < (len : Int) := by omega
    go_enter Try.func11, Try.ntmps11
    go_wp2
    go_ret
    exact ⟨_, rfl, by rw [List.take_of_length_le (by omega)]; exact h0, rfl⟩
end Go.Proofs.Ytedehhnhmkeglaa
