/-
  Lists of tablets, and of what is put, that were handed in, opened.
-/
import Derived.Test.YtbjbljkcodkebaaCMte
namespace Go.Proofs.Ytbjbljkcodkebaa
open Go.RowKit
open Go.ChangeShapes Go.WideShapes

set_option maxRecDepth 100000 in
theorem tb_of_raw {H : Type} {enc : TypeId × Value → H} {W : World} {base fuel : Nat} {spare : Nat → Bool} {held : Bool} {cs : List Value} {x : DataW H × List MemPlace} (hlen : cs.length = 4)
    (h : DataW.trod enc Try.prog W base spare held fuel 25 cs = some x) : ∃ p : Ptb, cs = [.string p.lo, .string p.hi, .int .i64 p.g, .int .i64 p.n] := by
  obtain ⟨xs, q, hk, hxy, _, hxl, hf⟩ := DataW.trod_struct Try.underlying25 h
  have c3 : Try.prog.cellsOf 3 = 1 := by kernel_rfl
  have cS : Try.prog.cellsOf 23 = 2 := by kernel_rfl
  have c9 : Try.prog.cellsOf 9 = 1 := by kernel_rfl
  match xs, hxl, cs, hlen with
  | [y0, y1, y2], _, [v0, v1, v2, v3], _ =>
    have g0 := hf 0 _ rfl
    have g1 := hf 1 _ rfl
    have g2 := hf 2 _ rfl
    simp [c3, cS] at g0 g1 g2
    obtain ⟨z1, hz1, _, _⟩ := DataW.trod_int Try.underlying3 g1
    obtain ⟨z2, hz2, _, _⟩ := DataW.trod_int Try.underlying3 g2
    simp at hz1 hz2
    subst hz1 hz2
    obtain ⟨ts, q2, hk2, hxy2, _, hxl2, hf2⟩ := DataW.trod_struct Try.underlying23 g0
    match ts, hxl2 with
    | [t0, t1], _ =>
      have k0 := hf2 0 _ rfl
      have k1 := hf2 1 _ rfl
      simp [c9] at k0 k1
      obtain ⟨s0, rfl⟩ := str_of_trod k0
      obtain ⟨s1, rfl⟩ := str_of_trod k1
      exact ⟨⟨s0, s1, z1, z2⟩, rfl⟩

set_option maxRecDepth 100000 in
theorem tbl_of_raw {H : Type} {enc : TypeId × Value → H} {W : World} {base fuel : Nat} {spare : Nat → Bool} {held : Bool} {v : Value} {x : DataW H × List MemPlace}
    (h : DataW.trod enc Try.prog W base spare held fuel 26 [v] = some x) : ∃ g xs, TbL W g v xs := by
  have c4 : Try.prog.cellsOf 25 = 4 := by kernel_rfl
  rcases Go.Deep.open_slice Try.underlying26 h with ⟨hcs, _⟩ | ⟨ad, len, cap, m, n, D, Pls, hcs, _, hl, hm, hmm, _, hx⟩
  · simp at hcs
    subst hcs
    exact ⟨0, [], TbL.nil _ _⟩
  · simp at hcs
    subst hcs
    have hlm : len ≤ m := by rw [hmm]; split <;> omega
    have key : ∀ k, k < len → ∃ p : Ptb, ∃ b off, ad = ⟨b, off, none⟩ ∧ W.cell? ⟨b, off + k * 4, none⟩ = some (.string p.lo) ∧ W.cell? ⟨b, off + k * 4 + 1, none⟩ = some (.string p.hi) ∧ W.cell? ⟨b, off + k * 4 + 2, none⟩ = some (.int .i64 p.g) ∧ W.cell? ⟨b, off + k * 4 + 3, none⟩ = some (.int .i64 p.n) := by
      intro k hk
      obtain ⟨cs', h1, h2⟩ := hx k (by omega)
      obtain ⟨cs0, h01, _⟩ := hx 0 (by omega)
      rw [c4] at h1 h01
      obtain ⟨b, off, rfl, hlen, hcell⟩ := struct_cells (by omega) h01 h1
      obtain ⟨p, rfl⟩ := tb_of_raw hlen h2
      exact ⟨p, b, off, rfl, hcell 0 _ rfl, hcell 1 _ rfl, hcell 2 _ rfl, hcell 3 _ rfl⟩
    by_cases h0 : len = 0
    · subst h0
      exact ⟨0, [], _, _, _, rfl, rfl, by omega, fun h => by simp at h, TbAt.nil _ _ _⟩
    · obtain ⟨_, b0, off0, rfl, _⟩ := key 0 (by omega)
      obtain ⟨f, hf⟩ : ∃ f : Nat → Ptb, ∀ k, k < len → ∃ b off, (⟨b0, off0, none⟩ : Addr) = ⟨b, off, none⟩ ∧ W.cell? ⟨b, off + k * 4, none⟩ = some (.string (f k).lo) ∧ W.cell? ⟨b, off + k * 4 + 1, none⟩ = some (.string (f k).hi) ∧ W.cell? ⟨b, off + k * 4 + 2, none⟩ = some (.int .i64 (f k).g) ∧ W.cell? ⟨b, off + k * 4 + 3, none⟩ = some (.int .i64 (f k).n) := by
        refine ⟨fun k => if h : k < len then Classical.choose (key k h) else Ptb.zero, fun k hk => ?_⟩
        simp only [dif_pos hk]
        exact Classical.choose_spec (key k hk)
      refine ⟨b0, (List.range len).map f, _, _, _, rfl, by simp, hl, fun h => by simp at h, fun k s hs => ?_⟩
      rw [List.getElem?_map] at hs
      cases hr : (List.range len)[k]? with
      | none => rw [hr] at hs; simp at hs
      | some q =>
        rw [hr] at hs
        simp at hs
        obtain ⟨hk, e⟩ := List.getElem?_eq_some_iff.1 hr
        simp at hk e
        subst e
        obtain ⟨b, off, e, hc⟩ := hf k hk
        rw [hs] at hc
        simp at e
        obtain ⟨rfl, rfl⟩ := e
        exact ⟨_, rfl, hc⟩

set_option maxRecDepth 100000 in
theorem dargs11_of_raw {H : Type} {enc : TypeId × Value → H} {W : World} {base fuel : Nat} {spare : Nat → Bool} {held : Bool} {v : Value} {x : DataW H × List MemPlace}
    (h : DataW.trod enc Try.prog W base spare held fuel 40 [v] = some x) : DArgs11 W v := by
  have c5 : Try.prog.cellsOf 39 = 5 := by kernel_rfl
  rcases Go.Deep.open_slice Try.underlying40 h with ⟨hcs, _⟩ | ⟨ad, len, cap, m, n, D, Pls, hcs, _, hl, hm, hmm, _, hx⟩
  · simp at hcs
    subst hcs
    exact ⟨none, 0, 0, rfl, Nat.le_refl _, fun k hk => absurd hk (by omega)⟩
  · simp at hcs
    subst hcs
    have hlm : len ≤ m := by rw [hmm]; split <;> omega
    refine ⟨_, _, _, rfl, hl, fun k hk => ?_⟩
    obtain ⟨cs', h1, h2⟩ := hx k (by omega)
    obtain ⟨cs0, h01, _⟩ := hx 0 (by omega)
    rw [c5] at h1 h01
    obtain ⟨b, off, rfl, hlen, hcell⟩ := struct_cells (by omega) h01 h1
    obtain ⟨xs, q, hk, hxy, _, hxl, hf⟩ := DataW.trod_struct Try.underlying39 h2
    have c3 : Try.prog.cellsOf 3 = 1 := by kernel_rfl
    have cB : Try.prog.cellsOf 26 = 1 := by kernel_rfl
    match xs, hxl, cs', hlen with
    | [y0, y1, y2, y3, y4], _, [v0, v1, v2, v3, v4], _ =>
      have g0 := hf 0 _ rfl
      have g1 := hf 1 _ rfl
      have g2 := hf 2 _ rfl
      have g3 := hf 3 _ rfl
      have g4 := hf 4 _ rfl
      simp [c3, cB] at g0 g1 g2 g3 g4
      obtain ⟨z0, hz0, _, _⟩ := DataW.trod_int Try.underlying3 g0
      obtain ⟨z1, hz1, _, _⟩ := DataW.trod_int Try.underlying3 g1
      obtain ⟨z2, hz2, _, _⟩ := DataW.trod_int Try.underlying3 g2
      obtain ⟨z3, hz3, _, _⟩ := DataW.trod_int Try.underlying3 g3
      obtain ⟨g, bs, hB⟩ := tbl_of_raw g4
      obtain ⟨a3, l3, cc3, rfl, _, _, hB'⟩ := hB.open
      simp at hz0 hz1 hz2 hz3
      subst hz0 hz1 hz2 hz3
      exact ⟨b, off, z0, z1, z2, z3, a3, l3, cc3, g, bs, rfl, hcell 0 _ rfl, hcell 1 _ rfl, hcell 2 _ rfl, hcell 3 _ rfl, hcell 4 _ rfl, hB'.out⟩
set_option maxRecDepth 100000 in
theorem dargs11_of_trod {H : Type} {enc : TypeId × Value → H} {W : World} {base b0 : Nat} {r : Reach} {spare : Nat → Bool} {held : Bool} {v : Value} {d : DataW H} {p : List MemPlace}
    (hv : Value.okWide Try.prog W r b0 40 v) (h : DataW.Trod enc Try.prog W base spare held 40 v d p) : DArgs11 W v := by
  obtain ⟨a, len, cap, rfl⟩ := okWide_slice Try.underlying40 hv
  obtain ⟨fuel, hf⟩ := h
  exact dargs11_of_raw (by simpa [Value.cells] using hf)
end Go.Proofs.Ytbjbljkcodkebaa
