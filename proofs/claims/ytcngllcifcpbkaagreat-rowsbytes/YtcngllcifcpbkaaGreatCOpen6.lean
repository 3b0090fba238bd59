/- ours -/
import Derived.Test.YtcngllcifcpbkaaGreatCPlay6
import Derived.Test.YtcngllcifcpbkaaGreatCOpen5
namespace Go.Proofs.YtcngllcifcpbkaaGreat
open Go.RowKit
open Go.ChangeShapes Go.WideShapes

set_option maxRecDepth 100000 in
theorem aargs_of_raw {H : Type} {enc : TypeId × Value → H} {W : World} {base fuel : Nat} {spare : Nat → Bool} {held : Bool} {v : Value} {x : DataW H × List MemPlace}
  (h : DataW.trod enc Tryz.prog W base spare held fuel 22 [v] = some x) : AArgs W v := by
 have c5 : Tryz.prog.cellsOf 55 = 5 := by kernel_rfl
 rcases Go.Deep.open_slice Tryz.underlying22 h with ⟨hcs, _⟩ | ⟨ad, len, cap, m, n, D, Pls, hcs, _, hl, hm, hmm, _, hx⟩
 ·simp at hcs
  subst hcs
  exact ⟨none, 0, 0, rfl, Nat.le_refl _, fun k hk => absurd hk (by omega)⟩
 ·simp at hcs
  subst hcs
  have hlm : len ≤ m := by rw [hmm]; split <;> omega
  refine ⟨_, _, _, rfl, hl, fun k hk => ?_⟩
  obtain ⟨cs', h1, h2⟩ := hx k (by omega)
  obtain ⟨cs0, h01, _⟩ := hx 0 (by omega)
  rw [c5] at h1 h01
  obtain ⟨b, off, rfl, hlen, hcell⟩ := struct_cells (by omega) h01 h1
  obtain ⟨xs, q, hk, hxy, _, hxl, hf⟩ := DataW.trod_struct Tryz.underlying55 h2
  have c3 : Tryz.prog.cellsOf 3 = 1 := by kernel_rfl
  have c4 : Tryz.prog.cellsOf 4 = 1 := by kernel_rfl
  have c9 : Tryz.prog.cellsOf 9 = 1 := by kernel_rfl
  have cC : Tryz.prog.cellsOf 53 = 1 := by kernel_rfl
  match xs, hxl, cs', hlen with
  | [y0, y1, y2, y3, y4], _, [v0, v1, v2, v3, v4], _ =>
   have g0 := hf 0 _ rfl
   have g1 := hf 1 _ rfl
   have g2 := hf 2 _ rfl
   have g3 := hf 3 _ rfl
   have g4 := hf 4 _ rfl
   simp [c3, c4, c9, cC] at g0 g1 g2 g3 g4
   obtain ⟨z0, hz0, _, _⟩ := DataW.trod_int Tryz.underlying3 g0
   obtain ⟨z1, hz1, _, _⟩ := DataW.trod_int Tryz.underlying3 g1
   obtain ⟨b2, rfl⟩ := bool_of_trod g2
   obtain ⟨s3, rfl⟩ := str_of_trod g3
   have hC := chargs_of_raw g4
   obtain ⟨a4, l4, cc4, rfl, _⟩ := id hC
   simp at hz0 hz1
   subst hz0 hz1
   exact ⟨b, off, z0, z1, b2, s3, a4, l4, cc4, rfl, hcell 0 _ rfl, hcell 1 _ rfl, hcell 2 _ rfl, hcell 3 _ rfl, hcell 4 _ rfl, hC⟩
set_option maxRecDepth 100000 in
theorem aargs_of_trod {H : Type} {enc : TypeId × Value → H} {W : World} {base b0 : Nat} {r : Reach} {spare : Nat → Bool} {held : Bool} {v : Value} {d : DataW H} {p : List MemPlace}
  (hv : Value.okWide Tryz.prog W r b0 22 v) (h : DataW.Trod enc Tryz.prog W base spare held 22 v d p) : AArgs W v := by
 obtain ⟨a, len, cap, rfl⟩ := okWide_slice Tryz.underlying22 hv
 obtain ⟨fuel, hf⟩ := h
 exact aargs_of_raw (by simpa [Value.cells] using hf)

end Go.Proofs.YtcngllcifcpbkaaGreat
