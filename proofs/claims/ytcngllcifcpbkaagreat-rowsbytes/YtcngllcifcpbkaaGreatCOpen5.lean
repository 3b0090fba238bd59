/- ours -/
import Derived.Test.YtcngllcifcpbkaaGreatCBaseY
namespace Go.Proofs.YtcngllcifcpbkaaGreat
open Go.RowKit
open Go.ChangeShapes Go.WideShapes

def ChArgs (W : World) (v : Value) : Prop := ∃ ad len cap, v = .slice ad len cap ∧ len ≤ cap ∧ ∀ k, k < len → ∃ b off kind col time t n x a2 l2 c2, ad = some ⟨b, off, none⟩ ∧ W.cell? ⟨b, off + k * 7, none⟩ = some (.int .i64 kind) ∧ W.cell? ⟨b, off + k * 7 + 1, none⟩ = some (.int .i64 col) ∧ W.cell? ⟨b, off + k * 7 + 2, none⟩ = some (.int .i64 time) ∧ W.cell? ⟨b, off + k * 7 + 3, none⟩ = some (.bool t) ∧ W.cell? ⟨b, off + k * 7 + 4, none⟩ = some (.int .i64 n) ∧ W.cell? ⟨b, off + k * 7 + 5, none⟩ = some (.float .f64 x) ∧ W.cell? ⟨b, off + k * 7 + 6, none⟩ = some (.slice a2 l2 c2) ∧ KArg W (.agg #[.bool t, .int .i64 n, .float .f64 x, .slice a2 l2 c2])
set_option maxRecDepth 100000 in
theorem chargs_of_raw {H : Type} {enc : TypeId × Value → H} {W : World} {base fuel : Nat} {spare : Nat → Bool} {held : Bool} {v : Value} {x : DataW H × List MemPlace}
  (h : DataW.trod enc Tryz.prog W base spare held fuel 53 [v] = some x) : ChArgs W v := by
 have c7 : Tryz.prog.cellsOf 106 = 7 := by kernel_rfl
 rcases Go.Deep.open_slice Tryz.underlying53 h with ⟨hcs, _⟩ | ⟨ad, len, cap, m, n, D, Pls, hcs, _, hl, hm, hmm, _, hx⟩
 ·simp at hcs
  subst hcs
  exact ⟨none, 0, 0, rfl, Nat.le_refl _, fun k hk => absurd hk (by omega)⟩
 ·simp at hcs
  subst hcs
  have hlm : len ≤ m := by rw [hmm]; split <;> omega
  refine ⟨_, _, _, rfl, hl, fun k hk => ?_⟩
  obtain ⟨cs', h1, h2⟩ := hx k (by omega)
  obtain ⟨cs0, h01, _⟩ := hx 0 (by omega)
  rw [c7] at h1 h01
  obtain ⟨b, off, rfl, hlen, hcell⟩ := struct_cells (by omega) h01 h1
  obtain ⟨xs, q, hk, hxy, _, hxl, hf⟩ := DataW.trod_struct Tryz.underlying106 h2
  have c3 : Tryz.prog.cellsOf 3 = 1 := by kernel_rfl
  have c2 : Tryz.prog.cellsOf 2 = 1 := by kernel_rfl
  have cV : Tryz.prog.cellsOf 104 = 4 := by kernel_rfl
  match xs, hxl, cs', hlen with
  | [y0, y1, y2, y3], _, [v0, v1, v2, v3, v4, v5, v6], _ =>
   have g0 := hf 0 _ rfl
   have g1 := hf 1 _ rfl
   have g2 := hf 2 _ rfl
   have g3 := hf 3 _ rfl
   simp [c3, c2, cV] at g0 g1 g2 g3
   obtain ⟨z0, hz0, _, _⟩ := DataW.trod_int Tryz.underlying3 g0
   obtain ⟨z1, hz1, _, _⟩ := DataW.trod_int Tryz.underlying3 g1
   obtain ⟨z2, hz2, _, _⟩ := DataW.trod_int Tryz.underlying2 g2
   obtain ⟨t, n, x, a2, l2, c2, rfl, rfl, rfl, rfl, hK⟩ := karg_of_raw g3
   simp at hz0 hz1 hz2
   subst hz0 hz1 hz2
   exact ⟨b, off, z0, z1, z2, t, n, x, a2, l2, c2, rfl, hcell 0 _ rfl, hcell 1 _ rfl, hcell 2 _ rfl, hcell 3 _ rfl, hcell 4 _ rfl, hcell 5 _ rfl, hcell 6 _ rfl, hK⟩
end Go.Proofs.YtcngllcifcpbkaaGreat
