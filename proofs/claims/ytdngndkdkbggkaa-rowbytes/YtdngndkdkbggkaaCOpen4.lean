/-
  Arguments opened: integers, lists of integers, lists of values as they are drawn, of calls.
-/
import Derived.Test.YtdngndkdkbggkaaCBaseG
import Derived.ChangeShapes
namespace Go.Proofs.Ytdngndkdkbggkaa
open Go.RowKit
open Go.ChangeShapes Go.WideShapes

/-- An integer that was handed in. -/
def IArg (v : Value) : Prop := ∃ n : Int, v = .int .i64 n
set_option maxRecDepth 100000 in
theorem iarg_of_trod {H : Type} {enc : TypeId × Value → H} {W : World} {base b0 : Nat} {r : Reach} {spare : Nat → Bool} {held : Bool} {t : TypeId} {v : Value} {d : DataW H} {p : List MemPlace}
    (ht : Try.prog.underlying t = some (.int .i64)) (hv : Value.okWide Try.prog W r b0 t v) (h : DataW.Trod enc Try.prog W base spare held t v d p) : IArg v := by
  obtain ⟨n, rfl, _⟩ := open_int ht hv h
  exact ⟨n, rfl⟩

set_option maxRecDepth 100000 in
theorem karg_of_raw {H : Type} {enc : TypeId × Value → H} {W : World} {base fuel : Nat} {spare : Nat → Bool} {held : Bool} {v0 v1 v2 v3 : Value} {x : DataW H × List MemPlace}
    (h : DataW.trod enc Try.prog W base spare held fuel 57 [v0, v1, v2, v3] = some x) : ∃ t n x ad len cap, v0 = .bool t ∧ v1 = .int .i64 n ∧ v2 = .float .f64 x ∧ v3 = .slice ad len cap ∧ KArg W (.agg #[.bool t, .int .i64 n, .float .f64 x, .slice ad len cap]) := by
  obtain ⟨xs, k, hk, hxy, _, hxl, hf⟩ := DataW.trod_struct Try.underlying57 h
  have c3 : Try.prog.cellsOf 3 = 1 := by kernel_rfl
  have c4 : Try.prog.cellsOf 4 = 1 := by kernel_rfl
  have cf : Try.prog.cellsOf 55 = 1 := by kernel_rfl
  have cb : Try.prog.cellsOf 23 = 1 := by kernel_rfl
  match xs, hxl with
  | [y0, y1, y2, y3], _ =>
    have g0 := hf 0 _ rfl
    have g1 := hf 1 _ rfl
    have g2 := hf 2 _ rfl
    have g3 := hf 3 _ rfl
    simp [c3, c4, cf, cb] at g0 g1 g2 g3
    obtain ⟨t, rfl⟩ := bool_of_trod g0
    obtain ⟨n, hn, _, _⟩ := DataW.trod_int Try.underlying3 g1
    obtain ⟨x, hx, rfl⟩ := float_of_trod g2
    obtain ⟨g, bs, hB, hO⟩ := isB_of_trod g3
    simp at hn
    subst hn
    obtain ⟨ad, len, cap, rfl, _⟩ := id hB
    exact ⟨t, n, x, ad, len, cap, rfl, rfl, rfl, rfl, ⟨t, n, x, ad, len, cap, g, bs, rfl, hx, hB, hO⟩⟩

/-- A list of calls. -/
def CArgs (W : World) (v : Value) : Prop := ∃ ad len cap, v = .slice ad len cap ∧ len ≤ cap ∧ ∀ k, k < len → ∃ b off kind col name time t n x a2 l2 c2, ad = some ⟨b, off, none⟩ ∧ W.cell? ⟨b, off + k * 8, none⟩ = some (.int .i64 kind) ∧ W.cell? ⟨b, off + k * 8 + 1, none⟩ = some (.int .i64 col) ∧ W.cell? ⟨b, off + k * 8 + 2, none⟩ = some (.string name) ∧ W.cell? ⟨b, off + k * 8 + 3, none⟩ = some (.int .i64 time) ∧ W.cell? ⟨b, off + k * 8 + 4, none⟩ = some (.bool t) ∧ W.cell? ⟨b, off + k * 8 + 5, none⟩ = some (.int .i64 n) ∧ W.cell? ⟨b, off + k * 8 + 6, none⟩ = some (.float .f64 x) ∧ W.cell? ⟨b, off + k * 8 + 7, none⟩ = some (.slice a2 l2 c2) ∧ KArg W (.agg #[.bool t, .int .i64 n, .float .f64 x, .slice a2 l2 c2])

/-- Element i of a list of structs. -/
theorem struct_cells {W : World} {base i sz : Nat} {ad : Addr} {cs0 cs' : List Value} (hsz : 0 < sz) (h0 : W.cells? base (ad.add (0 * sz)) sz = some cs0) (h1 : W.cells? base (ad.add (i * sz)) sz = some cs') : ∃ b off, ad = ⟨b, off, none⟩ ∧ cs'.length = sz ∧ ∀ j u, cs'[j]? = some u → W.cell? ⟨b, off + i * sz + j, none⟩ = some u := by
  obtain ⟨_, hlen, hcell⟩ := World.cells?_some h1
  have hsp : ad.spot = none := by
    obtain ⟨_, hlen, hcell⟩ := World.cells?_some h0
    have e0 := hcell 0 hsz
    cases cs0 with
    | nil => simp at hlen; omega
    | cons v t =>
      have := World.cell?_spot e0
      simpa [Addr.add] using this
  obtain ⟨b, off, spot⟩ := ad
  simp at hsp
  subst hsp
  refine ⟨b, off, rfl, hlen, fun j u hj => ?_⟩
  have hjl : j < sz := by
    have := (List.getElem?_eq_some_iff.1 hj).1
    omega
  have e := hcell j hjl
  rw [Go.Deep.add_add] at e
  have ea : (⟨b, off, none⟩ : Addr).add (i * sz + j) = ⟨b, off + i * sz + j, none⟩ := by
    unfold Addr.add; split <;> simp_all [Nat.add_assoc]
  rw [ea, hj] at e
  exact e

theorem str_of_trod {H : Type} {enc : TypeId × Value → H} {W : World} {base : Nat} {spare : Nat → Bool} {held : Bool} {fuel : Nat} {v : Value} {x : DataW H × List MemPlace}
    (h : DataW.trod enc Try.prog W base spare held fuel 9 [v] = some x) : ∃ s : ByteArray, v = .string s := by
  cases fuel with
  | zero => simp [DataW.trod] at h
  | succ n =>
    simp only [DataW.trod, Try.underlying9] at h
    cases v <;> simp at h
    rename_i b
    exact ⟨b, rfl⟩

set_option maxRecDepth 100000 in
theorem cargs_of_raw {H : Type} {enc : TypeId × Value → H} {W : World} {base fuel : Nat} {spare : Nat → Bool} {held : Bool} {v : Value} {x : DataW H × List MemPlace}
    (h : DataW.trod enc Try.prog W base spare held fuel 22 [v] = some x) : CArgs W v := by
  have c8 : Try.prog.cellsOf 59 = 8 := by kernel_rfl
  rcases Go.Deep.open_slice Try.underlying22 h with ⟨hcs, _⟩ | ⟨ad, len, cap, m, n, D, Pls, hcs, _, hl, hm, hmm, _, hx⟩
  · simp at hcs
    subst hcs
    exact ⟨none, 0, 0, rfl, Nat.le_refl _, fun k hk => absurd hk (by omega)⟩
  · simp at hcs
    subst hcs
    have hlm : len ≤ m := by rw [hmm]; split <;> omega
    refine ⟨_, _, _, rfl, hl, fun k hk => ?_⟩
    obtain ⟨cs', h1, h2⟩ := hx k (by omega)
    obtain ⟨cs0, h01, _⟩ := hx 0 (by omega)
    rw [c8] at h1 h01
    obtain ⟨b, off, rfl, hlen, hcell⟩ := struct_cells (by omega) h01 h1
    obtain ⟨xs, q, hk, hxy, _, hxl, hf⟩ := DataW.trod_struct Try.underlying59 h2
    have c3 : Try.prog.cellsOf 3 = 1 := by kernel_rfl
    have c9 : Try.prog.cellsOf 9 = 1 := by kernel_rfl
    have c2 : Try.prog.cellsOf 2 = 1 := by kernel_rfl
    have cV : Try.prog.cellsOf 57 = 4 := by kernel_rfl
    match xs, hxl, cs', hlen with
    | [y0, y1, y2, y3, y4], _, [v0, v1, v2, v3, v4, v5, v6, v7], _ =>
      have g0 := hf 0 _ rfl
      have g1 := hf 1 _ rfl
      have g2 := hf 2 _ rfl
      have g3 := hf 3 _ rfl
      have g4 := hf 4 _ rfl
      simp [c3, c9, c2, cV] at g0 g1 g2 g3 g4
      obtain ⟨z0, hz0, _, _⟩ := DataW.trod_int Try.underlying3 g0
      obtain ⟨z1, hz1, _, _⟩ := DataW.trod_int Try.underlying3 g1
      obtain ⟨s2, rfl⟩ := str_of_trod g2
      obtain ⟨z3, hz3, _, _⟩ := DataW.trod_int Try.underlying2 g3
      obtain ⟨t, n, x, a2, l2, c2, rfl, rfl, rfl, rfl, hK⟩ := karg_of_raw g4
      simp at hz0 hz1 hz3
      subst hz0 hz1 hz3
      exact ⟨b, off, z0, z1, s2, z3, t, n, x, a2, l2, c2, rfl, hcell 0 _ rfl, hcell 1 _ rfl, hcell 2 _ rfl, hcell 3 _ rfl, hcell 4 _ rfl, hcell 5 _ rfl, hcell 6 _ rfl, hcell 7 _ rfl, hK⟩
set_option maxRecDepth 100000 in
theorem cargs_of_trod {H : Type} {enc : TypeId × Value → H} {W : World} {base b0 : Nat} {r : Reach} {spare : Nat → Bool} {held : Bool} {v : Value} {d : DataW H} {p : List MemPlace}
    (hv : Value.okWide Try.prog W r b0 22 v) (h : DataW.Trod enc Try.prog W base spare held 22 v d p) : CArgs W v := by
  obtain ⟨a, len, cap, rfl⟩ := okWide_slice Try.underlying22 hv
  obtain ⟨fuel, hf⟩ := h
  exact cargs_of_raw (by simpa [Value.cells] using hf)
end Go.Proofs.Ytdngndkdkbggkaa
