/-
  Dec4, Wr4, Open4, Times4, Newest4: our texts of these names, laid into one.
-/
import Derived.Test.YtcngllcifcpbkaaCBaseJ
import Derived.Test.YtcngllcifcpbkaaCBaseG
import Derived.Test.YtcngllcifcpbkaaCBaseR
import Derived.ChangeShapes
/-
  Rows as bytes, as plain data: what is written of a row, and what is read of bytes, with what must be so of a time or without. Plain facts, no program in sight.
-/
namespace Go.Proofs.Ytcngllcifcpbkaa
open Go.RowKit

/-- What is left is no more than there was, and octets. -/
def OctN (N : Nat) (bs : List Nat) : Prop := bs.length ≤ N ∧ ∀ z ∈ bs, z < 256
theorem OctN.drop {N : Nat} {bs : List Nat} (h : OctN N bs) (n : Nat) : OctN N (bs.drop n) :=
  ⟨by have := h.1; rw [List.length_drop]; omega, fun z hz => h.2 z (List.mem_of_mem_drop hz)⟩

end Go.Proofs.Ytcngllcifcpbkaa
/-
  row.Write: for every row what is written behind what was written is the row's bytes, as the chapter gives them, of a row that may not be those of an empty one; nothing else is written.
-/
namespace Go.Proofs.Ytcngllcifcpbkaa
open Go.RowKit

end Go.Proofs.Ytcngllcifcpbkaa
/-
  Arguments opened: integers, lists of integers, lists of values as they are drawn, of calls.
-/
namespace Go.Proofs.Ytcngllcifcpbkaa
open Go.RowKit
open Go.ChangeShapes Go.WideShapes

set_option maxRecDepth 100000 in
theorem karg_of_raw {H : Type} {enc : TypeId × Value → H} {W : World} {base fuel : Nat} {spare : Nat → Bool} {held : Bool} {v0 v1 v2 v3 : Value} {x : DataW H × List MemPlace}
    (h : DataW.trod enc Try.prog W base spare held fuel 87 [v0, v1, v2, v3] = some x) : ∃ t n x ad len cap, v0 = .bool t ∧ v1 = .int .i64 n ∧ v2 = .float .f64 x ∧ v3 = .slice ad len cap ∧ KArg W (.agg #[.bool t, .int .i64 n, .float .f64 x, .slice ad len cap]) := by
  obtain ⟨xs, k, hk, hxy, _, hxl, hf⟩ := DataW.trod_struct Try.underlying87 h
  have c3 : Try.prog.cellsOf 3 = 1 := by kernel_rfl
  have c4 : Try.prog.cellsOf 4 = 1 := by kernel_rfl
  have cf : Try.prog.cellsOf 47 = 1 := by kernel_rfl
  have cb : Try.prog.cellsOf 46 = 1 := by kernel_rfl
  match xs, hxl with
  | [y0, y1, y2, y3], _ =>
    have g0 := hf 0 _ rfl
    have g1 := hf 1 _ rfl
    have g2 := hf 2 _ rfl
    have g3 := hf 3 _ rfl
    simp [c3, c4, cf, cb] at g0 g1 g2 g3
    obtain ⟨t, rfl⟩ := bool_of_trod g0
    obtain ⟨n, hn, _, _⟩ := DataW.trod_int Try.underlying3 g1
    obtain ⟨x, hx, rfl⟩ := float_of_trod g2
    obtain ⟨g, bs, hB, hO⟩ := isB_of_trod g3
    simp at hn
    subst hn
    obtain ⟨ad, len, cap, rfl, _⟩ := id hB
    exact ⟨t, n, x, ad, len, cap, rfl, rfl, rfl, rfl, ⟨t, n, x, ad, len, cap, g, bs, rfl, hx, hB, hO⟩⟩

end Go.Proofs.Ytcngllcifcpbkaa
/-
  RowTimes' walk.
-/
namespace Go.Proofs.Ytcngllcifcpbkaa
open Go.RowKit

end Go.Proofs.Ytcngllcifcpbkaa
/-
  RowNewest's walk.
-/
namespace Go.Proofs.Ytcngllcifcpbkaa
open Go.RowKit

theorem prightV_head {x : Pver} {l : List Pver} (h : prightV (x :: l) = true) : ptime x.t = true ∧ pvr x.v = true := by
  rcases prightV_cases h with ⟨y, e, h1, h2⟩ | ⟨y, z, e, h1, h2, _⟩
  · simp at e; rw [e.1]; exact ⟨h1, h2⟩
  · simp at e; rw [e.1]; exact ⟨h1, h2⟩

theorem RowAt.box3 {w w' : World} {v : Value} {xs : List Pcol} (h : RowAt w v xs) {b : Nat} {cs : Array Value} {fz : Nat × Nat} (hb : w.heap[b]? = some (.cells cs 49 fz)) (m : Moves [b] w w') : RowAt w' v xs := by
  obtain ⟨lv, rfl, css, h1, h2⟩ := h
  have st : Stay (fun t => t ≠ 49) w w' := Stay.ofMovesS m (fun k hk c t fz hc => by
    simp at hk
    subst hk
    rw [hb] at hc
    simp at hc
    rw [← hc.2.1]
    simp)
  exact ⟨lv, rfl, css, h1.stay st (by decide), h2.mono fun _ _ k => k.stay st (by decide) (by decide)⟩
/-- The one column of such a row. -/
theorem RowAt.only {w : World} {ad : Option Addr} {n cap : Nat} {x : Pcol} (h : RowAt w (.agg #[.slice ad n cap]) [x]) : n = 1 ∧ ∃ g off a2 n2 c2, ad = some ⟨g, off, none⟩ ∧ w.cell? ⟨g, off, none⟩ = some (.string x.name) ∧ w.cell? ⟨g, off + 1, none⟩ = some (.slice a2 n2 c2) ∧ n2 = x.l.length := by
  obtain ⟨lv, e, h⟩ := h
  simp at e
  subst e
  obtain ⟨g, off, a2, n2, c2, h1, h2, h3, h4, _⟩ := h.at (k := 0) (x := x) rfl
  exact ⟨h.len, g, off, a2, n2, c2, h1, by simpa using h2, by simpa using h3, h4⟩

end Go.Proofs.Ytcngllcifcpbkaa
