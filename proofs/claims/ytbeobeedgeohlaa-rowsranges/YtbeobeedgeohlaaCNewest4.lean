/-
  RowNewest's walk.
-/
import Derived.Test.YtbeobeedgeohlaaCTimes4
import Derived.Test.YtbeobeedgeohlaaCOpen4
namespace Go.Proofs.Ytbeobeedgeohlaa
open Go.RowKit

theorem prightV_head {x : Pver} {l : List Pver} (h : prightV (x :: l) = true) : ptime x.t = true ∧ pvr x.v = true := by
  rcases prightV_cases h with ⟨y, e, h1, h2⟩ | ⟨y, z, e, h1, h2, _⟩
  · simp at e; rw [e.1]; exact ⟨h1, h2⟩
  · simp at e; rw [e.1]; exact ⟨h1, h2⟩

theorem RowAt.box3 {w w' : World} {v : Value} {xs : List Pcol} (h : RowAt w v xs) {b : Nat} {cs : Array Value} {fz : Nat × Nat} (hb : w.heap[b]? = some (.cells cs 49 fz)) (m : Moves [b] w w') : RowAt w' v xs := by
  obtain ⟨lv, rfl, css, h1, h2⟩ := h
  have st : Stay (fun t => t ≠ 49) w w' := Stay.ofMovesS m (fun k hk c t fz hc => by
    simp at hk
    subst hk
    rw [hb] at hc
    simp at hc
    rw [← hc.2.1]
    simp)
  exact ⟨lv, rfl, css, h1.stay st (by decide), h2.mono fun _ _ k => k.stay st (by decide) (by decide)⟩
/-- The one column of such a row. -/
theorem RowAt.only {w : World} {ad : Option Addr} {n cap : Nat} {x : Pcol} (h : RowAt w (.agg #[.slice ad n cap]) [x]) : n = 1 ∧ ∃ g off a2 n2 c2, ad = some ⟨g, off, none⟩ ∧ w.cell? ⟨g, off, none⟩ = some (.string x.name) ∧ w.cell? ⟨g, off + 1, none⟩ = some (.slice a2 n2 c2) ∧ n2 = x.l.length := by
  obtain ⟨lv, e, h⟩ := h
  simp at e
  subst e
  obtain ⟨g, off, a2, n2, c2, h1, h2, h3, h4, _⟩ := h.at (k := 0) (x := x) rfl
  exact ⟨h.len, g, off, a2, n2, c2, h1, by simpa using h2, by simpa using h3, h4⟩

end Go.Proofs.Ytbeobeedgeohlaa
