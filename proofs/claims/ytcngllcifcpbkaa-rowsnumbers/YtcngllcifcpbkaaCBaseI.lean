/-
  Row5, Row6, Row7, Row8: our texts of these names, laid into one.
-/
import Derived.Test.YtcngllcifcpbkaaCBaseQ
/-
  row's versions, with, put, drop: for every list the call returns what the chapter's words come to, and writes nothing that was there.
-/
namespace Go.Proofs.Ytcngllcifcpbkaa
open Go.RowKit

def pvers (R : List Pcol) (s : ByteArray) : List Pver := match R.find? (fun c => neq c.name s) with
  | none => []
  | some c => c.l
def ngt (a b : ByteArray) : Bool := !(nlt a b || neq a b)
def pwith (R : List Pcol) (s : ByteArray) (l : List Pver) : List Pcol := R.filter (fun c => nlt c.name s) ++ (if l.length = 0 then [] else [⟨s, l⟩]) ++ R.filter (fun c => ngt c.name s)
def pput (l : List Pver) (v : Pver) : List Pver := (l.filter (fun x => decide (v.t < x.t)) ++ [v] ++ l.filter (fun x => decide (x.t < v.t))).take 2
theorem filter_take {α : Type} (p : α → Bool) {l : List α} {k : Nat} {x : α} (hx : l[k]? = some x) : (l.take (k + 1)).filter p = (l.take k).filter p ++ (if p x then [x] else []) := by
  rw [List.take_add_one, hx, List.filter_append]
  cases hp : p x <;> simp [hp]

/-- A store into a row's box. -/
theorem GrowC.setRow {W w : World} {v : Value} {xs : List Pcol} (h : GrowC W w v xs) {p : Nat} {c : Array Value} {fz : Nat × Nat} (hp : w.heap[p]? = some (.cells c 36 fz)) (u : Value) : GrowC W (w.setCell ⟨p, 0, none⟩ u) v xs := by
  refine h.moves (moves_set _ _ _ _) (fun b hb hbs => ?_) (Stay.set hp (by decide) _)
  simp at hbs
  subst hbs
  exact h.neT hp (by decide) (by rw [hb]; simp)
end Go.Proofs.Ytcngllcifcpbkaa
/-
  row.put: for every list of versions and every version the call returns the list with it at its place, and writes nothing that was there.
-/
namespace Go.Proofs.Ytcngllcifcpbkaa
open Go.RowKit

theorem Lies.take {w : World} {e : TypeId} {size : Nat} {ad : Option Addr} {n cap : Nat} {css : List (List Value)} (h : Lies w e size (.slice ad n cap) css) {k c : Nat} (hk : k ≤ n) (hc : k ≤ c) (hc2 : c ≤ cap) : Lies w e size (.slice ad k c) (css.take k) := by
  obtain ⟨h0, ad', cap', h1, h2, h3, h4⟩ := h
  simp at h1
  obtain ⟨rfl, rfl, rfl⟩ := h1
  refine ⟨fun x hx => h0 x (List.mem_of_mem_take hx), ad, c, by rw [List.length_take, Nat.min_eq_left hk], by rw [List.length_take, Nat.min_eq_left hk]; exact hc, fun hn => by have := h3 hn; omega, ?_⟩
  rcases h4 with rfl | ⟨g, off, arr, fz, k1, k2, k3⟩
  · exact .inl (by simp)
  · refine .inr ⟨g, off, arr, fz, k1, k2, fun i x hi j u hj => k3 i x ?_ j u hj⟩
    rw [List.getElem?_take] at hi
    split at hi
    · exact hi
    · simp at hi
theorem VersAt.take {w : World} {ad : Option Addr} {n cap : Nat} {xs : List Pver} (h : VersAt w (.slice ad n cap) xs) {k c : Nat} (hk : k ≤ n) (hc : k ≤ c) (hc2 : c ≤ cap) : VersAt w (.slice ad k c) (xs.take k) := by
  obtain ⟨css, h1, h2⟩ := h
  exact ⟨css.take k, h1.take hk hc hc2, h2.take k⟩
theorem ColsAt.take {w : World} {ad : Option Addr} {n cap : Nat} {xs : List Pcol} (h : ColsAt w (.slice ad n cap) xs) {k c : Nat} (hk : k ≤ n) (hc : k ≤ c) (hc2 : c ≤ cap) : ColsAt w (.slice ad k c) (xs.take k) := by
  obtain ⟨css, h1, h2⟩ := h
  exact ⟨css.take k, h1.take hk hc hc2, h2.take k⟩

end Go.Proofs.Ytcngllcifcpbkaa
/-
  row's Put, Drop, DropCol, At, Newest: for every row the call returns what the chapter says, and writes nothing that was there.
-/
namespace Go.Proofs.Ytcngllcifcpbkaa
open Go.RowKit

theorem ColsAt.len {w : World} {ad : Option Addr} {n cap : Nat} {xs : List Pcol} (h : ColsAt w (.slice ad n cap) xs) : n = xs.length := by
  obtain ⟨ad', cap', e, _⟩ := h.slice
  simp at e
  exact e.2.1
def pPutE (R : List Pcol) (s : ByteArray) (t : Int) (p : Pv) : Int := if (pname s && ptime t && pvr p) = false then 1 else if (pvers (pcopy R) s).length = 0 ∧ 4 ≤ (pcopy R).length then 13 else 0
def pPut (R : List Pcol) (s : ByteArray) (t : Int) (p : Pv) : List Pcol := if pPutE R s t p = 0 then pwith (pcopy R) s (pput (pvers (pcopy R) s) ⟨t, pcanon p⟩) else []
theorem ret_row2 {fn : Func} {p u : Tmp} (h : fn.results = #[.cell p 36, .tmp u]) (tmps : Array Value) (w : World) (g : Nat) (x : Value) (hp : tmps.getD p undef = .pointer (some ⟨g, 0, none⟩)) (hg : w.heap[g]? = some (.cells #[x] 36 (0, 0))) :
    (results fn tmps).run Try.prog w = .ok (.tuple #[.agg #[x], tmps.getD u undef]) w := by
  have hl := run_loadVar_row (P := Try.prog) w g 36 36 _ (0, 0) _ hg Try.underlying36 rfl Try.size36
  rw [results_cell_tmp h, hp]
  simp only [asAddr, Sem.run_pure, Result.andThen, hl]

/-- One box that a call laid. -/
theorem boxesW {w w' : World} {A : Array Value} {t : TypeId} (m : Moves [] (w.alloc (.cells A t)) w') : w'.heap[w.heap.size]? = some (.cells A t (0, 0)) ∧ Moves [] w w' :=
  ⟨m.at (heap_alloc_new _ _) (by simp), ((Moves.refl [] w).alloc _).then m⟩
end Go.Proofs.Ytcngllcifcpbkaa
/-
  row.Put: for every row, name, time and value the call returns what the chapter says, and writes nothing that was there.
-/
namespace Go.Proofs.Ytcngllcifcpbkaa
open Go.RowKit

end Go.Proofs.Ytcngllcifcpbkaa
