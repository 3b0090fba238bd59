/-
  MetaSplits' walk.
-/
import Derived.Test.YtbjbljkcodkebaaCMtc
import Derived.Test.YtbjbljkcodkebaaCMtd
import Derived.Test.YtbjbljkcodkebaaCOpen7
import Derived.Test.YtbjbljkcodkebaaCPeel
namespace Go.Proofs.Ytbjbljkcodkebaa
open Go.RowKit

/-- One behind the other: where the one ends the other begins; the last ends nowhere. -/
theorem spK_next : ∀ (t : List Ptb) (hi : ByteArray), spK hi (t.map Ptb.sp) = true → (∀ i x y, t[i]? = some x → t[i + 1]? = some y → bz x.hi = false ∧ x.hi = y.lo) ∧ (∀ i x, t[i]? = some x → i + 1 = t.length → bz x.hi = true) ∧ (∀ y, t[0]? = some y → bz hi = false ∧ hi = y.lo) ∧ (t = [] → bz hi = true)
  | [], hi, h => ⟨fun i x y hx => by simp at hx, fun i x hx => by simp at hx, fun y hy => by simp at hy, fun _ => h⟩
  | a :: t, hi, h => by
    simp only [List.map_cons, spK, Bool.and_eq_true, Bool.not_eq_true'] at h
    obtain ⟨⟨⟨h1, h2⟩, h3⟩, h4⟩ := h
    obtain ⟨p1, p2, p3, p4⟩ := spK_next t a.hi h4
    refine ⟨fun i x y hx hy => ?_, fun i x hx hi' => ?_, fun y hy => ?_, fun e => by simp at e⟩
    · match i, hx, hy with
      | 0, hx, hy => simp at hx; subst hx; exact p3 y (by simpa using hy)
      | i + 1, hx, hy => exact p1 i x y (by simpa using hx) (by simpa using hy)
    · match i, hx with
      | 0, hx => simp at hx hi'; subst hx; exact p4 hi'
      | i + 1, hx => exact p2 i x (by simpa using hx) (by simpa using hi')
    · simp at hy; subst hy; exact ⟨h1, zeq_iff.1 h2⟩
theorem cov_next {xs : List Ptb} (h : spCov (xs.map Ptb.sp) = true) : (∀ i x y, xs[i]? = some x → xs[i + 1]? = some y → bz x.hi = false ∧ x.hi = y.lo) ∧ (∀ i x, xs[i]? = some x → i + 1 = xs.length → bz x.hi = true) := by
  cases xs with
  | nil => simp [spCov] at h
  | cons a t =>
    simp only [List.map_cons, spCov, Bool.and_eq_true] at h
    obtain ⟨⟨h1, h2⟩, h4⟩ := h
    obtain ⟨p1, p2, p3, p4⟩ := spK_next t a.hi h4
    refine ⟨fun i x y hx hy => ?_, fun i x hx hi' => ?_⟩
    · match i, hx, hy with
      | 0, hx, hy => simp at hx; subst hx; exact p3 y (by simpa using hy)
      | i + 1, hx, hy => exact p1 i x y (by simpa using hx) (by simpa using hy)
    · match i, hx with
      | 0, hx => simp at hx hi'; subst hx; exact p4 hi'
      | i + 1, hx => exact p2 i x (by simpa using hx) (by simpa using hi')
/-- The tablet that has a name. -/
theorem last_has {xs : List Ptb} (h : spCov (xs.map Ptb.sp) = true) {s : ByteArray} {i : Nat} (hi : LastZ (xs.map Ptb.lo) s i) {x : Ptb} (hx : xs[i]? = some x) : spH x.sp s = true := by
  obtain ⟨c1, c2⟩ := cov_next h
  have hl : (xs.map Ptb.lo)[i]? = some x.lo := by rw [List.getElem?_map, hx]; rfl
  have a1 := hi.lo i x.lo hl (Nat.le_refl _)
  unfold spH spB
  rw [show x.sp.lo = x.lo from rfl, show x.sp.hi = x.hi from rfl, a1]
  by_cases hlast : i + 1 = xs.length
  · rw [c2 i x hx hlast]; rfl
  · have hlt := hi.lt
    simp only [List.length_map] at hlt
    obtain ⟨y, hy⟩ : ∃ y, xs[i + 1]? = some y := ⟨_, List.getElem?_eq_getElem (by omega)⟩
    obtain ⟨e1, e2⟩ := c1 i x y hx hy
    have a2 := hi.hi (i + 1) y.lo (by rw [List.getElem?_map, hy]; rfl) (by omega)
    rw [e2, a2]
    simp
/-- Are the tablets the same? -/
def tbEq (y x : Ptb) : Bool := decide (y.lo.toList = x.lo.toList) && (decide (y.hi.toList = x.hi.toList) && (decide (y.g = x.g) && decide (y.n = x.n)))
theorem tbEq_self (x : Ptb) : tbEq x x = true := by simp [tbEq]
theorem tb_eql (y x : Ptb) (w1 : World) : (binOp .eql 25 (.agg #[.string y.lo, .string y.hi, .int .i64 y.g, .int .i64 y.n]) (.agg #[.string x.lo, .string x.hi, .int .i64 x.g, .int .i64 x.n])).run Try.prog w1 = .ok (.bool (tbEq y x)) w1 := by
  obtain ⟨q, hq⟩ : ∃ q, tbEq y x = q := ⟨_, rfl⟩
  rw [hq]
  go_simp
  unfold tbEq at hq
  by_cases h1 : y.lo.toList = x.lo.toList <;> by_cases h2 : y.hi.toList = x.hi.toList <;> by_cases h3 : y.g = x.g <;> by_cases h4 : y.n = x.n <;> simp [h1, h2, h3, h4] at hq ⊢ <;> exact hq
theorem eqGuard25 (i j : Nat) (y x : Ptb) (w : World) : (eqGuard .eql 25 (.tmp i) (.tmp j) (.agg #[.string y.lo, .string y.hi, .int .i64 y.g, .int .i64 y.n]) (.agg #[.string x.lo, .string x.hi, .int .i64 x.g, .int .i64 x.n])).run Try.prog w = .ok () w := by
  kernel_rfl
theorem wp_eql25 {o : Oper} {a : Act} {w : World} {K : Act → World → Prop} {Q : Exit → Act → World → Prop} (i j : Nat) (ho : o.op = .binOp .eql 25 (.tmp i) (.tmp j) 25) (y x : Ptb) (hs : a.eval (.tmp i) = .agg #[.string y.lo, .string y.hi, .int .i64 y.g, .int .i64 y.n]) (ht : a.eval (.tmp j) = .agg #[.string x.lo, .string x.hi, .int .i64 x.g, .int .i64 x.n]) (h : K (a.put o.dst (.bool (tbEq y x))) w) : o.wp Try.prog a w K Q := by
  unfold Oper.wp execOp
  simp only [ho, hs, ht, Sem.run_bind, tb_eql, Sem.run_pure, eqGuard25, Result.andThen_ok]
  exact h

/-- A list of what is put, handed in. -/
def DArgs11 (W : World) (v : Value) : Prop := ∃ ad len cap, v = .slice ad len cap ∧ len ≤ cap ∧ ∀ k, k < len → ∃ b off z0 z1 z2 z3 aR lR cR gR rs, ad = some ⟨b, off, none⟩ ∧ W.cell? ⟨b, off + k * 5, none⟩ = some (.int .i64 z0) ∧ W.cell? ⟨b, off + k * 5 + 1, none⟩ = some (.int .i64 z1) ∧ W.cell? ⟨b, off + k * 5 + 2, none⟩ = some (.int .i64 z2) ∧ W.cell? ⟨b, off + k * 5 + 3, none⟩ = some (.int .i64 z3) ∧ W.cell? ⟨b, off + k * 5 + 4, none⟩ = some (.slice aR lR cR) ∧ TbL W gR (.slice aR lR cR) rs

theorem put_may {xs ys xs' : List Ptb} {r : Int} (h : PutIs xs ys r xs') (hm : mayT xs = 0) : mayT xs' = 0 := by
  rcases h with ⟨_, _, rfl⟩ | ⟨_, _, zs, _, _, h3, rfl⟩
  · exact hm
  · split
    · rename_i e; rw [← h3]; exact e
    · exact hm
theorem may_ne {xs : List Ptb} (h : mayT xs = 0) : xs ≠ [] := by
  rintro rfl
  simp [mayT, spCov] at h

end Go.Proofs.Ytbjbljkcodkebaa
