/- ours -/
import Derived.Test.YtilbbnmhnacnlaaGreatCB12
namespace Go.Proofs.YtilbbnmhnacnlaaGreat
open Go.RowKit

structure Ptb where
  lo : ByteArray
  hi : ByteArray
  g : Int
  n : Int
def Ptb.sp (x : Ptb) : Psp := ⟨x.lo, x.hi⟩
def Ptb.zero : Ptb := ⟨⟨#[]⟩, ⟨#[]⟩, 0, 0⟩

def TbAt (w : World) (g : Nat) (ad : Option Addr) (xs : List Ptb) : Prop := ∀ (k : Nat) x, xs[k]? = some x → ∃ off, ad = some ⟨g, off, none⟩ ∧ w.cell? ⟨g, off + k * 4, none⟩ = some (.string x.lo) ∧ w.cell? ⟨g, off + k * 4 + 1, none⟩ = some (.string x.hi) ∧ w.cell? ⟨g, off + k * 4 + 2, none⟩ = some (.int .i64 x.g) ∧ w.cell? ⟨g, off + k * 4 + 3, none⟩ = some (.int .i64 x.n)
theorem cell_moves {S : List Nat} {w w' : World} (m : Moves S w w') {g off : Nat} (hg : g ∉ S) {v : Value} (h : w.cell? ⟨g, off, none⟩ = some v) : w'.cell? ⟨g, off, none⟩ = some v :=
  (World.cell?_of_block (w := w) (m.block g (lt_of_cell h) hg)).trans h
theorem TbAt.moves {S : List Nat} {w w' : World} {g : Nat} {ad : Option Addr} {xs : List Ptb} (h : TbAt w g ad xs) (m : Moves S w w') (hg : g ∉ S) : TbAt w' g ad xs := by
  intro k x hx
  obtain ⟨off, h1, h2, h3, h4, h5⟩ := h k x hx
  exact ⟨off, h1, cell_moves m hg h2, cell_moves m hg h3, cell_moves m hg h4, cell_moves m hg h5⟩
theorem TbAt.nil (w : World) (g : Nat) (ad : Option Addr) : TbAt w g ad [] := fun k x hx => by simp at hx
theorem TbAt.first {w : World} {g : Nat} {ad : Option Addr} {xs : List Ptb} (h : TbAt w g ad xs) (i : Nat) : TbAt w g ad (xs.take i) := fun k s hs => h k s (by
  rw [List.getElem?_take] at hs
  split at hs
  · exact hs
  · simp at hs)
theorem TbAt.dropN {w : World} {g off : Nat} {xs : List Ptb} (h : TbAt w g (some ⟨g, off, none⟩) xs) (k : Nat) : TbAt w g (some ⟨g, off + k * 4, none⟩) (xs.drop k) := by
  intro j s hs
  rw [List.getElem?_drop] at hs
  obtain ⟨off', e1, e2, e3, e4, e5⟩ := h (k + j) s hs
  simp only [Option.some.injEq, Addr.mk.injEq] at e1
  obtain ⟨_, rfl, _⟩ := e1
  have e : off + (k + j) * 4 = off + k * 4 + j * 4 := by omega
  rw [e] at e2 e3 e4 e5
  exact ⟨_, rfl, e2, e3, e4, e5⟩

def TbL (w : World) (g : Nat) (v : Value) (xs : List Ptb) : Prop := ∃ ad n cap, v = .slice ad n cap ∧ n = xs.length ∧ n ≤ cap ∧ (ad = none → cap = 0) ∧ TbAt w g ad xs
theorem TbL.moves {S : List Nat} {w w' : World} {g : Nat} {v : Value} {xs : List Ptb} (h : TbL w g v xs) (m : Moves S w w') (hg : g ∉ S) : TbL w' g v xs := by
  obtain ⟨ad, n, cap, h1, h2, h3, h4, h5⟩ := h
  exact ⟨ad, n, cap, h1, h2, h3, h4, h5.moves m hg⟩
theorem TbL.open {w : World} {g : Nat} {v : Value} {xs : List Ptb} (h : TbL w g v xs) : ∃ ad n cap, v = .slice ad n cap ∧ Hid (n = xs.length) ∧ n ≤ cap ∧ Hid (TbL w g (.slice ad n cap) xs) := by
  obtain ⟨ad, n, cap, rfl, h2, h3, h4, h5⟩ := h
  exact ⟨ad, n, cap, rfl, h2, h3, ad, n, cap, rfl, h2, h3, h4, h5⟩
theorem TbL.at {w : World} {g : Nat} {ad : Option Addr} {n cap : Nat} {xs : List Ptb} (h : TbL w g (.slice ad n cap) xs) {k : Nat} {x : Ptb} (hk : xs[k]? = some x) :
    ∃ off, ad = some ⟨g, off, none⟩ ∧ w.cell? ⟨g, off + k * 4, none⟩ = some (.string x.lo) ∧ w.cell? ⟨g, off + k * 4 + 1, none⟩ = some (.string x.hi) ∧ w.cell? ⟨g, off + k * 4 + 2, none⟩ = some (.int .i64 x.g) ∧ w.cell? ⟨g, off + k * 4 + 3, none⟩ = some (.int .i64 x.n) := by
  obtain ⟨ad', n', cap', e, h2, h3, h4, h5⟩ := h
  simp at e
  obtain ⟨rfl, rfl, rfl⟩ := e
  exact h5 k x hk
theorem TbL.len {w : World} {g : Nat} {ad : Option Addr} {n cap : Nat} {xs : List Ptb} (h : TbL w g (.slice ad n cap) xs) : n = xs.length ∧ n ≤ cap ∧ (ad = none → cap = 0) ∧ TbAt w g ad xs := by
  obtain ⟨ad', n', cap', e, h2, h3, h4, h5⟩ := h
  simp at e
  obtain ⟨rfl, rfl, rfl⟩ := e
  exact ⟨h2, h3, h4, h5⟩

def tbCells : List Ptb → List Value
  | [] => []
  | x :: t => .string x.lo :: .string x.hi :: .int .i64 x.g :: .int .i64 x.n :: tbCells t
theorem tbCells_append : ∀ (a b : List Ptb), tbCells (a ++ b) = tbCells a ++ tbCells b
  | [], b => rfl
  | x :: a, b => by simp [tbCells, tbCells_append a b]
theorem tbCells_length : ∀ a : List Ptb, (tbCells a).length = a.length * 4
  | [] => rfl
  | x :: a => by simp [tbCells, tbCells_length a]; omega
theorem tbCells_one : ∀ (a : List Ptb), ∀ u ∈ tbCells a, u.oneCell' = true
  | [], u, h => by simp [tbCells] at h
  | x :: a, u, h => by
    simp only [tbCells, List.mem_cons] at h
    rcases h with rfl | rfl | rfl | rfl | h
    · rfl
    · rfl
    · rfl
    · rfl
    · exact tbCells_one a u h
theorem tbCells_at : ∀ (xs : List Ptb) (k : Nat) (s : Ptb), xs[k]? = some s → (tbCells xs)[k * 4]? = some (.string s.lo) ∧ (tbCells xs)[k * 4 + 1]? = some (.string s.hi) ∧ (tbCells xs)[k * 4 + 2]? = some (.int .i64 s.g) ∧ (tbCells xs)[k * 4 + 3]? = some (.int .i64 s.n)
  | [], k, s, h => by simp at h
  | x :: t, 0, s, h => by simp at h; subst h; simp [tbCells]
  | x :: t, k + 1, s, h => by
    have := tbCells_at t k s (by simpa using h)
    have e : (k + 1) * 4 = k * 4 + 1 + 1 + 1 + 1 := by omega
    rw [e]
    simpa [tbCells] using this
theorem tbCells_get : ∀ (xs : List Ptb) (j : Nat) (u : Value), (tbCells xs)[j]? = some u → ∃ (k : Nat) (s : Ptb), xs[k]? = some s ∧ ((j = k * 4 ∧ u = .string s.lo) ∨ (j = k * 4 + 1 ∧ u = .string s.hi) ∨ (j = k * 4 + 2 ∧ u = .int .i64 s.g) ∨ (j = k * 4 + 3 ∧ u = .int .i64 s.n))
  | [], j, u, h => by simp [tbCells] at h
  | x :: t, 0, u, h => by simp [tbCells] at h; exact ⟨0, x, rfl, .inl ⟨rfl, h.symm⟩⟩
  | x :: t, 1, u, h => by simp [tbCells] at h; exact ⟨0, x, rfl, .inr (.inl ⟨rfl, h.symm⟩)⟩
  | x :: t, 2, u, h => by simp [tbCells] at h; exact ⟨0, x, rfl, .inr (.inr (.inl ⟨rfl, h.symm⟩))⟩
  | x :: t, 3, u, h => by simp [tbCells] at h; exact ⟨0, x, rfl, .inr (.inr (.inr ⟨rfl, h.symm⟩))⟩
  | x :: t, j + 4, u, h => by
    obtain ⟨k, s, h1, h2⟩ := tbCells_get t j u (by simpa [tbCells] using h)
    refine ⟨k + 1, s, by simpa using h1, ?_⟩
    rcases h2 with ⟨rfl, h2⟩ | ⟨rfl, h2⟩ | ⟨rfl, h2⟩ | ⟨rfl, h2⟩
    · exact .inl ⟨by omega, h2⟩
    · exact .inr (.inl ⟨by omega, h2⟩)
    · exact .inr (.inr (.inl ⟨by omega, h2⟩))
    · exact .inr (.inr (.inr ⟨by omega, h2⟩))
theorem TbAt.block {w : World} {g : Nat} {xs : List Ptb} {t : TypeId} {fz : Nat × Nat} (hb : w.heap[g]? = some (.cells (tbCells xs).toArray t fz)) : TbAt w g (some ⟨g, 0, none⟩) xs := by
  intro k s hs
  obtain ⟨h1, h2, h3, h4⟩ := tbCells_at xs k s hs
  refine ⟨0, rfl, ?_, ?_, ?_, ?_⟩
  all_goals (simp only [World.cell?, hb, Nat.zero_add]; simpa using by assumption)

def OwnT (w : World) (v : Value) (xs : List Ptb) : Prop := w.ownsRow 0 54 4 v xs.length (tbCells xs)
theorem OwnT.nil (w : World) : OwnT w (.slice none 0 0) [] := by unfold OwnT; exact World.ownsRow_nil _ _ _ _
theorem OwnT.empty {w : World} {g : Nat} (h : w.heap[g]? = some (.cells #[] 54 (0, 0))) : OwnT w (.slice (some ⟨g, 0, none⟩) 0 0) [] := by
  unfold OwnT
  refine ⟨by simp [tbCells], .inr ⟨g, 0, #[], rfl, Nat.zero_le _, h, Nat.le_refl _, by simp [maxLen], by simp, by simp [tbCells]⟩⟩
theorem OwnT.moves {w w' : World} {v : Value} {xs : List Ptb} {S : List Nat} (h : OwnT w v xs) (m : Moves S w w') (hg : ∀ k, v.ownBlock = some k → k ∉ S) : OwnT w' v xs := by
  refine ⟨h.1, ?_⟩
  rcases h.2 with hn | ⟨g, cap, cur, rfl, hb, hgg, rest⟩
  · exact .inl hn
  · exact .inr ⟨g, cap, cur, rfl, hb, m.at hgg (hg g rfl), rest⟩
theorem OwnT.lt {w : World} {v : Value} {xs : List Ptb} (h : OwnT w v xs) {k : Nat} (hk : v.ownBlock = some k) : k < w.heap.size := (World.ownsRow.lt h k hk).2
theorem OwnT.tbl {w : World} {v : Value} {xs : List Ptb} (h : OwnT w v xs) {g : Nat} (hg : ∀ k, v.ownBlock = some k → k = g) : TbL w g v xs := by
  rcases h.2 with ⟨rfl, h0⟩ | ⟨g', cap, cur, rfl, hb, hgg, h1, h2, h3, h4⟩
  · have : xs = [] := List.eq_nil_of_length_eq_zero h0
    subst this
    exact ⟨none, 0, 0, rfl, rfl, Nat.le_refl _, fun _ => rfl, TbAt.nil _ _ _⟩
  · obtain rfl : g' = g := hg g' rfl
    refine ⟨_, _, cap, rfl, rfl, h1, fun h => by simp at h, fun k s hs => ?_⟩
    have hlt := (List.getElem?_eq_some_iff.1 hs).1
    obtain ⟨e1, e2, e3, e4⟩ := tbCells_at xs k s hs
    rw [← h4, List.getElem?_take, if_pos (by omega)] at e1 e2 e3 e4
    simp only [Array.getElem?_toList] at e1 e2 e3 e4
    refine ⟨0, rfl, ?_, ?_, ?_, ?_⟩
    all_goals (simp only [World.cell?, hgg, Nat.zero_add]; assumption)
theorem OwnT.open {w : World} {v : Value} {xs : List Ptb} (h : OwnT w v xs) : ∃ ad n cap, v = .slice ad n cap ∧ Hid (n = xs.length) := by
  rcases h.2 with ⟨rfl, h0⟩ | ⟨g', cap, cur, rfl, hb, hgg, h1, h2, h3, h4⟩
  · exact ⟨_, _, _, rfl, h0.symm⟩
  · exact ⟨_, _, _, rfl, rfl⟩
theorem OwnS.open {w : World} {v : Value} {xs : List Psp} (h : OwnS w v xs) : ∃ ad n cap, v = .slice ad n cap ∧ Hid (n = xs.length) := by
  rcases h.2 with ⟨rfl, h0⟩ | ⟨g', cap, cur, rfl, hb, hgg, h1, h2, h3, h4⟩
  · exact ⟨_, _, _, rfl, h0.symm⟩
  · exact ⟨_, _, _, rfl, rfl⟩
theorem OwnT.ex {w : World} {v : Value} {xs : List Ptb} (h : OwnT w v xs) {B : Nat} (hf : ∀ k, v.ownBlock = some k → B ≤ k) : ∃ g, TbL w g v xs ∧ B ≤ g := by
  cases hv : v.ownBlock with
  | none => exact ⟨B, h.tbl (fun k hk => by rw [hv] at hk; simp at hk), Nat.le_refl _⟩
  | some g => exact ⟨g, h.tbl (fun k hk => by rw [hv] at hk; simp at hk; omega), hf g hv⟩

theorem tb_info : (Tryz.prog.info? 54).map (fun i => (i.zero, i.size, i.bytes)) = some (some (.agg #[.string ⟨#[]⟩, .string ⟨#[]⟩, .int .i64 0, .int .i64 0]), 4, 48) := by kernel_rfl
theorem add_at (g off j : Nat) : (⟨g, off, none⟩ : Addr).add j = ⟨g, off + j, none⟩ := by unfold Addr.add; split <;> simp_all
theorem tbAt_src {w : World} {y : Addr} {g : Nat} {ys : List Ptb} (hc : TbAt w g (some y) ys) : ∀ j u, (tbCells ys)[j]? = some u → w.cell? (y.add j) = some u := by
  intro j u hj
  obtain ⟨k, z, hk, hz⟩ := tbCells_get ys j u hj
  obtain ⟨off, e1, e2, e3, e4, e5⟩ := hc k z hk
  simp only [Option.some.injEq] at e1
  subst e1
  rw [add_at]
  rcases hz with ⟨rfl, rfl⟩ | ⟨rfl, rfl⟩ | ⟨rfl, rfl⟩ | ⟨rfl, rfl⟩
  · exact e2
  · exact e3
  · exact e4
  · exact e5
theorem tabs_wp {o : Oper} {a : Act} {K : Act → World → Prop} {Q : Exit → Act → World → Prop} {w : World} (s x : Operand)
    (ho : o.op = .call { callee := .builtin .append, args := #[s, x], argTypes := #[51, 51] })
    (v xv : Value) (g : Nat) (xs ys : List Ptb) (hs : a.eval s = v) (hx : a.eval x = xv)
    (hv : OwnT w v xs) (hy : TbL w g xv ys) (hb : xs.length + ys.length ≤ 1048576)
    (h : ∀ v' w', OwnT w' v' (xs ++ ys) → Moves v.ownBlock.toList w w' → Lain w v v' → K (a.put o.dst v') w') :
    o.wp Tryz.prog a w K Q := by
  obtain ⟨ad, n, cap, rfl, hn, hcap, hnil, hc⟩ := hy
  obtain ⟨i0, hi, hz0, hz1, hz2⟩ := info_parts tb_info
  cases ad with
  | none =>
    have hys : ys = [] := by
      cases ys with
      | nil => rfl
      | cons y t => obtain ⟨_, h1, _⟩ := hc 0 y rfl; simp at h1
    subst hys
    obtain rfl : cap = 0 := hnil rfl
    simp at hn
    subst hn
    have hrun := run_append_owned_none (P := Tryz.prog) (w := w) 0 51 o.type 54 i0 4 Tryz.underlying51 hi v xs.length (tbCells xs) hv
    unfold Oper.wp
    simp [execOp, ho, resolve, invoke, builtin, hs, hx, hrun, Result.andThen]
    exact h v w (by simpa using hv) (Moves.refl _ _) (.inl rfl)
  | some y =>
    obtain ⟨v', w', hr, h2, h3, h4, h5⟩ := run_append_own_at (P := Tryz.prog) w 0 51 o.type 54 i0 (.agg #[.string ⟨#[]⟩, .string ⟨#[]⟩, .int .i64 0, .int .i64 0]) 4 48 Tryz.underlying51 hi hz0 hz1 hz2 rfl (by decide) v xs.length (tbCells xs) hv y ys.length cap (tbCells ys) (by rw [tbCells_length]) (tbAt_src hc) (tbCells_one ys) (by unfold maxLen; omega) (by omega) (by simp)
    rw [hn] at hx
    unfold Oper.wp execOp
    simp only [ho, resolve, invoke, builtin, Sem.run_bind, Sem.run_pure, Result.andThen_ok, List.map_toArray, List.map_cons, List.map_nil, hs, hx, hr]
    refine h v' w' ?_ ((Moves.refl _ _).grown h3 (fun k hk => .inl (by rw [hk]; simp))) h5
    unfold OwnT
    rw [tbCells_append, List.length_append]
    exact h2
theorem tabs_append {ops : Array Oper} {rest : List Oper} {o : Oper} {a : Act} {Q : Exit → Act → World → Prop} {w : World} (s x : Operand)
    (ho : o.op = .call { callee := .builtin .append, args := #[s, x], argTypes := #[51, 51] })
    (v xv : Value) (g : Nat) (xs ys : List Ptb) (hs : a.eval s = v) (hx : a.eval x = xv) (hw : Region.wanted o (yielded ops a.tmps) = true)
    (hv : OwnT w v xs) (hy : TbL w g xv ys) (hb : xs.length + ys.length ≤ 1048576)
    (h : ∀ v' w', OwnT w' v' (xs ++ ys) → Moves v.ownBlock.toList w w' → Lain w v v' → wpList Tryz.prog ops Q rest (a.put o.dst v') w') :
    wpList Tryz.prog ops Q (o :: rest) a w := by
  refine wpList_wanted hw (wpList_plain rfl fun K hK => ?_)
  exact tabs_wp s x ho v xv g xs ys hs hx hv hy hb (fun v' w' h1 h3 h4 => hK _ _ (h v' w' h1 h3 h4))
theorem tb_new (w : World) (x : Ptb) : TbL (w.alloc (.cells #[.string x.lo, .string x.hi, .int .i64 x.g, .int .i64 x.n] 54)) w.heap.size (.slice (some ⟨w.heap.size, 0, none⟩) 1 1) [x] :=
  ⟨_, _, _, rfl, rfl, Nat.le_refl _, fun h => by simp at h, TbAt.block (xs := [x]) (heap_alloc_new w _)⟩
theorem lain_fresh {W w : World} {v v' : Value} (hf : Fresh W v) (hW : W.heap.size ≤ w.heap.size) (h : Lain w v v') : Fresh W v' := by
  intro k hk
  rcases h with e | e
  · rw [e] at hk; exact hf k hk
  · rw [e] at hk; simp at hk; omega
theorem fresh_trans {W w w' : World} {v : Value} {S : List Nat} (M : Moves S W w) (hf : Fresh W v) (m : Moves v.ownBlock.toList w w') : Moves S W w' :=
  M.trans m (fun k hk => .inr (hf k (Option.mem_toList.1 hk)))

theorem four_cells {w : World} {p : Nat} {x0 x1 x2 x3 : Value} {t : TypeId} (h : w.heap[p]? = some (.cells #[x0, x1, x2, x3] t (0, 0))) : w.cell? ⟨p, 0, none⟩ = some x0 ∧ w.cell? ⟨p, 1, none⟩ = some x1 ∧ w.cell? ⟨p, 2, none⟩ = some x2 ∧ w.cell? ⟨p, 3, none⟩ = some x3 ∧ w.frozen? ⟨p, 0, none⟩ = false ∧ w.frozen? ⟨p, 1, none⟩ = false ∧ w.frozen? ⟨p, 2, none⟩ = false ∧ w.frozen? ⟨p, 3, none⟩ = false := by
  simp [World.cell?, World.frozen?, h]
theorem four_info {w : World} {p : Nat} {x0 x1 x2 x3 : Value} {t : TypeId} (h : w.heap[p]? = some (.cells #[x0, x1, x2, x3] t (0, 0))) (c0 c1 c2 c3 : Value) :
    ((((w.setCell ⟨p, 0, none⟩ c0).setCell ⟨p, 1, none⟩ c1).setCell ⟨p, 2, none⟩ c2).setCell ⟨p, 3, none⟩ c3).heap[p]? = some (.cells #[c0, c1, c2, c3] t (0, 0)) ∧ Moves [p] w ((((w.setCell ⟨p, 0, none⟩ c0).setCell ⟨p, 1, none⟩ c1).setCell ⟨p, 2, none⟩ c2).setCell ⟨p, 3, none⟩ c3) :=
  ⟨heap_set (i := 3) (heap_set (i := 2) (heap_set (i := 1) (heap_set (i := 0) h c0) c1) c2) c3, (((moves_set w p 0 c0).then (moves_set _ p 1 c1)).then (moves_set _ p 2 c2)).then (moves_set _ p 3 c3)⟩
theorem Tryz.size54 : (Tryz.prog.info? 54).map (·.size) = some 4 := by kernel_rfl
theorem ret_tablet {fn : Func} {p : Tmp} (h : fn.results = #[.cell p 54]) (tmps : Array Value) (w : World) (g : Nat) (x0 x1 x2 x3 : Value) (hp : tmps.getD p undef = .pointer (some ⟨g, 0, none⟩)) (hg : w.heap[g]? = some (.cells #[x0, x1, x2, x3] 54 (0, 0))) :
    (results fn tmps).run Tryz.prog w = .ok (.agg #[x0, x1, x2, x3]) w :=
  results_cell_row h tmps w g 54 _ (0, 0) _ hp hg Tryz.underlying54 rfl Tryz.size54

def MsAt (B : Nat) (w : World) (v : Value) (ms : List (List Ptb)) : Prop := ∃ ad n cap, v = .slice ad n cap ∧ n = ms.length ∧ n ≤ cap ∧ (ad = none → cap = 0) ∧ ∀ (k : Nat) m, ms[k]? = some m → ∃ g off u gu, ad = some ⟨g, off, none⟩ ∧ B ≤ g ∧ w.cell? ⟨g, off + k, none⟩ = some u ∧ TbL w gu u m ∧ B ≤ gu
theorem MsAt.moves {S : List Nat} {B : Nat} {w w' : World} {v : Value} {ms : List (List Ptb)} (h : MsAt B w v ms) (m : Moves S w w') (hS : ∀ k ∈ S, k < B) : MsAt B w' v ms := by
  obtain ⟨ad, n, cap, h1, h2, h3, h4, h5⟩ := h
  refine ⟨ad, n, cap, h1, h2, h3, h4, fun k x hx => ?_⟩
  obtain ⟨g, off, u, gu, e1, e2, e3, e4, e5⟩ := h5 k x hx
  exact ⟨g, off, u, gu, e1, e2, cell_moves m (fun hm => by have := hS g hm; omega) e3, e4.moves m (fun hm => by have := hS gu hm; omega), e5⟩
theorem MsAt.moves0 {B : Nat} {w w' : World} {v : Value} {ms : List (List Ptb)} (h : MsAt B w v ms) (m : Moves [] w w') : MsAt B w' v ms := h.moves m (by simp)
theorem MsAt.open {B : Nat} {w : World} {v : Value} {ms : List (List Ptb)} (h : MsAt B w v ms) : ∃ ad n cap, v = .slice ad n cap ∧ Hid (n = ms.length) ∧ n ≤ cap ∧ Hid (MsAt B w (.slice ad n cap) ms) := by
  obtain ⟨ad, n, cap, rfl, h2, h3, h4, h5⟩ := h
  exact ⟨ad, n, cap, rfl, h2, h3, ad, n, cap, rfl, h2, h3, h4, h5⟩
theorem MsAt.at {B : Nat} {w : World} {ad : Option Addr} {n cap : Nat} {ms : List (List Ptb)} (h : MsAt B w (.slice ad n cap) ms) {k : Nat} {m : List Ptb} (hk : ms[k]? = some m) : ∃ g off u gu, ad = some ⟨g, off, none⟩ ∧ B ≤ g ∧ w.cell? ⟨g, off + k, none⟩ = some u ∧ TbL w gu u m ∧ B ≤ gu := by
  obtain ⟨ad', n', cap', e, h2, h3, h4, h5⟩ := h
  simp at e
  obtain ⟨rfl, rfl, rfl⟩ := e
  exact h5 k m hk

def by4 {α : Type} : Nat → List α → List (List α)
  | 0, _ => []
  | n + 1, l => if l.isEmpty then [] else l.take 4 :: by4 n (l.drop 4)
def fours {α : Type} (l : List α) : List (List α) := by4 l.length l

theorem by4_flatten {α : Type} : ∀ (n : Nat) (l : List α), l.length ≤ n → (by4 n l).flatten = l
  | 0, l, h => by simp at h; simp [by4, h]
  | n + 1, [], _ => by simp [by4]
  | n + 1, x :: t, h => by
    unfold by4
    simp only [List.isEmpty_cons, Bool.false_eq_true, if_false, List.flatten_cons]
    rw [by4_flatten n _ (by simp at h ⊢; omega)]
    exact List.take_append_drop 4 (x :: t)
theorem by4_get {α : Type} : ∀ (n : Nat) (l : List α) (k : Nat), l.length ≤ n → (by4 n l)[k]? = if k * 4 < l.length then some ((l.drop (k * 4)).take 4) else none
  | 0, l, k, h => by simp at h; simp [by4, h]
  | n + 1, [], k, _ => by simp [by4]
  | n + 1, x :: t, 0, h => by simp [by4]
  | n + 1, x :: t, k + 1, h => by
    unfold by4
    simp only [List.isEmpty_cons, Bool.false_eq_true, if_false, List.getElem?_cons_succ]
    rw [by4_get n _ k (by simp at h ⊢; omega)]
    have e : (k * 4 < ((x :: t).drop 4).length) = ((k + 1) * 4 < (x :: t).length) := by
      rw [List.length_drop]; apply propext; omega
    simp only [e, List.drop_drop]
    rw [show 4 + k * 4 = (k + 1) * 4 by omega]
theorem fours_flatten {α : Type} (l : List α) : (fours l).flatten = l := by4_flatten _ _ (Nat.le_refl _)
theorem fours_get {α : Type} (l : List α) (k : Nat) : (fours l)[k]? = if k * 4 < l.length then some ((l.drop (k * 4)).take 4) else none := by4_get _ _ _ (Nat.le_refl _)
theorem fours_len {α : Type} (l : List α) : (fours l).length = (l.length + 3) / 4 := by
  have h1 : ∀ k, k < (fours l).length ↔ k * 4 < l.length := by
    intro k
    have := fours_get l k
    constructor
    · intro h
      rw [List.getElem?_eq_getElem h] at this
      split at this
      · assumption
      · simp at this
    · intro h
      rw [if_pos h] at this
      exact (List.getElem?_eq_some_iff.1 this).1
  have a := h1 ((l.length + 3) / 4)
  have b := h1 ((l.length + 3) / 4 - 1)
  omega
def MtIs (w : World) (p : Nat) (xs : List Ptb) : Prop := ∃ v, w.heap[p]? = some (.cells #[v] 105 (0, 0)) ∧ MsAt 0 w v (fours xs)
theorem MtIs.moves0 {w w' : World} {p : Nat} {xs : List Ptb} (h : MtIs w p xs) (m : Moves [] w w') : MtIs w' p xs := by
  obtain ⟨v, h1, h2⟩ := h
  exact ⟨v, m.at h1 (by simp), h2.moves0 m⟩
end Go.Proofs.YtilbbnmhnacnlaaGreat
