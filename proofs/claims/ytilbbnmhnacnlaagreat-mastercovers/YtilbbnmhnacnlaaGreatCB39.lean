/- ours -/
import Derived.Test.YtilbbnmhnacnlaaGreatCMs1
import Derived.Test.YtilbbnmhnacnlaaGreatCB26
import Derived.Test.YtilbbnmhnacnlaaGreatCB27
/-
  How a master lies in memory.
-/
namespace Go.Proofs.YtilbbnmhnacnlaaGreat
open Go.RowKit

def MsZ (Z : List Nat) (w : World) (v : Value) (ms : List (List Ptb)) : Prop := ∃ ad n cap, v = .slice ad n cap ∧ n = ms.length ∧ n ≤ cap ∧ (ad = none → cap = 0) ∧ ∀ (k : Nat) m, ms[k]? = some m → ∃ g off u gu, ad = some ⟨g, off, none⟩ ∧ g ∉ Z ∧ w.cell? ⟨g, off + k, none⟩ = some u ∧ TbL w gu u m ∧ gu ∉ Z
def MtZ (Z : List Nat) (w : World) (q : Nat) (xs : List Ptb) : Prop := ∃ v, w.heap[q]? = some (.cells #[v] 105 (0, 0)) ∧ MsZ Z w v (fours xs)
theorem MtZ.is {Z : List Nat} {w : World} {q : Nat} {xs : List Ptb} (h : MtZ Z w q xs) : MtIs w q xs := by
  obtain ⟨v, h1, ad, n, cap, e1, e2, e3, e4, e5⟩ := h
  refine ⟨v, h1, ad, n, cap, e1, e2, e3, e4, fun k m hk => ?_⟩
  obtain ⟨g, off, u, gu, f1, _, f3, f4, _⟩ := e5 k m hk
  exact ⟨g, off, u, gu, f1, Nat.zero_le _, f3, f4, Nat.zero_le _⟩
theorem MtZ.ofB {B : Nat} {Z : List Nat} {w : World} {q : Nat} {xs : List Ptb} (h : MtB B w q xs) (hZ : ∀ k ∈ Z, k < B) : MtZ Z w q xs := by
  obtain ⟨v, h1, ad, n, cap, e1, e2, e3, e4, e5⟩ := h
  refine ⟨v, h1, ad, n, cap, e1, e2, e3, e4, fun k m hk => ?_⟩
  obtain ⟨g, off, u, gu, f1, f2, f3, f4, f5⟩ := e5 k m hk
  exact ⟨g, off, u, gu, f1, fun hm => by have := hZ g hm; omega, f3, f4, fun hm => by have := hZ gu hm; omega⟩
theorem MtZ.moves {Z S : List Nat} {w w' : World} {q : Nat} {xs : List Ptb} (h : MtZ Z w q xs) (m : Moves S w w') (hS : ∀ k ∈ S, k ∈ Z) (hq : q ∉ S) : MtZ Z w' q xs := by
  obtain ⟨v, h1, ad, n, cap, e1, e2, e3, e4, e5⟩ := h
  refine ⟨v, m.at h1 hq, ad, n, cap, e1, e2, e3, e4, fun k x hk => ?_⟩
  obtain ⟨g, off, u, gu, f1, f2, f3, f4, f5⟩ := e5 k x hk
  exact ⟨g, off, u, gu, f1, f2, cell_moves m (fun hm => f2 (hS g hm)) f3, f4.moves m (fun hm => f5 (hS gu hm)), f5⟩
theorem tbL_lt {w : World} {g : Nat} {u : Value} {m : List Ptb} (h : TbL w g u m) (hne : m ≠ []) : g < w.heap.size := by
  obtain ⟨ad, n, cap, rfl, _, _, _, h5⟩ := h
  cases m with
  | nil => exact absurd rfl hne
  | cons x t =>
    obtain ⟨off, _, hc, _⟩ := h5 0 x rfl
    exact lt_of_cell hc
theorem MtZ.more {Z Z' : List Nat} {w : World} {q : Nat} {xs : List Ptb} (h : MtZ Z w q xs) (hZ : ∀ k ∈ Z', k ∈ Z ∨ w.heap.size ≤ k) : MtZ Z' w q xs := by
  obtain ⟨v, h1, ad, n, cap, e1, e2, e3, e4, e5⟩ := h
  refine ⟨v, h1, ad, n, cap, e1, e2, e3, e4, fun k x hk => ?_⟩
  obtain ⟨g, off, u, gu, f1, f2, f3, f4, f5⟩ := e5 k x hk
  have hg : g < w.heap.size := lt_of_cell f3
  have hgu : gu < w.heap.size := tbL_lt f4 (four_ne x (List.mem_of_getElem? hk))
  exact ⟨g, off, u, gu, f1, fun hm => by rcases hZ g hm with h | h; exact f2 h; omega, f3, f4, fun hm => by rcases hZ gu hm with h | h; exact f5 h; omega⟩

def mrCells (q c : Nat) (S : Pms) : Array Value := #[.int .i64 S.grps, .pointer (some ⟨q, 0, none⟩), .int .i64 S.last, .int .i64 S.pend.code, .slice none 0 0, .string S.pend.lo, .string S.pend.hi, .int .i64 S.pend.grp, .int .i64 S.pend.gen, .int .i64 S.pend.old, .int .i64 S.pend.to, .int .i64 S.pend.act, .string S.pend.at', .slice none 0 0, .pointer (some ⟨c, 0, none⟩)]
structure MrIs (W w : World) (p q c : Nat) (a : Option Nat) (S : Pms) : Prop where
  box : w.heap[p]? = some (.cells (mrCells q c S) 76 (0, 0))
  tab : MtZ (p :: q :: c :: a.toList) w q S.xs
  cac : CaIs W w c a S.ca
  hp : W.heap.size ≤ p
  hq : W.heap.size ≤ q
  hc : W.heap.size ≤ c
theorem MrIs.moves {W w w' : World} {p q c : Nat} {a : Option Nat} {S : Pms} (h : MrIs W w p q c a S) {X : List Nat} (m : Moves X w w') (hX : ∀ k ∈ X, k ∉ p :: q :: c :: a.toList ∧ w.heap.size ≤ k) : MrIs W w' p q c a S := by
  have hm : Moves [] w w' := by
    refine (Moves.refl [] w).trans m (fun k hk => .inr (hX k hk).2)
  exact ⟨hm.at h.box (by simp), h.tab.moves hm (by simp) (by simp), h.cac.moves0 hm, h.hp, h.hq, h.hc⟩
theorem MrIs.moves0 {W w w' : World} {p q c : Nat} {a : Option Nat} {S : Pms} (h : MrIs W w p q c a S) (m : Moves [] w w') : MrIs W w' p q c a S := h.moves m (by simp)
theorem MrIs.ne {W w : World} {p q c : Nat} {a : Option Nat} {S : Pms} (h : MrIs W w p q c a S) : p ≠ q ∧ p ≠ c ∧ q ≠ c ∧ p ∉ a.toList ∧ q ∉ a.toList ∧ c ∉ a.toList := by
  obtain ⟨v, t1, _⟩ := h.tab
  have hb := h.box
  have hap := h.cac.apart
  obtain ⟨cv, c1, c2, c3⟩ := h.cac
  have hk : ∀ k, k ∈ a.toList → ∃ cur, w.heap[k]? = some (.cells cur 173 (0, 0)) := by
    intro k hk
    exact c3.blk (by rw [c2]; exact Option.mem_toList.1 hk)
  refine ⟨?_, ?_, ?_, ?_, ?_, hap⟩
  · rintro rfl
    rw [hb] at t1
    simp [mrCells] at t1
  · rintro rfl
    rw [hb] at c1
    simp [mrCells] at c1
  · rintro rfl
    rw [t1] at c1
    simp at c1
  · intro hk1
    obtain ⟨cur, e⟩ := hk p hk1
    rw [hb] at e
    simp at e
  · intro hk1
    obtain ⟨cur, e⟩ := hk q hk1
    rw [t1] at e
    simp at e
theorem MrIs.lt {W w : World} {p q c : Nat} {a : Option Nat} {S : Pms} (h : MrIs W w p q c a S) : p < w.heap.size ∧ q < w.heap.size ∧ c < w.heap.size ∧ ∀ k, a = some k → k < w.heap.size := by
  obtain ⟨v, t1, _⟩ := h.tab
  exact ⟨lt_of_block h.box, lt_of_block t1, h.cac.ltp, fun k hk => (h.cac.lta hk).1⟩
theorem MrIs.young {W w : World} {p q c : Nat} {a : Option Nat} {S : Pms} (h : MrIs W w p q c a S) {k : Nat} (hk : a = some k) : W.heap.size ≤ k := (h.cac.lta hk).2

def ansV (p : Pans) : Array Value := #[.int .i64 p.code, .slice none 0 0, .string p.lo, .string p.hi, .int .i64 p.grp, .int .i64 p.gen, .int .i64 p.old, .int .i64 p.to, .int .i64 p.act, .string p.at', .slice none 0 0]
theorem ansC_bare {w : World} {p : Pans} (h : Bare p) : AnsC w (ansV p).toList p := by
  obtain ⟨h1, h2⟩ := h
  refine ⟨none, 0, 0, none, 0, 0, 0, rfl, ?_, ?_, ?_, ?_⟩
  · rw [h1]; exact ⟨[], Lies.nil _ _ _, trivial⟩
  · rw [h2]; exact isB_nil _ _
  · rw [h2]; exact .inl rfl
  · rw [h2]; simp
theorem AnsC.bare {w w' : World} {c : List Value} {p : Pans} (h : AnsC w c p) (hb : Bare p) : AnsC w' c p := by
  obtain ⟨h1, h2⟩ := hb
  obtain ⟨ar, nr, cr, sa, ns, cs, g, hc, hN, hB, hU, hz⟩ := h
  refine ⟨ar, nr, cr, sa, ns, cs, g, hc, ?_, ?_, ?_, ?_⟩
  · rw [h1] at hN ⊢
    obtain ⟨css, ⟨l1, ad, cap, l2, l3, l4, l5⟩, hA⟩ := hN
    cases css with
    | nil => exact ⟨[], ⟨by simp, ad, cap, l2, l3, l4, .inl rfl⟩, trivial⟩
    | cons _ _ => exact hA.elim
  · rw [h2] at hB ⊢
    obtain ⟨ad, n, cap, e1, e2, e3, e4, e5⟩ := hB
    exact ⟨ad, n, cap, e1, e2, e3, e4, .inl rfl⟩
  · rw [h2]; exact .inl rfl
  · rw [h2]; simp
end Go.Proofs.YtilbbnmhnacnlaaGreat
/-
  Package master: its small functions.
-/
namespace Go.Proofs.YtilbbnmhnacnlaaGreat
open Go.RowKit

theorem c15 {w : World} {p : Nat} {x0 x1 x2 x3 x4 x5 x6 x7 x8 x9 x10 x11 x12 x13 x14 : Value} {t : TypeId} (h : w.heap[p]? = some (.cells #[x0, x1, x2, x3, x4, x5, x6, x7, x8, x9, x10, x11, x12, x13, x14] t (0, 0))) : w.cell? ⟨p, 0, none⟩ = some x0 ∧ w.cell? ⟨p, 1, none⟩ = some x1 ∧ w.cell? ⟨p, 2, none⟩ = some x2 ∧ w.cell? ⟨p, 3, none⟩ = some x3 ∧ w.cell? ⟨p, 4, none⟩ = some x4 ∧ w.cell? ⟨p, 5, none⟩ = some x5 ∧ w.cell? ⟨p, 6, none⟩ = some x6 ∧ w.cell? ⟨p, 7, none⟩ = some x7 ∧ w.cell? ⟨p, 8, none⟩ = some x8 ∧ w.cell? ⟨p, 9, none⟩ = some x9 ∧ w.cell? ⟨p, 10, none⟩ = some x10 ∧ w.cell? ⟨p, 11, none⟩ = some x11 ∧ w.cell? ⟨p, 12, none⟩ = some x12 ∧ w.cell? ⟨p, 13, none⟩ = some x13 ∧ w.cell? ⟨p, 14, none⟩ = some x14 := by
  simp [World.cell?, h]
theorem nilPtr (p : Nat) (w1 : World) : (binOp .eql 23 (.pointer (some ⟨p, 0, none⟩)) (.pointer none)).run Tryz.prog w1 = .ok (.bool false) w1 := by kernel_rfl
theorem nilTab (p : Nat) (w1 : World) : (binOp .eql 69 (.pointer (some ⟨p, 0, none⟩)) (.pointer none)).run Tryz.prog w1 = .ok (.bool false) w1 := by kernel_rfl

theorem wpList_storeAt {ops : Array Oper} {rest : List Oper} {op : Oper} {a : Act} {w : World} {Q : Exit → Act → World → Prop} (hgd : op.guard = none) (ty : TypeId) (x y : Operand) (ho : op.op = .store ty x y) (b o : Nat) (v : Value) (vs : List Value) (hx : a.eval x = .pointer (some ⟨b, o, none⟩)) (hy : a.eval y = v) (hv : v.cells.toList = vs) (hs : (Tryz.prog.info? ty).map (·.size) = some vs.length) {old : Array Value} {t : TypeId} (hg : w.heap[b]? = some (.cells old t (0, 0))) (hfit : o + vs.length ≤ old.size) (h1 : ∀ u ∈ vs, u.oneCell' = true) (new : Array Value) (hnew : (old.toList.take o ++ vs ++ old.toList.drop (o + vs.length)).toArray = new)
    (h : ∀ w', w'.heap[b]? = some (.cells new t (0, 0)) → Moves [b] w w' → wpList Tryz.prog ops Q rest (a.put op.dst undef) w') : wpList Tryz.prog ops Q (op :: rest) a w := by
  refine wpList_plain hgd fun _ hK => ?_
  · have hst := run_storeCells_at (P := Tryz.prog) b o t vs 0 old w hg (by simpa using hfit) h1
    have hsz : v.cells.size = vs.length := by rw [← hv]; simp
    subst hnew
    unfold Oper.wp execOp
    cases hq : Tryz.prog.info? ty with
    | none => simp [hq] at hs
    | some i =>
      have hi : i.size = vs.length := by simpa [hq] using hs
      have hrun : (storeVar ty ⟨b, o, none⟩ v).run Tryz.prog w = .ok () (w.setRow b (old.toList.take o ++ vs ++ old.toList.drop (o + vs.length)).toArray) := by
        simp [storeVar, sizeOf, typeInfo, hq, hsz, hi, hv, hst]
      simp only [ho, hx, hy, Instr.storeAt, Instr.sureAddr, Sem.run_bind, Sem.run_pure, Result.andThen_ok, hrun]
      exact hK _ _ (h _ (setRow_heap w b old _ t (0, 0) hg) (moves_row _ _ _))
theorem stopI {ops : Array Oper} {rest : List Oper} {op : Oper} {a : Act} {w : World} {Q : Exit → Act → World → Prop} (x y : Operand) (_ : op.op = .store 3 x y) (h : Hid (wpList Tryz.prog ops Q (op :: rest) a w)) : wpList Tryz.prog ops Q (op :: rest) a w := h.out
theorem stopA {ops : Array Oper} {rest : List Oper} {op : Oper} {a : Act} {w : World} {Q : Exit → Act → World → Prop} (x y : Operand) (_ : op.op = .store 48 x y) (h : Hid (wpList Tryz.prog ops Q (op :: rest) a w)) : wpList Tryz.prog ops Q (op :: rest) a w := h.out
theorem Tryz.size3 : (Tryz.prog.info? 3).map (·.size) = some 1 := by kernel_rfl


set_option maxRecDepth 100000 in
set_option maxHeartbeats 16000000 in
theorem mtold_w (c : Int) (w : World) : Calls Tryz.prog 34 #[.int .i64 c] w fun e w' => e = .returned (.agg (ansV (pTold c))) ∧ Moves [] w w' := by
  have b := heap_alloc_new w (.cells #[.int .i64 0, .slice none 0 0, .string ⟨#[]⟩, .string ⟨#[]⟩, .int .i64 0, .int .i64 0, .int .i64 0, .int .i64 0, .int .i64 0, .string ⟨#[]⟩, .slice none 0 0] 48)
  have m : Moves [] w (w.alloc (.cells #[.int .i64 0, .slice none 0 0, .string ⟨#[]⟩, .string ⟨#[]⟩, .int .i64 0, .int .i64 0, .int .i64 0, .int .i64 0, .int .i64 0, .string ⟨#[]⟩, .slice none 0 0] 48)) := (Moves.refl _ _).alloc _
  obtain ⟨w1, hw1⟩ : ∃ w1, w.alloc (.cells #[.int .i64 0, .slice none 0 0, .string ⟨#[]⟩, .string ⟨#[]⟩, .int .i64 0, .int .i64 0, .int .i64 0, .int .i64 0, .int .i64 0, .string ⟨#[]⟩, .slice none 0 0] 48) = w1 := ⟨_, rfl⟩
  rw [hw1] at b m
  have HB : Hid _ := b
  have HM : Hid _ := m
  clear b m
  go_enter Tryz.func34, Tryz.ntmps34
  go_wp2_with (with_reducible refine stopA _ _ rfl ?_)
  unfold Hid
  try rw [hw1]
  refine wpList_storeAt rfl _ _ _ rfl w.heap.size 0 _ (ansV (pTold c)).toList rfl rfl rfl (by rw [show (ansV (pTold c)).toList.length = 11 from rfl]; exact Tryz.size48) HB.out (Nat.le_refl 11) (by intro u hu; simp [ansV] at hu; rcases hu with rfl | rfl | rfl | rfl | rfl | rfl | rfl | rfl | rfl | rfl | rfl <;> rfl) (ansV (pTold c)) rfl ?_
  intro w2 h2 m2
  go_wp2_with fail
  unfold ansV at h2 ⊢
  refine bodyPost_ret (ret_ans rfl _ _ _ _ _ _ _ _ _ _ _ _ _ _ rfl h2) rfl ⟨rfl, HM.out.trans m2 (fun x hx => .inr (by simp at hx; omega))⟩

set_option maxRecDepth 100000 in
theorem mnone_w (W w : World) (p q c : Nat) (a : Option Nat) (S : Pms) (h : MrIs W w p q c a S) : Calls Tryz.prog 33 #[.pointer (some ⟨p, 0, none⟩)] w fun e w' => e = .returned (.bool false) ∧ w = w' := by
  obtain ⟨_, b1, _⟩ := c15 h.box
  have h1 := nilPtr p
  have h2 := nilTab q
  clear h
  go_enter Tryz.func33, Tryz.ntmps33
  go_wp2_with fail
  go_ret
  exact ⟨rfl, rfl⟩
set_option maxRecDepth 100000 in
theorem mbusy_w (W w : World) (p q c : Nat) (a : Option Nat) (S : Pms) (h : MrIs W w p q c a S) : Calls Tryz.prog 42 #[.pointer (some ⟨p, 0, none⟩)] w fun e w' => e = .returned (.bool (decide (S.pend.act ≠ 0))) ∧ w = w' := by
  obtain ⟨_, _, _, _, _, _, _, _, _, _, _, b11, _⟩ := c15 h.box
  clear h
  go_enter Tryz.func42, Tryz.ntmps42
  go_wp2_with fail
  go_ret
  exact ⟨by simp [bne, Bool.beq_eq_decide_eq], rfl⟩
set_option maxRecDepth 100000 in
theorem mgroup_w (W w : World) (p q c : Nat) (a : Option Nat) (S : Pms) (h : MrIs W w p q c a S) (g : Int) : Calls Tryz.prog 199 #[.pointer (some ⟨p, 0, none⟩), .int .i64 g] w fun e w' => e = .returned (.bool (decide (1 ≤ g ∧ g ≤ S.grps))) ∧ w = w' := by
  obtain ⟨b0, _⟩ := c15 h.box
  clear h
  by_cases h1 : 1 ≤ g
  · have e : decide (1 ≤ g ∧ g ≤ S.grps) = decide (g ≤ S.grps) := by simp [h1]
    rw [e]
    go_enter Tryz.func199, Tryz.ntmps199
    go_wp2_with fail
    go_ret
    exact ⟨rfl, rfl⟩
  · have e : decide (1 ≤ g ∧ g ≤ S.grps) = false := by simp; omega
    rw [e]
    go_enter Tryz.func199, Tryz.ntmps199
    go_wp2_with fail
    go_ret
    exact ⟨rfl, rfl⟩
set_option maxRecDepth 100000 in
theorem mmay_w (W w : World) (p q c : Nat) (a : Option Nat) (S : Pms) (h : MrIs W w p q c a S) (f g : Int) : Calls Tryz.prog 176 #[.pointer (some ⟨p, 0, none⟩), .int .i64 f, .int .i64 g] w fun e w' => e = .returned (.bool (decide ((1 ≤ g ∧ g ≤ S.grps) ∧ g ≠ f))) ∧ w = w' := by
  have hg := mgroup_w W w p q c a S h g
  clear h
  by_cases h1 : 1 ≤ g ∧ g ≤ S.grps
  · rw [decide_eq_true h1] at hg
    have e : decide ((1 ≤ g ∧ g ≤ S.grps) ∧ g ≠ f) = decide (g ≠ f) := by simp [h1]
    rw [e]
    clear e h1
    go_enter Tryz.func176, Tryz.ntmps176
    go_wp2_with fail
    refine hg.mono ?_
    rintro _ _ ⟨rfl, rfl⟩
    go_wp2_with fail
    go_ret
    exact ⟨by simp [bne, Bool.beq_eq_decide_eq], rfl⟩
  · rw [decide_eq_false h1] at hg
    have e : decide ((1 ≤ g ∧ g ≤ S.grps) ∧ g ≠ f) = false := by simp only [decide_eq_false_iff_not]; exact fun h => h1 h.1
    rw [e]
    clear e h1
    go_enter Tryz.func176, Tryz.ntmps176
    go_wp2_with fail
    refine hg.mono ?_
    rintro _ _ ⟨rfl, rfl⟩
    go_wp2_with fail
    go_ret
    exact ⟨rfl, rfl⟩
set_option maxRecDepth 100000 in
theorem mask_w (c q : Int) (w : World) : Calls Tryz.prog 67 #[.int .i64 c, .int .i64 q] w fun e w' => e = .returned (.bool (decide (0 ≤ c ∧ c ≤ 255 ∧ q ≤ 1073741824))) ∧ w = w' := by
  by_cases h1 : 0 ≤ c
  · by_cases h2 : c ≤ 255
    · have e : decide (0 ≤ c ∧ c ≤ 255 ∧ q ≤ 1073741824) = decide (q ≤ 1073741824) := by simp [h1, h2]
      rw [e]
      go_enter Tryz.func67, Tryz.ntmps67
      go_wp2_with fail
      go_ret
      exact ⟨rfl, rfl⟩
    · have e : decide (0 ≤ c ∧ c ≤ 255 ∧ q ≤ 1073741824) = false := by simp; omega
      rw [e]
      go_enter Tryz.func67, Tryz.ntmps67
      go_wp2_with fail
      go_ret
      exact ⟨rfl, rfl⟩
  · have e : decide (0 ≤ c ∧ c ≤ 255 ∧ q ≤ 1073741824) = false := by simp; omega
    rw [e]
    go_enter Tryz.func67, Tryz.ntmps67
    go_wp2_with fail
    go_ret
    exact ⟨rfl, rfl⟩
set_option maxRecDepth 100000 in
set_option maxHeartbeats 16000000 in
theorem mparts_w (lo hi t : ByteArray) (w : World) : Calls Tryz.prog 177 #[.agg #[.string lo, .string hi], .string t] w fun e w' => e = .returned (.bool (spC ⟨lo, hi⟩ t)) ∧ Moves [] w w' := by
  have ma : Moves [] w (w.alloc (.cells #[.string lo, .string hi] 37)) := (Moves.refl _ _).alloc _
  cases hc : spC ⟨lo, hi⟩ t with
  | true =>
    have hq := spSplit_yes lo hi t (w.alloc (.cells #[.string lo, .string hi] 37)) hc
    have HM : Hid _ := ma
    clear ma
    go_enter Tryz.func177, Tryz.ntmps177
    go_wp2_with fail
    refine hq.mono ?_
    rintro _ w2 ⟨rfl, m2⟩
    clear hq
    go_wp2_with fail
    go_ret
    exact ⟨rfl, ((HM.out.then m2).alloc _).alloc _⟩
  | false =>
    have hq := spSplit_no lo hi t (w.alloc (.cells #[.string lo, .string hi] 37)) hc
    have HM : Hid _ := ma
    clear ma
    go_enter Tryz.func177, Tryz.ntmps177
    go_wp2_with fail
    refine hq.mono ?_
    rintro _ w2 ⟨rfl, m2⟩
    clear hq
    go_wp2_with fail
    go_ret
    exact ⟨rfl, ((HM.out.then m2).alloc _).alloc _⟩
set_option maxRecDepth 100000 in
set_option maxHeartbeats 16000000 in
theorem munder_w (W w : World) (p q c : Nat) (a : Option Nat) (S : Pms) (h : MrIs W w p q c a S) : Calls Tryz.prog 64 #[.pointer (some ⟨p, 0, none⟩)] w fun e w' => e = .returned (.agg (ansV (if S.pend.act ≠ 0 then S.pend else pTold 22))) ∧ Moves [] w w' := by
  have b := heap_alloc_new w (.cells #[.int .i64 0, .slice none 0 0, .string ⟨#[]⟩, .string ⟨#[]⟩, .int .i64 0, .int .i64 0, .int .i64 0, .int .i64 0, .int .i64 0, .string ⟨#[]⟩, .slice none 0 0] 48)
  have m : Moves [] w (w.alloc (.cells #[.int .i64 0, .slice none 0 0, .string ⟨#[]⟩, .string ⟨#[]⟩, .int .i64 0, .int .i64 0, .int .i64 0, .int .i64 0, .int .i64 0, .string ⟨#[]⟩, .slice none 0 0] 48)) := (Moves.refl _ _).alloc _
  have hb := mbusy_w W _ p q c a S (h.moves0 m)
  have ht := mtold_w 22 (w.alloc (.cells #[.int .i64 0, .slice none 0 0, .string ⟨#[]⟩, .string ⟨#[]⟩, .int .i64 0, .int .i64 0, .int .i64 0, .int .i64 0, .int .i64 0, .string ⟨#[]⟩, .slice none 0 0] 48))
  have hx := m.at h.box (by simp)
  obtain ⟨B, hB⟩ : ∃ B, w.heap.size = B := ⟨_, rfl⟩
  rw [hB] at b
  by_cases ha : S.pend.act ≠ 0
  · rw [decide_eq_true ha] at hb
    rw [if_pos ha]
    clear ht ha h
    go_enter Tryz.func64, Tryz.ntmps64
    go_wp2_with fail
    try rw [hB]
    generalize w.alloc (.cells #[.int .i64 0, .slice none 0 0, .string ⟨#[]⟩, .string ⟨#[]⟩, .int .i64 0, .int .i64 0, .int .i64 0, .int .i64 0, .int .i64 0, .string ⟨#[]⟩, .slice none 0 0] 48) = w1 at *
    refine hb.mono ?_
    rintro _ _ ⟨rfl, rfl⟩
    obtain ⟨_, _, _, y3, y4, y5, y6, y7, y8, y9, y10, y11, y12, y13, _⟩ := c15 hx
    obtain ⟨z0, z1, z2, z3, z4, z5, z6, z7, z8, z9, z10⟩ := eleven_cells b
    have zfz := eleven_fz b
    go_wp2_with fail
    have so := stored11 b (.int .i64 S.pend.code) (.slice none 0 0) (.string S.pend.lo) (.string S.pend.hi) (.int .i64 S.pend.grp) (.int .i64 S.pend.gen) (.int .i64 S.pend.old) (.int .i64 S.pend.to) (.int .i64 S.pend.act) (.string S.pend.at') (.slice none 0 0)
    refine bodyPost_ret (ret_ans rfl _ _ _ _ _ _ _ _ _ _ _ _ _ _ rfl so.1) rfl ⟨rfl, m.trans so.2 (fun x hx => .inr (by simp at hx; omega))⟩
  · rw [decide_eq_false ha] at hb
    rw [if_neg ha]
    clear ha h hx
    go_enter Tryz.func64, Tryz.ntmps64
    go_wp2_with fail
    try rw [hB]
    generalize w.alloc (.cells #[.int .i64 0, .slice none 0 0, .string ⟨#[]⟩, .string ⟨#[]⟩, .int .i64 0, .int .i64 0, .int .i64 0, .int .i64 0, .int .i64 0, .string ⟨#[]⟩, .slice none 0 0] 48) = w1 at *
    refine hb.mono ?_
    rintro _ _ ⟨rfl, rfl⟩
    go_wp2_with fail
    refine ht.mono ?_
    rintro _ w2 ⟨rfl, m2⟩
    have b2 := m2.at b (by simp)
    obtain ⟨z0, z1, z2, z3, z4, z5, z6, z7, z8, z9, z10⟩ := eleven_cells b2
    have zfz := eleven_fz b2
    unfold ansV
    go_wp2_with fail
    have so := stored11 b2 (.int .i64 22) (.slice none 0 0) (.string ⟨#[]⟩) (.string ⟨#[]⟩) (.int .i64 0) (.int .i64 0) (.int .i64 0) (.int .i64 0) (.int .i64 0) (.string ⟨#[]⟩) (.slice none 0 0)
    refine bodyPost_ret (ret_ans rfl _ _ _ _ _ _ _ _ _ _ _ _ _ _ rfl so.1) rfl ⟨rfl, (m.then m2).trans so.2 (fun x hx => .inr (by simp at hx; omega))⟩
end Go.Proofs.YtilbbnmhnacnlaaGreat
