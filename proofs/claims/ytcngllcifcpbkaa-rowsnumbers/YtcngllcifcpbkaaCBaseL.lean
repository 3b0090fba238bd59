/-
  Nam0, Nam1, Nam2, Nam3: our texts of these names, laid into one.
-/
import Derived.Test.YtcngllcifcpbkaaCRow12
import Derived.Test.YtcngllcifcpbkaaCTk4
import Derived.Laws.CopyRow
import Derived.Lib.Bytealg
import Derived.Lib.AppendZerosOnto
import Derived.Lib.Overlaps
/-
  Rows with names, as plain data, and how lists of them lie in memory; lists of one's own that grow, that are written in their midst. Plain facts, no program in sight but for the numbers of its types.
-/
namespace Go.Proofs.Ytcngllcifcpbkaa
open Go.RowKit

structure Pnam where
  name : ByteArray
  r : List Pcol
def NamC (w : World) (c : List Value) (x : Pnam) : Prop := ∃ lv, c = [.string x.name, lv] ∧ ColsAt w lv x.r
def NamsAt (w : World) (v : Value) (xs : List Pnam) : Prop := ∃ css, Lies w 53 2 v css ∧ All2 (NamC w) css xs
def GrowN (W w : World) (v : Value) (xs : List Pnam) : Prop := Grow NamC 53 2 W w v xs

theorem ColsAt.stayX {T : TypeId → Prop} {w w' : World} (st : Stay T w w') (h1 : T 5) (h2 : T 79) (h3 : T 33) {v : Value} {xs : List Pcol} (h : ColsAt w v xs) : ColsAt w' v xs := by
  obtain ⟨css, k1, k2⟩ := h
  exact ⟨css, k1.stay st h3, k2.mono fun _ _ k => k.stay st h1 h2⟩
theorem NamC.stay {T : TypeId → Prop} {w w' : World} (st : Stay T w w') (h1 : T 5) (h2 : T 79) (h3 : T 33) {c : List Value} {x : Pnam} (h : NamC w c x) : NamC w' c x := by
  obtain ⟨lv, e, k⟩ := h
  exact ⟨lv, e, k.stayX st h1 h2 h3⟩
theorem NamC.one {w : World} {c : List Value} {x : Pnam} (h : NamC w c x) : ∀ u ∈ c, u.oneCell' = true := by
  obtain ⟨lv, rfl, h2⟩ := h
  obtain ⟨ad, cap, rfl, _⟩ := h2.slice
  intro u hu
  simp only [List.mem_cons, List.not_mem_nil, or_false] at hu
  rcases hu with rfl | rfl <;> rfl
theorem NamsAt.stay {T : TypeId → Prop} {w w' : World} (st : Stay T w w') (h1 : T 5) (h2 : T 79) (h3 : T 33) (h4 : T 53) {v : Value} {xs : List Pnam} (h : NamsAt w v xs) : NamsAt w' v xs := by
  obtain ⟨css, k1, k2⟩ := h
  exact ⟨css, k1.stay st h4, k2.mono fun _ _ k => k.stay st h1 h2 h3⟩
theorem NamsAt.moves {w w' : World} (m : Moves [] w w') {v : Value} {xs : List Pnam} (h : NamsAt w v xs) : NamsAt w' v xs := h.stay (T := fun _ => True) (Stay.ofMoves m) trivial trivial trivial trivial
theorem NamC.moves {w w' : World} (m : Moves [] w w') {c : List Value} {x : Pnam} (h : NamC w c x) : NamC w' c x := h.stay (T := fun _ => True) (Stay.ofMoves m) trivial trivial trivial
theorem NamsAt.slice {w : World} {v : Value} {xs : List Pnam} (h : NamsAt w v xs) : ∃ ad cap, v = .slice ad xs.length cap ∧ xs.length ≤ cap := by
  obtain ⟨css, h1, h2⟩ := h
  obtain ⟨ad, cap, e, k⟩ := h1.slice
  rw [h2.length] at e k
  exact ⟨ad, cap, e, k⟩
/-- Element k of such a list. -/
theorem NamsAt.at {w : World} {ad : Option Addr} {n cap : Nat} {xs : List Pnam} (h : NamsAt w (.slice ad n cap) xs) {k : Nat} {x : Pnam} (hk : xs[k]? = some x) :
    ∃ g off a2 n2 c2, ad = some ⟨g, off, none⟩ ∧ w.cell? ⟨g, off + k * 2, none⟩ = some (.string x.name) ∧ w.cell? ⟨g, off + k * 2 + 1, none⟩ = some (.slice a2 n2 c2) ∧ n2 = x.r.length ∧ ColsAt w (.slice a2 n2 c2) x.r := by
  obtain ⟨css, h1, h2⟩ := h
  obtain ⟨c, hc, lv, rfl, h3⟩ := h2.get hk
  obtain ⟨g, off, e, h4⟩ := h1.at hc
  obtain ⟨a2, c2, rfl, hle⟩ := h3.slice
  exact ⟨g, off, a2, _, c2, e, h4 0 _ rfl, h4 1 _ rfl, rfl, h3⟩
/-- A piece of such a list. -/
theorem Lies.takeN {w : World} {e : TypeId} {size : Nat} {ad : Option Addr} {n cap : Nat} {css : List (List Value)} (h : Lies w e size (.slice ad n cap) css) (k : Nat) (hk : k ≤ css.length) : Lies w e size (.slice ad k cap) (css.take k) := by
  obtain ⟨h0, ad', cap', e1, h2, h3, h4⟩ := h
  simp at e1
  obtain ⟨rfl, rfl, rfl⟩ := e1
  have hl : (css.take k).length = k := by rw [List.length_take]; omega
  refine ⟨fun c hc => h0 c (List.mem_of_mem_take hc), ad, cap, by rw [hl], by omega, h3, ?_⟩
  rcases h4 with rfl | ⟨g, off, arr, fz, k1, k2, k3⟩
  · exact .inl (by simp)
  · refine .inr ⟨g, off, arr, fz, k1, k2, fun j c hc => k3 j c ?_⟩
    rw [List.getElem?_take] at hc
    split at hc
    · exact hc
    · simp at hc
theorem Lies.dropN {w : World} {e : TypeId} {size : Nat} {ad : Option Addr} {n cap : Nat} {css : List (List Value)} (h : Lies w e size (.slice ad n cap) css) (k : Nat) (hk : k ≤ css.length) : Lies w e size (.slice (if cap = k then ad else ad.map (·.add (k * size))) (n - k) (cap - k)) (css.drop k) := by
  obtain ⟨h0, ad', cap', e1, h2, h3, h4⟩ := h
  simp at e1
  obtain ⟨rfl, rfl, rfl⟩ := e1
  refine ⟨fun c hc => h0 c (List.mem_of_mem_drop hc), _, _, by rw [List.length_drop], by rw [List.length_drop]; omega, ?_, ?_⟩
  · intro hn
    split at hn
    · omega
    · have : ad = none := by cases ad <;> simp_all
      have := h3 this
      omega
  · by_cases hd : css.drop k = []
    · exact .inl hd
    · have hlt : k < css.length := Nat.lt_of_not_le fun hle => hd (List.drop_of_length_le hle)
      rw [if_neg (by omega)]
      rcases h4 with rfl | ⟨g, off, arr, fz, rfl, k2, k3⟩
      · simp at hlt
      · refine .inr ⟨g, off + k * size, arr, fz, ?_, k2, fun j c hc i u hi => ?_⟩
        · simp only [Option.map_some, Option.some.injEq]
          unfold Addr.add; split <;> simp_all
        · rw [List.getElem?_drop] at hc
          have := k3 (k + j) c hc i u hi
          rw [Nat.add_mul, ← Nat.add_assoc] at this
          exact this
theorem NamsAt.take {w : World} {ad : Option Addr} {n cap : Nat} {xs : List Pnam} (h : NamsAt w (.slice ad n cap) xs) (k : Nat) (hk : k ≤ xs.length) : NamsAt w (.slice ad k cap) (xs.take k) := by
  obtain ⟨css, h1, h2⟩ := h
  exact ⟨css.take k, h1.takeN k (by rw [h2.length]; exact hk), h2.take k⟩
theorem NamsAt.drop {w : World} {ad : Option Addr} {n cap : Nat} {xs : List Pnam} (h : NamsAt w (.slice ad n cap) xs) (k : Nat) (hk : k ≤ xs.length) : NamsAt w (.slice (if cap = k then ad else ad.map (·.add (k * 2))) (n - k) (cap - k)) (xs.drop k) := by
  obtain ⟨css, h1, h2⟩ := h
  exact ⟨css.drop k, h1.dropN k (by rw [h2.length]; exact hk), h2.drop k⟩

theorem GrowN.nil (W w : World) : GrowN W w (.slice none 0 0) [] := ⟨Fresh.nil _, [], OwnL.nil _ _ _, trivial⟩
theorem GrowN.at {W w : World} {v : Value} {xs : List Pnam} (h : GrowN W w v xs) : NamsAt w v xs := by
  obtain ⟨_, css, h1, h2⟩ := h
  exact ⟨css, Lies.ofOwn h1, h2⟩
theorem GrowN.moves {W w w' : World} {S : List Nat} (m : Moves S w w') {v : Value} {xs : List Pnam} (h : GrowN W w v xs) (hv : ∀ k, v.ownBlock = some k → k ∉ S) (hs : Stay (fun t => t = 5 ∨ t = 79 ∨ t = 33) w w') : GrowN W w' v xs := by
  obtain ⟨h0, css, h1, h2⟩ := h
  exact ⟨h0, css, h1.moves m hv, h2.mono fun _ _ k => k.stay hs (.inl rfl) (.inr (.inl rfl)) (.inr (.inr rfl))⟩
theorem GrowN.moves0 {W w w' : World} (m : Moves [] w w') {v : Value} {xs : List Pnam} (h : GrowN W w v xs) : GrowN W w' v xs := h.moves m (by simp) (Stay.ofMoves m)
theorem GrowN.slice {W w : World} {v : Value} {xs : List Pnam} (h : GrowN W w v xs) : ∃ ad cap, v = .slice ad xs.length cap ∧ xs.length ≤ cap := h.at.slice
theorem GrowN.open {W w : World} {v : Value} {xs : List Pnam} (h : GrowN W w v xs) : ∃ ad n cap, v = .slice ad n cap ∧ Hid (n = xs.length) ∧ n ≤ cap := by
  obtain ⟨ad, cap, rfl, hc⟩ := h.slice
  exact ⟨ad, _, cap, rfl, rfl, hc⟩
theorem GrowN.elder {W W' w : World} {v : Value} {xs : List Pnam} (h : GrowN W' w v xs) (hle : W.heap.size ≤ W'.heap.size) : GrowN W w v xs := ⟨fun k hk => Nat.le_trans hle (h.1 k hk), h.2⟩

theorem nam_info : (Try.prog.info? 53).map (fun i => (i.zero, i.size, i.bytes)) = some (some (.agg #[.string ByteArray.empty, .slice none 0 0]), 2, 40) := by kernel_rfl
theorem growN_wp {o : Oper} {a : Act} {K : Act → World → Prop} {Q : Exit → Act → World → Prop} {W w : World} (s x : Operand)
    (ho : o.op = .call { callee := .builtin .append, args := #[s, x], argTypes := #[27, 27] })
    (v yv : Value) (xs ys : List Pnam) (hs : a.eval s = v) (hx : a.eval x = yv)
    (hv : GrowN W w v xs) (hy : NamsAt w yv ys) (hm : W.heap.size ≤ w.heap.size) (hb : xs.length + ys.length ≤ 1048576)
    (h : ∀ v' w', GrowN W w' v' (xs ++ ys) → Moves v.ownBlock.toList w w' → Stay (· ≠ 53) w w' → Lain w v v' → K (a.put o.dst v') w') :
    o.wp Try.prog a w K Q := by
  obtain ⟨ds, hd, hys⟩ := hy
  have e : ∀ u xs, Grow NamC 53 2 (cutTo W w) u v xs → True := fun _ _ _ => trivial
  refine grow_append (W := cutTo W w) s x _ 53 _ 2 40 nam_info Try.underlying27 rfl (by omega) (by omega) (fun _ _ _ h => h.one) (fun _ _ _ _ h hs => h.stay hs (by decide) (by decide) (by decide)) ho v yv xs ys ds hs hx ?_ hd hys (cutTo_moves hm) hb ?_
  · unfold GrowN Grow Fresh at hv
    unfold Grow Fresh
    rw [cutTo_size hm]
    exact hv
  · intro v' w' h1 _ h3 h4 h5
    refine h v' w' ?_ h3 h4 h5
    unfold Grow Fresh at h1
    rw [cutTo_size hm] at h1
    exact h1
theorem growN_append {ops : Array Oper} {rest : List Oper} {o : Oper} {a : Act} {Q : Exit → Act → World → Prop} {W w : World} (s x : Operand)
    (ho : o.op = .call { callee := .builtin .append, args := #[s, x], argTypes := #[27, 27] })
    (v yv : Value) (xs ys : List Pnam) (hs : a.eval s = v) (hx : a.eval x = yv) (hw : Region.wanted o (yielded ops a.tmps) = true)
    (hv : GrowN W w v xs) (hy : NamsAt w yv ys) (hm : W.heap.size ≤ w.heap.size) (hb : xs.length + ys.length ≤ 1048576)
    (h : ∀ v' w', GrowN W w' v' (xs ++ ys) → Moves v.ownBlock.toList w w' → Stay (· ≠ 53) w w' → Lain w v v' → wpList Try.prog ops Q rest (a.put o.dst v') w') :
    wpList Try.prog ops Q (o :: rest) a w := by
  refine wpList_wanted hw (wpList_plain rfl fun K hK => ?_)
  exact growN_wp s x ho v yv xs ys hs hx hv hy hm hb (fun v' w' h1 h3 h4 h5 => hK _ _ (h v' w' h1 h3 h4 h5))
theorem growN_step {ops : Array Oper} {o : Oper} {a : Act} {K : Act → World → Prop} {Q : Exit → Act → World → Prop} {W w : World} (s x : Operand)
    (ho : o.op = .call { callee := .builtin .append, args := #[s, x], argTypes := #[27, 27] })
    (v yv : Value) (xs ys : List Pnam) (hs : a.eval s = v) (hx : a.eval x = yv) (hw : Region.wanted o (yielded ops a.tmps) = true)
    (hv : GrowN W w v xs) (hy : NamsAt w yv ys) (hm : W.heap.size ≤ w.heap.size) (hb : xs.length + ys.length ≤ 1048576)
    (h : ∀ v' w', GrowN W w' v' (xs ++ ys) → Moves v.ownBlock.toList w w' → Stay (· ≠ 53) w w' → Lain w v v' → K (a.put o.dst v') w') :
    if Region.wanted o (yielded ops a.tmps) then o.wp Try.prog a w K Q else K (a.put o.dst undef) w := by
  rw [if_pos hw]
  exact growN_wp s x ho v yv xs ys hs hx hv hy hm hb h
/-- One new element. -/
theorem nams_new (w : World) (c0 c1 : Value) (x : Pnam) (h : NamC w [c0, c1] x) : NamsAt (w.alloc (.cells #[c0, c1] 53)) (.slice (some ⟨w.heap.size, 0, none⟩) 1 1) [x] :=
  ⟨_, lies_new w [c0, c1] _, h.moves ((Moves.refl _ _).alloc _), trivial⟩

/-- What a list of one's own is, opened; a list with other elements in the same block. -/
theorem GrowN.own {W w : World} {ad : Option Addr} {n cap : Nat} {xs : List Pnam} (h : GrowN W w (.slice ad n cap) xs) (hpos : 0 < cap) : ∃ g cur css, ad = some ⟨g, 0, none⟩ ∧ W.heap.size ≤ g ∧ w.heap[g]? = some (.cells cur 53 (0, 0)) ∧ n = xs.length ∧ n ≤ cap ∧ cap ≤ maxLen ∧ cur.size = cap * 2 ∧ cur.toList.take (n * 2) = css.flatten ∧ (∀ c ∈ css, c.length = 2) ∧ css.length = n ∧ All2 (NamC w) css xs := by
  obtain ⟨hf, css, h1, h2⟩ := h
  have hl := h2.length
  rcases h1.2.2 with ⟨e, _⟩ | ⟨g, cap', cur, e, _, hg, k1, k2, k3, k4⟩
  · simp at e; omega
  · simp at e
    obtain ⟨rfl, rfl, rfl⟩ := e
    exact ⟨g, cur, css, rfl, hf g rfl, hg, by omega, k1, k2, k3, k4, h1.1, rfl, h2⟩
theorem GrowN.mk' {W w : World} {g n cap : Nat} {cur : Array Value} {css : List (List Value)} {xs : List Pnam} (hg : w.heap[g]? = some (.cells cur 53 (0, 0))) (hW : W.heap.size ≤ g) (hn : css.length = n) (h1 : n ≤ cap) (h2 : cap ≤ maxLen) (h3 : cur.size = cap * 2) (h4 : cur.toList.take (n * 2) = css.flatten) (h5 : ∀ c ∈ css, c.length = 2) (h6 : All2 (NamC w) css xs) : GrowN W w (.slice (some ⟨g, 0, none⟩) n cap) xs := by
  subst hn
  refine ⟨fun k hk => by simp [Value.ownBlock] at hk; omega, css, ⟨h5, flatten_length h5, .inr ⟨g, cap, cur, rfl, Nat.zero_le _, hg, h1, h2, h3, h4⟩⟩, h6⟩
/-- copy, of elements of any size. -/
theorem run_copy_many {P : Program} (w : World) (dT sT ty elem : TypeId) (g o dLen dCap : Nat) (a : Addr) (sLen sCap size : Nat) (cur : Array Value) (t : TypeId) (cs : List Value)
    (hu : P.underlying dT = some (.slice elem)) (hs : (P.info? elem).map (·.size) = some size)
    (hg : w.heap[g]? = some (.cells cur t (0, 0))) (hn : cs.length = Nat.min sLen dLen * size)
    (hsrc : ∀ j v, cs[j]? = some v → w.cell? (a.add j) = some v) (hfit : o + cs.length ≤ cur.size) (h1 : ∀ v ∈ cs, v.oneCell' = true) :
    (Builtin.copy_ #[dT, sT] ty #[.slice (some ⟨g, o, none⟩) dLen dCap, .slice (some a) sLen sCap]).run P w =
      .ok (goInt (Nat.min sLen dLen)) (w.setRow g (cur.toList.take o ++ cs ++ cur.toList.drop (o + cs.length)).toArray) := by
  have hl := run_loadCells_list (P := P) w a cs hsrc
  have hst := run_storeCells_at P g o t cs 0 cur w hg (by simpa using hfit) h1
  cases hq : P.info? elem with
  | none => simp [hq] at hs
  | some i =>
    have hi : i.size = size := by simpa [hq] using hs
    simp [Builtin.copy_, run_underlying hu, Builtin.lenOf, Builtin.firstCells, sizeOf, typeInfo, hq, hi, ← hn, hl, hst]
theorem moves_row (w : World) (g : Nat) (cs : Array Value) : Moves [g] w (w.setRow g cs) :=
  ⟨rfl, rfl, rfl, by simp [World.setRow], fun k _ hk => setRow_other w g k cs (by simpa using hk)⟩

/-- A table: its list, in the row of block a. -/
def TabIs (W w : World) (p : Nat) (a : Option Nat) (xs : List Pnam) : Prop :=
  ∃ v, w.heap[p]? = some (.cells #[v] 65 (0, 0)) ∧ v.ownBlock = a ∧ GrowN W w v xs
/-- From w0 to w the table at p alone was written to, and has xs now. -/
def TabTo (W w0 : World) (p : Nat) (a0 : Option Nat) (w : World) (a : Option Nat) (xs : List Pnam) : Prop :=
  TabIs W w p a xs ∧ Moves (p :: a0.toList) w0 w ∧ (a = a0 ∨ ∃ k, a = some k ∧ w0.heap.size ≤ k)
theorem TabIs.ltp {W w : World} {p : Nat} {a : Option Nat} {xs : List Pnam} (h : TabIs W w p a xs) : p < w.heap.size := by
  obtain ⟨v, h, _⟩ := h
  exact lt_of_block h
theorem TabIs.moves {W w w' : World} {p : Nat} {a : Option Nat} {xs : List Pnam} {S : List Nat} (h : TabIs W w p a xs) (m : Moves S w w') (hp : p ∉ S) (ha : ∀ k, a = some k → k ∉ S) (hs : Stay (fun t => t = 5 ∨ t = 79 ∨ t = 33) w w') : TabIs W w' p a xs := by
  obtain ⟨v, h1, rfl, h3⟩ := h
  exact ⟨v, m.at h1 hp, rfl, h3.moves m ha hs⟩
theorem TabIs.moves0 {W w w' : World} {p : Nat} {a : Option Nat} {xs : List Pnam} (h : TabIs W w p a xs) (m : Moves [] w w') : TabIs W w' p a xs := h.moves m (by simp) (by simp) (Stay.ofMoves m)
end Go.Proofs.Ytcngllcifcpbkaa
/-
  Names in their order, as a list of rows has them: where a name is, or would be: the library's search, the table's place.
-/
namespace Go.Proofs.Ytcngllcifcpbkaa
open Go.RowKit

def scmp (a b : ByteArray) : Int := Lib.compareBytes a.data.toList b.data.toList
theorem cmpB_lt : ∀ a b : List UInt8, (Lib.compareBytes a b < 0) ↔ Op.bytesLess a b = true
  | [], [] => by simp [Lib.compareBytes, Op.bytesLess]
  | [], _ :: _ => by simp [Lib.compareBytes, Op.bytesLess]
  | _ :: _, [] => by simp [Lib.compareBytes, Op.bytesLess]
  | a :: s, b :: t => by
    have ih := cmpB_lt s t
    unfold Lib.compareBytes Op.bytesLess
    by_cases h1 : a < b
    · simp [h1]
    · by_cases h2 : b < a
      · have h3 : (a == b) = false := by
          simp only [beq_eq_false_iff_ne, ne_eq]
          intro e; subst e; exact h1 h2
        simp [h1, h2, h3]
      · have h3 : a = b := by
          have e1 : a ≤ b := UInt8.not_lt.1 h2
          have e2 : b ≤ a := UInt8.not_lt.1 h1
          exact UInt8.le_antisymm e1 e2
        subst h3
        simp [h1, ih]
theorem cmpB_eq : ∀ a b : List UInt8, (Lib.compareBytes a b = 0) ↔ a = b
  | [], [] => by simp [Lib.compareBytes]
  | [], _ :: _ => by simp [Lib.compareBytes]
  | _ :: _, [] => by simp [Lib.compareBytes]
  | a :: s, b :: t => by
    have ih := cmpB_eq s t
    unfold Lib.compareBytes
    by_cases h1 : a < b
    · have : a ≠ b := by intro e; subst e; exact UInt8.lt_irrefl _ h1
      simp [h1, this]
    · by_cases h2 : b < a
      · have : a ≠ b := by intro e; subst e; exact UInt8.lt_irrefl _ h2
        simp [h1, h2, this]
      · have h3 : a = b := UInt8.le_antisymm (UInt8.not_lt.1 h2) (UInt8.not_lt.1 h1)
        subst h3
        simp [h1, ih]
theorem scmp_lt (a b : ByteArray) : decide (scmp a b < 0) = nlt a b := by
  unfold scmp nlt
  rw [ByteArray.toList_eq, ByteArray.toList_eq]
  cases h : Op.bytesLess a.data.toList b.data.toList with
  | true => exact decide_eq_true ((cmpB_lt _ _).2 h)
  | false => exact decide_eq_false (fun e => by rw [(cmpB_lt _ _).1 e] at h; simp at h)
theorem scmp_eq (a b : ByteArray) : (scmp a b == 0) = neq a b := by
  unfold scmp neq
  rw [ByteArray.toList_eq, ByteArray.toList_eq]
  cases h : (a.data.toList == b.data.toList) with
  | true => rw [beq_iff_eq] at h; rw [beq_iff_eq]; exact (cmpB_eq _ _).2 h
  | false =>
    rw [beq_eq_false_iff_ne] at h ⊢
    exact fun e => h ((cmpB_eq _ _).1 e)

def RiseN (xs : List Pnam) : Prop := xs.Pairwise (fun a b => nlt a.name b.name = true)
theorem RiseN.lt {xs : List Pnam} (h : RiseN xs) {j k : Nat} {x y : Pnam} (hx : xs[j]? = some x) (hy : xs[k]? = some y) (hjk : j < k) : nlt x.name y.name = true := by
  obtain ⟨h1, rfl⟩ := List.getElem?_eq_some_iff.1 hx
  obtain ⟨h2, rfl⟩ := List.getElem?_eq_some_iff.1 hy
  exact List.pairwise_iff_getElem.1 h j k h1 h2 hjk
/-- The place of a name, or where it would be. -/
structure PlaceIs (xs : List Pnam) (s : ByteArray) (i : Nat) : Prop where
  le : i ≤ xs.length
  lo : ∀ k x, xs[k]? = some x → k < i → nlt x.name s = true
  hi : ∀ k x, xs[k]? = some x → i ≤ k → nlt x.name s = false
def hasAt (xs : List Pnam) (s : ByteArray) (i : Nat) : Bool := match xs[i]? with
  | some x => neq x.name s
  | none => false

set_option maxRecDepth 100000 in
theorem place1_w (nm s : ByteArray) (ad : Option Addr) (n cap : Nat) (w : World) : Calls Try.prog 48 #[.agg #[.string nm, .slice ad n cap], .string s] w fun e w' => e = .returned (.int .i64 (scmp nm s)) ∧ Moves [] w w' := by
  have hr : ∀ w1 : World, (callFunc 87 #[.string nm, .string s]).run Try.prog w1 = .ok (.value (.int .i64 (scmp nm s))) w1 := by
    intro w1
    rw [run_callFunc_extern Try.func87 (by kernel_rfl) (by kernel_rfl) (by kernel_rfl) (e := Extern.BytealgCompare.compare) (by kernel_rfl), Lib.run_compareString]
    rfl
  have h1 : ∀ w1 : World, Calls Try.prog 49 #[.string nm, .string s] w1 fun e w' => e = .returned (.int .i64 (scmp nm s)) ∧ w1 = w' := by
    intro w1
    go_enter Try.func49, Try.ntmps49
    go_wp2
    go_ret
    exact ⟨rfl, rfl⟩
  go_enter Try.func48, Try.ntmps48
  go_wp2_with (go_at_call 49; refine (h1 _).mono ?_; rintro _ _ ⟨rfl, rfl⟩)
  go_ret
  exact ⟨rfl, (Moves.refl _ _).alloc _⟩

set_option maxRecDepth 100000 in
set_option maxHeartbeats 4000000 in
theorem search_w (W w : World) (ad : Option Addr) (n cap : Nat) (xs : List Pnam) (s : ByteArray) (h : NamsAt W (.slice ad n cap) xs) (hn : n = xs.length) (m : Moves [] W w) (hr : RiseN xs) (hl : n ≤ 1000000) :
    Calls Try.prog 47 #[.slice ad n cap, .string s, .func (.func 48) #[] #[]] w fun e w' => ∃ i : Nat, e = .returned (.tuple #[.int .i64 (i : Int), .bool (hasAt xs s i)]) ∧ PlaceIs xs s i ∧ Moves [] w w' := by
  have HN : Hid (n = xs.length) := hn
  have HH : Hid (NamsAt W (.slice ad n cap) xs) := h
  have HW : Hid (Moves [] W w) := m
  have hcf : ∀ (args : Array Value) (w : World), (callFunc 48 args).run Try.prog w = .ok (.enter 48 args) w := fun _ _ => rfl
  clear hn h m
  go_enter Try.func47, Try.ntmps47
  go_wp2_with fail
  go_loopw [9, 10] (fun vi vj wr => ∃ (i j : Nat), i ≤ j ∧ j ≤ n ∧ vi = .int .i64 (i : Nat) ∧ vj = .int .i64 (j : Nat) ∧ Moves [] w wr ∧ (∀ k x, xs[k]? = some x → k < i → nlt x.name s = true) ∧ (∀ k x, xs[k]? = some x → j ≤ k → nlt x.name s = false)) (fun vi vj _ => (intOf vj - intOf vi).toNat)
  case atStart => exact ⟨0, n, Nat.zero_le _, Nat.le_refl _, rfl, rfl, Moves.refl _ _, fun k x _ hk => absurd hk (by omega), fun k x hx hk => by have := (List.getElem?_eq_some_iff.1 hx).1; have := HN.out; omega⟩
  case round =>
    obtain ⟨i, j, hij, hjn, rfl, rfl, mr, hlo, hhi⟩ := hrel
    have HLO : Hid (∀ k x, xs[k]? = some x → k < i → nlt x.name s = true) := hlo
    have HHI : Hid (∀ k x, xs[k]? = some x → j ≤ k → nlt x.name s = false) := hhi
    clear hlo hhi
    by_cases hlt : i < j
    · have hk3 : (i : Int) < j := by omega
      obtain ⟨q, hq⟩ : ∃ q, q = (i + j) / 2 := ⟨_, rfl⟩
      have hqi : i ≤ q := by omega
      have hqj : q < j := by omega
      have hqn : (q : Int) < n := by omega
      have hmid : ((i : Int) + (j : Int)) / 2 = (q : Int) := by omega
      have hmid2 : ((i : Int) + (j : Int)) / 2 ^ 1 = (q : Int) := by omega
      obtain ⟨x, hx⟩ : ∃ x, xs[q]? = some x := ⟨_, List.getElem?_eq_getElem (by have := HN.out; omega)⟩
      obtain ⟨g, off, a2, n2, c2, rfl, y0, y1, _, _⟩ := HH.out.at hx
      have z0 := (HW.out.then mr).cell y0
      have z1 := (HW.out.then mr).cell y1
      have HX : Hid (xs[q]? = some x) := hx
      have hsl := scmp_lt x.name s
      obtain ⟨sc, hsc⟩ : ∃ sc, scmp x.name s = sc := ⟨_, rfl⟩
      rw [hsc] at hsl
      have HSC : Hid (scmp x.name s = sc) := hsc
      have HSL : Hid (decide (sc < 0) = nlt x.name s) := hsl
      clear hx y0 y1 hsc hsl hq
      by_cases hs : sc < 0
      · go_wp2_with (go_at_call 48; refine (place1_w _ _ _ _ _ _).mono ?_; rintro _ w2 ⟨rfl, m2⟩; rw [HSC.out])
        go_roundw
        case rel =>
          refine ⟨q + 1, j, by omega, hjn, by go_num, rfl, mr.then m2, fun k y hy hk => ?_, HHI.out⟩
          have hxs : nlt x.name s = true := by rw [← HSL.out]; exact decide_eq_true hs
          by_cases e : k = q
          · subst e; rw [HX.out] at hy; simp at hy; subst hy; exact hxs
          · exact nlt_trans (hr.lt hy HX.out (by omega)) hxs
        case measure => simp [intOf]; omega
      · go_wp2_with (go_at_call 48; refine (place1_w _ _ _ _ _ _).mono ?_; rintro _ w2 ⟨rfl, m2⟩; rw [HSC.out])
        go_roundw
        case rel =>
          refine ⟨i, q, by omega, by omega, rfl, rfl, mr.then m2, HLO.out, fun k y hy hk => ?_⟩
          have hxs : nlt x.name s = false := by rw [← HSL.out]; exact decide_eq_false (by omega)
          by_cases e : k = q
          · subst e; rw [HX.out] at hy; simp at hy; subst hy; exact hxs
          · cases hq2 : nlt y.name s with
            | false => rfl
            | true => rw [nlt_trans (hr.lt HX.out hy (by omega)) hq2] at hxs; simp at hxs
        case measure => simp [intOf]; omega
    · have hk3 : ¬ (i : Int) < j := by omega
      obtain rfl : i = j := by omega
      have HP : Hid (PlaceIs xs s i) := ⟨by have := HN.out; omega, HLO.out, HHI.out⟩
      by_cases hin : i < n
      · have hin3 : (i : Int) < n := by omega
        obtain ⟨x, hx⟩ : ∃ x, xs[i]? = some x := ⟨_, List.getElem?_eq_getElem (by have := HN.out; omega)⟩
        obtain ⟨g, off, a2, n2, c2, rfl, y0, y1, _, _⟩ := HH.out.at hx
        have z0 := (HW.out.then mr).cell y0
        have z1 := (HW.out.then mr).cell y1
        have HA : Hid (hasAt xs s i = (scmp x.name s == 0)) := by unfold Hid hasAt; rw [hx, scmp_eq]
        clear hx y0 y1
        go_wp2_with (go_at_call 48; refine (place1_w _ _ _ _ _ _).mono ?_; rintro _ w2 ⟨rfl, m2⟩)
        go_ret2
        exact ⟨i, by rw [HA.out]; rfl, HP.out, mr.then m2⟩
      · have hin3 : ¬ (i : Int) < n := by omega
        have HA : Hid (hasAt xs s i = false) := by unfold Hid hasAt; rw [List.getElem?_eq_none (by have := HN.out; omega)]
        go_wp2_with fail
        go_ret2
        exact ⟨i, by rw [HA.out]; rfl, HP.out, mr⟩

set_option maxRecDepth 100000 in
theorem tplace_w (W w : World) (p : Nat) (a : Option Nat) (xs : List Pnam) (s : ByteArray) (h : TabIs W w p a xs) (hr : RiseN xs) (hl : xs.length ≤ 1000000) :
    Calls Try.prog 25 #[.pointer (some ⟨p, 0, none⟩), .string s] w fun e w' => ∃ i : Nat, e = .returned (.tuple #[.int .i64 (i : Int), .bool (hasAt xs s i)]) ∧ PlaceIs xs s i ∧ Moves [] w w' := by
  obtain ⟨v, hp, _, hG⟩ := h
  obtain ⟨ad, n, cap, rfl, hn, _⟩ := hG.open
  obtain ⟨c0, _⟩ := one_cell hp
  have hS := search_w w w ad n cap xs s hG.at hn.out (Moves.refl _ _) hr (by rw [hn.out]; exact hl)
  go_enter Try.func25, Try.ntmps25
  go_wp2_with (go_at_call 47; refine hS.mono ?_; rintro _ w2 ⟨i, rfl, hP, m2⟩)
  go_ret2
  exact ⟨i, rfl, hP, m2⟩
end Go.Proofs.Ytcngllcifcpbkaa
/-
  The library's Insert of one row into a list of one's own: the list with it at its place, in the same block or in a new one; nothing else is written.
-/
namespace Go.Proofs.Ytcngllcifcpbkaa
open Go.RowKit

theorem nams_box {w : World} {gv : Nat} {x : Pnam} {a2 : Option Addr} {n2 c2 : Nat} (hv : w.heap[gv]? = some (.cells #[.string x.name, .slice a2 n2 c2] 53 (0, 0))) (hx : ColsAt w (.slice a2 n2 c2) x.r) : NamsAt w (.slice (some ⟨gv, 0, none⟩) 1 1) [x] := by
  refine ⟨[[.string x.name, .slice a2 n2 c2]], ⟨by simp, _, 1, rfl, Nat.le_refl _, fun h => by simp at h, .inr ⟨gv, 0, _, _, rfl, hv, fun k c hk j u hj => ?_⟩⟩, ⟨_, rfl, hx⟩, trivial⟩
  match k, hk with
  | 0, hk =>
    simp at hk
    subst hk
    simpa using hj
theorem step_copy_run {ops : Array Oper} {o : Oper} {a : Act} {w : World} {K : Act → World → Prop} {Q : Exit → Act → World → Prop} (d x : Operand) (dT sT : TypeId) (hop : o.op = Op.call { callee := Callee.builtin Builtin.copy, args := #[d, x], argTypes := #[dT, sT] })
    (v u : Value) (hd : a.eval d = v) (hx : a.eval x = u) (hw : Region.wanted o (yielded ops a.tmps) = true) {v' : Value} {w' : World} (hr : (Builtin.copy_ #[dT, sT] o.type #[v, u]).run Try.prog w = .ok v' w') (hK : K (a.put o.dst v') w') :
    if Region.wanted o (yielded ops a.tmps) then o.wp Try.prog a w K Q else K (a.put o.dst undef) w := by
  rw [if_pos hw]
  unfold Oper.wp
  simp [execOp, hop, resolve, invoke, builtin, hd, hx, hr, Result.andThen]
  exact hK
theorem list_append_run {ops : Array Oper} {rest : List Oper} {o : Oper} {a : Act} {w : World} {Q : Exit → Act → World → Prop} (hgd : o.guard = none) (d x : Operand) (dT sT : TypeId) (hop : o.op = Op.call { callee := Callee.builtin Builtin.append, args := #[d, x], argTypes := #[dT, sT] })
    (v u : Value) (hd : a.eval d = v) (hx : a.eval x = u) {v' : Value} {w' : World} (hr : (Builtin.append_ #[dT, sT] o.type #[v, u]).run Try.prog w = .ok v' w') (h : wpList Try.prog ops Q rest (a.put o.dst v') w') : wpList Try.prog ops Q (o :: rest) a w := by
  refine wpList_plain hgd fun K hK => ?_
  unfold Oper.wp
  simp [execOp, hop, resolve, invoke, builtin, hd, hx, hr, Result.andThen]
  exact hK _ _ h

theorem splice_room {α : Type} (A B S X : List α) (hX : X.length = 2) (hS : 2 ≤ S.length) :
    (((((A ++ B ++ S).take (A.length + 2) ++ B ++ (A ++ B ++ S).drop (A.length + 2 + B.length)).take A.length ++ X ++ ((A ++ B ++ S).take (A.length + 2) ++ B ++ (A ++ B ++ S).drop (A.length + 2 + B.length)).drop (A.length + 2)).take (A.length + 2 + B.length)) = A ++ X ++ B) ∧
    ((((A ++ B ++ S).take (A.length + 2) ++ B ++ (A ++ B ++ S).drop (A.length + 2 + B.length)).take A.length ++ X ++ ((A ++ B ++ S).take (A.length + 2) ++ B ++ (A ++ B ++ S).drop (A.length + 2 + B.length)).drop (A.length + 2)).length = (A ++ B ++ S).length) ∧
    (((A ++ B ++ S).take (A.length + 2) ++ B ++ (A ++ B ++ S).drop (A.length + 2 + B.length)).length = (A ++ B ++ S).length) := by
  obtain ⟨T, hT⟩ : ∃ T, (A ++ B ++ S).take (A.length + 2) = A ++ T ∧ T.length = 2 := by
    refine ⟨(B ++ S).take 2, ?_, by rw [List.length_take, List.length_append]; omega⟩
    rw [List.append_assoc, List.take_append, List.take_of_length_le (by omega)]
    congr 2
    omega
  obtain ⟨U, hU⟩ : ∃ U, (A ++ B ++ S).drop (A.length + 2 + B.length) = U ∧ U.length + 2 + A.length + B.length = (A ++ B ++ S).length := ⟨_, rfl, by simp; omega⟩
  rw [hT.1, hU.1]
  have e1 : (A ++ T ++ B ++ U).take A.length = A := by rw [List.append_assoc, List.append_assoc, List.take_left]
  have e2 : (A ++ T ++ B ++ U).drop (A.length + 2) = B ++ U := by
    have : A.length + 2 = (A ++ T).length := by rw [List.length_append, hT.2]
    rw [List.append_assoc (A ++ T), this, List.drop_left]
  rw [e1, e2]
  refine ⟨?_, ?_, ?_⟩
  · have : A.length + 2 + B.length = (A ++ X ++ B).length := by simp only [List.length_append, hX]
    rw [← List.append_assoc, this, List.take_left]
  · have := hU.2
    simp only [List.length_append] at this ⊢
    omega
  · have := hU.2
    have := hT.2
    simp only [List.length_append] at *
    omega
theorem splice_grow {α : Type} (A B Z X : List α) (hX : X.length = 2) (hZ : B.length + 2 ≤ Z.length) :
    (((((A ++ Z).take A.length ++ X ++ (A ++ Z).drop (A.length + 2)).take (A.length + 2) ++ B ++ ((A ++ Z).take A.length ++ X ++ (A ++ Z).drop (A.length + 2)).drop (A.length + 2 + B.length)).take (A.length + 2 + B.length)) = A ++ X ++ B) ∧
    ((((A ++ Z).take A.length ++ X ++ (A ++ Z).drop (A.length + 2)).take (A.length + 2) ++ B ++ ((A ++ Z).take A.length ++ X ++ (A ++ Z).drop (A.length + 2)).drop (A.length + 2 + B.length)).length = (A ++ Z).length) ∧
    (((A ++ Z).take A.length ++ X ++ (A ++ Z).drop (A.length + 2)).length = (A ++ Z).length) := by
  have e0 : (A ++ Z).take A.length = A := List.take_left
  have e1 : (A ++ Z).drop (A.length + 2) = Z.drop 2 := by rw [List.drop_append, List.drop_of_length_le (by omega), List.nil_append]; congr 1; omega
  rw [e0, e1]
  have e2 : (A ++ X ++ Z.drop 2).take (A.length + 2) = A ++ X := by
    have : A.length + 2 = (A ++ X).length := by rw [List.length_append, hX]
    rw [this, List.take_left]
  rw [e2]
  refine ⟨?_, ?_, ?_⟩
  · have : A.length + 2 + B.length = (A ++ X ++ B).length := by simp only [List.length_append, hX]
    rw [this, List.take_left]
  · simp only [List.length_append, List.length_drop, hX]
    omega
  · simp only [List.length_append, List.length_drop, hX]
    omega

/-- What Insert leaves. -/
def Inserted (W w w' : World) (v : Value) (xs : List Pnam) (e : Ending) : Prop :=
  ∃ ad n cap, e = .returned (.slice ad n cap) ∧ GrowN W w' (.slice ad n cap) xs ∧ Moves v.ownBlock.toList w w' ∧ Stay (fun t => t = 5 ∨ t = 79 ∨ t = 33) w w' ∧ ((Value.slice ad n cap).ownBlock = v.ownBlock ∨ ∃ k, (Value.slice ad n cap).ownBlock = some k ∧ w.heap.size ≤ k)

set_option maxRecDepth 100000 in
set_option maxHeartbeats 4000000 in
theorem insert_end (W w : World) (ad : Option Addr) (n cap : Nat) (xs : List Pnam) (x : Pnam) (a2 : Option Addr) (n2 c2 gv : Nat) (h : GrowN W w (.slice ad n cap) xs) (hn : n = xs.length) (hl : n ≤ 1000)
    (hv : w.heap[gv]? = some (.cells #[.string x.name, .slice a2 n2 c2] 53 (0, 0))) (hx : ColsAt w (.slice a2 n2 c2) x.r) (hW : W.heap.size ≤ w.heap.size) :
    Calls Try.prog 28 #[.slice ad n cap, .int .i64 (n : Int), .slice (some ⟨gv, 0, none⟩) 1 1] w fun e w' => Inserted W w w' (.slice ad n cap) (xs ++ [x]) e := by
  have hy := nams_box hv hx
  have hc'' : n ≤ cap := by
    obtain ⟨_, _, e0, hc⟩ := h.slice
    simp at e0
    omega
  have hc' : (n : Int) ≤ cap := by omega
  have hbd : xs.length + [x].length ≤ 1048576 := by simp; omega
  have H : Hid (GrowN W w (.slice ad n cap) xs) := h
  have HN : Hid (n = xs.length) := hn
  clear hn h
  by_cases hcn : cap = n
  · subst hcn
    go_enter Try.func28, Try.ntmps28
    go_wp2_with (at_builtin; refine growN_append (.tmp 23) (.tmp 24) rfl (.slice ad cap cap) _ xs [x] rfl rfl (by rfl) H.out hy hW hbd ?_; intro v8 w8 hG8 m8 s8 l8; have hsl := hG8.open; obtain ⟨ad8, n8, cap8, rfl, hn8, _⟩ := hsl; have HN8 : Hid (n8 = _) := hn8; clear hn8)
    go_ret
    exact ⟨ad8, n8, cap8, rfl, hG8, m8, s8.weak (fun t ht => by rcases ht with rfl | rfl | rfl <;> decide), by rcases l8 with e | e; exact .inl e; exact .inr ⟨_, e, Nat.le_refl _⟩⟩
  · go_enter Try.func28, Try.ntmps28
    go_wp2_with (at_builtin; refine growN_append (.tmp 23) (.tmp 24) rfl (.slice ad n cap) _ xs [x] rfl rfl (by rfl) H.out hy hW hbd ?_; intro v8 w8 hG8 m8 s8 l8; have hsl := hG8.open; obtain ⟨ad8, n8, cap8, rfl, hn8, _⟩ := hsl; have HN8 : Hid (n8 = _) := hn8; clear hn8)
    go_ret
    exact ⟨ad8, n8, cap8, rfl, hG8, m8, s8.weak (fun t ht => by rcases ht with rfl | rfl | rfl <;> decide), by rcases l8 with e | e; exact .inl e; exact .inr ⟨_, e, Nat.le_refl _⟩⟩

set_option maxRecDepth 100000 in
set_option maxHeartbeats 4000000 in
theorem insert_room (W w : World) (ad : Option Addr) (n cap : Nat) (xs : List Pnam) (i : Nat) (x : Pnam) (a2 : Option Addr) (n2 c2 gv : Nat) (h : GrowN W w (.slice ad n cap) xs) (hn : n = xs.length) (hi : i < n) (hl : n ≤ 1000) (hroom : n < cap)
    (hv : w.heap[gv]? = some (.cells #[.string x.name, .slice a2 n2 c2] 53 (0, 0))) (hx : ColsAt w (.slice a2 n2 c2) x.r) (hgv : gv ∉ (Value.slice ad n cap).ownBlock.toList) :
    Calls Try.prog 28 #[.slice ad n cap, .int .i64 (i : Int), .slice (some ⟨gv, 0, none⟩) 1 1] w fun e w' => Inserted W w w' (.slice ad n cap) (xs.take i ++ [x] ++ xs.drop i) e := by
  obtain ⟨g, cur, css, rfl, hWg, hg, -, hcap, hmax, hcs, hcur, h2, hlen, hall⟩ := h.own (by omega)
  have hgg : gv ≠ g := by simpa [Value.ownBlock] using hgv
  have hfl := flatten_length h2
  have hz2 : ¬ ((i : Int) = (n : Int)) := by omega
  have hz3 : ¬ ((cap : Int) < (n : Int) + 1) := by omega
  have hb2 : ¬ (cap = i + 1) := by omega
  have hb4 : ¬ (cap = i) := by omega
  have hov : ∀ (w1 : World) lb cb, w1.heap[gv]? = some (.cells #[.string x.name, .slice a2 n2 c2] 53 (0, 0)) → w1.heap[g]? = some (.cells cur 53 (0, 0)) → (callFunc 52 #[.slice (some ⟨gv, 0, none⟩) 1 1, .slice (some ⟨g, (i + 1) * 2, none⟩) lb cb]).run Try.prog w1 = .ok (.value (.bool false)) w1 := by
    intro w1 lb cb k1 k2
    rw [run_callFunc_extern Try.func52 (by kernel_rfl) (by kernel_rfl) (by kernel_rfl) (e := Extern.SlicesOverlaps.overlaps #[27, 27] #[4]) (by kernel_rfl)]
    obtain ⟨i0, hi0, hz0, hz1, _⟩ := info_parts nam_info
    have hso : ∀ w, (Go.sizeOf 53).run Try.prog w = .ok 2 w := fun w => by simp [sizeOf, typeInfo, hi0, hz1]
    rw [Lib.run_overlaps_apart w1 27 4 53 Try.underlying27 2 hso ⟨gv, 0, none⟩ ⟨g, (i + 1) * 2, none⟩ 1 1 lb cb hgg 53 53 2 (cap * 2) (by simp [World.shape?, k1]) (by simp [World.shape?, k2, hcs]) (by omega) (by simp [World.frozen?, k1]) (by simp [World.frozen?, k1])]
    rfl
  obtain ⟨A, hA⟩ : ∃ A, (css.take i).flatten = A := ⟨_, rfl⟩
  obtain ⟨B, hB⟩ : ∃ B, (css.drop i).flatten = B := ⟨_, rfl⟩
  obtain ⟨S, hS⟩ : ∃ S, cur.toList.drop (n * 2) = S := ⟨_, rfl⟩
  have hAl : A.length = i * 2 := by rw [← hA, flatten_length (fun c hc => h2 c (List.mem_of_mem_take hc)), List.length_take]; congr 1; omega
  have hBl : B.length = (n - i) * 2 := by rw [← hB, flatten_length (fun c hc => h2 c (List.mem_of_mem_drop hc)), List.length_drop, hlen]
  have hSl : S.length = cap * 2 - n * 2 := by rw [← hS, List.length_drop, Array.length_toList, hcs]
  have hcurL : cur.toList = A ++ B ++ S := by
    rw [← List.take_append_drop (n * 2) cur.toList, hcur, hS, ← hA, ← hB, ← List.flatten_append, List.take_append_drop]
  obtain ⟨X, hX⟩ : ∃ X, [Value.string x.name, Value.slice a2 n2 c2] = X := ⟨_, rfl⟩
  have hXl : X.length = 2 := by rw [← hX]; rfl
  obtain ⟨p1, p2, p3⟩ := splice_room A B S X hXl (by omega)
  have hone : ∀ v ∈ css.flatten, v.oneCell' = true := fun v hv => by
    obtain ⟨c, hc, hv⟩ := List.mem_flatten.1 hv
    exact All2.mem (p := fun c => ∀ u ∈ c, u.oneCell' = true) (fun c b hc => hc.one) hall c hc v hv
  have hBone : ∀ v ∈ B, v.oneCell' = true := fun v hv => hone v (by rw [← hB] at hv; rw [← List.take_append_drop i css, List.flatten_append]; exact List.mem_append_right _ hv)
  have hXone : ∀ v ∈ X, v.oneCell' = true := fun v hv => by
    rw [← hX] at hv
    simp only [List.mem_cons, List.not_mem_nil, or_false] at hv
    rcases hv with rfl | rfl <;> rfl
  have hsz : (Try.prog.info? 53).map (·.size) = some 2 := by
    obtain ⟨i0, hi0, _, hz1, _⟩ := info_parts nam_info
    rw [hi0]; simp [hz1]
  obtain ⟨L1, hL1⟩ : ∃ L1, (A ++ B ++ S).take (A.length + 2) ++ B ++ (A ++ B ++ S).drop (A.length + 2 + B.length) = L1 := ⟨_, rfl⟩
  rw [hL1] at p1 p2 p3
  obtain ⟨L2, hL2⟩ : ∃ L2, L1.take A.length ++ X ++ L1.drop (A.length + 2) = L2 := ⟨_, rfl⟩
  rw [hL2] at p1 p2
  have hcp1 : ∀ (w1 : World) (ty : TypeId) (dc sc : Nat), w1.heap[g]? = some (.cells cur 53 (0, 0)) → (Builtin.copy_ #[27, 27] ty #[.slice (some ⟨g, (i + 1) * 2, none⟩) (n - i) dc, .slice (some ⟨g, i * 2, none⟩) (n + 1 - i) sc]).run Try.prog w1 = .ok (goInt (Nat.min (n + 1 - i) (n - i))) (w1.setRow g L1.toArray) := by
    intro w1 ty dc sc hg1
    have e := run_copy_many (P := Try.prog) w1 27 27 ty 53 g ((i + 1) * 2) (n - i) dc ⟨g, i * 2, none⟩ (n + 1 - i) sc 2 cur 53 B Try.underlying27 hsz hg1 (by rw [hBl]; simp only [Nat.min_def]; split <;> omega) (fun j v hj => by
      have e3 : (⟨g, i * 2, none⟩ : Addr).add j = ⟨g, i * 2 + j, none⟩ := by unfold Addr.add; split <;> simp_all
      have hjl := (List.getElem?_eq_some_iff.1 hj).1
      rw [e3]
      simp only [World.cell?, hg1]
      have : cur.toList[i * 2 + j]? = some v := by rw [hcurL, List.append_assoc, List.getElem?_append_right (by omega), hAl, Nat.add_sub_cancel_left, List.getElem?_append_left hjl]; exact hj
      simpa using this) (by rw [hBl, hcs]; omega) hBone
    rw [e]
    congr 3
    rw [← hL1, hcurL, hAl, hBl]
    have e4 : (i + 1) * 2 = i * 2 + 2 := by omega
    rw [e4]
  have hcp2 : ∀ (w1 : World) (ty : TypeId) (dc : Nat), w1.heap[g]? = some (.cells L1.toArray 53 (0, 0)) → w1.heap[gv]? = some (.cells #[.string x.name, .slice a2 n2 c2] 53 (0, 0)) → (Builtin.copy_ #[27, 27] ty #[.slice (some ⟨g, i * 2, none⟩) (n + 1 - i) dc, .slice (some ⟨gv, 0, none⟩) 1 1]).run Try.prog w1 = .ok (goInt (Nat.min 1 (n + 1 - i))) (w1.setRow g L2.toArray) := by
    intro w1 ty dc hg1 hv1
    have e := run_copy_many (P := Try.prog) w1 27 27 ty 53 g (i * 2) (n + 1 - i) dc ⟨gv, 0, none⟩ 1 1 2 L1.toArray 53 X Try.underlying27 hsz hg1 (by rw [hXl]; simp only [Nat.min_def]; split <;> omega) (fun j v hj => by
      have e3 : (⟨gv, 0, none⟩ : Addr).add j = ⟨gv, 0 + j, none⟩ := by unfold Addr.add; split <;> simp_all
      rw [e3, Nat.zero_add]
      simp only [World.cell?, hv1]
      rw [← hX] at hj
      simpa using hj) (by rw [hXl]; simp only [List.size_toArray, p3, List.length_append, hAl, hBl, hSl]; omega) hXone
    rw [e]
    congr 3
    rw [← hL2, hAl, hXl]
  have HN : Hid (n = xs.length) := hn
  have hall' := hall
  have hi1 : (i : Int) + 1 ≤ (n : Int) + 1 := by omega
  have hi2 : (i : Int) ≤ (n : Int) + 1 := by omega
  have hwi : IntKind.i64.wrap ((i : Int) + 1) = (i : Int) + 1 := by rw [IntWalk.i64_in _ (by omega)]
  have hti : ((i : Int) + 1).toNat = i + 1 := by omega
  have hi0 : (0 : Int) ≤ (i : Int) + 1 := by omega
  have hi3 : (i : Int) ≤ (n : Int) := by omega
  have hn1 : (n : Int) + 1 ≤ (cap : Int) := by omega
  have FIN : Inserted W w ((w.drew.setRow g L1.toArray).setRow g L2.toArray) (.slice (some ⟨g, 0, none⟩) n cap) (xs.take i ++ [x] ++ xs.drop i) (.returned (.slice (some ⟨g, 0, none⟩) (n + 1) cap)) := by
    have mv : Moves [g] w ((w.drew.setRow g L1.toArray).setRow g L2.toArray) := ((Moves.refl [g] w).drew.then (moves_row _ _ _)).then (moves_row _ _ _)
    have st : Stay (fun t => t ≠ 53) w ((w.drew.setRow g L1.toArray).setRow g L2.toArray) := Stay.ofMovesS mv (fun k hk c' t' fz' hc' => by simp at hk; subst hk; rw [hg] at hc'; simp at hc'; rw [← hc'.2.1]; simp)
    have hg1 : (w.drew.setRow g L1.toArray).heap[g]? = some (.cells L1.toArray 53 (0, 0)) := setRow_heap _ g cur _ _ _ hg
    refine ⟨_, _, _, rfl, GrowN.mk' (css := css.take i ++ [[.string x.name, .slice a2 n2 c2]] ++ css.drop i) (setRow_heap _ g _ _ _ _ hg1) hWg ?_ (by omega) hmax ?_ ?_ ?_ ?_, by simpa [Value.ownBlock] using mv, st.weak (fun t ht => by rcases ht with rfl | rfl | rfl <;> decide), .inl rfl⟩
    · simp only [List.length_append, List.length_take, List.length_drop, List.length_singleton, hlen]; omega
    · simp only [List.size_toArray, p2, List.length_append, hAl, hBl, hSl]; omega
    · have e : (n + 1) * 2 = A.length + 2 + B.length := by omega
      rw [List.flatten_append, List.flatten_append, hA, hB, e]
      simp only [List.flatten_cons, List.flatten_nil, List.append_nil, hX]
      exact p1
    · intro c hc
      rcases List.mem_append.1 hc with hc | hc
      · rcases List.mem_append.1 hc with hc | hc
        · exact h2 c (List.mem_of_mem_take hc)
        · simp at hc; rw [hc]; rfl
      · exact h2 c (List.mem_of_mem_drop hc)
    · have h3 := hall.mono (fun _ _ k => NamC.stay (w' := (w.drew.setRow g L1.toArray).setRow g L2.toArray) st (by decide) (by decide) (by decide) k)
      refine ((h3.take i).append ?_).append (h3.drop i)
      exact ⟨⟨_, rfl, hx.stayX st (by decide) (by decide) (by decide)⟩, trivial⟩
  have hg2 : (w.drew.setRow g L1.toArray).heap[g]? = some (.cells L1.toArray 53 (0, 0)) := setRow_heap _ g cur _ _ _ hg
  have hv2 : (w.drew.setRow g L1.toArray).heap[gv]? = some (.cells #[.string x.name, .slice a2 n2 c2] 53 (0, 0)) := (setRow_other _ g gv _ hgg).trans hv
  have HF : Hid (Inserted W w ((w.drew.setRow g L1.toArray).setRow g L2.toArray) (.slice (some ⟨g, 0, none⟩) n cap) (xs.take i ++ [x] ++ xs.drop i) (.returned (.slice (some ⟨g, 0, none⟩) (n + 1) cap))) := FIN
  clear h hn hall hall' FIN p1 p2 p3 hL1 hL2 hcurL hA hB hS hX hone hBone hXone hsz h2 hlen hcur hfl hcs hmax hx hgv hWg
  go_enter Try.func28, Try.ntmps28
  go_wp2_with (simp only [hov _ _ _ hv hg])
  refine wp_region_noPanic ?_
  refine wp_region_held_drew (S := (fun _ => True)) (by kernel_rfl) ?_ (fun hHeld => ?_)
  · trivial
  refine wpAnyH_take (i := 0) (oi := { dst := some 69, op := Op.move (Operand.tmp 0), type := 27, pos := "slices.go:178", after := #[], guard := none }) (v := ?_) rfl (by kernel_rfl) (by kernel_rfl) (by kernel_rfl) (fun _ _ _ h => h) (Or.inl ⟨by rfl, ?_⟩) (by assumption) ?_
  rotate_left
  · (intro w hSw; (try dsimp only at hSw); go_simp; try (with_reducible rfl))
  try simp only [Act.put, List.setIfInBounds_toArray, List.set_cons_zero, List.set_cons_succ]
  refine wpAnyH_take (i := 1) (oi := { dst := some 70, op := Op.move (Operand.tmp 1), type := 3, pos := "slices.go:178", after := #[], guard := none }) (v := ?_) rfl (by kernel_rfl) (by kernel_rfl) (by kernel_rfl) (fun _ _ _ h => h) (Or.inl ⟨by rfl, ?_⟩) (by assumption) ?_
  rotate_left
  · (intro w hSw; (try dsimp only at hSw); go_simp; try (with_reducible rfl))
  try simp only [Act.put, List.setIfInBounds_toArray, List.set_cons_zero, List.set_cons_succ]
  refine wpAnyH_take (i := 2) (oi := { dst := some 71, op := Op.move (Operand.tmp 7), type := 3, pos := "slices.go:178", after := #[], guard := none }) (v := ?_) rfl (by kernel_rfl) (by kernel_rfl) (by kernel_rfl) (fun _ _ _ h => h) (Or.inl ⟨by rfl, ?_⟩) (by assumption) ?_
  rotate_left
  · (intro w hSw; (try dsimp only at hSw); go_simp; try (with_reducible rfl))
  try simp only [Act.put, List.setIfInBounds_toArray, List.set_cons_zero, List.set_cons_succ]
  refine wpAnyH_take (i := 3) (oi := { dst := some 72, op := Op.binOp BinOp.add 3 (Operand.tmp 70) (Operand.tmp 71) 3, type := 3, pos := "slices.go:178", after := #[{ on := 1, ground := Ground.data }, { on := 2, ground := Ground.data }], guard := none }) (v := ?_) rfl (by kernel_rfl) (by kernel_rfl) (by kernel_rfl) (fun _ _ _ h => h) (Or.inl ⟨by rfl, ?_⟩) (by assumption) ?_
  rotate_left
  · (intro w hSw; (try dsimp only at hSw); go_simp; try (with_reducible rfl))
  try simp only [Act.put, List.setIfInBounds_toArray, List.set_cons_zero, List.set_cons_succ]
  refine wpAnyH_take (i := 4) (oi := { dst := some 73, op := Op.slice 27 (Operand.tmp 69) (some (Operand.tmp 72)) none none, type := 27, pos := "slices.go:178", after := #[{ on := 0, ground := Ground.data }, { on := 3, ground := Ground.data }], guard := none }) (v := ?_) rfl (by kernel_rfl) (by kernel_rfl) (by kernel_rfl) (fun _ _ _ h => h) (Or.inl ⟨by rfl, ?_⟩) (by assumption) ?_
  rotate_left
  · (intro w hSw; (try dsimp only at hSw); go_simp; try (with_reducible rfl))
  try simp only [Act.put, List.setIfInBounds_toArray, List.set_cons_zero, List.set_cons_succ]
  refine wpAnyH_take (i := 5) (oi := { dst := some 74, op := Op.move (Operand.tmp 0), type := 27, pos := "slices.go:178", after := #[], guard := none }) (v := ?_) rfl (by kernel_rfl) (by kernel_rfl) (by kernel_rfl) (fun _ _ _ h => h) (Or.inl ⟨by rfl, ?_⟩) (by assumption) ?_
  rotate_left
  · (intro w hSw; (try dsimp only at hSw); go_simp; try (with_reducible rfl))
  try simp only [Act.put, List.setIfInBounds_toArray, List.set_cons_zero, List.set_cons_succ]
  refine wpAnyH_take (i := 6) (oi := { dst := some 75, op := Op.move (Operand.tmp 1), type := 3, pos := "slices.go:178", after := #[], guard := none }) (v := ?_) rfl (by kernel_rfl) (by kernel_rfl) (by kernel_rfl) (fun _ _ _ h => h) (Or.inl ⟨by rfl, ?_⟩) (by assumption) ?_
  rotate_left
  · (intro w hSw; (try dsimp only at hSw); go_simp; try (with_reducible rfl))
  try simp only [Act.put, List.setIfInBounds_toArray, List.set_cons_zero, List.set_cons_succ]
  refine wpAnyH_take (i := 7) (oi := { dst := some 76, op := Op.slice 27 (Operand.tmp 74) (some (Operand.tmp 75)) none none, type := 27, pos := "slices.go:178", after := #[{ on := 5, ground := Ground.data }, { on := 6, ground := Ground.data }], guard := none }) (v := ?_) rfl (by kernel_rfl) (by kernel_rfl) (by kernel_rfl) (fun _ _ _ h => h) (Or.inl ⟨by rfl, ?_⟩) (by assumption) ?_
  rotate_left
  · (intro w hSw; (try dsimp only at hSw); go_simp; try (with_reducible rfl))
  try simp only [Act.put, List.setIfInBounds_toArray, List.set_cons_zero, List.set_cons_succ]
  refine wpAnyH_ready (rs := [8]) (by kernel_rfl) (by simp) ?_
  refine AllReadyH.cons (o := { dst := some 77, op := Op.call { callee := Callee.builtin Builtin.copy, args := #[Operand.tmp 73, Operand.tmp 76], argTypes := #[27, 27] }, type := 3, pos := "slices.go:178", after := #[{ on := 4, ground := Ground.data }, { on := 7, ground := Ground.data }], guard := none }) rfl (fun K hK => ?_) AllReadyH.nil
  refine step_copy_run (.tmp 73) (.tmp 76) 27 27 rfl _ _ (by simp [Act.eval]; rfl) (by simp [Act.eval]; rfl) (by rfl) (hcp1 _ _ _ _ hg) ?_
  refine hK.out _ _ ?_ (fun hHeld => ?_)
  · trivial
  clear hK K
  try simp only [Act.put, List.setIfInBounds_toArray, List.set_cons_zero, List.set_cons_succ]
  refine wpAnyH_done (by kernel_rfl) ?_ _
  refine NoPanic.normal ?_
  go_wp2_with (at_builtin; refine list_copy_run rfl (.tmp 80) (.tmp 81) 27 27 rfl _ _ rfl rfl (hcp2 _ _ _ hg2 hv2) ?_)
  go_ret
  exact HF.out

set_option maxRecDepth 100000 in
set_option maxHeartbeats 4000000 in
theorem insert_grow (W w : World) (ad : Option Addr) (n : Nat) (xs : List Pnam) (i : Nat) (x : Pnam) (a2 : Option Addr) (n2 c2 gv : Nat) (h : GrowN W w (.slice ad n n) xs) (hn : n = xs.length) (hi : i < n) (hl : n ≤ 1000)
    (hv : w.heap[gv]? = some (.cells #[.string x.name, .slice a2 n2 c2] 53 (0, 0))) (hx : ColsAt w (.slice a2 n2 c2) x.r) (hW : W.heap.size ≤ w.heap.size) :
    Calls Try.prog 28 #[.slice ad n n, .int .i64 (i : Int), .slice (some ⟨gv, 0, none⟩) 1 1] w fun e w' => Inserted W w w' (.slice ad n n) (xs.take i ++ [x] ++ xs.drop i) e := by
  obtain ⟨g, cur, css, rfl, hWg, hg, -, hcap, hmax, hcs, hcur, h2, hlen, hall⟩ := h.own (by omega)
  have hgs : g < w.heap.size := (Array.getElem?_eq_some_iff.1 hg).1
  have hvs : gv < w.heap.size := (Array.getElem?_eq_some_iff.1 hv).1
  have hz2 : ¬ ((i : Int) = (n : Int)) := by omega
  have hz3 : (n : Int) < (n : Int) + 1 := by omega
  have hb4 : ¬ (n = i) := by omega
  obtain ⟨A, hA⟩ : ∃ A, (css.take i).flatten = A := ⟨_, rfl⟩
  obtain ⟨B, hB⟩ : ∃ B, (css.drop i).flatten = B := ⟨_, rfl⟩
  have hAl : A.length = i * 2 := by rw [← hA, flatten_length (fun c hc => h2 c (List.mem_of_mem_take hc)), List.length_take]; congr 1; omega
  have hBl : B.length = (n - i) * 2 := by rw [← hB, flatten_length (fun c hc => h2 c (List.mem_of_mem_drop hc)), List.length_drop, hlen]
  have hcurL : cur.toList = A ++ B := by
    have e : cur.toList.take (n * 2) = cur.toList := List.take_of_length_le (by rw [Array.length_toList]; omega)
    rw [← e, hcur, ← hA, ← hB, ← List.flatten_append, List.take_append_drop]
  obtain ⟨X, hX⟩ : ∃ X, [Value.string x.name, Value.slice a2 n2 c2] = X := ⟨_, rfl⟩
  have hXl : X.length = 2 := by rw [← hX]; rfl
  have hone : ∀ v ∈ css.flatten, v.oneCell' = true := fun v hv => by
    obtain ⟨c, hc, hv⟩ := List.mem_flatten.1 hv
    exact All2.mem (p := fun c => ∀ u ∈ c, u.oneCell' = true) (fun c b hc => hc.one) hall c hc v hv
  have hBone : ∀ v ∈ B, v.oneCell' = true := fun v hv => hone v (by rw [← hB] at hv; rw [← List.take_append_drop i css, List.flatten_append]; exact List.mem_append_right _ hv)
  have hXone : ∀ v ∈ X, v.oneCell' = true := fun v hv => by
    rw [← hX] at hv
    simp only [List.mem_cons, List.not_mem_nil, or_false] at hv
    rcases hv with rfl | rfl <;> rfl
  have hsz : (Try.prog.info? 53).map (·.size) = some 2 := by
    obtain ⟨i0, hi0, _, hz1, _⟩ := info_parts nam_info
    rw [hi0]; simp [hz1]
  obtain ⟨G, hG⟩ : ∃ G, w.heap.size = G := ⟨_, rfl⟩
  have hgG : g ≠ G := by omega
  have hvG : gv ≠ G := by omega
  obtain ⟨C, Z, w1, hap, hC1, hC2, hG1, hZl, mv1⟩ : ∃ C Z w1, (∀ ty, (Builtin.append_ #[27, 3] ty #[.slice (some ⟨g, 0, none⟩) i n, .int .i64 ((n + 1 - i : Nat) : Int)]).run Try.prog w = .ok (.slice (some ⟨G, 0, none⟩) (n + 1) C) w1) ∧ n + 1 ≤ C ∧ C ≤ maxLen ∧ w1.heap[G]? = some (.cells (A ++ Z).toArray 53 (0, 0)) ∧ Z.length = C * 2 - i * 2 ∧ Moves [] w w1 := by
    obtain ⟨i0, hi0, hz0, hz1, hz2⟩ := info_parts nam_info
    have hfc : (Builtin.firstCells i0.size i (.slice (some ⟨g, 0, none⟩) i n)).run Try.prog w.drew = .ok A.toArray w.drew := by
      rw [hz1]
      refine run_firstCells_some _ 2 i ⟨g, 0, none⟩ i n A hAl (fun j v hj => ?_)
      have e3 : (⟨g, 0, none⟩ : Addr).add j = ⟨g, 0 + j, none⟩ := by unfold Addr.add; split <;> simp_all
      have hjl := (List.getElem?_eq_some_iff.1 hj).1
      have hgd : w.drew.heap[g]? = some (.cells cur 53 (0, 0)) := hg
      rw [e3, Nat.zero_add]
      simp only [World.cell?, hgd]
      have : cur.toList[j]? = some v := by rw [hcurL, List.getElem?_append_left hjl]; exact hj
      simpa using this
    have hk : i + (n + 1 - i) = n + 1 := by omega
    have e := fun ty => Lib.run_append_grow_zeros (P := Try.prog) w 27 3 ty 53 i0 _ .i64 .i64 Try.underlying27 Try.underlying3 hi0 hz0 (some ⟨g, 0, none⟩) i n A hfc (n + 1 - i) (by omega) (by omega) (by omega) (by omega) (by rw [hz2]; omega) (growslice_fits (by omega) (by rw [hz2]; omega))
    rw [hk] at e
    have hge := grownCap_ge w (n + 1) n 53
    have hle := grownCap_le_maxLen w (n + 1) n 53 (by unfold maxLen; omega)
    obtain ⟨Z, hZ⟩ : ∃ Z, Builtin.zeroCells (Value.agg #[.string ByteArray.empty, .slice none 0 0]).cells (n + 1 - i) ++ Builtin.zeroCells (Value.agg #[.string ByteArray.empty, .slice none 0 0]).cells (grownCap w (n + 1) n 53 - (n + 1)) = Z := ⟨_, rfl⟩
    have hZs : Z.size = (n + 1 - i) * 2 + (grownCap w (n + 1) n 53 - (n + 1)) * 2 := by
      rw [← hZ, Array.size_append, size_zeroCells, size_zeroCells]
      rfl
    have hZe : ∀ Y, A.toArray ++ Builtin.zeroCells (Value.agg #[.string ByteArray.empty, .slice none 0 0]).cells (n + 1 - i) ++ Y = A.toArray ++ (Builtin.zeroCells (Value.agg #[.string ByteArray.empty, .slice none 0 0]).cells (n + 1 - i) ++ Y) := fun Y => Array.append_assoc
    simp only [hZe, hZ] at e
    have b := boxesW (Moves.refl [] (w.drew.alloc (.cells (A.toArray ++ Z) 53)))
    refine ⟨_, Z.toList, _, fun ty => by rw [e ty, hG], hge, hle, ?_, by rw [Array.length_toList, hZs]; omega, (Moves.refl [] w).drew.alloc _⟩
    have e2 : (A ++ Z.toList).toArray = A.toArray ++ Z := by simp
    rw [← hG, e2]
    exact b.1
  obtain ⟨p1, p2, p3⟩ := splice_grow A B Z X hXl (by omega)
  obtain ⟨L1, hL1⟩ : ∃ L1, (A ++ Z).take A.length ++ X ++ (A ++ Z).drop (A.length + 2) = L1 := ⟨_, rfl⟩
  rw [hL1] at p1 p2 p3
  obtain ⟨L2, hL2⟩ : ∃ L2, L1.take (A.length + 2) ++ B ++ L1.drop (A.length + 2 + B.length) = L2 := ⟨_, rfl⟩
  rw [hL2] at p1 p2
  have hcp1 : ∀ (w1 : World) (ty : TypeId) (dc : Nat), w1.heap[G]? = some (.cells (A ++ Z).toArray 53 (0, 0)) → w1.heap[gv]? = some (.cells #[.string x.name, .slice a2 n2 c2] 53 (0, 0)) → (Builtin.copy_ #[27, 27] ty #[.slice (some ⟨G, i * 2, none⟩) (n + 1 - i) dc, .slice (some ⟨gv, 0, none⟩) 1 1]).run Try.prog w1 = .ok (goInt (Nat.min 1 (n + 1 - i))) (w1.setRow G L1.toArray) := by
    intro w1 ty dc hg1 hv1
    have e := run_copy_many (P := Try.prog) w1 27 27 ty 53 G (i * 2) (n + 1 - i) dc ⟨gv, 0, none⟩ 1 1 2 (A ++ Z).toArray 53 X Try.underlying27 hsz hg1 (by rw [hXl]; simp only [Nat.min_def]; split <;> omega) (fun j v hj => by
      have e3 : (⟨gv, 0, none⟩ : Addr).add j = ⟨gv, 0 + j, none⟩ := by unfold Addr.add; split <;> simp_all
      rw [e3, Nat.zero_add]
      simp only [World.cell?, hv1]
      rw [← hX] at hj
      simpa using hj) (by rw [hXl]; simp only [List.size_toArray, List.length_append, hAl, hZl]; omega) hXone
    rw [e]
    congr 3
    rw [← hL1, hAl, hXl]
  have hcp2 : ∀ (w1 : World) (ty : TypeId) (dc sc : Nat), w1.heap[G]? = some (.cells L1.toArray 53 (0, 0)) → w1.heap[g]? = some (.cells cur 53 (0, 0)) → (Builtin.copy_ #[27, 27] ty #[.slice (some ⟨G, (i + 1) * 2, none⟩) (n - i) dc, .slice (some ⟨g, i * 2, none⟩) (n - i) sc]).run Try.prog w1 = .ok (goInt (Nat.min (n - i) (n - i))) (w1.setRow G L2.toArray) := by
    intro w1 ty dc sc hg1 hg2
    have e := run_copy_many (P := Try.prog) w1 27 27 ty 53 G ((i + 1) * 2) (n - i) dc ⟨g, i * 2, none⟩ (n - i) sc 2 L1.toArray 53 B Try.underlying27 hsz hg1 (by rw [hBl]; simp only [Nat.min_def]; split <;> omega) (fun j v hj => by
      have e3 : (⟨g, i * 2, none⟩ : Addr).add j = ⟨g, i * 2 + j, none⟩ := by unfold Addr.add; split <;> simp_all
      rw [e3]
      simp only [World.cell?, hg2]
      have : cur.toList[i * 2 + j]? = some v := by rw [hcurL, List.getElem?_append_right (by omega), hAl, Nat.add_sub_cancel_left]; exact hj
      simpa using this) (by rw [hBl]; simp only [List.size_toArray, p3, List.length_append, hAl, hZl]; omega) hBone
    rw [e]
    congr 3
    rw [← hL2, hAl, hBl]
    have e4 : (i + 1) * 2 = i * 2 + 2 := by omega
    rw [e4]
  have HN : Hid (n = xs.length) := hn
  have hi1 : (i : Int) + 1 ≤ (n : Int) + 1 := by omega
  have hi2 : (i : Int) ≤ (n : Int) + 1 := by omega
  have hwi : IntKind.i64.wrap ((i : Int) + 1) = (i : Int) + 1 := by rw [IntWalk.i64_in _ (by omega)]
  have hti : ((i : Int) + 1).toNat = i + 1 := by omega
  have hi0 : (0 : Int) ≤ (i : Int) + 1 := by omega
  have hi3 : (i : Int) ≤ (n : Int) := by omega
  have hb5 : ¬ (C = i) := by omega
  have hb6 : ¬ (C = i + 1) := by omega
  have hsb : (n : Int) + 1 - (i : Int) = ((n + 1 - i : Nat) : Int) := by omega
  have hw1v : w1.heap[gv]? = some (.cells #[.string x.name, .slice a2 n2 c2] 53 (0, 0)) := mv1.at hv (by simp)
  have hw1g : w1.heap[g]? = some (.cells cur 53 (0, 0)) := mv1.at hg (by simp)
  have hg2 : (w1.setRow G L1.toArray).heap[G]? = some (.cells L1.toArray 53 (0, 0)) := setRow_heap _ G _ _ _ _ hG1
  have hg3 : (w1.setRow G L1.toArray).heap[g]? = some (.cells cur 53 (0, 0)) := (setRow_other _ G g _ hgG).trans hw1g
  have FIN : Inserted W w ((w1.setRow G L1.toArray).drew.setRow G L2.toArray) (.slice (some ⟨g, 0, none⟩) n n) (xs.take i ++ [x] ++ xs.drop i) (.returned (.slice (some ⟨G, 0, none⟩) (n + 1) C)) := by
    have mv0 : Moves [G] w1 ((w1.setRow G L1.toArray).drew.setRow G L2.toArray) := (moves_row _ _ _).drew.then (moves_row _ _ _)
    have mv : Moves [] w ((w1.setRow G L1.toArray).drew.setRow G L2.toArray) := mv1.trans mv0 (fun k hk => .inr (by simp at hk; omega))
    have st : Stay (fun t => t ≠ 53) w ((w1.setRow G L1.toArray).drew.setRow G L2.toArray) := Stay.ofMoves mv
    refine ⟨_, _, _, rfl, GrowN.mk' (css := css.take i ++ [[.string x.name, .slice a2 n2 c2]] ++ css.drop i) (setRow_heap _ G _ _ _ _ hg2) (by omega) ?_ hC1 hC2 ?_ ?_ ?_ ?_, mv.mono (by simp), st.weak (fun t ht => by rcases ht with rfl | rfl | rfl <;> decide), .inr ⟨G, rfl, by omega⟩⟩
    · simp only [List.length_append, List.length_take, List.length_drop, List.length_singleton, hlen]; omega
    · simp only [List.size_toArray, p2, List.length_append, hAl, hZl]; omega
    · have e : (n + 1) * 2 = A.length + 2 + B.length := by omega
      rw [List.flatten_append, List.flatten_append, hA, hB, e]
      simp only [List.flatten_cons, List.flatten_nil, List.append_nil, hX]
      exact p1
    · intro c hc
      rcases List.mem_append.1 hc with hc | hc
      · rcases List.mem_append.1 hc with hc | hc
        · exact h2 c (List.mem_of_mem_take hc)
        · simp at hc; rw [hc]; rfl
      · exact h2 c (List.mem_of_mem_drop hc)
    · have h3 := hall.mono (fun _ _ k => NamC.stay (w' := (w1.setRow G L1.toArray).drew.setRow G L2.toArray) st (by decide) (by decide) (by decide) k)
      refine ((h3.take i).append ?_).append (h3.drop i)
      exact ⟨⟨_, rfl, hx.stayX st (by decide) (by decide) (by decide)⟩, trivial⟩
  have HF : Hid (Inserted W w ((w1.setRow G L1.toArray).drew.setRow G L2.toArray) (.slice (some ⟨g, 0, none⟩) n n) (xs.take i ++ [x] ++ xs.drop i) (.returned (.slice (some ⟨G, 0, none⟩) (n + 1) C))) := FIN
  clear h hn hall FIN p1 p2 p3 hL1 hL2 hcurL hA hB hX hone hBone hXone hsz h2 hlen hcur hcs hmax hx hWg hG mv1 hZl hC2
  go_enter Try.func28, Try.ntmps28
  go_wp2_with (at_builtin; first | refine list_append_run rfl (.tmp 34) (.tmp 39) 27 3 rfl _ _ rfl rfl (hap _) ?_ | refine list_copy_run rfl (.tmp 43) (.tmp 44) 27 27 rfl _ _ rfl rfl (hcp1 _ _ _ hG1 hw1v) ?_)
  refine wp_region_noPanic ?_
  refine wp_region_held_drew (S := (fun _ => True)) (by kernel_rfl) ?_ (fun hHeld => ?_)
  · trivial
  refine wpAnyH_take (i := 0) (oi := { dst := some 46, op := Op.move (Operand.tmp 9), type := 27, pos := "slices.go:154", after := #[], guard := none }) (v := ?_) rfl (by kernel_rfl) (by kernel_rfl) (by kernel_rfl) (fun _ _ _ h => h) (Or.inl ⟨by rfl, ?_⟩) (by assumption) ?_
  rotate_left
  · (intro w hSw; (try dsimp only at hSw); go_simp; try (with_reducible rfl))
  try simp only [Act.put, List.setIfInBounds_toArray, List.set_cons_zero, List.set_cons_succ]
  refine wpAnyH_take (i := 1) (oi := { dst := some 47, op := Op.move (Operand.tmp 1), type := 3, pos := "slices.go:154", after := #[], guard := none }) (v := ?_) rfl (by kernel_rfl) (by kernel_rfl) (by kernel_rfl) (fun _ _ _ h => h) (Or.inl ⟨by rfl, ?_⟩) (by assumption) ?_
  rotate_left
  · (intro w hSw; (try dsimp only at hSw); go_simp; try (with_reducible rfl))
  try simp only [Act.put, List.setIfInBounds_toArray, List.set_cons_zero, List.set_cons_succ]
  refine wpAnyH_take (i := 2) (oi := { dst := some 48, op := Op.move (Operand.tmp 7), type := 3, pos := "slices.go:154", after := #[], guard := none }) (v := ?_) rfl (by kernel_rfl) (by kernel_rfl) (by kernel_rfl) (fun _ _ _ h => h) (Or.inl ⟨by rfl, ?_⟩) (by assumption) ?_
  rotate_left
  · (intro w hSw; (try dsimp only at hSw); go_simp; try (with_reducible rfl))
  try simp only [Act.put, List.setIfInBounds_toArray, List.set_cons_zero, List.set_cons_succ]
  refine wpAnyH_take (i := 3) (oi := { dst := some 49, op := Op.binOp BinOp.add 3 (Operand.tmp 47) (Operand.tmp 48) 3, type := 3, pos := "slices.go:154", after := #[{ on := 1, ground := Ground.data }, { on := 2, ground := Ground.data }], guard := none }) (v := ?_) rfl (by kernel_rfl) (by kernel_rfl) (by kernel_rfl) (fun _ _ _ h => h) (Or.inl ⟨by rfl, ?_⟩) (by assumption) ?_
  rotate_left
  · (intro w hSw; (try dsimp only at hSw); go_simp; try (with_reducible rfl))
  try simp only [Act.put, List.setIfInBounds_toArray, List.set_cons_zero, List.set_cons_succ]
  refine wpAnyH_take (i := 4) (oi := { dst := some 50, op := Op.slice 27 (Operand.tmp 46) (some (Operand.tmp 49)) none none, type := 27, pos := "slices.go:154", after := #[{ on := 0, ground := Ground.data }, { on := 3, ground := Ground.data }], guard := none }) (v := ?_) rfl (by kernel_rfl) (by kernel_rfl) (by kernel_rfl) (fun _ _ _ h => h) (Or.inl ⟨by rfl, ?_⟩) (by assumption) ?_
  rotate_left
  · (intro w hSw; (try dsimp only at hSw); go_simp; try (with_reducible rfl))
  try simp only [Act.put, List.setIfInBounds_toArray, List.set_cons_zero, List.set_cons_succ]
  refine wpAnyH_take (i := 5) (oi := { dst := some 51, op := Op.move (Operand.tmp 0), type := 27, pos := "slices.go:154", after := #[], guard := none }) (v := ?_) rfl (by kernel_rfl) (by kernel_rfl) (by kernel_rfl) (fun _ _ _ h => h) (Or.inl ⟨by rfl, ?_⟩) (by assumption) ?_
  rotate_left
  · (intro w hSw; (try dsimp only at hSw); go_simp; try (with_reducible rfl))
  try simp only [Act.put, List.setIfInBounds_toArray, List.set_cons_zero, List.set_cons_succ]
  refine wpAnyH_take (i := 6) (oi := { dst := some 52, op := Op.move (Operand.tmp 1), type := 3, pos := "slices.go:154", after := #[], guard := none }) (v := ?_) rfl (by kernel_rfl) (by kernel_rfl) (by kernel_rfl) (fun _ _ _ h => h) (Or.inl ⟨by rfl, ?_⟩) (by assumption) ?_
  rotate_left
  · (intro w hSw; (try dsimp only at hSw); go_simp; try (with_reducible rfl))
  try simp only [Act.put, List.setIfInBounds_toArray, List.set_cons_zero, List.set_cons_succ]
  refine wpAnyH_take (i := 7) (oi := { dst := some 53, op := Op.slice 27 (Operand.tmp 51) (some (Operand.tmp 52)) none none, type := 27, pos := "slices.go:154", after := #[{ on := 5, ground := Ground.data }, { on := 6, ground := Ground.data }], guard := none }) (v := ?_) rfl (by kernel_rfl) (by kernel_rfl) (by kernel_rfl) (fun _ _ _ h => h) (Or.inl ⟨by rfl, ?_⟩) (by assumption) ?_
  rotate_left
  · (intro w hSw; (try dsimp only at hSw); go_simp; try (with_reducible rfl))
  try simp only [Act.put, List.setIfInBounds_toArray, List.set_cons_zero, List.set_cons_succ]
  refine wpAnyH_ready (rs := [8]) (by kernel_rfl) (by simp) ?_
  refine AllReadyH.cons (o := { dst := some 54, op := Op.call { callee := Callee.builtin Builtin.copy, args := #[Operand.tmp 50, Operand.tmp 53], argTypes := #[27, 27] }, type := 3, pos := "slices.go:154", after := #[{ on := 4, ground := Ground.data }, { on := 7, ground := Ground.data }], guard := none }) rfl (fun K hK => ?_) AllReadyH.nil
  refine step_copy_run (.tmp 50) (.tmp 53) 27 27 rfl _ _ (by simp [Act.eval]; rfl) (by simp [Act.eval]; rfl) (by rfl) (hcp2 _ _ _ _ hg2 hg3) ?_
  refine hK.out _ _ ?_ (fun hHeld => ?_)
  · trivial
  clear hK K
  try simp only [Act.put, List.setIfInBounds_toArray, List.set_cons_zero, List.set_cons_succ]
  refine wpAnyH_done (by kernel_rfl) ?_ _
  refine NoPanic.normal ?_
  go_wp
  go_ret
  exact HF.out

theorem insert_w (W w : World) (ad : Option Addr) (n cap : Nat) (xs : List Pnam) (i : Nat) (x : Pnam) (a2 : Option Addr) (n2 c2 gv : Nat) (h : GrowN W w (.slice ad n cap) xs) (hi : i ≤ xs.length) (hl : n ≤ 1000)
    (hv : w.heap[gv]? = some (.cells #[.string x.name, .slice a2 n2 c2] 53 (0, 0))) (hx : ColsAt w (.slice a2 n2 c2) x.r) (hgv : gv ∉ (Value.slice ad n cap).ownBlock.toList) (hW : W.heap.size ≤ w.heap.size) :
    Calls Try.prog 28 #[.slice ad n cap, .int .i64 (i : Int), .slice (some ⟨gv, 0, none⟩) 1 1] w fun e w' => Inserted W w w' (.slice ad n cap) (xs.take i ++ [x] ++ xs.drop i) e := by
  obtain ⟨hn, hc⟩ : n = xs.length ∧ n ≤ cap := by
    obtain ⟨_, _, _, e0, hn, hc⟩ := h.open
    simp at e0
    obtain ⟨rfl, rfl, rfl⟩ := e0
    exact ⟨hn.out, hc⟩
  rcases Nat.lt_or_ge i n with h1 | h1
  · rcases Nat.lt_or_ge n cap with h2 | h2
    · exact insert_room W w ad n cap xs i x a2 n2 c2 gv h hn h1 hl h2 hv hx hgv
    · obtain rfl : cap = n := by omega
      exact insert_grow W w ad _ xs i x a2 n2 c2 gv h hn h1 hl hv hx hW
  · obtain rfl : i = n := by omega
    have e1 : xs.take i = xs := List.take_of_length_le (by omega)
    have e2 : xs.drop i = [] := List.drop_of_length_le (by omega)
    rw [e1, e2, List.append_nil]
    exact insert_end W w ad i cap xs x a2 n2 c2 gv h hn hl hv hx hW
end Go.Proofs.Ytcngllcifcpbkaa
/-
  The library's Delete of one row of a list of one's own.
-/
namespace Go.Proofs.Ytcngllcifcpbkaa
open Go.RowKit

theorem step_append_run {ops : Array Oper} {o : Oper} {a : Act} {w : World} {K : Act → World → Prop} {Q : Exit → Act → World → Prop} (d x : Operand) (dT sT : TypeId) (hop : o.op = Op.call { callee := Callee.builtin Builtin.append, args := #[d, x], argTypes := #[dT, sT] })
    (v u : Value) (hd : a.eval d = v) (hx : a.eval x = u) (hw : Region.wanted o (yielded ops a.tmps) = true) {v' : Value} {w' : World} (hr : (Builtin.append_ #[dT, sT] o.type #[v, u]).run Try.prog w = .ok v' w') (hK : K (a.put o.dst v') w') :
    if Region.wanted o (yielded ops a.tmps) then o.wp Try.prog a w K Q else K (a.put o.dst undef) w := by
  rw [if_pos hw]
  unfold Oper.wp
  simp [execOp, hop, resolve, invoke, builtin, hd, hx, hr, Result.andThen]
  exact hK
theorem run_clear_one {P : Program} (w : World) (t e ty : TypeId) (i : TypeInfo) (z : Value) (ht : P.underlying t = some (.slice e)) (hi : P.info? e = some i) (hz : i.zero = some z) (h1 : ∀ v ∈ z.cells.toList, v.oneCell' = true) (g o c : Nat) (cur : Array Value) (tt : TypeId) (hg : w.heap[g]? = some (.cells cur tt (0, 0))) (hfit : o + z.cells.size ≤ cur.size) :
    (Builtin.clear_ #[t] ty #[.slice (some ⟨g, o, none⟩) 1 c]).run P w = .ok (.tuple #[]) (w.setRow g (cur.toList.take o ++ z.cells.toList ++ cur.toList.drop (o + z.cells.size)).toArray) := by
  have hzc : (Builtin.zeroCells z.cells 1).toList = z.cells.toList := by
    unfold Builtin.zeroCells
    apply List.ext_getElem
    · simp
    · intro k k1 k2
      have k3 : k < z.cells.size := by simpa using k2
      simp [Nat.mod_eq_of_lt k3, k3]
  have hst := run_storeCells_at P g o tt z.cells.toList 0 cur w hg (by simpa using hfit) h1
  simp only [Nat.add_zero, Array.length_toList] at hst
  simp [Builtin.clear_, run_underlying ht, zeroValue, typeInfo, hi, hz, hzc, hst]

theorem splice_del {α : Type} (A Y B S Z : List α) (hY : Y.length = 2) (hZ : Z.length = 2) :
    ((A ++ Y ++ B ++ S).take A.length ++ B ++ (A ++ Y ++ B ++ S).drop (A.length + B.length)).length = (A ++ Y ++ B ++ S).length ∧
    ((((A ++ Y ++ B ++ S).take A.length ++ B ++ (A ++ Y ++ B ++ S).drop (A.length + B.length)).take (A.length + B.length) ++ Z ++ ((A ++ Y ++ B ++ S).take A.length ++ B ++ (A ++ Y ++ B ++ S).drop (A.length + B.length)).drop (A.length + B.length + 2)).take (A.length + B.length)) = A ++ B ∧
    ((((A ++ Y ++ B ++ S).take A.length ++ B ++ (A ++ Y ++ B ++ S).drop (A.length + B.length)).take (A.length + B.length) ++ Z ++ ((A ++ Y ++ B ++ S).take A.length ++ B ++ (A ++ Y ++ B ++ S).drop (A.length + B.length)).drop (A.length + B.length + 2)).length) = (A ++ Y ++ B ++ S).length := by
  have e0 : (A ++ Y ++ B ++ S).take A.length = A := by rw [List.append_assoc, List.append_assoc, List.take_left]
  obtain ⟨U, hU⟩ : ∃ U, (A ++ Y ++ B ++ S).drop (A.length + B.length) = U := ⟨_, rfl⟩
  have hUl : U.length + A.length + B.length = (A ++ Y ++ B ++ S).length := by rw [← hU, List.length_drop]; simp only [List.length_append]; omega
  rw [e0, hU]
  have e2 : A.length + B.length = (A ++ B).length := by rw [List.length_append]
  have e3 : (A ++ B ++ U).take (A.length + B.length) = A ++ B := by rw [e2, List.take_left]
  rw [e3]
  refine ⟨?_, ?_, ?_⟩
  · simp only [List.length_append] at hUl ⊢; omega
  · rw [List.append_assoc (A ++ B), e2, List.take_left]
  · simp only [List.length_append, List.length_drop] at hUl ⊢; omega

set_option maxRecDepth 100000 in
set_option maxHeartbeats 4000000 in
theorem delete_w (W w : World) (ad : Option Addr) (m cap : Nat) (xs : List Pnam) (i : Nat) (h : GrowN W w (.slice ad (m + 1) cap) xs) (hi : i ≤ m) (hl : m ≤ 1000) :
    Calls Try.prog 26 #[.slice ad (m + 1) cap, .int .i64 (i : Int), .int .i64 ((i : Int) + 1)] w fun e w' => Inserted W w w' (.slice ad (m + 1) cap) (xs.take i ++ xs.drop (i + 1)) e := by
  have hc0 : m + 1 ≤ cap := by
    obtain ⟨_, _, _, e0, hn, hc⟩ := h.open
    simp at e0
    omega
  obtain ⟨g, cur, css, rfl, hWg, hg, hnx, hcap, hmax, hcs, hcur, h2, hlen, hall⟩ := h.own (by omega)
  obtain ⟨A, hA⟩ : ∃ A, (css.take i).flatten = A := ⟨_, rfl⟩
  obtain ⟨Y, hY⟩ : ∃ Y, ((css.drop i).take 1).flatten = Y := ⟨_, rfl⟩
  obtain ⟨B, hB⟩ : ∃ B, (css.drop (i + 1)).flatten = B := ⟨_, rfl⟩
  obtain ⟨S, hS⟩ : ∃ S, cur.toList.drop ((m + 1) * 2) = S := ⟨_, rfl⟩
  have hAl : A.length = i * 2 := by rw [← hA, flatten_length (fun c hc => h2 c (List.mem_of_mem_take hc)), List.length_take]; congr 1; omega
  have hYl : Y.length = 2 := by
    rw [← hY, flatten_length (fun c hc => h2 c (List.mem_of_mem_drop (List.mem_of_mem_take hc))), List.length_take, List.length_drop]
    have : min 1 (css.length - i) = 1 := by omega
    rw [this]
  have hBl : B.length = (m - i) * 2 := by rw [← hB, flatten_length (fun c hc => h2 c (List.mem_of_mem_drop hc)), List.length_drop]; congr 1; omega
  have hSl : S.length = cap * 2 - (m + 1) * 2 := by rw [← hS, List.length_drop, Array.length_toList, hcs]
  have hcurL : cur.toList = A ++ Y ++ B ++ S := by
    rw [← List.take_append_drop ((m + 1) * 2) cur.toList, hcur, hS, ← hA, ← hB, ← hY, ← List.flatten_append, ← List.flatten_append, List.append_assoc (css.take i)]
    have e : (css.drop i).take 1 ++ css.drop (i + 1) = css.drop i := by
      have := List.take_append_drop 1 (css.drop i)
      rwa [List.drop_drop] at this
    rw [e, List.take_append_drop]
  obtain ⟨i0, hi0, hz0, hz1, hz2⟩ := info_parts nam_info
  obtain ⟨Z, hZ⟩ : ∃ Z, [Value.string ByteArray.empty, Value.slice none 0 0] = Z := ⟨_, rfl⟩
  have hZl : Z.length = 2 := by rw [← hZ]; rfl
  have hone : ∀ v ∈ css.flatten, v.oneCell' = true := fun v hv => by
    obtain ⟨c, hc, hv⟩ := List.mem_flatten.1 hv
    exact All2.mem (p := fun c => ∀ u ∈ c, u.oneCell' = true) (fun c b hc => hc.one) hall c hc v hv
  have hBone : ∀ v ∈ B, v.oneCell' = true := fun v hv => hone v (by rw [← hB] at hv; rw [← List.take_append_drop (i + 1) css, List.flatten_append]; exact List.mem_append_right _ hv)
  obtain ⟨p3, p1, p2⟩ := splice_del A Y B S Z hYl hZl
  obtain ⟨L1, hL1⟩ : ∃ L1, (A ++ Y ++ B ++ S).take A.length ++ B ++ (A ++ Y ++ B ++ S).drop (A.length + B.length) = L1 := ⟨_, rfl⟩
  rw [hL1] at p1 p2 p3
  obtain ⟨L2, hL2⟩ : ∃ L2, L1.take (A.length + B.length) ++ Z ++ L1.drop (A.length + B.length + 2) = L2 := ⟨_, rfl⟩
  rw [hL2] at p1 p2
  have hap : ∀ (w1 : World) (ty : TypeId) (q : Addr) (sc : Nat), (m = i ∨ q = ⟨g, (i + 1) * 2, none⟩) → w1.heap[g]? = some (.cells cur 53 (0, 0)) → (Builtin.append_ #[27, 27] ty #[.slice (some ⟨g, 0, none⟩) i cap, .slice (some q) (m - i) sc]).run Try.prog w1 = .ok (.slice (some ⟨g, 0, none⟩) m cap) (w1.setRow g L1.toArray) := by
    intro w1 ty q sc hq hg1
    have e := run_append_room (P := Try.prog) w1 27 ty 53 i0 Try.underlying27 hi0 g i cap cur hg1 q (m - i) sc B (by rw [hBl, hz1]) (fun j v hj => by
      have hjl := (List.getElem?_eq_some_iff.1 hj).1
      rcases hq with hq | hq
      · omega
      · subst hq
        have e3 : (⟨g, (i + 1) * 2, none⟩ : Addr).add j = ⟨g, (i + 1) * 2 + j, none⟩ := by unfold Addr.add; split <;> simp_all
        rw [e3]
        simp only [World.cell?, hg1]
        have : cur.toList[(i + 1) * 2 + j]? = some v := by
          rw [hcurL, List.append_assoc (A ++ Y), List.getElem?_append_right (by simp only [List.length_append]; omega), List.getElem?_append_left (by simp only [List.length_append]; omega), ← hj]
          congr 1
          simp only [List.length_append]
          omega
        simpa using this) hBone (by omega) (by rw [hBl, hz1, hcs]; omega)
    rw [e]
    have e1 : i + (m - i) = m := by omega
    rw [e1, hz1, ← hL1, hcurL, hAl]
  have hcl : ∀ (w1 : World) (ty : TypeId) (sc : Nat), w1.heap[g]? = some (.cells L1.toArray 53 (0, 0)) → (Builtin.clear_ #[27] ty #[.slice (some ⟨g, m * 2, none⟩) 1 sc]).run Try.prog w1 = .ok (.tuple #[]) (w1.setRow g L2.toArray) := by
    intro w1 ty sc hg1
    have e := run_clear_one (P := Try.prog) w1 27 53 ty i0 _ Try.underlying27 hi0 hz0 (by simp [Value.cells, Value.oneCell']) g (m * 2) sc L1.toArray 53 hg1 (by simp only [List.size_toArray, p3, List.length_append, hAl, hYl, hBl, hSl]; simp [Value.cells]; omega)
    rw [e]
    congr 3
    have e1 : m * 2 = A.length + B.length := by omega
    have e2 : (Value.agg #[.string ByteArray.empty, .slice none 0 0]).cells.toList = Z := by rw [← hZ]; simp [Value.cells]
    have e4 : (Value.agg #[.string ByteArray.empty, .slice none 0 0]).cells.size = 2 := by simp [Value.cells]
    rw [e2, e4, ← hL2, e1]
  have hg2 : ∀ w1 : World, w1.heap[g]? = some (.cells cur 53 (0, 0)) → (w1.setRow g L1.toArray).heap[g]? = some (.cells L1.toArray 53 (0, 0)) := fun w1 hg => setRow_heap _ g cur _ _ _ hg
  have HF : Hid (Inserted W w ((w.drew.setRow g L1.toArray).setRow g L2.toArray) (.slice (some ⟨g, 0, none⟩) (m + 1) cap) (xs.take i ++ xs.drop (i + 1)) (.returned (.slice (some ⟨g, 0, none⟩) m cap))) := by
    have mv : Moves [g] w ((w.drew.setRow g L1.toArray).setRow g L2.toArray) := ((Moves.refl [g] w).drew.then (moves_row _ _ _)).then (moves_row _ _ _)
    have st : Stay (fun t => t ≠ 53) w ((w.drew.setRow g L1.toArray).setRow g L2.toArray) := Stay.ofMovesS mv (fun k hk c' t' fz' hc' => by simp at hk; subst hk; rw [hg] at hc'; simp at hc'; rw [← hc'.2.1]; simp)
    refine ⟨_, _, _, rfl, GrowN.mk' (css := css.take i ++ css.drop (i + 1)) (setRow_heap _ g _ _ _ _ (hg2 w.drew hg)) hWg ?_ (by omega) hmax ?_ ?_ ?_ ?_, by simpa [Value.ownBlock] using mv, st.weak (fun t ht => by rcases ht with rfl | rfl | rfl <;> decide), .inl rfl⟩
    · simp only [List.length_append, List.length_take, List.length_drop, hlen]; omega
    · simp only [List.size_toArray, p2, List.length_append, hAl, hYl, hBl, hSl]; omega
    · have e : m * 2 = A.length + B.length := by omega
      rw [List.flatten_append, hA, hB, e]
      exact p1
    · intro c hc
      rcases List.mem_append.1 hc with hc | hc
      · exact h2 c (List.mem_of_mem_take hc)
      · exact h2 c (List.mem_of_mem_drop hc)
    · have h3 := hall.mono (fun _ _ k => NamC.stay (w' := (w.drew.setRow g L1.toArray).setRow g L2.toArray) st (by decide) (by decide) (by decide) k)
      exact (h3.take i).append (h3.drop (i + 1))
  have hg3 := hg2 w.drew hg
  have k1 : (i : Int) ≤ (i : Int) + 1 := by omega
  have k2 : (i : Int) + 1 ≤ (m : Int) + 1 := by omega
  have k3 : (m : Int) + 1 ≤ (cap : Int) := by omega
  have k4 : ¬ ((i : Int) = (i : Int) + 1) := by omega
  have k5 : (i : Int) ≤ (cap : Int) := by omega
  have k6 : ((i : Int) + 1).toNat = i + 1 := by omega
  have k7 : (0 : Int) ≤ (i : Int) + 1 := by omega
  have k8 : (m : Int) ≤ (m : Int) + 1 := by omega
  have k9 : ¬ (cap = m) := by omega
  have k10 : ((m : Int) + 1).toNat = m + 1 := by omega
  have HN : Hid (m + 1 = xs.length) := hnx
  clear h hnx hall p1 p2 p3 hL1 hL2 hcurL hA hB hY hS hone hBone h2 hlen hcur hcs hmax hWg hg2 hi0 hz0 hz1 hz2 hZ hZl hAl hYl hBl hSl
  by_cases hci : cap = i + 1
  · obtain rfl : m = i := by omega
    subst hci
    have hap1 := fun ty sc => hap w.drew ty ⟨g, 0, none⟩ sc (.inl rfl) hg
    rw [Nat.sub_self] at hap1
    clear hap
    go_enter Try.func26, Try.ntmps26
    go_wp
    refine wp_region_noPanic ?_
    refine wp_region_held_drew (S := (fun _ => True)) (by kernel_rfl) ?_ (fun hHeld => ?_)
    · trivial
    refine wpAnyH_take (i := 0) (oi := { dst := some 20, op := Op.move (Operand.tmp 0), type := 27, pos := "slices.go:232", after := #[], guard := none }) (v := ?_) rfl (by kernel_rfl) (by kernel_rfl) (by kernel_rfl) (fun _ _ _ h => h) (Or.inl ⟨by rfl, ?_⟩) (by assumption) ?_
    rotate_left
    · (intro w hSw; (try dsimp only at hSw); go_simp; try (with_reducible rfl))
    try simp only [Act.put, List.setIfInBounds_toArray, List.set_cons_zero, List.set_cons_succ]
    refine wpAnyH_take (i := 1) (oi := { dst := some 21, op := Op.move (Operand.tmp 1), type := 3, pos := "slices.go:232", after := #[], guard := none }) (v := ?_) rfl (by kernel_rfl) (by kernel_rfl) (by kernel_rfl) (fun _ _ _ h => h) (Or.inl ⟨by rfl, ?_⟩) (by assumption) ?_
    rotate_left
    · (intro w hSw; (try dsimp only at hSw); go_simp; try (with_reducible rfl))
    try simp only [Act.put, List.setIfInBounds_toArray, List.set_cons_zero, List.set_cons_succ]
    refine wpAnyH_take (i := 2) (oi := { dst := some 22, op := Op.slice 27 (Operand.tmp 20) none (some (Operand.tmp 21)) none, type := 27, pos := "slices.go:232", after := #[{ on := 0, ground := Ground.data }, { on := 1, ground := Ground.data }], guard := none }) (v := ?_) rfl (by kernel_rfl) (by kernel_rfl) (by kernel_rfl) (fun _ _ _ h => h) (Or.inl ⟨by rfl, ?_⟩) (by assumption) ?_
    rotate_left
    · (intro w hSw; (try dsimp only at hSw); go_simp; try (with_reducible rfl))
    try simp only [Act.put, List.setIfInBounds_toArray, List.set_cons_zero, List.set_cons_succ]
    refine wpAnyH_take (i := 3) (oi := { dst := some 23, op := Op.move (Operand.tmp 0), type := 27, pos := "slices.go:232", after := #[], guard := none }) (v := ?_) rfl (by kernel_rfl) (by kernel_rfl) (by kernel_rfl) (fun _ _ _ h => h) (Or.inl ⟨by rfl, ?_⟩) (by assumption) ?_
    rotate_left
    · (intro w hSw; (try dsimp only at hSw); go_simp; try (with_reducible rfl))
    try simp only [Act.put, List.setIfInBounds_toArray, List.set_cons_zero, List.set_cons_succ]
    refine wpAnyH_take (i := 4) (oi := { dst := some 24, op := Op.move (Operand.tmp 2), type := 3, pos := "slices.go:232", after := #[], guard := none }) (v := ?_) rfl (by kernel_rfl) (by kernel_rfl) (by kernel_rfl) (fun _ _ _ h => h) (Or.inl ⟨by rfl, ?_⟩) (by assumption) ?_
    rotate_left
    · (intro w hSw; (try dsimp only at hSw); go_simp; try (with_reducible rfl))
    try simp only [Act.put, List.setIfInBounds_toArray, List.set_cons_zero, List.set_cons_succ]
    refine wpAnyH_take (i := 5) (oi := { dst := some 25, op := Op.slice 27 (Operand.tmp 23) (some (Operand.tmp 24)) none none, type := 27, pos := "slices.go:232", after := #[{ on := 3, ground := Ground.data }, { on := 4, ground := Ground.data }], guard := none }) (v := ?_) rfl (by kernel_rfl) (by kernel_rfl) (by kernel_rfl) (fun _ _ _ h => h) (Or.inl ⟨by rfl, ?_⟩) (by assumption) ?_
    rotate_left
    · (intro w hSw; (try dsimp only at hSw); go_simp; try (with_reducible rfl))
    try simp only [Act.put, List.setIfInBounds_toArray, List.set_cons_zero, List.set_cons_succ]
    refine wpAnyH_ready (rs := [6]) (by kernel_rfl) (by simp) ?_
    refine AllReadyH.cons (o := { dst := some 26, op := Op.call { callee := Callee.builtin Builtin.append, args := #[Operand.tmp 22, Operand.tmp 25], argTypes := #[27, 27] }, type := 27, pos := "slices.go:232", after := #[{ on := 2, ground := Ground.data }, { on := 5, ground := Ground.data }], guard := none }) rfl (fun K hK => ?_) AllReadyH.nil
    refine step_append_run (.tmp 22) (.tmp 25) 27 27 rfl _ _ (by simp [Act.eval] <;> rfl) (by simp [Act.eval] <;> rfl) (by rfl) (hap1 _ _) ?_
    refine hK.out _ _ ?_ (fun hHeld => ?_)
    · trivial
    clear hK K
    try simp only [Act.put, List.setIfInBounds_toArray, List.set_cons_zero, List.set_cons_succ]
    refine wpAnyH_take (i := 7) (oi := { dst := some 0, op := Op.assign (Operand.tmp 26), type := 27, pos := "slices.go:232", after := #[{ on := 6, ground := Ground.data }, { on := 6, ground := Ground.chain }, { on := 0, ground := Ground.phase }, { on := 1, ground := Ground.phase }, { on := 2, ground := Ground.phase }, { on := 3, ground := Ground.phase }, { on := 4, ground := Ground.phase }, { on := 5, ground := Ground.phase }, { on := 6, ground := Ground.phase }], guard := none }) (v := ?_) rfl (by kernel_rfl) (by kernel_rfl) (by kernel_rfl) (fun _ _ _ h => h) (Or.inl ⟨by rfl, ?_⟩) (by assumption) ?_
    rotate_left
    · (intro w hSw; (try dsimp only at hSw); go_simp; try (with_reducible rfl))
    try simp only [Act.put, List.setIfInBounds_toArray, List.set_cons_zero]
    refine wpAnyH_done (by kernel_rfl) ?_ _
    refine NoPanic.normal ?_
    go_wp2_with (at_builtin; refine list_clear_run rfl (.tmp 31) 27 rfl _ rfl (hcl _ _ _ hg3) ?_)
    go_ret
    exact HF.out
  · have hap1 := fun ty sc => hap w.drew ty ⟨g, (i + 1) * 2, none⟩ sc (.inr rfl) hg
    clear hap
    go_enter Try.func26, Try.ntmps26
    go_wp
    refine wp_region_noPanic ?_
    refine wp_region_held_drew (S := (fun _ => True)) (by kernel_rfl) ?_ (fun hHeld => ?_)
    · trivial
    refine wpAnyH_take (i := 0) (oi := { dst := some 20, op := Op.move (Operand.tmp 0), type := 27, pos := "slices.go:232", after := #[], guard := none }) (v := ?_) rfl (by kernel_rfl) (by kernel_rfl) (by kernel_rfl) (fun _ _ _ h => h) (Or.inl ⟨by rfl, ?_⟩) (by assumption) ?_
    rotate_left
    · (intro w hSw; (try dsimp only at hSw); go_simp; try (with_reducible rfl))
    try simp only [Act.put, List.setIfInBounds_toArray, List.set_cons_zero, List.set_cons_succ]
    refine wpAnyH_take (i := 1) (oi := { dst := some 21, op := Op.move (Operand.tmp 1), type := 3, pos := "slices.go:232", after := #[], guard := none }) (v := ?_) rfl (by kernel_rfl) (by kernel_rfl) (by kernel_rfl) (fun _ _ _ h => h) (Or.inl ⟨by rfl, ?_⟩) (by assumption) ?_
    rotate_left
    · (intro w hSw; (try dsimp only at hSw); go_simp; try (with_reducible rfl))
    try simp only [Act.put, List.setIfInBounds_toArray, List.set_cons_zero, List.set_cons_succ]
    refine wpAnyH_take (i := 2) (oi := { dst := some 22, op := Op.slice 27 (Operand.tmp 20) none (some (Operand.tmp 21)) none, type := 27, pos := "slices.go:232", after := #[{ on := 0, ground := Ground.data }, { on := 1, ground := Ground.data }], guard := none }) (v := ?_) rfl (by kernel_rfl) (by kernel_rfl) (by kernel_rfl) (fun _ _ _ h => h) (Or.inl ⟨by rfl, ?_⟩) (by assumption) ?_
    rotate_left
    · (intro w hSw; (try dsimp only at hSw); go_simp; try (with_reducible rfl))
    try simp only [Act.put, List.setIfInBounds_toArray, List.set_cons_zero, List.set_cons_succ]
    refine wpAnyH_take (i := 3) (oi := { dst := some 23, op := Op.move (Operand.tmp 0), type := 27, pos := "slices.go:232", after := #[], guard := none }) (v := ?_) rfl (by kernel_rfl) (by kernel_rfl) (by kernel_rfl) (fun _ _ _ h => h) (Or.inl ⟨by rfl, ?_⟩) (by assumption) ?_
    rotate_left
    · (intro w hSw; (try dsimp only at hSw); go_simp; try (with_reducible rfl))
    try simp only [Act.put, List.setIfInBounds_toArray, List.set_cons_zero, List.set_cons_succ]
    refine wpAnyH_take (i := 4) (oi := { dst := some 24, op := Op.move (Operand.tmp 2), type := 3, pos := "slices.go:232", after := #[], guard := none }) (v := ?_) rfl (by kernel_rfl) (by kernel_rfl) (by kernel_rfl) (fun _ _ _ h => h) (Or.inl ⟨by rfl, ?_⟩) (by assumption) ?_
    rotate_left
    · (intro w hSw; (try dsimp only at hSw); go_simp; try (with_reducible rfl))
    try simp only [Act.put, List.setIfInBounds_toArray, List.set_cons_zero, List.set_cons_succ]
    refine wpAnyH_take (i := 5) (oi := { dst := some 25, op := Op.slice 27 (Operand.tmp 23) (some (Operand.tmp 24)) none none, type := 27, pos := "slices.go:232", after := #[{ on := 3, ground := Ground.data }, { on := 4, ground := Ground.data }], guard := none }) (v := ?_) rfl (by kernel_rfl) (by kernel_rfl) (by kernel_rfl) (fun _ _ _ h => h) (Or.inl ⟨by rfl, ?_⟩) (by assumption) ?_
    rotate_left
    · (intro w hSw; (try dsimp only at hSw); go_simp; try (with_reducible rfl))
    try simp only [Act.put, List.setIfInBounds_toArray, List.set_cons_zero, List.set_cons_succ]
    refine wpAnyH_ready (rs := [6]) (by kernel_rfl) (by simp) ?_
    refine AllReadyH.cons (o := { dst := some 26, op := Op.call { callee := Callee.builtin Builtin.append, args := #[Operand.tmp 22, Operand.tmp 25], argTypes := #[27, 27] }, type := 27, pos := "slices.go:232", after := #[{ on := 2, ground := Ground.data }, { on := 5, ground := Ground.data }], guard := none }) rfl (fun K hK => ?_) AllReadyH.nil
    refine step_append_run (.tmp 22) (.tmp 25) 27 27 rfl _ _ (by simp [Act.eval] <;> rfl) (by simp [Act.eval] <;> rfl) (by rfl) (hap1 _ _) ?_
    refine hK.out _ _ ?_ (fun hHeld => ?_)
    · trivial
    clear hK K
    try simp only [Act.put, List.setIfInBounds_toArray, List.set_cons_zero, List.set_cons_succ]
    refine wpAnyH_take (i := 7) (oi := { dst := some 0, op := Op.assign (Operand.tmp 26), type := 27, pos := "slices.go:232", after := #[{ on := 6, ground := Ground.data }, { on := 6, ground := Ground.chain }, { on := 0, ground := Ground.phase }, { on := 1, ground := Ground.phase }, { on := 2, ground := Ground.phase }, { on := 3, ground := Ground.phase }, { on := 4, ground := Ground.phase }, { on := 5, ground := Ground.phase }, { on := 6, ground := Ground.phase }], guard := none }) (v := ?_) rfl (by kernel_rfl) (by kernel_rfl) (by kernel_rfl) (fun _ _ _ h => h) (Or.inl ⟨by rfl, ?_⟩) (by assumption) ?_
    rotate_left
    · (intro w hSw; (try dsimp only at hSw); go_simp; try (with_reducible rfl))
    try simp only [Act.put, List.setIfInBounds_toArray, List.set_cons_zero]
    refine wpAnyH_done (by kernel_rfl) ?_ _
    refine NoPanic.normal ?_
    go_wp2_with (at_builtin; refine list_clear_run rfl (.tmp 31) 27 rfl _ rfl (hcl _ _ _ hg3) ?_)
    go_ret
    exact HF.out
end Go.Proofs.Ytcngllcifcpbkaa
