/-
  Lists of one's own, of elements of any size: how they lie, how they grow; what stays; texts as bytes. Plain laws, no program in sight but for the numbers of its types.
-/
import Derived.Test.YtcamhlnkcoicpaaGreatCB06
import Derived.Sort.Walk0
import Derived.Laws.CopyRow
import Derived.Lib.ConvBytes
namespace Go.Proofs.YtcamhlnkcoicpaaGreat
open Go.RowKit

/-- A slice of the call's own whose elements, of 'size' cells each, are css. -/
def OwnL (w : World) (e : TypeId) (size : Nat) (v : Value) (css : List (List Value)) : Prop := (∀ c ∈ css, c.length = size) ∧ w.ownsRow 0 e size v css.length css.flatten

theorem OwnL.nil (w : World) (e : TypeId) (size : Nat) : OwnL w e size (.slice none 0 0) [] := ⟨by simp, World.ownsRow_nil _ _ _ _⟩
theorem OwnL.moves {w w' : World} {e : TypeId} {size : Nat} {v : Value} {css : List (List Value)} {S : List Nat} (h : OwnL w e size v css) (m : Moves S w w') (hg : ∀ k, v.ownBlock = some k → k ∉ S) : OwnL w' e size v css := by
  refine ⟨h.1, h.2.1, ?_⟩
  rcases h.2.2 with hn | ⟨g, cap, cur, rfl, hb, hgg, rest⟩
  · exact .inl hn
  · exact .inr ⟨g, cap, cur, rfl, hb, m.at hgg (hg g rfl), rest⟩
theorem OwnL.ne {w : World} {e : TypeId} {size : Nat} {v : Value} {css : List (List Value)} (h : OwnL w e size v css) {p : Nat} {c : Array Value} {t : TypeId} {fz : Nat × Nat} (hp : w.heap[p]? = some (.cells c t fz)) (ht : t ≠ e) : v.ownBlock ≠ some p := by
  intro hk
  rcases h.2.2 with ⟨rfl, _⟩ | ⟨g, cap, cur, rfl, hb, hgg, _⟩
  · simp [Value.ownBlock] at hk
  · simp [Value.ownBlock] at hk
    subst hk
    rw [hgg] at hp
    simp at hp
    exact ht hp.2.1.symm
theorem OwnL.slice {w : World} {e : TypeId} {size : Nat} {v : Value} {css : List (List Value)} (h : OwnL w e size v css) : ∃ ad cap, v = .slice ad css.length cap ∧ css.length ≤ cap := by
  rcases h.2.2 with ⟨rfl, h0⟩ | ⟨g, cap, cur, rfl, _, _, h1, _⟩
  · exact ⟨none, 0, by rw [h0], by omega⟩
  · exact ⟨_, cap, rfl, h1⟩

theorem flatten_get {size : Nat} : ∀ {css : List (List Value)}, (∀ c ∈ css, c.length = size) → ∀ {k : Nat} {c : List Value}, css[k]? = some c → ∀ {j : Nat} {u : Value}, c[j]? = some u → css.flatten[k * size + j]? = some u
  | [], _, k, c, hk, _, _, _ => by simp at hk
  | x :: css, h, 0, c, hk, j, u, hj => by
    simp at hk
    subst hk
    have hlt := (List.getElem?_eq_some_iff.1 hj).1
    rw [List.flatten_cons, List.getElem?_append_left (by omega)]
    simpa using hj
  | x :: css, h, k + 1, c, hk, j, u, hj => by
    have hx : x.length = size := h x (by simp)
    have ih := flatten_get (css := css) (fun c hc => h c (by simp [hc])) (k := k) (c := c) (by simpa using hk) hj
    rw [List.flatten_cons, List.getElem?_append_right (by rw [hx, Nat.succ_mul]; omega)]
    have e : (k + 1) * size + j - x.length = k * size + j := by rw [hx, Nat.succ_mul]; omega
    rw [e]
    exact ih

theorem flatten_length {size : Nat} : ∀ {ds : List (List Value)}, (∀ c ∈ ds, c.length = size) → ds.flatten.length = ds.length * size
  | [], _ => by simp
  | x :: t, h => by
    rw [List.flatten_cons, List.length_append, flatten_length (fun c hc => h c (by simp [hc])), h x (by simp), List.length_cons, Nat.succ_mul]
    omega

/-- Where bytes lie: in a row of bytes. -/
def U8 (w : World) (g : Nat) (bs : List Nat) : Prop := bs = [] ∨ ∃ c fz, w.heap[g]? = some (.cells c 5 fz)
/-- Two lists, element by element. -/
def All2 {α β : Type} (R : α → β → Prop) : List α → List β → Prop
  | [], [] => True
  | a :: s, b :: t => R a b ∧ All2 R s t
  | _, _ => False

theorem All2.length {α β : Type} {R : α → β → Prop} : ∀ {s : List α} {t : List β}, All2 R s t → s.length = t.length
  | [], [], _ => rfl
  | _ :: _, _ :: _, h => by simp [All2.length h.2]
  | [], _ :: _, h => h.elim
  | _ :: _, [], h => h.elim
theorem All2.get {α β : Type} {R : α → β → Prop} : ∀ {s : List α} {t : List β}, All2 R s t → ∀ {k : Nat} {b : β}, t[k]? = some b → ∃ a, s[k]? = some a ∧ R a b
  | [], [], _, _, _, hk => by simp at hk
  | a :: _, _ :: _, h, 0, _, hk => by simp at hk; subst hk; exact ⟨a, rfl, h.1⟩
  | _ :: s, _ :: t, h, k + 1, b, hk => by
    obtain ⟨a, h1, h2⟩ := All2.get h.2 (k := k) (b := b) (by simpa using hk)
    exact ⟨a, by simpa using h1, h2⟩
  | [], _ :: _, h, _, _, _ => h.elim
  | _ :: _, [], h, _, _, _ => h.elim
theorem All2.mono {α β : Type} {R S : α → β → Prop} (hRS : ∀ a b, R a b → S a b) : ∀ {s : List α} {t : List β}, All2 R s t → All2 S s t
  | [], [], _ => trivial
  | _ :: _, _ :: _, h => ⟨hRS _ _ h.1, All2.mono hRS h.2⟩
  | [], _ :: _, h => h.elim
  | _ :: _, [], h => h.elim
theorem All2.append {α β : Type} {R : α → β → Prop} : ∀ {s : List α} {t : List β} {s' : List α} {t' : List β}, All2 R s t → All2 R s' t' → All2 R (s ++ s') (t ++ t')
  | [], [], _, _, _, h => h
  | _ :: _, _ :: _, _, _, h, k => ⟨h.1, All2.append h.2 k⟩
  | [], _ :: _, _, _, h, _ => h.elim
  | _ :: _, [], _, _, h, _ => h.elim
theorem All2.mem {α β : Type} {R : α → β → Prop} {p : α → Prop} (hp : ∀ a b, R a b → p a) : ∀ {s : List α} {t : List β}, All2 R s t → ∀ a ∈ s, p a
  | [], [], _, a, ha => by simp at ha
  | x :: s, _ :: _, h, a, ha => by
    rcases List.mem_cons.1 ha with rfl | ha
    · exact hp _ _ h.1
    · exact All2.mem hp h.2 a ha
  | [], _ :: _, h, _, _ => h.elim
  | _ :: _, [], h, _, _ => h.elim

/-- Blocks of some types stay as they are. -/
def Stay (T : TypeId → Prop) (w w' : World) : Prop := ∀ (g : Nat) (c : Array Value) (t : TypeId) (fz : Nat × Nat), w.heap[g]? = some (.cells c t fz) → T t → ∃ fz', w'.heap[g]? = some (.cells c t fz')
theorem Stay.ofMoves {T : TypeId → Prop} {w w' : World} (m : Moves [] w w') : Stay T w w' := fun _ _ _ fz hg _ => ⟨fz, m.at hg (by simp)⟩
theorem Stay.ofMovesS {T : TypeId → Prop} {S : List Nat} {w w' : World} (m : Moves S w w') (hS : ∀ k ∈ S, ∀ (c : Array Value) (t : TypeId) (fz : Nat × Nat), w.heap[k]? = some (.cells c t fz) → ¬ T t) : Stay T w w' := fun g c t fz hg ht =>
  ⟨fz, m.at hg (fun hm => hS g hm c t fz hg ht)⟩
theorem IsB.stay {T : TypeId → Prop} {w w' : World} (h : Stay T w w') (hT : T 5) {g : Nat} {v : Value} {bs : List Nat} (hb : IsB w g v bs) (hu : U8 w g bs) : IsB w' g v bs ∧ U8 w' g bs := by
  rcases hu with rfl | ⟨c, fz, hc⟩
  · obtain ⟨ad, n, cap, h1, h2, h3, h4, h5⟩ := hb
    exact ⟨⟨ad, n, cap, h1, h2, h3, h4, .inl rfl⟩, .inl rfl⟩
  · obtain ⟨f, hf⟩ := h _ _ _ _ hc hT
    obtain ⟨ad, n, cap, h1, h2, h3, h4, h5⟩ := hb
    refine ⟨⟨ad, n, cap, h1, h2, h3, h4, ?_⟩, .inr ⟨c, f, hf⟩⟩
    rcases h5 with h5 | ⟨off, h5, h6⟩
    · exact .inl h5
    · refine .inr ⟨off, h5, fun j b hj => ?_⟩
      have := h6 j b hj
      unfold World.cell? at this ⊢
      simp only [hc] at this
      simp only [hf]
      exact this
/-- A list of structs of 'size' cells each. -/
def Lies (w : World) (e : TypeId) (size : Nat) (v : Value) (css : List (List Value)) : Prop :=
  (∀ c ∈ css, c.length = size) ∧ ∃ ad cap, v = .slice ad css.length cap ∧ css.length ≤ cap ∧ (ad = none → cap = 0) ∧ (css = [] ∨ ∃ g off arr fz, ad = some ⟨g, off, none⟩ ∧ w.heap[g]? = some (.cells arr e fz) ∧ ∀ k c, css[k]? = some c → ∀ j u, c[j]? = some u → arr[off + k * size + j]? = some u)
theorem Lies.nil (w : World) (e : TypeId) (size : Nat) : Lies w e size (.slice none 0 0) [] := ⟨by simp, none, 0, rfl, Nat.le_refl _, fun _ => rfl, .inl rfl⟩
theorem Lies.stay {T : TypeId → Prop} {w w' : World} (h : Stay T w w') {e : TypeId} (hT : T e) {size : Nat} {v : Value} {css : List (List Value)} (hl : Lies w e size v css) : Lies w' e size v css := by
  obtain ⟨h0, ad, cap, h1, h2, h3, h4⟩ := hl
  refine ⟨h0, ad, cap, h1, h2, h3, ?_⟩
  rcases h4 with h4 | ⟨g, off, arr, fz, k1, k2, k3⟩
  · exact .inl h4
  · obtain ⟨f, hf⟩ := h _ _ _ _ k2 hT
    exact .inr ⟨g, off, arr, f, k1, hf, k3⟩
theorem Lies.ofOwn {w : World} {e : TypeId} {size : Nat} {v : Value} {css : List (List Value)} (h : OwnL w e size v css) : Lies w e size v css := by
  refine ⟨h.1, ?_⟩
  rcases h.2.2 with ⟨rfl, h0⟩ | ⟨g, cap, cur, rfl, hb, hgg, h1, h2, h3, h4⟩
  · exact ⟨none, 0, by rw [h0], by omega, fun _ => rfl, .inl (List.eq_nil_of_length_eq_zero h0)⟩
  · refine ⟨_, cap, rfl, h1, fun h => by simp at h, .inr ⟨g, 0, cur, (0, 0), rfl, hgg, fun k c hk j u hj => ?_⟩⟩
    have hf := flatten_get h.1 hk hj
    have hfl := (List.getElem?_eq_some_iff.1 hf).1
    rw [h.2.1] at hfl
    have e2 : (cur.toList.take (css.length * size))[k * size + j]? = some u := by rw [h4]; exact hf
    rw [List.getElem?_take, if_pos (by omega)] at e2
    rw [Nat.zero_add]
    simpa using e2
/-- Element k. -/
theorem Lies.at {w : World} {e : TypeId} {size : Nat} {ad : Option Addr} {n cap : Nat} {css : List (List Value)} (h : Lies w e size (.slice ad n cap) css) {k : Nat} {c : List Value} (hk : css[k]? = some c) :
    ∃ g off, ad = some ⟨g, off, none⟩ ∧ ∀ j u, c[j]? = some u → w.cell? ⟨g, off + k * size + j, none⟩ = some u := by
  obtain ⟨_, ad', cap', h1, h2, h3, h4⟩ := h
  simp at h1
  obtain ⟨rfl, rfl, rfl⟩ := h1
  rcases h4 with rfl | ⟨g, off, arr, fz, k1, k2, k3⟩
  · simp at hk
  · refine ⟨g, off, k1, fun j u hj => ?_⟩
    have := k3 k c hk j u hj
    simp only [World.cell?, k2]
    exact this
theorem Lies.slice {w : World} {e : TypeId} {size : Nat} {v : Value} {css : List (List Value)} (h : Lies w e size v css) : ∃ ad cap, v = .slice ad css.length cap ∧ css.length ≤ cap := by
  obtain ⟨_, ad, cap, h1, h2, _⟩ := h
  exact ⟨ad, cap, h1, h2⟩
theorem Lies.src {w : World} {e : TypeId} {size : Nat} (hs : 0 < size) {ad : Addr} {n cap : Nat} {css : List (List Value)} (h : Lies w e size (.slice (some ad) n cap) css) : ∀ j u, css.flatten[j]? = some u → w.cell? (ad.add j) = some u := by
  intro j u hj
  obtain ⟨h0, _⟩ := id h
  have hlt := (List.getElem?_eq_some_iff.1 hj).1
  rw [flatten_length h0] at hlt
  have hk : j / size < css.length := Nat.div_lt_of_lt_mul (by rw [Nat.mul_comm]; exact hlt)
  have hc : css[j / size]? = some css[j / size] := List.getElem?_eq_getElem hk
  obtain ⟨g, off, h1, h2⟩ := h.at hc
  simp at h1
  subst h1
  have hlen := h0 _ (List.getElem_mem hk)
  have hm : j % size < css[j / size].length := by rw [hlen]; exact Nat.mod_lt _ hs
  have hx : css[j / size][j % size]? = some (css[j / size][j % size]) := List.getElem?_eq_getElem hm
  have e1 := flatten_get h0 hc hx
  have e2 : j / size * size + j % size = j := Nat.div_add_mod' j size
  rw [e2, hj] at e1
  simp at e1
  have := h2 _ _ hx
  have e3 : (⟨g, off, none⟩ : Addr).add j = ⟨g, off + j / size * size + j % size, none⟩ := by
    rw [Nat.add_assoc, e2]
    unfold Addr.add; split <;> simp_all
  rw [e3, this, e1]

/-- A list that grows: the call's own, made since W. -/
def Grow {α : Type} (EC : World → List Value → α → Prop) (e : TypeId) (size : Nat) (W w : World) (v : Value) (xs : List α) : Prop := Fresh W v ∧ ∃ css, OwnL w e size v css ∧ All2 (EC w) css xs
/-- The block of a list of the call's own. -/
theorem OwnL.block {w : World} {e : TypeId} {size : Nat} {v : Value} {css : List (List Value)} (h : OwnL w e size v css) : ∀ k ∈ v.ownBlock.toList, ∀ (c : Array Value) (t : TypeId) (fz : Nat × Nat), w.heap[k]? = some (.cells c t fz) → t = e := by
  intro k hk c t fz hc
  rcases h.2.2 with ⟨rfl, _⟩ | ⟨g, cap, cur, rfl, _, hgg, _⟩
  · simp [Value.ownBlock] at hk
  · simp [Value.ownBlock] at hk
    subst hk
    rw [hgg] at hc
    simp at hc
    exact hc.2.1.symm

/-- append to a list that grows, of elements that lie anywhere. -/
theorem grow_append {α : Type} {EC : World → List Value → α → Prop} {o : Oper} {a : Act} {K : Act → World → Prop} {Q : Exit → Act → World → Prop} {W w : World} (s x : Operand) (t e : TypeId) (z : Value) (size bytes : Nat)
    (hinfo : (Tryz.prog.info? e).map (fun i => (i.zero, i.size, i.bytes)) = some (some z, size, bytes)) (ht : Tryz.prog.underlying t = some (.slice e)) (hzs : z.cells.size = size) (hsz : 0 < size) (hby : bytes ≤ 100)
    (hone : ∀ w c x, EC w c x → ∀ u ∈ c, u.oneCell' = true) (hstay : ∀ w w' c x, EC w c x → Stay (· ≠ e) w w' → EC w' c x)
    (ho : o.op = .call { callee := .builtin .append, args := #[s, x], argTypes := #[t, t] })
    (v yv : Value) (xs ys : List α) (ds : List (List Value)) (hs : a.eval s = v) (hx : a.eval x = yv)
    (hv : Grow EC e size W w v xs) (hd : Lies w e size yv ds) (hys : All2 (EC w) ds ys) (hm : Moves [] W w) (hb : xs.length + ys.length ≤ 1048576)
    (h : ∀ v' w', Grow EC e size W w' v' (xs ++ ys) → Moves [] W w' → Moves v.ownBlock.toList w w' → Stay (· ≠ e) w w' → Lain w v v' → K (a.put o.dst v') w') :
    o.wp Tryz.prog a w K Q := by
  obtain ⟨hf, css, hO, hE⟩ := hv
  have hl1 := hE.length
  have hl2 := hys.length
  have fin : ∀ v' w', OwnL w' e size v' (css ++ ds) → Moves v.ownBlock.toList w w' → Lain w v v' → K (a.put o.dst v') w' := by
    intro v' w' h1 h2 h3
    have hst : Stay (· ≠ e) w w' := Stay.ofMovesS h2 (fun k hk c t fz hc hn => hn (hO.block k hk c t fz hc))
    obtain ⟨k1, k2⟩ := appended hm hf h2 h3
    exact h v' w' ⟨k2, _, h1, (hE.mono fun _ _ q => hstay _ _ _ _ q hst).append (hys.mono fun _ _ q => hstay _ _ _ _ q hst)⟩ k1 h2 hst h3
  obtain ⟨i0, hi, hz0, hz1, hz2⟩ := info_parts hinfo
  obtain ⟨hd0, ad, cap, rfl, hcap, hnil, hd1⟩ := id hd
  cases ad with
  | none =>
    obtain rfl : cap = 0 := hnil rfl
    have h0 : ds.length = 0 := by omega
    obtain rfl : ds = [] := List.eq_nil_of_length_eq_zero h0
    have hrun := run_append_owned_none (P := Tryz.prog) (w := w) 0 t o.type e i0 size ht hi v css.length css.flatten hO.2
    unfold Oper.wp
    simp [execOp, ho, resolve, invoke, builtin, hs, hx, hrun, Result.andThen]
    exact fin v w (by simpa using hO) (Moves.refl _ _) (.inl rfl)
  | some y =>
    have hfl := flatten_length hd0
    have hbb : (css.length + ds.length) * bytes ≤ 140737488355328 := by
      have := Nat.mul_le_mul (show css.length + ds.length ≤ 1048576 by omega) hby
      omega
    obtain ⟨v', w', hr, g1, g2, _, g4⟩ := run_append_own_at (P := Tryz.prog) w 0 t o.type e i0 z size bytes ht hi hz0 hz1 hz2 hzs hsz v css.length css.flatten hO.2 y ds.length cap ds.flatten hfl (hd.src hsz) (fun u hu => by
      obtain ⟨c, hc, hu⟩ := List.mem_flatten.1 hu
      exact All2.mem (p := fun c => ∀ u ∈ c, u.oneCell' = true) (fun c b hc => hone _ _ _ hc) hys c hc u hu) (by unfold maxLen; omega) hbb (Nat.zero_le _)
    unfold Oper.wp execOp
    simp only [ho, resolve, invoke, builtin, Sem.run_bind, Sem.run_pure, Result.andThen_ok, List.map_toArray, List.map_cons, List.map_nil, hs, hx, hr]
    refine fin v' w' ⟨fun c hc => ?_, ?_⟩ ((Moves.refl _ _).grown g2 (fun k hk => .inl (by rw [hk]; simp))) g4
    · rcases List.mem_append.1 hc with hc | hc
      · exact hO.1 c hc
      · exact hd0 c hc
    · rw [List.length_append, List.flatten_append]
      exact g1

/-- One new element. -/
theorem lies_new (w : World) (cs : List Value) (e : TypeId) : Lies (w.alloc (.cells cs.toArray e)) e cs.length (.slice (some ⟨w.heap.size, 0, none⟩) 1 1) [cs] := by
  refine ⟨by simp, _, 1, rfl, Nat.le_refl _, fun h => by simp at h, .inr ⟨_, 0, _, _, rfl, heap_alloc_new _ _, fun k c hk j u hj => ?_⟩⟩
  match k, hk with
  | 0, hk =>
    simp at hk
    subst hk
    simpa using hj
theorem moves_row (w : World) (g : Nat) (cs : Array Value) : Moves [g] w (w.setRow g cs) :=
  ⟨rfl, rfl, rfl, by simp [World.setRow], fun k _ hk => setRow_other w g k cs (by simpa using hk)⟩

/-- A list that grows in a call that writes to a block that was there. -/
def cutTo (W w : World) : World := { w with heap := w.heap.extract 0 W.heap.size }
theorem cutTo_size {W w : World} (h : W.heap.size ≤ w.heap.size) : (cutTo W w).heap.size = W.heap.size := by
  simp [cutTo]
  omega
theorem cutTo_moves {W w : World} (h : W.heap.size ≤ w.heap.size) : Moves [] (cutTo W w) w := by
  refine ⟨rfl, rfl, rfl, by rw [cutTo_size h]; exact h, fun k hk _ => ?_⟩
  rw [cutTo_size h] at hk
  show _ = (w.heap.extract 0 W.heap.size)[k]?
  rw [Array.getElem?_extract]
  simp
  omega
theorem one_cell {w : World} {p : Nat} {a : Value} {t : TypeId} (h : w.heap[p]? = some (.cells #[a] t (0, 0))) : w.cell? ⟨p, 0, none⟩ = some a ∧ w.frozen? ⟨p, 0, none⟩ = false := by
  simp [World.cell?, World.frozen?, h]
theorem set_one {w : World} {p : Nat} {a : Value} {t : TypeId} (h : w.heap[p]? = some (.cells #[a] t (0, 0))) (u : Value) : (w.setCell ⟨p, 0, none⟩ u).heap[p]? = some (.cells #[u] t (0, 0)) := heap_set (i := 0) h u
theorem Wr.ltp {w : World} {p : Nat} {a : Option Nat} {bs : List Nat} (h : Wr w p a bs) : p < w.heap.size := by
  obtain ⟨v, hp, _⟩ := h
  exact lt_of_block hp

/-- The bytes of a text. -/
def zbs (s : ByteArray) : List Nat := s.data.toList.map UInt8.toNat
theorem zbs_length (s : ByteArray) : (zbs s).length = s.size := by unfold zbs; rw [List.length_map]; rfl
theorem zbs_oct (s : ByteArray) : ∀ b ∈ zbs s, b < 256 := by
  intro b hb
  simp only [zbs, List.mem_map] at hb
  obtain ⟨u, _, rfl⟩ := hb
  exact u.toNat_lt
theorem zbs_back (s : ByteArray) : strOf (zbs s) = s := by
  unfold strOf zbs
  rw [List.map_map]
  have : (UInt8.ofNat ∘ UInt8.toNat) = id := by funext u; simp
  rw [this, List.map_id]
/-- []byte(s). -/
theorem zbytes_run (w : World) (s : ByteArray) : ∃ g cap w', (convert 9 23 (.string s)).run Tryz.prog w = .ok (.slice (some ⟨g, 0, none⟩) s.size cap) w' ∧ IsB w' g (.slice (some ⟨g, 0, none⟩) s.size cap) (zbs s) ∧ Moves [] w w' ∧ w.heap.size ≤ g := by
  refine ⟨w.heap.size, _, _, Lib.run_convert_string_bytes w 9 23 5 s Tryz.underlying9 Tryz.underlying23 Tryz.underlying5, ?_, ?_, Nat.le_refl _⟩
  · refine ⟨_, _, _, rfl, zbs_length s, grownCap_ge _ _ _ _, fun h => by simp at h, .inr ⟨0, rfl, fun j b hj => ?_⟩⟩
    have hlt : j < s.size := by
      have := (List.getElem?_eq_some_iff.1 hj).1
      rw [zbs_length] at this
      exact this
    rw [Nat.zero_add, Lib.bytesWorld_cell _ _ _ _ hlt]
    simp only [zbs, List.getElem?_map, Option.map_eq_some_iff] at hj
    obtain ⟨u, hu, rfl⟩ := hj
    rw [List.getD_eq_getElem?_getD, hu]
    rfl
  · refine ⟨rfl, rfl, rfl, ?_, fun k hk _ => Lib.bytesWorld_at_old _ _ _ _ hk⟩
    rw [Lib.bytesWorld_size]
    omega
theorem zafter {w w1 w2 : World} {p : Nat} {a a2 : Option Nat} {bs : List Nat} (m : Moves [] w w1) (h : Wrote w1 p a w2 a2 bs) : Wrote w p a w2 a2 bs := by
  refine ⟨h.1, (m.mono (by simp)).then h.2.1, ?_⟩
  rcases h.2.2 with e | ⟨k, e, hk⟩
  · exact .inl e
  · exact .inr ⟨k, e, Nat.le_trans m.size hk⟩
theorem zne {w : World} {p g : Nat} {a : Option Nat} {bs : List Nat} (h : Wr w p a bs) (hg : w.heap.size ≤ g) : g ∉ p :: a.toList := by
  intro hx
  rcases List.mem_cons.1 hx with e | e
  · obtain ⟨v, hp, _⟩ := h
    have := lt_of_block hp
    omega
  · have := h.lt (Option.mem_toList.1 e)
    omega
/-- []byte("..") of a row that is the call's own, with its bytes. -/
theorem conv_exact {W w : World} {c : List Nat} {g : Nat} {fz : Nat × Nat} (hW : W.heap.size ≤ g) (m : Moves [] W w) (hg : w.heap[g]? = some (.cells (c.map fun (b : Nat) => Value.int .u8 (b : Int)).toArray 5 fz)) :
    ∃ w', (convert 23 23 (.slice (some ⟨g, 0, none⟩) c.length c.length)).run Tryz.prog w = .ok (.slice (some ⟨g, 0, none⟩) c.length c.length) w' ∧ IsB w' g (.slice (some ⟨g, 0, none⟩) c.length c.length) c ∧ Moves [] W w' ∧ ∀ k, k ≠ g → w'.heap[k]? = w.heap[k]? := by
  have hsh : w.shape? g = some (5, c.length) := by unfold World.shape?; rw [hg]; simp
  have hlt : g < w.heap.size := (Array.getElem?_eq_some_iff.1 hg).1
  have hfr : ∃ f, (w.freeze ⟨g, c.length, none⟩ 1).heap[g]? = some (.cells (c.map fun (b : Nat) => Value.int .u8 (b : Int)).toArray 5 f) := by
    have h' : w.heap[g] = .cells (c.map fun (b : Nat) => Value.int .u8 (b : Int)).toArray 5 fz := by simpa [Array.getElem?_eq_getElem hlt] using hg
    show ∃ f, (Array.modify _ _ _)[g]? = _
    rw [Array.getElem?_eq_getElem (by simpa using hlt), Array.getElem_modify_self, h']
    exact ⟨_, rfl⟩
  have hne : ∀ k, k ≠ g → (w.freeze ⟨g, c.length, none⟩ 1).heap[k]? = w.heap[k]? := fun k hk => by
    show (Array.modify _ _ _)[k]? = _
    rw [Array.getElem?_modify, if_neg (fun e => hk e.symm)]
  refine ⟨w.freeze ⟨g, c.length, none⟩ 1, ?_, ?_, ?_, hne⟩
  · simp [convert, run_underlying Tryz.underlying23, run_underlying Tryz.underlying5, markStringish, hsh]
  · obtain ⟨f, hf⟩ := hfr
    refine ⟨_, _, _, rfl, rfl, Nat.le_refl _, fun h => by simp at h, .inr ⟨0, rfl, fun j b hj => ?_⟩⟩
    unfold World.cell?
    simp only [hf]
    simp [hj]
  · exact m.trans (T := [g]) ⟨rfl, rfl, rfl, by simp [World.freeze], fun k _ hn => hne k (by simpa using hn)⟩ (fun x hx => .inr (by simp at hx; omega))
end Go.Proofs.YtcamhlnkcoicpaaGreat
