/-
  Rows as plain data, and how they lie in memory: lists of structs whose fields are lists. Plain facts, no program in sight but for the numbers of its types.
-/
import Derived.Test.YtcngllcifcpbkaaCBaseH
import Derived.Sort.Walk0
namespace Go.Proofs.Ytcngllcifcpbkaa
open Go.RowKit

/-- Two lists, element by element. -/
def All2 {α β : Type} (R : α → β → Prop) : List α → List β → Prop
  | [], [] => True
  | a :: s, b :: t => R a b ∧ All2 R s t
  | _, _ => False

theorem All2.length {α β : Type} {R : α → β → Prop} : ∀ {s : List α} {t : List β}, All2 R s t → s.length = t.length
  | [], [], _ => rfl
  | _ :: _, _ :: _, h => by simp [All2.length h.2]
  | [], _ :: _, h => h.elim
  | _ :: _, [], h => h.elim
theorem All2.get {α β : Type} {R : α → β → Prop} : ∀ {s : List α} {t : List β}, All2 R s t → ∀ {k : Nat} {b : β}, t[k]? = some b → ∃ a, s[k]? = some a ∧ R a b
  | [], [], _, _, _, hk => by simp at hk
  | a :: _, _ :: _, h, 0, _, hk => by simp at hk; subst hk; exact ⟨a, rfl, h.1⟩
  | _ :: s, _ :: t, h, k + 1, b, hk => by
    obtain ⟨a, h1, h2⟩ := All2.get h.2 (k := k) (b := b) (by simpa using hk)
    exact ⟨a, by simpa using h1, h2⟩
  | [], _ :: _, h, _, _, _ => h.elim
  | _ :: _, [], h, _, _, _ => h.elim
theorem All2.mono {α β : Type} {R S : α → β → Prop} (hRS : ∀ a b, R a b → S a b) : ∀ {s : List α} {t : List β}, All2 R s t → All2 S s t
  | [], [], _ => trivial
  | _ :: _, _ :: _, h => ⟨hRS _ _ h.1, All2.mono hRS h.2⟩
  | [], _ :: _, h => h.elim
  | _ :: _, [], h => h.elim
theorem All2.append {α β : Type} {R : α → β → Prop} : ∀ {s : List α} {t : List β} {s' : List α} {t' : List β}, All2 R s t → All2 R s' t' → All2 R (s ++ s') (t ++ t')
  | [], [], _, _, _, h => h
  | _ :: _, _ :: _, _, _, h, k => ⟨h.1, All2.append h.2 k⟩
  | [], _ :: _, _, _, h, _ => h.elim
  | _ :: _, [], _, _, h, _ => h.elim
theorem All2.take {α β : Type} {R : α → β → Prop} : ∀ {s : List α} {t : List β} (n : Nat), All2 R s t → All2 R (s.take n) (t.take n)
  | [], [], n, _ => by simp [All2]
  | _ :: _, _ :: _, 0, _ => by simp [All2]
  | _ :: _, _ :: _, n + 1, h => ⟨h.1, All2.take n h.2⟩
  | [], _ :: _, _, h => h.elim
  | _ :: _, [], _, h => h.elim
theorem All2.drop {α β : Type} {R : α → β → Prop} : ∀ {s : List α} {t : List β} (n : Nat), All2 R s t → All2 R (s.drop n) (t.drop n)
  | [], [], n, _ => by simp [All2]
  | _ :: _, _ :: _, 0, h => h
  | _ :: _, _ :: _, n + 1, h => All2.drop n h.2
  | [], _ :: _, _, h => h.elim
  | _ :: _, [], _, h => h.elim
theorem All2.set {α β : Type} {R : α → β → Prop} {a : α} {b : β} (hab : R a b) : ∀ {s : List α} {t : List β} (n : Nat), All2 R s t → All2 R (s.set n a) (t.set n b)
  | [], [], n, _ => by simp [All2]
  | _ :: _, _ :: _, 0, h => ⟨hab, h.2⟩
  | _ :: _, _ :: _, n + 1, h => ⟨h.1, All2.set hab n h.2⟩
  | [], _ :: _, _, h => h.elim
  | _ :: _, [], _, h => h.elim
theorem All2.mem {α β : Type} {R : α → β → Prop} {p : α → Prop} (hp : ∀ a b, R a b → p a) : ∀ {s : List α} {t : List β}, All2 R s t → ∀ a ∈ s, p a
  | [], [], _, a, ha => by simp at ha
  | x :: s, _ :: _, h, a, ha => by
    rcases List.mem_cons.1 ha with rfl | ha
    · exact hp _ _ h.1
    · exact All2.mem hp h.2 a ha
  | [], _ :: _, h, _, _ => h.elim
  | _ :: _, [], h, _, _ => h.elim

/-- A value, a version, a column, as plain data. -/
structure Pv where
  kind : Int
  bs : List Nat
  n : Nat
structure Pver where
  t : Int
  v : Pv
structure Pcol where
  name : ByteArray
  l : List Pver

/-- Blocks of some types stay as they are. -/
def Stay (T : TypeId → Prop) (w w' : World) : Prop := ∀ (g : Nat) (c : Array Value) (t : TypeId) (fz : Nat × Nat), w.heap[g]? = some (.cells c t fz) → T t → ∃ fz', w'.heap[g]? = some (.cells c t fz')
theorem Stay.ofMoves {T : TypeId → Prop} {w w' : World} (m : Moves [] w w') : Stay T w w' := fun _ _ _ fz hg _ => ⟨fz, m.at hg (by simp)⟩
theorem Stay.ofMovesS {T : TypeId → Prop} {S : List Nat} {w w' : World} (m : Moves S w w') (hS : ∀ k ∈ S, ∀ (c : Array Value) (t : TypeId) (fz : Nat × Nat), w.heap[k]? = some (.cells c t fz) → ¬ T t) : Stay T w w' := fun g c t fz hg ht =>
  ⟨fz, m.at hg (fun hm => hS g hm c t fz hg ht)⟩
theorem Stay.weak {T U : TypeId → Prop} {w w' : World} (h : Stay T w w') (hTU : ∀ t, U t → T t) : Stay U w w' := fun g c t fz hg ht => h g c t fz hg (hTU t ht)

/-- The cells of a value. -/
def VC (w : World) (c : List Value) (p : Pv) : Prop := ∃ ad len cap g, c = [.int .i64 p.kind, .slice ad len cap, .float .f64 p.n] ∧ IsB w g (.slice ad len cap) p.bs ∧ Pl.Fits p.n ∧ (∀ z ∈ p.bs, z < 256) ∧ p.bs.length ≤ 1048576 ∧ U8 w g p.bs
theorem IsB.stay {T : TypeId → Prop} {w w' : World} (h : Stay T w w') (hT : T 5) {g : Nat} {v : Value} {bs : List Nat} (hb : IsB w g v bs) (hu : U8 w g bs) : IsB w' g v bs ∧ U8 w' g bs := by
  rcases hu with rfl | ⟨c, fz, hc⟩
  · obtain ⟨ad, n, cap, h1, h2, h3, h4, h5⟩ := hb
    exact ⟨⟨ad, n, cap, h1, h2, h3, h4, .inl rfl⟩, .inl rfl⟩
  · obtain ⟨f, hf⟩ := h _ _ _ _ hc hT
    obtain ⟨ad, n, cap, h1, h2, h3, h4, h5⟩ := hb
    refine ⟨⟨ad, n, cap, h1, h2, h3, h4, ?_⟩, .inr ⟨c, f, hf⟩⟩
    rcases h5 with h5 | ⟨off, h5, h6⟩
    · exact .inl h5
    · refine .inr ⟨off, h5, fun j b hj => ?_⟩
      have := h6 j b hj
      unfold World.cell? at this ⊢
      simp only [hc] at this
      simp only [hf]
      exact this
theorem VC.stay {T : TypeId → Prop} {w w' : World} (h : Stay T w w') (hT : T 5) {c : List Value} {p : Pv} (hv : VC w c p) : VC w' c p := by
  obtain ⟨ad, len, cap, g, h1, h2, h3, h4, h6, h5⟩ := hv
  obtain ⟨k1, k2⟩ := h2.stay h hT h5
  exact ⟨ad, len, cap, g, h1, k1, h3, h4, h6, k2⟩

/-- The same, the bytes anywhere. -/
def VA (w : World) (c : List Value) (p : Pv) : Prop := ∃ ad len cap g, c = [.int .i64 p.kind, .slice ad len cap, .float .f64 p.n] ∧ IsB w g (.slice ad len cap) p.bs ∧ Pl.Fits p.n ∧ (∀ z ∈ p.bs, z < 256) ∧ p.bs.length ≤ 1048576
theorem VC.va {w : World} {c : List Value} {p : Pv} (h : VC w c p) : VA w c p := by
  obtain ⟨ad, len, cap, g, h1, h2, h3, h4, h5, _⟩ := h
  exact ⟨ad, len, cap, g, h1, h2, h3, h4, h5⟩
theorem VA.moves {w w' : World} {c : List Value} {p : Pv} (h : VA w c p) (m : Moves [] w w') : VA w' c p := by
  obtain ⟨ad, len, cap, g, h1, h2, h3, h4, h5⟩ := h
  exact ⟨ad, len, cap, g, h1, h2.moves m (by simp), h3, h4, h5⟩

/-- The cells of a version. -/
def VerC (w : World) (c : List Value) (x : Pver) : Prop := ∃ d, c = .int .i64 x.t :: d ∧ VC w d x.v
theorem VerC.stay {T : TypeId → Prop} {w w' : World} (h : Stay T w w') (hT : T 5) {c : List Value} {x : Pver} (hv : VerC w c x) : VerC w' c x := by
  obtain ⟨d, h1, h2⟩ := hv
  exact ⟨d, h1, h2.stay h hT⟩

/-- A list of structs of 'size' cells each. -/
def Lies (w : World) (e : TypeId) (size : Nat) (v : Value) (css : List (List Value)) : Prop :=
  (∀ c ∈ css, c.length = size) ∧ ∃ ad cap, v = .slice ad css.length cap ∧ css.length ≤ cap ∧ (ad = none → cap = 0) ∧ (css = [] ∨ ∃ g off arr fz, ad = some ⟨g, off, none⟩ ∧ w.heap[g]? = some (.cells arr e fz) ∧ ∀ k c, css[k]? = some c → ∀ j u, c[j]? = some u → arr[off + k * size + j]? = some u)
theorem Lies.nil (w : World) (e : TypeId) (size : Nat) : Lies w e size (.slice none 0 0) [] := ⟨by simp, none, 0, rfl, Nat.le_refl _, fun _ => rfl, .inl rfl⟩
theorem Lies.stay {T : TypeId → Prop} {w w' : World} (h : Stay T w w') {e : TypeId} (hT : T e) {size : Nat} {v : Value} {css : List (List Value)} (hl : Lies w e size v css) : Lies w' e size v css := by
  obtain ⟨h0, ad, cap, h1, h2, h3, h4⟩ := hl
  refine ⟨h0, ad, cap, h1, h2, h3, ?_⟩
  rcases h4 with h4 | ⟨g, off, arr, fz, k1, k2, k3⟩
  · exact .inl h4
  · obtain ⟨f, hf⟩ := h _ _ _ _ k2 hT
    exact .inr ⟨g, off, arr, f, k1, hf, k3⟩
theorem Lies.ofOwn {w : World} {e : TypeId} {size : Nat} {v : Value} {css : List (List Value)} (h : OwnL w e size v css) : Lies w e size v css := by
  refine ⟨h.1, ?_⟩
  rcases h.2.2 with ⟨rfl, h0⟩ | ⟨g, cap, cur, rfl, hb, hgg, h1, h2, h3, h4⟩
  · exact ⟨none, 0, by rw [h0], by omega, fun _ => rfl, .inl (List.eq_nil_of_length_eq_zero h0)⟩
  · refine ⟨_, cap, rfl, h1, fun h => by simp at h, .inr ⟨g, 0, cur, (0, 0), rfl, hgg, fun k c hk j u hj => ?_⟩⟩
    have hf := flatten_get h.1 hk hj
    have hfl := (List.getElem?_eq_some_iff.1 hf).1
    rw [h.2.1] at hfl
    have e2 : (cur.toList.take (css.length * size))[k * size + j]? = some u := by rw [h4]; exact hf
    rw [List.getElem?_take, if_pos (by omega)] at e2
    rw [Nat.zero_add]
    simpa using e2
/-- Element k. -/
theorem Lies.at {w : World} {e : TypeId} {size : Nat} {ad : Option Addr} {n cap : Nat} {css : List (List Value)} (h : Lies w e size (.slice ad n cap) css) {k : Nat} {c : List Value} (hk : css[k]? = some c) :
    ∃ g off, ad = some ⟨g, off, none⟩ ∧ ∀ j u, c[j]? = some u → w.cell? ⟨g, off + k * size + j, none⟩ = some u := by
  obtain ⟨_, ad', cap', h1, h2, h3, h4⟩ := h
  simp at h1
  obtain ⟨rfl, rfl, rfl⟩ := h1
  rcases h4 with rfl | ⟨g, off, arr, fz, k1, k2, k3⟩
  · simp at hk
  · refine ⟨g, off, k1, fun j u hj => ?_⟩
    have := k3 k c hk j u hj
    simp only [World.cell?, k2]
    exact this
theorem Lies.slice {w : World} {e : TypeId} {size : Nat} {v : Value} {css : List (List Value)} (h : Lies w e size v css) : ∃ ad cap, v = .slice ad css.length cap ∧ css.length ≤ cap := by
  obtain ⟨_, ad, cap, h1, h2, _⟩ := h
  exact ⟨ad, cap, h1, h2⟩
theorem Lies.src {w : World} {e : TypeId} {size : Nat} (hs : 0 < size) {ad : Addr} {n cap : Nat} {css : List (List Value)} (h : Lies w e size (.slice (some ad) n cap) css) : ∀ j u, css.flatten[j]? = some u → w.cell? (ad.add j) = some u := by
  intro j u hj
  obtain ⟨h0, _⟩ := id h
  have hlt := (List.getElem?_eq_some_iff.1 hj).1
  rw [flatten_length h0] at hlt
  have hk : j / size < css.length := Nat.div_lt_of_lt_mul (by rw [Nat.mul_comm]; exact hlt)
  have hc : css[j / size]? = some css[j / size] := List.getElem?_eq_getElem hk
  obtain ⟨g, off, h1, h2⟩ := h.at hc
  simp at h1
  subst h1
  have hlen := h0 _ (List.getElem_mem hk)
  have hm : j % size < css[j / size].length := by rw [hlen]; exact Nat.mod_lt _ hs
  have hx : css[j / size][j % size]? = some (css[j / size][j % size]) := List.getElem?_eq_getElem hm
  have e1 := flatten_get h0 hc hx
  have e2 : j / size * size + j % size = j := Nat.div_add_mod' j size
  rw [e2, hj] at e1
  simp at e1
  have := h2 _ _ hx
  have e3 : (⟨g, off, none⟩ : Addr).add j = ⟨g, off + j / size * size + j % size, none⟩ := by
    rw [Nat.add_assoc, e2]
    unfold Addr.add; split <;> simp_all
  rw [e3, this, e1]

/-- A list of versions, a column, a list of columns, a row. -/
def VersAt (w : World) (v : Value) (xs : List Pver) : Prop := ∃ css, Lies w 79 4 v css ∧ All2 (VerC w) css xs
def ColC (w : World) (c : List Value) (x : Pcol) : Prop := ∃ lv, c = [.string x.name, lv] ∧ VersAt w lv x.l
def ColsAt (w : World) (v : Value) (xs : List Pcol) : Prop := ∃ css, Lies w 33 2 v css ∧ All2 (ColC w) css xs
def RowAt (w : World) (v : Value) (xs : List Pcol) : Prop := ∃ lv, v = .agg #[lv] ∧ ColsAt w lv xs

theorem VersAt.stay {T : TypeId → Prop} {w w' : World} (h : Stay T w w') (hT : T 5) (hT2 : T 79) {v : Value} {xs : List Pver} (hv : VersAt w v xs) : VersAt w' v xs := by
  obtain ⟨css, h1, h2⟩ := hv
  exact ⟨css, h1.stay h hT2, h2.mono fun _ _ k => k.stay h hT⟩
theorem ColC.stay {T : TypeId → Prop} {w w' : World} (h : Stay T w w') (hT : T 5) (hT2 : T 79) {c : List Value} {x : Pcol} (hv : ColC w c x) : ColC w' c x := by
  obtain ⟨lv, h1, h2⟩ := hv
  exact ⟨lv, h1, h2.stay h hT hT2⟩
theorem ColsAt.moves {w w' : World} (m : Moves [] w w') {v : Value} {xs : List Pcol} (hv : ColsAt w v xs) : ColsAt w' v xs := by
  obtain ⟨css, h1, h2⟩ := hv
  have h : Stay (fun _ => True) w w' := Stay.ofMoves m
  exact ⟨css, h1.stay h trivial, h2.mono fun _ _ k => k.stay h trivial trivial⟩
theorem VersAt.moves {w w' : World} (m : Moves [] w w') {v : Value} {xs : List Pver} (hv : VersAt w v xs) : VersAt w' v xs := hv.stay (T := fun _ => True) (Stay.ofMoves m) trivial trivial
theorem VC.moves {w w' : World} (m : Moves [] w w') {c : List Value} {p : Pv} (hv : VC w c p) : VC w' c p := hv.stay (T := fun _ => True) (Stay.ofMoves m) trivial
theorem VerC.moves {w w' : World} (m : Moves [] w w') {c : List Value} {p : Pver} (hv : VerC w c p) : VerC w' c p := hv.stay (T := fun _ => True) (Stay.ofMoves m) trivial
theorem ColC.moves {w w' : World} (m : Moves [] w w') {c : List Value} {p : Pcol} (hv : ColC w c p) : ColC w' c p := hv.stay (T := fun _ => True) (Stay.ofMoves m) trivial trivial
theorem RowAt.moves {w w' : World} (m : Moves [] w w') {v : Value} {xs : List Pcol} (hv : RowAt w v xs) : RowAt w' v xs := by
  obtain ⟨lv, h1, h2⟩ := hv
  exact ⟨lv, h1, h2.moves m⟩
theorem VersAt.nil (w : World) : VersAt w (.slice none 0 0) [] := ⟨[], Lies.nil _ _ _, trivial⟩
theorem ColsAt.nil (w : World) : ColsAt w (.slice none 0 0) [] := ⟨[], Lies.nil _ _ _, trivial⟩
theorem RowAt.nil (w : World) : RowAt w (.agg #[.slice none 0 0]) [] := ⟨_, rfl, ColsAt.nil w⟩

theorem VersAt.slice {w : World} {v : Value} {xs : List Pver} (h : VersAt w v xs) : ∃ ad cap, v = .slice ad xs.length cap ∧ xs.length ≤ cap := by
  obtain ⟨css, h1, h2⟩ := h
  obtain ⟨ad, cap, e, k⟩ := h1.slice
  rw [h2.length] at e k
  exact ⟨ad, cap, e, k⟩
theorem ColsAt.slice {w : World} {v : Value} {xs : List Pcol} (h : ColsAt w v xs) : ∃ ad cap, v = .slice ad xs.length cap ∧ xs.length ≤ cap := by
  obtain ⟨css, h1, h2⟩ := h
  obtain ⟨ad, cap, e, k⟩ := h1.slice
  rw [h2.length] at e k
  exact ⟨ad, cap, e, k⟩

/-- Column k of a list. -/
theorem ColsAt.at {w : World} {ad : Option Addr} {n cap : Nat} {xs : List Pcol} (h : ColsAt w (.slice ad n cap) xs) {k : Nat} {x : Pcol} (hk : xs[k]? = some x) :
    ∃ g off a2 n2 c2, ad = some ⟨g, off, none⟩ ∧ w.cell? ⟨g, off + k * 2, none⟩ = some (.string x.name) ∧ w.cell? ⟨g, off + k * 2 + 1, none⟩ = some (.slice a2 n2 c2) ∧ n2 = x.l.length ∧ n2 ≤ c2 ∧ VersAt w (.slice a2 n2 c2) x.l := by
  obtain ⟨css, h1, h2⟩ := h
  obtain ⟨c, hc, lv, rfl, h3⟩ := h2.get hk
  obtain ⟨g, off, e, h4⟩ := h1.at hc
  obtain ⟨a2, c2, rfl, hle⟩ := h3.slice
  exact ⟨g, off, a2, _, c2, e, h4 0 _ rfl, h4 1 _ rfl, rfl, hle, h3⟩
/-- Version k of a list. -/
theorem VersAt.at {w : World} {ad : Option Addr} {n cap : Nat} {xs : List Pver} (h : VersAt w (.slice ad n cap) xs) {k : Nat} {x : Pver} (hk : xs[k]? = some x) :
    ∃ g off a2 n2 c2, ad = some ⟨g, off, none⟩ ∧ w.cell? ⟨g, off + k * 4, none⟩ = some (.int .i64 x.t) ∧ w.cell? ⟨g, off + k * 4 + 1, none⟩ = some (.int .i64 x.v.kind) ∧ w.cell? ⟨g, off + k * 4 + 2, none⟩ = some (.slice a2 n2 c2) ∧ w.cell? ⟨g, off + k * 4 + 3, none⟩ = some (.float .f64 x.v.n) ∧ VC w [.int .i64 x.v.kind, .slice a2 n2 c2, .float .f64 x.v.n] x.v := by
  obtain ⟨css, h1, h2⟩ := h
  obtain ⟨c, hc, d, rfl, h3⟩ := h2.get hk
  obtain ⟨g, off, e, h4⟩ := h1.at hc
  have h3' := h3
  obtain ⟨a2, n2, c2, g2, rfl, _⟩ := h3
  exact ⟨g, off, a2, n2, c2, e, h4 0 _ rfl, h4 1 _ rfl, h4 2 _ rfl, h4 3 _ rfl, h3'⟩

/-- The plain value, and the elder contracts' one. -/
def Pv.vm (p : Pv) (bv : Value) (g : Nat) : Vm := ⟨p.kind, bv, g, p.bs, p.n⟩
theorem VA.vis {w : World} {k : Int} {ad : Option Addr} {len cap n : Nat} {p : Pv} (h : VA w [.int .i64 k, .slice ad len cap, .float .f64 n] p) : ∃ g, VIs w (.agg #[.int .i64 k, .slice ad len cap, .float .f64 n]) (p.vm (.slice ad len cap) g) ∧ p.bs.length ≤ 1048576 := by
  obtain ⟨ad', len', cap', g, h1, h2, h3, h4, h6⟩ := h
  simp at h1
  obtain ⟨rfl, ⟨rfl, rfl, rfl⟩, rfl⟩ := h1
  exact ⟨g, ⟨rfl, ⟨h2, h3, h4⟩⟩, h6⟩

/-- A list that grows: the call's own, made since W. -/
def Grow {α : Type} (EC : World → List Value → α → Prop) (e : TypeId) (size : Nat) (W w : World) (v : Value) (xs : List α) : Prop := Fresh W v ∧ ∃ css, OwnL w e size v css ∧ All2 (EC w) css xs
def GrowV (W w : World) (v : Value) (xs : List Pver) : Prop := Grow VerC 79 4 W w v xs
def GrowC (W w : World) (v : Value) (xs : List Pcol) : Prop := Grow ColC 33 2 W w v xs
theorem GrowV.nil (W w : World) : GrowV W w (.slice none 0 0) [] := ⟨Fresh.nil _, [], OwnL.nil _ _ _, trivial⟩
theorem GrowC.nil (W w : World) : GrowC W w (.slice none 0 0) [] := ⟨Fresh.nil _, [], OwnL.nil _ _ _, trivial⟩
theorem GrowV.at {W w : World} {v : Value} {xs : List Pver} (h : GrowV W w v xs) : VersAt w v xs := by
  obtain ⟨_, css, h1, h2⟩ := h
  exact ⟨css, Lies.ofOwn h1, h2⟩
theorem GrowC.at {W w : World} {v : Value} {xs : List Pcol} (h : GrowC W w v xs) : ColsAt w v xs := by
  obtain ⟨_, css, h1, h2⟩ := h
  exact ⟨css, Lies.ofOwn h1, h2⟩
theorem Grow.lt {α : Type} {EC : World → List Value → α → Prop} {e : TypeId} {size : Nat} {W w : World} {v : Value} {xs : List α} (h : Grow EC e size W w v xs) {k : Nat} (hk : v.ownBlock = some k) : k < w.heap.size := by
  obtain ⟨_, css, h1, _⟩ := h
  exact h1.lt hk
/-- What the call writes elsewhere. -/
theorem GrowV.moves {W w w' : World} {S : List Nat} (m : Moves S w w') {v : Value} {xs : List Pver} (h : GrowV W w v xs) (hv : ∀ k, v.ownBlock = some k → k ∉ S) (hs : Stay (· = 5) w w') : GrowV W w' v xs := by
  obtain ⟨h0, css, h1, h2⟩ := h
  exact ⟨h0, css, h1.moves m hv, h2.mono fun _ _ k => k.stay hs rfl⟩
theorem GrowC.moves {W w w' : World} {S : List Nat} (m : Moves S w w') {v : Value} {xs : List Pcol} (h : GrowC W w v xs) (hv : ∀ k, v.ownBlock = some k → k ∉ S) (hs : Stay (fun t => t = 5 ∨ t = 79) w w') : GrowC W w' v xs := by
  obtain ⟨h0, css, h1, h2⟩ := h
  exact ⟨h0, css, h1.moves m hv, h2.mono fun _ _ k => k.stay hs (.inl rfl) (.inr rfl)⟩
theorem GrowV.moves0 {W w w' : World} (m : Moves [] w w') {v : Value} {xs : List Pver} (h : GrowV W w v xs) : GrowV W w' v xs := h.moves m (by simp) (Stay.ofMoves m)
theorem GrowC.moves0 {W w w' : World} (m : Moves [] w w') {v : Value} {xs : List Pcol} (h : GrowC W w v xs) : GrowC W w' v xs := h.moves m (by simp) (Stay.ofMoves m)
theorem GrowV.slice {W w : World} {v : Value} {xs : List Pver} (h : GrowV W w v xs) : ∃ ad cap, v = .slice ad xs.length cap ∧ xs.length ≤ cap := h.at.slice
theorem GrowC.slice {W w : World} {v : Value} {xs : List Pcol} (h : GrowC W w v xs) : ∃ ad cap, v = .slice ad xs.length cap ∧ xs.length ≤ cap := h.at.slice

theorem VerC.one {w : World} {c : List Value} {x : Pver} (h : VerC w c x) : ∀ u ∈ c, u.oneCell' = true := by
  obtain ⟨d, rfl, ad, len, cap, g, rfl, _⟩ := h
  intro u hu
  simp only [List.mem_cons, List.not_mem_nil, or_false] at hu
  rcases hu with rfl | rfl | rfl | rfl <;> rfl
theorem ColC.one {w : World} {c : List Value} {x : Pcol} (h : ColC w c x) : ∀ u ∈ c, u.oneCell' = true := by
  obtain ⟨lv, rfl, h2⟩ := h
  obtain ⟨ad, cap, rfl, _⟩ := h2.slice
  intro u hu
  simp only [List.mem_cons, List.not_mem_nil, or_false] at hu
  rcases hu with rfl | rfl <;> rfl

/-- The block of a list of the call's own. -/
theorem OwnL.block {w : World} {e : TypeId} {size : Nat} {v : Value} {css : List (List Value)} (h : OwnL w e size v css) : ∀ k ∈ v.ownBlock.toList, ∀ (c : Array Value) (t : TypeId) (fz : Nat × Nat), w.heap[k]? = some (.cells c t fz) → t = e := by
  intro k hk c t fz hc
  rcases h.2.2 with ⟨rfl, _⟩ | ⟨g, cap, cur, rfl, _, hgg, _⟩
  · simp [Value.ownBlock] at hk
  · simp [Value.ownBlock] at hk
    subst hk
    rw [hgg] at hc
    simp at hc
    exact hc.2.1.symm

/-- append to a list that grows, of elements that lie anywhere. -/
theorem grow_append {α : Type} {EC : World → List Value → α → Prop} {o : Oper} {a : Act} {K : Act → World → Prop} {Q : Exit → Act → World → Prop} {W w : World} (s x : Operand) (t e : TypeId) (z : Value) (size bytes : Nat)
    (hinfo : (Try.prog.info? e).map (fun i => (i.zero, i.size, i.bytes)) = some (some z, size, bytes)) (ht : Try.prog.underlying t = some (.slice e)) (hzs : z.cells.size = size) (hsz : 0 < size) (hby : bytes ≤ 100)
    (hone : ∀ w c x, EC w c x → ∀ u ∈ c, u.oneCell' = true) (hstay : ∀ w w' c x, EC w c x → Stay (· ≠ e) w w' → EC w' c x)
    (ho : o.op = .call { callee := .builtin .append, args := #[s, x], argTypes := #[t, t] })
    (v yv : Value) (xs ys : List α) (ds : List (List Value)) (hs : a.eval s = v) (hx : a.eval x = yv)
    (hv : Grow EC e size W w v xs) (hd : Lies w e size yv ds) (hys : All2 (EC w) ds ys) (hm : Moves [] W w) (hb : xs.length + ys.length ≤ 1048576)
    (h : ∀ v' w', Grow EC e size W w' v' (xs ++ ys) → Moves [] W w' → Moves v.ownBlock.toList w w' → Stay (· ≠ e) w w' → Lain w v v' → K (a.put o.dst v') w') :
    o.wp Try.prog a w K Q := by
  obtain ⟨hf, css, hO, hE⟩ := hv
  have hl1 := hE.length
  have hl2 := hys.length
  have fin : ∀ v' w', OwnL w' e size v' (css ++ ds) → Moves v.ownBlock.toList w w' → Lain w v v' → K (a.put o.dst v') w' := by
    intro v' w' h1 h2 h3
    have hst : Stay (· ≠ e) w w' := Stay.ofMovesS h2 (fun k hk c t fz hc hn => hn (hO.block k hk c t fz hc))
    obtain ⟨k1, k2⟩ := appended hm hf h2 h3
    exact h v' w' ⟨k2, _, h1, (hE.mono fun _ _ q => hstay _ _ _ _ q hst).append (hys.mono fun _ _ q => hstay _ _ _ _ q hst)⟩ k1 h2 hst h3
  obtain ⟨i0, hi, hz0, hz1, hz2⟩ := info_parts hinfo
  obtain ⟨hd0, ad, cap, rfl, hcap, hnil, hd1⟩ := id hd
  cases ad with
  | none =>
    obtain rfl : cap = 0 := hnil rfl
    have h0 : ds.length = 0 := by omega
    obtain rfl : ds = [] := List.eq_nil_of_length_eq_zero h0
    have hrun := run_append_owned_none (P := Try.prog) (w := w) 0 t o.type e i0 size ht hi v css.length css.flatten hO.2
    unfold Oper.wp
    simp [execOp, ho, resolve, invoke, builtin, hs, hx, hrun, Result.andThen]
    exact fin v w (by simpa using hO) (Moves.refl _ _) (.inl rfl)
  | some y =>
    have hfl := flatten_length hd0
    have hbb : (css.length + ds.length) * bytes ≤ 140737488355328 := by
      have := Nat.mul_le_mul (show css.length + ds.length ≤ 1048576 by omega) hby
      omega
    obtain ⟨v', w', hr, g1, g2, _, g4⟩ := run_append_own_at (P := Try.prog) w 0 t o.type e i0 z size bytes ht hi hz0 hz1 hz2 hzs hsz v css.length css.flatten hO.2 y ds.length cap ds.flatten hfl (hd.src hsz) (fun u hu => by
      obtain ⟨c, hc, hu⟩ := List.mem_flatten.1 hu
      exact All2.mem (p := fun c => ∀ u ∈ c, u.oneCell' = true) (fun c b hc => hone _ _ _ hc) hys c hc u hu) (by unfold maxLen; omega) hbb (Nat.zero_le _)
    unfold Oper.wp execOp
    simp only [ho, resolve, invoke, builtin, Sem.run_bind, Sem.run_pure, Result.andThen_ok, List.map_toArray, List.map_cons, List.map_nil, hs, hx, hr]
    refine fin v' w' ⟨fun c hc => ?_, ?_⟩ ((Moves.refl _ _).grown g2 (fun k hk => .inl (by rw [hk]; simp))) g4
    · rcases List.mem_append.1 hc with hc | hc
      · exact hO.1 c hc
      · exact hd0 c hc
    · rw [List.length_append, List.flatten_append]
      exact g1

theorem ver_info : (Try.prog.info? 79).map (fun i => (i.zero, i.size, i.bytes)) = some (some (.agg #[.int .i64 0, .int .i64 0, .slice none 0 0, .float .f64 0]), 4, 48) := by kernel_rfl
theorem col_info : (Try.prog.info? 33).map (fun i => (i.zero, i.size, i.bytes)) = some (some (.agg #[.string ByteArray.empty, .slice none 0 0]), 2, 40) := by kernel_rfl

theorem growV_wp {o : Oper} {a : Act} {K : Act → World → Prop} {Q : Exit → Act → World → Prop} {W w : World} (s x : Operand)
    (ho : o.op = .call { callee := .builtin .append, args := #[s, x], argTypes := #[31, 31] })
    (v yv : Value) (xs ys : List Pver) (hs : a.eval s = v) (hx : a.eval x = yv)
    (hv : GrowV W w v xs) (hy : VersAt w yv ys) (hm : Moves [] W w) (hb : xs.length + ys.length ≤ 1048576)
    (h : ∀ v' w', GrowV W w' v' (xs ++ ys) → Moves [] W w' → Moves v.ownBlock.toList w w' → Stay (· ≠ 79) w w' → Lain w v v' → K (a.put o.dst v') w') :
    o.wp Try.prog a w K Q := by
  obtain ⟨ds, hd, hys⟩ := hy
  exact grow_append s x _ 79 _ 4 48 ver_info Try.underlying31 rfl (by omega) (by omega) (fun _ _ _ h => h.one) (fun _ _ _ _ h hs => h.stay hs (by decide)) ho v yv xs ys ds hs hx hv hd hys hm hb h
theorem growV_append {ops : Array Oper} {rest : List Oper} {o : Oper} {a : Act} {Q : Exit → Act → World → Prop} {W w : World} (s x : Operand)
    (ho : o.op = .call { callee := .builtin .append, args := #[s, x], argTypes := #[31, 31] })
    (v yv : Value) (xs ys : List Pver) (hs : a.eval s = v) (hx : a.eval x = yv) (hw : Region.wanted o (yielded ops a.tmps) = true)
    (hv : GrowV W w v xs) (hy : VersAt w yv ys) (hm : Moves [] W w) (hb : xs.length + ys.length ≤ 1048576)
    (h : ∀ v' w', GrowV W w' v' (xs ++ ys) → Moves [] W w' → Moves v.ownBlock.toList w w' → Stay (· ≠ 79) w w' → Lain w v v' → wpList Try.prog ops Q rest (a.put o.dst v') w') :
    wpList Try.prog ops Q (o :: rest) a w := by
  refine wpList_wanted hw (wpList_plain rfl fun K hK => ?_)
  exact growV_wp s x ho v yv xs ys hs hx hv hy hm hb (fun v' w' h1 h2 h3 h4 h5 => hK _ _ (h v' w' h1 h2 h3 h4 h5))
/-- The same, as a drawn region asks for it. -/
theorem growV_step {ops : Array Oper} {o : Oper} {a : Act} {K : Act → World → Prop} {Q : Exit → Act → World → Prop} {W w : World} (s x : Operand)
    (ho : o.op = .call { callee := .builtin .append, args := #[s, x], argTypes := #[31, 31] })
    (v yv : Value) (xs ys : List Pver) (hs : a.eval s = v) (hx : a.eval x = yv) (hw : Region.wanted o (yielded ops a.tmps) = true)
    (hv : GrowV W w v xs) (hy : VersAt w yv ys) (hm : Moves [] W w) (hb : xs.length + ys.length ≤ 1048576)
    (h : ∀ v' w', GrowV W w' v' (xs ++ ys) → Moves [] W w' → Moves v.ownBlock.toList w w' → Stay (· ≠ 79) w w' → Lain w v v' → K (a.put o.dst v') w') :
    if Region.wanted o (yielded ops a.tmps) then o.wp Try.prog a w K Q else K (a.put o.dst undef) w := by
  rw [if_pos hw]
  exact growV_wp s x ho v yv xs ys hs hx hv hy hm hb h
theorem growC_wp {o : Oper} {a : Act} {K : Act → World → Prop} {Q : Exit → Act → World → Prop} {W w : World} (s x : Operand)
    (ho : o.op = .call { callee := .builtin .append, args := #[s, x], argTypes := #[34, 34] })
    (v yv : Value) (xs ys : List Pcol) (hs : a.eval s = v) (hx : a.eval x = yv)
    (hv : GrowC W w v xs) (hy : ColsAt w yv ys) (hm : Moves [] W w) (hb : xs.length + ys.length ≤ 1048576)
    (h : ∀ v' w', GrowC W w' v' (xs ++ ys) → Moves [] W w' → Moves v.ownBlock.toList w w' → Stay (· ≠ 33) w w' → Lain w v v' → K (a.put o.dst v') w') :
    o.wp Try.prog a w K Q := by
  obtain ⟨ds, hd, hys⟩ := hy
  exact grow_append s x _ 33 _ 2 40 col_info Try.underlying34 rfl (by omega) (by omega) (fun _ _ _ h => h.one) (fun _ _ _ _ h hs => h.stay hs (by decide) (by decide)) ho v yv xs ys ds hs hx hv hd hys hm hb h
theorem growC_append {ops : Array Oper} {rest : List Oper} {o : Oper} {a : Act} {Q : Exit → Act → World → Prop} {W w : World} (s x : Operand)
    (ho : o.op = .call { callee := .builtin .append, args := #[s, x], argTypes := #[34, 34] })
    (v yv : Value) (xs ys : List Pcol) (hs : a.eval s = v) (hx : a.eval x = yv) (hw : Region.wanted o (yielded ops a.tmps) = true)
    (hv : GrowC W w v xs) (hy : ColsAt w yv ys) (hm : Moves [] W w) (hb : xs.length + ys.length ≤ 1048576)
    (h : ∀ v' w', GrowC W w' v' (xs ++ ys) → Moves [] W w' → Moves v.ownBlock.toList w w' → Stay (· ≠ 33) w w' → Lain w v v' → wpList Try.prog ops Q rest (a.put o.dst v') w') :
    wpList Try.prog ops Q (o :: rest) a w := by
  refine wpList_wanted hw (wpList_plain rfl fun K hK => ?_)
  exact growC_wp s x ho v yv xs ys hs hx hv hy hm hb (fun v' w' h1 h2 h3 h4 h5 => hK _ _ (h v' w' h1 h2 h3 h4 h5))
/-- The same, as a drawn region asks for it. -/
theorem growC_step {ops : Array Oper} {o : Oper} {a : Act} {K : Act → World → Prop} {Q : Exit → Act → World → Prop} {W w : World} (s x : Operand)
    (ho : o.op = .call { callee := .builtin .append, args := #[s, x], argTypes := #[34, 34] })
    (v yv : Value) (xs ys : List Pcol) (hs : a.eval s = v) (hx : a.eval x = yv) (hw : Region.wanted o (yielded ops a.tmps) = true)
    (hv : GrowC W w v xs) (hy : ColsAt w yv ys) (hm : Moves [] W w) (hb : xs.length + ys.length ≤ 1048576)
    (h : ∀ v' w', GrowC W w' v' (xs ++ ys) → Moves [] W w' → Moves v.ownBlock.toList w w' → Stay (· ≠ 33) w w' → Lain w v v' → K (a.put o.dst v') w') :
    if Region.wanted o (yielded ops a.tmps) then o.wp Try.prog a w K Q else K (a.put o.dst undef) w := by
  rw [if_pos hw]
  exact growC_wp s x ho v yv xs ys hs hx hv hy hm hb h

/-- One new element. -/
theorem lies_new (w : World) (cs : List Value) (e : TypeId) : Lies (w.alloc (.cells cs.toArray e)) e cs.length (.slice (some ⟨w.heap.size, 0, none⟩) 1 1) [cs] := by
  refine ⟨by simp, _, 1, rfl, Nat.le_refl _, fun h => by simp at h, .inr ⟨_, 0, _, _, rfl, heap_alloc_new _ _, fun k c hk j u hj => ?_⟩⟩
  match k, hk with
  | 0, hk =>
    simp at hk
    subst hk
    simpa using hj
theorem vers_new (w : World) (c0 c1 c2 c3 : Value) (x : Pver) (h : VerC w [c0, c1, c2, c3] x) : VersAt (w.alloc (.cells #[c0, c1, c2, c3] 79)) (.slice (some ⟨w.heap.size, 0, none⟩) 1 1) [x] :=
  ⟨_, lies_new w [c0, c1, c2, c3] _, h.moves ((Moves.refl _ _).alloc _), trivial⟩
theorem cols_new (w : World) (c0 c1 : Value) (x : Pcol) (h : ColC w [c0, c1] x) : ColsAt (w.alloc (.cells #[c0, c1] 33)) (.slice (some ⟨w.heap.size, 0, none⟩) 1 1) [x] :=
  ⟨_, lies_new w [c0, c1] _, h.moves ((Moves.refl _ _).alloc _), trivial⟩
end Go.Proofs.Ytcngllcifcpbkaa
