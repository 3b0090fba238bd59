/-
  Lists1, Ssa, Some1: our texts of these names, laid into one.
-/
import Derived.Test.YtfegflimnngfaaaCAny3
import Derived.Great.BuildSlice
/-
  Slices of structs that a call made itself: what lies in them, element by element; what an append leaves. Plain laws, for any element type.
-/
namespace Go.Proofs.Ytfegflimnngfaaa
open Go.RowKit

/-- A slice of the call's own whose elements, of 'size' cells each, are css. -/
def OwnL (w : World) (e : TypeId) (size : Nat) (v : Value) (css : List (List Value)) : Prop := (∀ c ∈ css, c.length = size) ∧ w.ownsRow 0 e size v css.length css.flatten

theorem OwnL.nil (w : World) (e : TypeId) (size : Nat) : OwnL w e size (.slice none 0 0) [] := ⟨by simp, World.ownsRow_nil _ _ _ _⟩
theorem OwnL.moves {w w' : World} {e : TypeId} {size : Nat} {v : Value} {css : List (List Value)} {S : List Nat} (h : OwnL w e size v css) (m : Moves S w w') (hg : ∀ k, v.ownBlock = some k → k ∉ S) : OwnL w' e size v css := by
  refine ⟨h.1, h.2.1, ?_⟩
  rcases h.2.2 with hn | ⟨g, cap, cur, rfl, hb, hgg, rest⟩
  · exact .inl hn
  · exact .inr ⟨g, cap, cur, rfl, hb, m.at hgg (hg g rfl), rest⟩
theorem OwnL.lt {w : World} {e : TypeId} {size : Nat} {v : Value} {css : List (List Value)} (h : OwnL w e size v css) {k : Nat} (hk : v.ownBlock = some k) : k < w.heap.size := (World.ownsRow.lt h.2 k hk).2
theorem OwnL.ne {w : World} {e : TypeId} {size : Nat} {v : Value} {css : List (List Value)} (h : OwnL w e size v css) {p : Nat} {c : Array Value} {t : TypeId} {fz : Nat × Nat} (hp : w.heap[p]? = some (.cells c t fz)) (ht : t ≠ e) : v.ownBlock ≠ some p := by
  intro hk
  rcases h.2.2 with ⟨rfl, _⟩ | ⟨g, cap, cur, rfl, hb, hgg, _⟩
  · simp [Value.ownBlock] at hk
  · simp [Value.ownBlock] at hk
    subst hk
    rw [hgg] at hp
    simp at hp
    exact ht hp.2.1.symm
theorem OwnL.slice {w : World} {e : TypeId} {size : Nat} {v : Value} {css : List (List Value)} (h : OwnL w e size v css) : ∃ ad cap, v = .slice ad css.length cap ∧ css.length ≤ cap := by
  rcases h.2.2 with ⟨rfl, h0⟩ | ⟨g, cap, cur, rfl, _, _, h1, _⟩
  · exact ⟨none, 0, by rw [h0], by omega⟩
  · exact ⟨_, cap, rfl, h1⟩

theorem flatten_get {size : Nat} : ∀ {css : List (List Value)}, (∀ c ∈ css, c.length = size) → ∀ {k : Nat} {c : List Value}, css[k]? = some c → ∀ {j : Nat} {u : Value}, c[j]? = some u → css.flatten[k * size + j]? = some u
  | [], _, k, c, hk, _, _, _ => by simp at hk
  | x :: css, h, 0, c, hk, j, u, hj => by
    simp at hk
    subst hk
    have hlt := (List.getElem?_eq_some_iff.1 hj).1
    rw [List.flatten_cons, List.getElem?_append_left (by omega)]
    simpa using hj
  | x :: css, h, k + 1, c, hk, j, u, hj => by
    have hx : x.length = size := h x (by simp)
    have ih := flatten_get (css := css) (fun c hc => h c (by simp [hc])) (k := k) (c := c) (by simpa using hk) hj
    rw [List.flatten_cons, List.getElem?_append_right (by rw [hx, Nat.succ_mul]; omega)]
    have e : (k + 1) * size + j - x.length = k * size + j := by rw [hx, Nat.succ_mul]; omega
    rw [e]
    exact ih

/-- Cell j of element k. -/
theorem OwnL.cell {w : World} {e : TypeId} {size : Nat} {v : Value} {css : List (List Value)} (h : OwnL w e size v css) {k : Nat} {c : List Value} (hk : css[k]? = some c) :
    ∃ g cap, v = .slice (some ⟨g, 0, none⟩) css.length cap ∧ css.length ≤ cap ∧ ∀ j u, c[j]? = some u → w.cell? ⟨g, k * size + j, none⟩ = some u := by
  have hlt := (List.getElem?_eq_some_iff.1 hk).1
  rcases h.2.2 with ⟨_, h0⟩ | ⟨g, cap, cur, rfl, hb, hgg, h1, h2, h3, h4⟩
  · omega
  · refine ⟨g, cap, rfl, h1, fun j u hj => ?_⟩
    have hf := flatten_get h.1 hk hj
    have hfl := (List.getElem?_eq_some_iff.1 hf).1
    rw [h.2.1] at hfl
    have e2 : (cur.toList.take (css.length * size))[k * size + j]? = some u := by rw [h4]; exact hf
    rw [List.getElem?_take, if_pos (by omega)] at e2
    simp only [World.cell?, hgg]
    simpa using e2

theorem flatten_length {size : Nat} : ∀ {ds : List (List Value)}, (∀ c ∈ ds, c.length = size) → ds.flatten.length = ds.length * size
  | [], _ => by simp
  | x :: t, h => by
    rw [List.flatten_cons, List.length_append, flatten_length (fun c hc => h c (by simp [hc])), h x (by simp), List.length_cons, Nat.succ_mul]
    omega

/-- append to a slice of the call's own, of elements that lie anywhere. -/
theorem appendL_law {ops : Array Oper} {rest : List Oper} {o : Oper} {a : Act} {Q : Exit → Act → World → Prop} {w : World} (s x : Operand) (t e : TypeId) (z : Value) (size bytes : Nat)
    (hinfo : (Try.prog.info? e).map (fun i => (i.zero, i.size, i.bytes)) = some (some z, size, bytes)) (ht : Try.prog.underlying t = some (.slice e)) (hzs : z.cells.size = size) (hsz : 0 < size) (hby : bytes ≤ 100)
    (ho : o.op = .call { callee := .builtin .append, args := #[s, x], argTypes := #[t, t] })
    (v : Value) (css ds : List (List Value)) (ad : Addr) (cap : Nat) (hs : a.eval s = v) (hx : a.eval x = .slice (some ad) ds.length cap) (hw : Region.wanted o (yielded ops a.tmps) = true)
    (hv : OwnL w e size v css) (hd : ∀ c ∈ ds, c.length = size) (h1 : ∀ c ∈ ds, ∀ u ∈ c, u.oneCell' = true) (hsrc : ∀ j u, ds.flatten[j]? = some u → w.cell? (ad.add j) = some u) (hb : css.length + ds.length ≤ 1048576)
    (h : ∀ v' w', OwnL w' e size v' (css ++ ds) → Moves v.ownBlock.toList w w' → Lain w v v' → wpList Try.prog ops Q rest (a.put o.dst v') w') :
    wpList Try.prog ops Q (o :: rest) a w := by
  refine wpList_wanted hw ?_
  obtain ⟨i0, hi, hz0, hz1, hz2⟩ := info_parts hinfo
  have hfl := flatten_length hd
  have hbb : (css.length + ds.length) * bytes ≤ 140737488355328 := by
    have := Nat.mul_le_mul hb hby
    omega
  refine wpList_append_own_at _ rfl s x t ho 0 e i0 z size bytes ht hi hz0 hz1 hz2 hzs hsz v css.length css.flatten hs hv.2 ad ds.length cap ds.flatten hx hfl hsrc ?_ (by unfold maxLen; omega) hbb (Nat.zero_le _) ?_
  · intro u hu
    obtain ⟨c, hc, hu⟩ := List.mem_flatten.1 hu
    exact h1 c hc u hu
  · intro v' w' g1 g2 _ g4
    refine h v' w' ⟨fun c hc => ?_, ?_⟩ ((Moves.refl _ _).grown g2 (fun k hk => .inl (by rw [hk]; simp))) g4
    · rcases List.mem_append.1 hc with hc | hc
      · exact hv.1 c hc
      · exact hd c hc
    · rw [List.length_append, List.flatten_append]
      exact g1

/-- One new element. -/
theorem new_one (w : World) (cs : List Value) (e : TypeId) : ∀ j u, [cs].flatten[j]? = some u → (w.alloc (.cells cs.toArray e)).cell? ((⟨w.heap.size, 0, none⟩ : Addr).add j) = some u := by
  intro j u hj
  simp only [List.flatten_cons, List.flatten_nil, List.append_nil] at hj
  have e1 : (⟨w.heap.size, 0, none⟩ : Addr).add j = ⟨w.heap.size, j, none⟩ := by unfold Addr.add; split <;> simp_all
  rw [e1]
  simp only [World.cell?, heap_alloc_new]
  simpa using hj
end Go.Proofs.Ytfegflimnngfaaa
/-
  A drawn region each of whose operations writes a slot of its own: what each one leaves there, told of a world, and kept by whatever comes up behind it.
-/
namespace Go.Proofs.Ytfegflimnngfaaa
open Go.RowKit

theorem region_ssa {P : Program} {ops : Array Oper} {Q : Exit → Act → World → Prop} {id : Nat} {a0 : Act} {W : World} (hm : P.follows .mixedOrders = true) (d : Nat → Nat) (F : Nat → World → Value → Prop) (R : World → World → Prop)
    (ok : follows_ok ops = true) (hd : ∀ i, i < ops.size → d i < a0.tmps.size) (inj : ∀ i j, i < ops.size → j < ops.size → i ≠ j → d i ≠ d j)
    (hR0 : R W W.drew) (hRt : ∀ a b c, R a b → R b c → R a c) (hmono : ∀ i u u' v, F i u v → R u u' → F i u' v)
    (hstep : ∀ i, i < ops.size → ∀ a w, R W w → a.tmps.size = a0.tmps.size → (∀ s, (∀ k, k < ops.size → s ≠ d k) → a.tmps.getD s undef = a0.tmps.getD s undef) → (∀ k, k < ops.size → waits ops i k = true → F k w (a.tmps.getD (d k) undef)) → ∀ K : Act → World → Prop, (∀ v w', F i w' v → R w w' → K (a.put (some (d i)) v) w') → wpOp P ops Q i K a w)
    (hdone : ∀ a w, a.tmps.size = a0.tmps.size → a.defers = a0.defers → (∀ s, (∀ k, k < ops.size → s ≠ d k) → a.tmps.getD s undef = a0.tmps.getD s undef) → (∀ k, k < ops.size → F k w (a.tmps.getD (d k) undef)) → R W w → Q .normal a w) :
    (Code.region id ops true).wp P Q a0 W := by
  refine wp_region_inv hm (fun l a w => l.size = ops.size ∧ a.tmps.size = a0.tmps.size ∧ a.defers = a0.defers ∧ (∀ s, (∀ k, k < ops.size → s ≠ d k) → a.tmps.getD s undef = a0.tmps.getD s undef) ∧ R W w ∧ ∀ k, k < ops.size → up l k → F k w (a.tmps.getD (d k) undef)) ?_ ?_ ?_
  · refine ⟨by simp, rfl, rfl, fun _ _ => rfl, hR0, fun k hk hu => ?_⟩
    unfold up at hu
    simp [hk] at hu
  · rintro l a w ⟨h1, h2, h3, h4, h5, h6⟩ i hi
    have hun := ready_un hi
    have hlt : i < ops.size := by
      have := (Array.getElem?_eq_some_iff.1 hun).1
      omega
    refine hstep i hlt a w h5 h2 h4 (fun k hk hw => h6 k hk (waits_up hw hi)) _ ?_
    intro v w' hv hR
    refine ⟨by simpa using h1, by rw [size_put]; exact h2, by rw [defers_put]; exact h3, fun s hs => ?_, hRt _ _ _ h5 hR, fun k hk hu => ?_⟩
    · rw [getD_put (hs i hlt)]
      exact h4 s hs
    · by_cases e : k = i
      · subst e
        rw [getD_put_self (by rw [h2]; exact hd k hk)]
        exact hv
      · rw [getD_put (inj k i hk hlt e)]
        exact hmono k w w' _ (h6 k hk (up_of hu e)) hR
  · rintro l a w ⟨h1, h2, h3, h4, h5, h6⟩ hr
    exact hdone a w h2 h3 h4 (fun k hk => h6 k hk (all_up ok h1 hr k hk)) h5

/-- Blocks stay as they are, but that rows of bytes may be frozen. -/
structure Kept (W w w' : World) : Prop where
  size : w.heap.size ≤ w'.heap.size
  block : ∀ (k : Nat) (c : Array Value) (t : TypeId) (fz : Nat × Nat), w.heap[k]? = some (.cells c t fz) → ∃ fz', w'.heap[k]? = some (.cells c t fz') ∧ (t ≠ 5 → fz' = fz)
  moves : Moves [] W w → Moves [] W w'

theorem Kept.trans {W a b c : World} (h : Kept W a b) (k : Kept W b c) : Kept W a c :=
  ⟨Nat.le_trans h.size k.size, fun i x t fz hi => by
    obtain ⟨f1, g1, e1⟩ := h.block i x t fz hi
    obtain ⟨f2, g2, e2⟩ := k.block i x t f1 g1
    exact ⟨f2, g2, fun ht => (e2 ht).trans (e1 ht)⟩, fun m => k.moves (h.moves m)⟩
theorem Kept.ofMoves {W w w' : World} (m : Moves [] w w') : Kept W w w' :=
  ⟨m.size, fun k c t fz hk => ⟨fz, m.at hk (by simp), fun _ => rfl⟩, fun n => n.then m⟩
theorem Kept.cell {W w w' : World} (h : Kept W w w') {a : Addr} {v : Value} (hc : w.cell? a = some v) : w'.cell? a = some v := by
  unfold World.cell? at hc ⊢
  cases hq : w.heap[a.block]? with
  | none => simp [hq] at hc
  | some o =>
    cases o with
    | cells c t fz =>
      obtain ⟨f1, g1, _⟩ := h.block _ _ _ _ hq
      simp only [hq] at hc
      simp only [g1]
      exact hc
    | _ => simp [hq] at hc
end Go.Proofs.Ytfegflimnngfaaa
/-
  The law's own list of values: what the operations of its literal leave, told of a world in which rows of bytes may have been frozen.
-/
namespace Go.Proofs.Ytfegflimnngfaaa
open Go.RowKit

theorem IsB.kept {W w w' : World} (k : Kept W w w') {g : Nat} {v : Value} {bs : List Nat} (h : IsB w g v bs) : IsB w' g v bs := by
  obtain ⟨ad, n, cap, h1, h2, h3, h4, h5⟩ := h
  refine ⟨ad, n, cap, h1, h2, h3, h4, ?_⟩
  rcases h5 with h5 | ⟨off, h5, h6⟩
  · exact .inl h5
  · exact .inr ⟨off, h5, fun j b hj => k.cell (h6 j b hj)⟩
theorem OwnL.kept {W w w' : World} (k : Kept W w w') {e : TypeId} (he : e ≠ 5) {size : Nat} {v : Value} {css : List (List Value)} (h : OwnL w e size v css) : OwnL w' e size v css := by
  refine ⟨h.1, h.2.1, ?_⟩
  rcases h.2.2 with hn | ⟨g, cap, cur, rfl, hb, hgg, rest⟩
  · exact .inl hn
  · obtain ⟨fz, h1, h2⟩ := k.block g cur e (0, 0) hgg
    rw [h2 he] at h1
    exact .inr ⟨g, cap, cur, rfl, hb, h1, rest⟩

/-- Where bytes lie: in a row of bytes. -/
def U8 (w : World) (g : Nat) (bs : List Nat) : Prop := bs = [] ∨ ∃ c fz, w.heap[g]? = some (.cells c 5 fz)
theorem U8.kept {W w w' : World} (k : Kept W w w') {g : Nat} {bs : List Nat} (h : U8 w g bs) : U8 w' g bs := by
  rcases h with h | ⟨c, fz, h⟩
  · exact .inl h
  · obtain ⟨f, h1, _⟩ := k.block _ _ _ _ h
    exact .inr ⟨c, f, h1⟩

/-- Bytes of few. -/
def BGood (w : World) (v : Value) : Prop := ∃ ad n cap g bs, v = .slice ad n cap ∧ IsB w g (.slice ad n cap) bs ∧ (∀ z ∈ bs, z < 256) ∧ bs.length ≤ 17 ∧ U8 w g bs
/-- A value of few bytes. -/
def VGood (w : World) (v : Value) : Prop := ∃ A : Vm, VIs w v A ∧ A.bs.length ≤ 17 ∧ U8 w A.g A.bs
/-- A row of bytes of the call's own. -/
def Raw (W : World) (c : List Nat) (w : World) (v : Value) : Prop := ∃ g fz, v = .slice (some ⟨g, 0, none⟩) c.length c.length ∧ W.heap.size ≤ g ∧ w.heap[g]? = some (.cells (c.map fun (b : Nat) => Value.int .u8 (b : Int)).toArray 5 fz)
/-- A list of m values of the call's own. -/
def LGood (W : World) (m : Nat) (w : World) (v : Value) : Prop := ∃ css, css.length = m ∧ OwnL w 39 3 v css ∧ (∀ c ∈ css, VGood w (.agg c.toArray)) ∧ Fresh W v

theorem BGood.kept {W w w' : World} (k : Kept W w w') {v : Value} (h : BGood w v) : BGood w' v := by
  obtain ⟨ad, n, cap, g, bs, h1, h2, h3, h4, h5⟩ := h
  exact ⟨ad, n, cap, g, bs, h1, h2.kept k, h3, h4, h5.kept k⟩
theorem VGood.kept {W w w' : World} (k : Kept W w w') {v : Value} (h : VGood w v) : VGood w' v := by
  obtain ⟨A, h1, h2, h3⟩ := h
  exact ⟨A, ⟨h1.val, h1.isIn.isB.kept k, h1.isIn.fits, h1.isIn.oct⟩, h2, h3.kept k⟩
theorem Raw.kept {W W' w w' : World} {c : List Nat} (k : Kept W' w w') {v : Value} (h : Raw W c w v) : Raw W c w' v := by
  obtain ⟨g, fz, h1, h2, h3⟩ := h
  obtain ⟨f, h4, _⟩ := k.block _ _ _ _ h3
  exact ⟨g, f, h1, h2, h4⟩
theorem LGood.kept {W W' w w' : World} {m : Nat} (k : Kept W' w w') {v : Value} (h : LGood W m w v) : LGood W m w' v := by
  obtain ⟨css, h1, h2, h3, h4⟩ := h
  exact ⟨css, h1, h2.kept k (by decide), fun c hc => (h3 c hc).kept k, h4⟩

theorem VGood.of (w : World) (k : Int) (v : Value) (n : Nat) (hn : Pl.Fits n) (h : BGood w v) : VGood w (.agg #[.int .i64 k, v, .float .f64 n]) := by
  obtain ⟨ad, m, cap, g, bs, rfl, h2, h3, h4⟩ := h
  exact ⟨⟨k, .slice ad m cap, g, bs, n⟩, ⟨rfl, h2, hn, h3⟩, h4⟩
theorem BGood.nil (w : World) : BGood w (.slice none 0 0) := ⟨none, 0, 0, 0, [], rfl, ⟨none, 0, 0, rfl, rfl, Nat.le_refl _, fun _ => rfl, .inl rfl⟩, by simp, by simp, .inl rfl⟩
theorem VGood.cells {w : World} {v : Value} (h : VGood w v) : ∃ k ad n cap x, v = .agg #[.int .i64 k, .slice ad n cap, .float .f64 x] := by
  obtain ⟨A, hV, _⟩ := h
  obtain ⟨ad, len, cap, _, rfl⟩ := hV.open
  exact ⟨_, _, _, _, _, rfl⟩

/-- Writing into rows of no bytes. -/
theorem VGood.moves {S : List Nat} {w w' : World} (m : Moves S w w') (hS : ∀ k ∈ S, ∃ c t fz, w.heap[k]? = some (.cells c t fz) ∧ t ≠ 5) {v : Value} (h : VGood w v) : VGood w' v := by
  obtain ⟨A, h1, h2, h3⟩ := h
  have hne : A.bs ≠ [] → A.g ∉ S := fun hn hm => by
    rcases h3 with h3 | ⟨c, fz, h3⟩
    · exact hn h3
    · obtain ⟨c', t, fz', h4, h5⟩ := hS _ hm
      rw [h3] at h4
      simp at h4
      exact h5 h4.2.1.symm
  obtain ⟨g', hg, hB⟩ := h1.isIn.isB.pick S hne
  have hval := h1.val
  by_cases hn : A.bs = []
  · exact ⟨{ A with g := g' }, ⟨hval, hB.moves m hg, h1.isIn.fits, h1.isIn.oct⟩, h2, .inl hn⟩
  · refine ⟨A, ⟨hval, h1.isIn.isB.moves m (hne hn), h1.isIn.fits, h1.isIn.oct⟩, h2, ?_⟩
    rcases h3 with h3 | ⟨c, fz, h3⟩
    · exact absurd h3 hn
    · exact .inr ⟨c, fz, m.at h3 (hne hn)⟩

set_option maxHeartbeats 1000000 in
theorem keepNum_w (n : Int) (x : Nat) (w : World) (hx : Pl.Fits x) :
    Calls Try.prog 15 #[.agg #[.bool false, .int .i64 n, .float .f64 x, .slice none 0 0]] w fun e w' => ∃ c : Nat, Pl.Fits c ∧ e = .returned (.agg #[.int .i64 2, .slice none 0 0, .float .f64 c]) ∧ Moves [] w w' := by
  go_enter Try.func15, Try.ntmps15
  go_wp2_with (go_at_call 44; refine (float_w _ _ hx _).mono ?_; rintro _ _ ⟨c, hc, rfl, rfl⟩)
  try simp only [Exit.inBlock, Exit.then]
  refine bodyPost_ret (ret_val rfl _ _ _ _ _ _ rfl (heap_alloc2_new _ _ _)) rfl ⟨c, hc, rfl, ((Moves.refl _ _).alloc _).alloc _⟩

/-- []byte("..") of a row that is the call's own. -/
theorem conv_run {W w : World} {c : List Nat} {v : Value} (h : Raw W c w v) (hc : ∀ z ∈ c, z < 256) (hl : c.length ≤ 17) : ∃ w', (convert 25 25 v).run Try.prog w = .ok v w' ∧ BGood w' v ∧ Kept W w w' := by
  obtain ⟨g, fz, rfl, hW, hg⟩ := h
  have hsh : w.shape? g = some (5, c.length) := by unfold World.shape?; rw [hg]; simp
  have hlt : g < w.heap.size := (Array.getElem?_eq_some_iff.1 hg).1
  have hfr : ∃ f, (w.freeze ⟨g, c.length, none⟩ 1).heap[g]? = some (.cells (c.map fun (b : Nat) => Value.int .u8 (b : Int)).toArray 5 f) := by
    have h' : w.heap[g] = .cells (c.map fun (b : Nat) => Value.int .u8 (b : Int)).toArray 5 fz := by simpa [Array.getElem?_eq_getElem hlt] using hg
    show ∃ f, (Array.modify _ _ _)[g]? = _
    rw [Array.getElem?_eq_getElem (by simpa using hlt), Array.getElem_modify_self, h']
    exact ⟨_, rfl⟩
  refine ⟨w.freeze ⟨g, c.length, none⟩ 1, ?_, ?_, ?_⟩
  · simp [convert, run_underlying Try.underlying25, run_underlying Try.underlying5, markStringish, hsh]
  · obtain ⟨f, hf⟩ := hfr
    refine ⟨_, _, _, g, c, rfl, ⟨_, _, _, rfl, rfl, Nat.le_refl _, fun h => by simp at h, .inr ⟨0, rfl, fun j b hj => ?_⟩⟩, hc, hl, .inr ⟨_, _, hf⟩⟩
    unfold World.cell?
    simp only [hf]
    simp [hj]
  · have hne : ∀ k, k ≠ g → (w.freeze ⟨g, c.length, none⟩ 1).heap[k]? = w.heap[k]? := fun k hk => by
      show (Array.modify _ _ _)[k]? = _
      rw [Array.getElem?_modify, if_neg (fun e => hk e.symm)]
    refine ⟨by simp [World.freeze], fun k x t f hk => ?_, fun m => m.trans (T := [g]) ⟨rfl, rfl, rfl, by simp [World.freeze], fun k _ hn => hne k (by simpa using hn)⟩ (fun x hx => .inr (by simp at hx; omega))⟩
    by_cases e : k = g
    · subst e
      rw [hg] at hk
      simp at hk
      obtain ⟨rfl, rfl, rfl⟩ := hk
      obtain ⟨f', hf⟩ := hfr
      exact ⟨f', hf, fun h => absurd rfl h⟩
    · exact ⟨f, by rw [hne k e]; exact hk, fun _ => rfl⟩
end Go.Proofs.Ytfegflimnngfaaa
