/-
  A disk: its records lie as texts, one behind the other. What each method of package disk does: New, Len, Bytes, Append.
-/
import Derived.Test.YtedehhnhmkeglaaCB02
import Derived.Test.YtedehhnhmkeglaaCB01
import Derived.Test.YtedehhnhmkeglaaCB00
import Derived.Deep.RegionHeld3
namespace Go.Proofs.Ytedehhnhmkeglaa
open Go.RowKit

/-- At block p lies a disk with these records, its list in block a. -/
def DkIs (w : World) (p : Nat) (a : Option Nat) (ss : List ByteArray) : Prop :=
  ∃ v, w.heap[p]? = some (.cells #[v] 39 (0, 0)) ∧ v.ownBlock = a ∧ OwnZ w v ss
/-- From w to w' the disk at p alone was written to, and has ss now. -/
def DkTo (w : World) (p : Nat) (a : Option Nat) (w' : World) (a' : Option Nat) (ss : List ByteArray) : Prop :=
  DkIs w' p a' ss ∧ Moves (p :: a.toList) w w' ∧ (a' = a ∨ ∃ k, a' = some k ∧ w.heap.size ≤ k)
theorem OwnZ.nil (w : World) : OwnZ w (.slice none 0 0) [] := by unfold OwnZ; exact World.ownsRow_nil _ _ _ _
theorem OwnZ.block {w : World} {v : Value} {ss : List ByteArray} (h : OwnZ w v ss) {k : Nat} (hk : v.ownBlock = some k) : ∃ cur, w.heap[k]? = some (.cells cur 9 (0, 0)) := by
  rcases h.2 with ⟨rfl, h0⟩ | ⟨g, cap, cur, rfl, hb, hgg, _⟩
  · simp [Value.ownBlock] at hk
  · simp [Value.ownBlock] at hk
    subst hk
    exact ⟨cur, hgg⟩
theorem OwnZ.ne {w : World} {v : Value} {ss : List ByteArray} (h : OwnZ w v ss) {p : Nat} {c : Array Value} {t : TypeId} {fz : Nat × Nat} (hp : w.heap[p]? = some (.cells c t fz)) (ht : t ≠ 9) : p ∉ v.ownBlock.toList := by
  intro hk
  obtain ⟨cur, hc⟩ := h.block (Option.mem_toList.1 hk)
  rw [hc] at hp
  simp at hp
  exact ht hp.2.1.symm
theorem DkIs.apart {w : World} {p : Nat} {a : Option Nat} {ss : List ByteArray} (h : DkIs w p a ss) {k : Nat} {c : Array Value} {t : TypeId} {fz : Nat × Nat} (hk : w.heap[k]? = some (.cells c t fz)) (h1 : t ≠ 9) (h2 : t ≠ 39) : k ∉ p :: a.toList := by
  obtain ⟨v, hp, rfl, hO⟩ := h
  intro hm
  rcases List.mem_cons.1 hm with rfl | hm
  · rw [hk] at hp
    simp at hp
    exact h2 hp.2.1
  · exact hO.ne hk h1 hm
theorem DkIs.lt {w : World} {p : Nat} {a : Option Nat} {ss : List ByteArray} (h : DkIs w p a ss) : ∀ k ∈ p :: a.toList, k < w.heap.size := by
  obtain ⟨v, hp, rfl, hO⟩ := h
  intro k hk
  rcases List.mem_cons.1 hk with rfl | hk
  · exact lt_of_block hp
  · exact hO.lt (Option.mem_toList.1 hk)
theorem DkIs.moves {w w' : World} {p : Nat} {a : Option Nat} {ss : List ByteArray} {S : List Nat} (h : DkIs w p a ss) (m : Moves S w w') (hS : ∀ k ∈ p :: a.toList, k ∉ S) : DkIs w' p a ss := by
  obtain ⟨v, hp, rfl, hO⟩ := h
  exact ⟨v, m.at hp (hS p (by simp)), rfl, hO.moves m (fun k hk => hS k (by simp [hk]))⟩
/-- The disk was made behind W: nothing of W's was written. -/
theorem DkTo.fresh {W w0 w1 : World} {p : Nat} {a0 a1 : Option Nat} {xs : List ByteArray} (h : DkTo w0 p a0 w1 a1 xs) (M : Moves [] W w0) (hf : ∀ k ∈ p :: a0.toList, W.heap.size ≤ k) : Moves [] W w1 ∧ ∀ k ∈ p :: a1.toList, W.heap.size ≤ k := by
  obtain ⟨h1, h2, h3⟩ := h
  refine ⟨M.trans h2 (fun x hx => .inr (hf x hx)), ?_⟩
  intro k hk
  rcases List.mem_cons.1 hk with rfl | hk
  · exact hf _ (by simp)
  · rcases h3 with rfl | ⟨j, rfl, hj⟩
    · exact hf k (by simp [hk])
    · simp at hk; subst hk; exact Nat.le_trans M.size hj

set_option maxRecDepth 100000 in
theorem dkNew_w (w : World) : Calls Try.prog 6 #[] w fun e w' => e = .returned (.pointer (some ⟨w.heap.size, 0, none⟩)) ∧ DkIs w' w.heap.size none [] ∧ Moves [] w w' := by
  go_enter Try.func6, Try.ntmps6
  go_wp2_with fail
  go_ret
  exact ⟨rfl, ⟨_, heap_alloc_new _ _, rfl, OwnZ.nil _⟩, (Moves.refl _ _).alloc _⟩

set_option maxRecDepth 100000 in
theorem dkLen_w (w : World) (p : Nat) (a : Option Nat) (ss : List ByteArray) (h : DkIs w p a ss) : Calls Try.prog 14 #[.pointer (some ⟨p, 0, none⟩)] w fun e w' => e = .returned (.int .i64 (ss.length : Int)) ∧ w = w' := by
  obtain ⟨v, hp, rfl, hO⟩ := h
  obtain ⟨ad, cap, rfl, hc, hS⟩ := hO.at
  obtain ⟨x1, x2⟩ := one_cell hp
  clear hO hS
  generalize ss.length = n at *
  go_enter Try.func14, Try.ntmps14
  go_wp2_with fail
  go_ret
  exact ⟨rfl, rfl⟩

/-- append in a drawn region, of texts. -/
theorem strs_step {ops : Array Oper} {o : Oper} {a : Act} {K : Act → World → Prop} {Q : Exit → Act → World → Prop} {w : World} (s x : Operand)
    (ho : o.op = .call { callee := .builtin .append, args := #[s, x], argTypes := #[37, 37] })
    (v : Value) (y : Addr) (n cap : Nat) (xs ys : List ByteArray) (hs : a.eval s = v) (hx : a.eval x = .slice (some y) n cap) (hw : Region.wanted o (yielded ops a.tmps) = true)
    (hv : OwnZ w v xs) (hc : StrsAt w (some y) ys) (hn : n = ys.length) (hb : xs.length + ys.length ≤ 1000000)
    (h : ∀ v' w', OwnZ w' v' (xs ++ ys) → Moves v.ownBlock.toList w w' → Lain w v v' → K (a.put o.dst v') w') :
    if Region.wanted o (yielded ops a.tmps) then o.wp Try.prog a w K Q else K (a.put o.dst undef) w := by
  rw [if_pos hw]
  obtain ⟨i0, hi, hz0, hz1, hz2⟩ := info_parts Try.info9
  have hcell : ∀ j u, (ys.map Value.string)[j]? = some u → w.cell? (y.add j) = some u := by
    intro j u hj
    simp only [List.getElem?_map, Option.map_eq_some_iff] at hj
    obtain ⟨z, hz, rfl⟩ := hj
    obtain ⟨g, off, e1, e2⟩ := hc j z hz
    simp only [Option.some.injEq] at e1
    subst e1
    have e : (⟨g, off, none⟩ : Addr).add j = ⟨g, off + j, none⟩ := by unfold Addr.add; split <;> simp_all
    rw [e]; exact e2
  obtain ⟨v', w', hr, h2, h3, h4, h5⟩ := run_append_own_at (P := Try.prog) w 0 37 o.type 9 i0 (.string ⟨#[]⟩) 1 16 Try.underlying37 hi hz0 hz1 hz2 rfl (by decide) v xs.length (xs.map Value.string) hv y ys.length cap (ys.map Value.string) (by simp) hcell (fun u hu => by simp only [List.mem_map] at hu; obtain ⟨b, _, rfl⟩ := hu; rfl) (by unfold maxLen; omega) (by omega) (by simp)
  rw [hn] at hx
  unfold Oper.wp execOp
  simp only [ho, resolve, invoke, builtin, Sem.run_bind, Sem.run_pure, Result.andThen_ok, List.map_toArray, List.map_cons, List.map_nil, hs, hx, hr]
  refine h v' w' ?_ ((Moves.refl _ _).grown h3 (fun k hk => .inl (by rw [hk]; simp))) h5
  unfold OwnZ
  rw [List.map_append, List.length_append]
  exact h2
theorem strs_new (w : World) (z : ByteArray) : StrsAt (w.alloc (.cells #[.string z] 9)) (some ⟨w.heap.size, 0, none⟩) [z] := by
  intro k s hs
  match k, hs with
  | 0, hs =>
    simp at hs
    subst hs
    exact ⟨_, 0, rfl, by simp only [World.cell?]; rw [heap_alloc_new]; rfl⟩
/-- What the store of the grown list leaves. -/
theorem dk_store {w w1 w2 : World} {p : Nat} {v v' : Value} {xs ys : List ByteArray} (h : w.heap[p]? = some (.cells #[v] 39 (0, 0))) (hm : Moves [] w w1)
    (ho : OwnZ w2 v' ys) (hv : OwnZ w v xs) (m : Moves v.ownBlock.toList w1 w2) (hb : Lain w1 v v') :
    w2.heap[p]? = some (.cells #[v] 39 (0, 0)) ∧ DkTo w p v.ownBlock (w2.setCell ⟨p, 0, none⟩ v') v'.ownBlock ys := by
  have hne : p ∉ v.ownBlock.toList := hv.ne h (by decide)
  have h2 : w2.heap[p]? = some (.cells #[v] 39 (0, 0)) := m.at (hm.at h (by simp)) hne
  have hne' : p ∉ v'.ownBlock.toList := ho.ne h2 (by decide)
  have ms := moves_set w2 p 0 v'
  refine ⟨h2, ⟨v', set_one h2 _, rfl, ho.moves ms (fun k hk hx => ?_)⟩, ?_, ?_⟩
  · simp at hx
    subst hx
    exact hne' (by simp [hk])
  · exact ((hm.mono (by simp)).trans m (fun x hx => .inl (by simp [hx]))).then (ms.mono (by simp))
  · rcases hb with e | e
    · exact .inl e
    · exact .inr ⟨_, e, hm.size⟩

set_option maxRecDepth 100000 in
set_option maxHeartbeats 4000000 in
theorem dkAppend_w (w : World) (p : Nat) (a : Option Nat) (ss : List ByteArray) (x : Value) (g : Nat) (bs : List Nat) (h : DkIs w p a ss) (hB : IsB w g x bs) (ho : ∀ b ∈ bs, b < 256) (hl : ss.length + 1 ≤ 1000000) :
    Calls Try.prog 8 #[.pointer (some ⟨p, 0, none⟩), x] w fun e w' => e = .returned (.tuple #[]) ∧ ∃ a', DkTo w p a w' a' (ss ++ [strOf bs]) := by
  obtain ⟨v, hp, rfl, hO⟩ := h
  obtain ⟨x1, x2⟩ := one_cell hp
  obtain ⟨z, hz⟩ : ∃ z, strOf bs = z := ⟨_, rfl⟩
  have hs6 := run_str (w := w.drew) (hB.moves ((Moves.refl [] w).drew) (by simp)) ho
  rw [hz] at hs6 ⊢
  go_enter Try.func8, Try.ntmps8
  go_wp2_with fail
  refine wp_region_noPanic ?_
  refine wp_region_held_drew (S := (fun _ => True)) (by kernel_rfl) ?_ (fun hHeld => ?_)
  · first | (go_keep; done) | trivial
  refine wpAnyH_take (i := 0) (oi := { dst := some 6, op := Op.move (Operand.tmp 0), type := 22, pos := "disk.go:20", after := #[], guard := none }) (v := ?_) rfl (by kernel_rfl) (by kernel_rfl) (by kernel_rfl) (fun _ _ _ h => h) (Or.inl ⟨by rfl, ?_⟩) (by assumption) ?_
  rotate_left
  · (intro w hSw; (try dsimp only at hSw); go_simp; try (with_reducible rfl))
  try simp only [Act.put, List.setIfInBounds_toArray, List.set_cons_zero, List.set_cons_succ]
  refine wpAnyH_take (i := 1) (oi := { dst := some 7, op := Op.move (Operand.tmp 0), type := 22, pos := "disk.go:20", after := #[], guard := none }) (v := ?_) rfl (by kernel_rfl) (by kernel_rfl) (by kernel_rfl) (fun _ _ _ h => h) (Or.inl ⟨by rfl, ?_⟩) (by assumption) ?_
  rotate_left
  · (intro w hSw; (try dsimp only at hSw); go_simp; try (with_reducible rfl))
  try simp only [Act.put, List.setIfInBounds_toArray, List.set_cons_zero, List.set_cons_succ]
  refine wpAnyH_take (i := 2) (oi := { dst := some 8, op := Op.nilCheck (Operand.tmp 7), type := 0, pos := "disk.go:20", after := #[{ on := 1, ground := Ground.data }], guard := none }) (v := ?_) rfl (by kernel_rfl) (by kernel_rfl) (by kernel_rfl) (fun _ _ _ h => h) (Or.inl ⟨by rfl, ?_⟩) (by assumption) ?_
  rotate_left
  · (intro w hSw; (try dsimp only at hSw); go_simp; try (with_reducible rfl))
  try simp only [Act.put, List.setIfInBounds_toArray, List.set_cons_zero, List.set_cons_succ]
  refine wpAnyH_take (i := 3) (oi := { dst := some 9, op := Op.fieldAddr 39 (Operand.tmp 8) 0, type := 0, pos := "disk.go:20", after := #[{ on := 2, ground := Ground.data }], guard := none }) (v := ?_) rfl (by kernel_rfl) (by kernel_rfl) (by kernel_rfl) (fun _ _ _ h => h) (Or.inl ⟨by rfl, ?_⟩) (by assumption) ?_
  rotate_left
  · (intro w hSw; (try dsimp only at hSw); go_simp; try (with_reducible rfl))
  try simp only [Act.put, List.setIfInBounds_toArray, List.set_cons_zero, List.set_cons_succ]
  refine wpAnyH_take (i := 5) (oi := { dst := some 11, op := Op.move (Operand.tmp 1), type := 30, pos := "disk.go:20", after := #[], guard := none }) (v := ?_) rfl (by kernel_rfl) (by kernel_rfl) (by kernel_rfl) (fun _ _ _ h => h) (Or.inl ⟨by rfl, ?_⟩) (by assumption) ?_
  rotate_left
  · (intro w hSw; (try dsimp only at hSw); go_simp; try (with_reducible rfl))
  try simp only [Act.put, List.setIfInBounds_toArray, List.set_cons_zero, List.set_cons_succ]
  refine wpAnyH_ready (rs := [4, 6]) (by kernel_rfl) (by simp) ?_
  refine AllReadyH.cons (o := { dst := some 10, op := Op.load 37 (Operand.tmp 9), type := 37, pos := "disk.go:20", after := #[{ on := 3, ground := Ground.data }], guard := none }) rfl (fun K hK => ?_) (AllReadyH.cons (o := { dst := some 12, op := Op.convert 30 9 (Operand.tmp 11), type := 9, pos := "disk.go:20", after := #[{ on := 5, ground := Ground.data }], guard := none }) rfl (fun K hK => ?_) AllReadyH.nil)
  · go_simp
    refine hK.out _ _ ?_ (fun hHeld => ?_)
    · trivial
    clear hK K
    refine wpAnyH_ready (rs := [6]) (by kernel_rfl) (by simp) ?_
    refine AllReadyH.cons (o := { dst := some 12, op := Op.convert 30 9 (Operand.tmp 11), type := 9, pos := "disk.go:20", after := #[{ on := 5, ground := Ground.data }], guard := none }) rfl (fun K hK => ?_) AllReadyH.nil
    go_simp
    refine hK.out _ _ ?_ (fun hHeld => ?_)
    · trivial
    clear hK K
    try simp only [Act.put, List.setIfInBounds_toArray, List.set_cons_zero, List.set_cons_succ]
    refine wpAnyH_ready (rs := [7]) (by kernel_rfl) (by simp) ?_
    refine AllReadyH.cons (o := { dst := some 13, op := Op.buildSlice 37 1 #[(0, Operand.tmp 12)], type := 37, pos := "disk.go:20", after := #[{ on := 6, ground := Ground.data }], guard := none }) rfl (fun K hK => ?_) AllReadyH.nil
    go_simp
    obtain ⟨w7, hw7⟩ : ∃ w7, (w.alloc (.cells #[.string z] 9)).drew = w7 := ⟨_, rfl⟩
    have mW : Moves [] w w7 := by rw [← hw7]; exact ((Moves.refl _ _).alloc _).drew
    have hC : StrsAt w7 (some ⟨w.heap.size, 0, none⟩) [z] := by rw [← hw7]; exact strs_new w z
    have hO7 : OwnZ w7 v ss := hO.moves mW (by simp)
    have c7 := mW.cell x1
    rw [hw7]
    refine hK.out _ _ ?_ (fun hHeld => ?_)
    · trivial
    clear hK K
    try simp only [Act.put, List.setIfInBounds_toArray, List.set_cons_zero, List.set_cons_succ]
    refine wpAnyH_ready (rs := [8]) (by kernel_rfl) (by simp) ?_
    refine AllReadyH.cons (o := { dst := some 14, op := Op.call { callee := Callee.builtin Builtin.append, args := #[Operand.tmp 10, Operand.tmp 13], argTypes := #[37, 37] }, type := 37, pos := "disk.go:20", after := #[{ on := 4, ground := Ground.data }, { on := 7, ground := Ground.data }], guard := none }) rfl (fun K hK => ?_) AllReadyH.nil
    refine strs_step (.tmp 10) (.tmp 13) rfl v ⟨w.heap.size, 0, none⟩ 1 1 ss [z] rfl rfl (by rfl) hO7 hC rfl hl ?_
    intro v8 w8 hO8 m8 l8
    obtain ⟨ad8, cap8, hv8, -, -⟩ := hO8.at
    generalize (ss ++ [z]).length = n8 at hv8
    subst hv8
    obtain ⟨h2, hTo⟩ := dk_store hp mW hO8 hO m8 l8
    obtain ⟨c8, f8⟩ := one_cell h2
    refine hK.out _ _ ?_ (fun hHeld => ?_)
    · trivial
    clear hK K
    try simp only [Act.put, List.setIfInBounds_toArray, List.set_cons_zero, List.set_cons_succ]
    refine wpAnyH_take (i := 9) (oi := { dst := some 15, op := Op.nilCheck (Operand.tmp 6), type := 0, pos := "disk.go:20", after := #[{ on := 0, ground := Ground.data }, { on := 0, ground := Ground.phase }, { on := 1, ground := Ground.phase }, { on := 2, ground := Ground.phase }, { on := 3, ground := Ground.phase }, { on := 4, ground := Ground.phase }, { on := 5, ground := Ground.phase }, { on := 6, ground := Ground.phase }, { on := 7, ground := Ground.phase }, { on := 8, ground := Ground.phase }], guard := none }) (v := ?_) rfl (by kernel_rfl) (by kernel_rfl) (by kernel_rfl) (fun _ _ _ h => h) (Or.inl ⟨by rfl, ?_⟩) (by assumption) ?_
    rotate_left
    · (intro w hSw; (try dsimp only at hSw); go_simp; try (with_reducible rfl))
    try simp only [Act.put, List.setIfInBounds_toArray, List.set_cons_zero, List.set_cons_succ]
    refine wpAnyH_take (i := 10) (oi := { dst := some 16, op := Op.fieldAddr 39 (Operand.tmp 15) 0, type := 0, pos := "disk.go:20", after := #[{ on := 9, ground := Ground.data }, { on := 0, ground := Ground.phase }, { on := 1, ground := Ground.phase }, { on := 2, ground := Ground.phase }, { on := 3, ground := Ground.phase }, { on := 4, ground := Ground.phase }, { on := 5, ground := Ground.phase }, { on := 6, ground := Ground.phase }, { on := 7, ground := Ground.phase }, { on := 8, ground := Ground.phase }], guard := none }) (v := ?_) rfl (by kernel_rfl) (by kernel_rfl) (by kernel_rfl) (fun _ _ _ h => h) (Or.inl ⟨by rfl, ?_⟩) (by assumption) ?_
    rotate_left
    · (intro w hSw; (try dsimp only at hSw); go_simp; try (with_reducible rfl))
    try simp only [Act.put, List.setIfInBounds_toArray, List.set_cons_zero, List.set_cons_succ]
    refine wpAnyH_ready (rs := [11]) (by kernel_rfl) (by simp) ?_
    refine AllReadyH.cons (o := { dst := none, op := Op.store 37 (Operand.tmp 16) (Operand.tmp 14), type := 0, pos := "disk.go:20", after := #[{ on := 10, ground := Ground.data }, { on := 8, ground := Ground.data }, { on := 8, ground := Ground.chain }, { on := 0, ground := Ground.phase }, { on := 1, ground := Ground.phase }, { on := 2, ground := Ground.phase }, { on := 3, ground := Ground.phase }, { on := 4, ground := Ground.phase }, { on := 5, ground := Ground.phase }, { on := 6, ground := Ground.phase }, { on := 7, ground := Ground.phase }, { on := 8, ground := Ground.phase }], guard := none }) rfl (fun K hK => ?_) AllReadyH.nil
    go_simp
    refine hK.out _ _ ?_ (fun hHeld => ?_)
    · trivial
    clear hK K
    refine wpAnyH_done (by kernel_rfl) ?_ _
    refine NoPanic.normal ?_
    go_wp2_with fail
    go_end0
    exact ⟨rfl, _, hTo⟩
  · go_simp
    refine hK.out _ _ ?_ (fun hHeld => ?_)
    · trivial
    clear hK K
    try simp only [Act.put, List.setIfInBounds_toArray, List.set_cons_zero, List.set_cons_succ]
    refine wpAnyH_ready (rs := [4, 7]) (by kernel_rfl) (by simp) ?_
    refine AllReadyH.cons (o := { dst := some 10, op := Op.load 37 (Operand.tmp 9), type := 37, pos := "disk.go:20", after := #[{ on := 3, ground := Ground.data }], guard := none }) rfl (fun K hK => ?_) (AllReadyH.cons (o := { dst := some 13, op := Op.buildSlice 37 1 #[(0, Operand.tmp 12)], type := 37, pos := "disk.go:20", after := #[{ on := 6, ground := Ground.data }], guard := none }) rfl (fun K hK => ?_) AllReadyH.nil)
    · go_simp
      refine hK.out _ _ ?_ (fun hHeld => ?_)
      · trivial
      clear hK K
      refine wpAnyH_ready (rs := [7]) (by kernel_rfl) (by simp) ?_
      refine AllReadyH.cons (o := { dst := some 13, op := Op.buildSlice 37 1 #[(0, Operand.tmp 12)], type := 37, pos := "disk.go:20", after := #[{ on := 6, ground := Ground.data }], guard := none }) rfl (fun K hK => ?_) AllReadyH.nil
      go_simp
      obtain ⟨w7, hw7⟩ : ∃ w7, (w.alloc (.cells #[.string z] 9)).drew = w7 := ⟨_, rfl⟩
      have mW : Moves [] w w7 := by rw [← hw7]; exact ((Moves.refl _ _).alloc _).drew
      have hC : StrsAt w7 (some ⟨w.heap.size, 0, none⟩) [z] := by rw [← hw7]; exact strs_new w z
      have hO7 : OwnZ w7 v ss := hO.moves mW (by simp)
      have c7 := mW.cell x1
      rw [hw7]
      refine hK.out _ _ ?_ (fun hHeld => ?_)
      · trivial
      clear hK K
      try simp only [Act.put, List.setIfInBounds_toArray, List.set_cons_zero, List.set_cons_succ]
      refine wpAnyH_ready (rs := [8]) (by kernel_rfl) (by simp) ?_
      refine AllReadyH.cons (o := { dst := some 14, op := Op.call { callee := Callee.builtin Builtin.append, args := #[Operand.tmp 10, Operand.tmp 13], argTypes := #[37, 37] }, type := 37, pos := "disk.go:20", after := #[{ on := 4, ground := Ground.data }, { on := 7, ground := Ground.data }], guard := none }) rfl (fun K hK => ?_) AllReadyH.nil
      refine strs_step (.tmp 10) (.tmp 13) rfl v ⟨w.heap.size, 0, none⟩ 1 1 ss [z] rfl rfl (by rfl) hO7 hC rfl hl ?_
      intro v8 w8 hO8 m8 l8
      obtain ⟨ad8, cap8, hv8, -, -⟩ := hO8.at
      generalize (ss ++ [z]).length = n8 at hv8
      subst hv8
      obtain ⟨h2, hTo⟩ := dk_store hp mW hO8 hO m8 l8
      obtain ⟨c8, f8⟩ := one_cell h2
      refine hK.out _ _ ?_ (fun hHeld => ?_)
      · trivial
      clear hK K
      try simp only [Act.put, List.setIfInBounds_toArray, List.set_cons_zero, List.set_cons_succ]
      refine wpAnyH_take (i := 9) (oi := { dst := some 15, op := Op.nilCheck (Operand.tmp 6), type := 0, pos := "disk.go:20", after := #[{ on := 0, ground := Ground.data }, { on := 0, ground := Ground.phase }, { on := 1, ground := Ground.phase }, { on := 2, ground := Ground.phase }, { on := 3, ground := Ground.phase }, { on := 4, ground := Ground.phase }, { on := 5, ground := Ground.phase }, { on := 6, ground := Ground.phase }, { on := 7, ground := Ground.phase }, { on := 8, ground := Ground.phase }], guard := none }) (v := ?_) rfl (by kernel_rfl) (by kernel_rfl) (by kernel_rfl) (fun _ _ _ h => h) (Or.inl ⟨by rfl, ?_⟩) (by assumption) ?_
      rotate_left
      · (intro w hSw; (try dsimp only at hSw); go_simp; try (with_reducible rfl))
      try simp only [Act.put, List.setIfInBounds_toArray, List.set_cons_zero, List.set_cons_succ]
      refine wpAnyH_take (i := 10) (oi := { dst := some 16, op := Op.fieldAddr 39 (Operand.tmp 15) 0, type := 0, pos := "disk.go:20", after := #[{ on := 9, ground := Ground.data }, { on := 0, ground := Ground.phase }, { on := 1, ground := Ground.phase }, { on := 2, ground := Ground.phase }, { on := 3, ground := Ground.phase }, { on := 4, ground := Ground.phase }, { on := 5, ground := Ground.phase }, { on := 6, ground := Ground.phase }, { on := 7, ground := Ground.phase }, { on := 8, ground := Ground.phase }], guard := none }) (v := ?_) rfl (by kernel_rfl) (by kernel_rfl) (by kernel_rfl) (fun _ _ _ h => h) (Or.inl ⟨by rfl, ?_⟩) (by assumption) ?_
      rotate_left
      · (intro w hSw; (try dsimp only at hSw); go_simp; try (with_reducible rfl))
      try simp only [Act.put, List.setIfInBounds_toArray, List.set_cons_zero, List.set_cons_succ]
      refine wpAnyH_ready (rs := [11]) (by kernel_rfl) (by simp) ?_
      refine AllReadyH.cons (o := { dst := none, op := Op.store 37 (Operand.tmp 16) (Operand.tmp 14), type := 0, pos := "disk.go:20", after := #[{ on := 10, ground := Ground.data }, { on := 8, ground := Ground.data }, { on := 8, ground := Ground.chain }, { on := 0, ground := Ground.phase }, { on := 1, ground := Ground.phase }, { on := 2, ground := Ground.phase }, { on := 3, ground := Ground.phase }, { on := 4, ground := Ground.phase }, { on := 5, ground := Ground.phase }, { on := 6, ground := Ground.phase }, { on := 7, ground := Ground.phase }, { on := 8, ground := Ground.phase }], guard := none }) rfl (fun K hK => ?_) AllReadyH.nil
      go_simp
      refine hK.out _ _ ?_ (fun hHeld => ?_)
      · trivial
      clear hK K
      refine wpAnyH_done (by kernel_rfl) ?_ _
      refine NoPanic.normal ?_
      go_wp2_with fail
      go_end0
      exact ⟨rfl, _, hTo⟩
    · go_simp
      obtain ⟨w7, hw7⟩ : ∃ w7, (w.alloc (.cells #[.string z] 9)).drew = w7 := ⟨_, rfl⟩
      have mW : Moves [] w w7 := by rw [← hw7]; exact ((Moves.refl _ _).alloc _).drew
      have hC : StrsAt w7 (some ⟨w.heap.size, 0, none⟩) [z] := by rw [← hw7]; exact strs_new w z
      have hO7 : OwnZ w7 v ss := hO.moves mW (by simp)
      have c7 := mW.cell x1
      rw [hw7]
      refine hK.out _ _ ?_ (fun hHeld => ?_)
      · trivial
      clear hK K
      try simp only [Act.put, List.setIfInBounds_toArray, List.set_cons_zero, List.set_cons_succ]
      refine wpAnyH_ready (rs := [4]) (by kernel_rfl) (by simp) ?_
      refine AllReadyH.cons (o := { dst := some 10, op := Op.load 37 (Operand.tmp 9), type := 37, pos := "disk.go:20", after := #[{ on := 3, ground := Ground.data }], guard := none }) rfl (fun K hK => ?_) AllReadyH.nil
      go_simp
      refine hK.out _ _ ?_ (fun hHeld => ?_)
      · trivial
      clear hK K
      refine wpAnyH_ready (rs := [8]) (by kernel_rfl) (by simp) ?_
      refine AllReadyH.cons (o := { dst := some 14, op := Op.call { callee := Callee.builtin Builtin.append, args := #[Operand.tmp 10, Operand.tmp 13], argTypes := #[37, 37] }, type := 37, pos := "disk.go:20", after := #[{ on := 4, ground := Ground.data }, { on := 7, ground := Ground.data }], guard := none }) rfl (fun K hK => ?_) AllReadyH.nil
      refine strs_step (.tmp 10) (.tmp 13) rfl v ⟨w.heap.size, 0, none⟩ 1 1 ss [z] rfl rfl (by rfl) hO7 hC rfl hl ?_
      intro v8 w8 hO8 m8 l8
      obtain ⟨ad8, cap8, hv8, -, -⟩ := hO8.at
      generalize (ss ++ [z]).length = n8 at hv8
      subst hv8
      obtain ⟨h2, hTo⟩ := dk_store hp mW hO8 hO m8 l8
      obtain ⟨c8, f8⟩ := one_cell h2
      refine hK.out _ _ ?_ (fun hHeld => ?_)
      · trivial
      clear hK K
      try simp only [Act.put, List.setIfInBounds_toArray, List.set_cons_zero, List.set_cons_succ]
      refine wpAnyH_take (i := 9) (oi := { dst := some 15, op := Op.nilCheck (Operand.tmp 6), type := 0, pos := "disk.go:20", after := #[{ on := 0, ground := Ground.data }, { on := 0, ground := Ground.phase }, { on := 1, ground := Ground.phase }, { on := 2, ground := Ground.phase }, { on := 3, ground := Ground.phase }, { on := 4, ground := Ground.phase }, { on := 5, ground := Ground.phase }, { on := 6, ground := Ground.phase }, { on := 7, ground := Ground.phase }, { on := 8, ground := Ground.phase }], guard := none }) (v := ?_) rfl (by kernel_rfl) (by kernel_rfl) (by kernel_rfl) (fun _ _ _ h => h) (Or.inl ⟨by rfl, ?_⟩) (by assumption) ?_
      rotate_left
      · (intro w hSw; (try dsimp only at hSw); go_simp; try (with_reducible rfl))
      try simp only [Act.put, List.setIfInBounds_toArray, List.set_cons_zero, List.set_cons_succ]
      refine wpAnyH_take (i := 10) (oi := { dst := some 16, op := Op.fieldAddr 39 (Operand.tmp 15) 0, type := 0, pos := "disk.go:20", after := #[{ on := 9, ground := Ground.data }, { on := 0, ground := Ground.phase }, { on := 1, ground := Ground.phase }, { on := 2, ground := Ground.phase }, { on := 3, ground := Ground.phase }, { on := 4, ground := Ground.phase }, { on := 5, ground := Ground.phase }, { on := 6, ground := Ground.phase }, { on := 7, ground := Ground.phase }, { on := 8, ground := Ground.phase }], guard := none }) (v := ?_) rfl (by kernel_rfl) (by kernel_rfl) (by kernel_rfl) (fun _ _ _ h => h) (Or.inl ⟨by rfl, ?_⟩) (by assumption) ?_
      rotate_left
      · (intro w hSw; (try dsimp only at hSw); go_simp; try (with_reducible rfl))
      try simp only [Act.put, List.setIfInBounds_toArray, List.set_cons_zero, List.set_cons_succ]
      refine wpAnyH_ready (rs := [11]) (by kernel_rfl) (by simp) ?_
      refine AllReadyH.cons (o := { dst := none, op := Op.store 37 (Operand.tmp 16) (Operand.tmp 14), type := 0, pos := "disk.go:20", after := #[{ on := 10, ground := Ground.data }, { on := 8, ground := Ground.data }, { on := 8, ground := Ground.chain }, { on := 0, ground := Ground.phase }, { on := 1, ground := Ground.phase }, { on := 2, ground := Ground.phase }, { on := 3, ground := Ground.phase }, { on := 4, ground := Ground.phase }, { on := 5, ground := Ground.phase }, { on := 6, ground := Ground.phase }, { on := 7, ground := Ground.phase }, { on := 8, ground := Ground.phase }], guard := none }) rfl (fun K hK => ?_) AllReadyH.nil
      go_simp
      refine hK.out _ _ ?_ (fun hHeld => ?_)
      · trivial
      clear hK K
      refine wpAnyH_done (by kernel_rfl) ?_ _
      refine NoPanic.normal ?_
      go_wp2_with fail
      go_end0
      exact ⟨rfl, _, hTo⟩
end Go.Proofs.Ytedehhnhmkeglaa
