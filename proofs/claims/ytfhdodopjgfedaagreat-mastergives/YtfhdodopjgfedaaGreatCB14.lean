/- ours -/
import Derived.Test.YtfhdodopjgfedaaGreatCLi0
import Derived.Test.YtfhdodopjgfedaaGreatCB13
import Derived.Sort.Walk0
import Derived.Deep.RegionHeld3
/-
  Rows as plain data, and how they lie in memory: lists of structs whose fields are lists. Plain facts, no program in sight but for the numbers of its types.
-/
namespace Go.Proofs.YtfhdodopjgfedaaGreat
open Go.RowKit

structure Pv where
  kind : Int
  bs : List Nat
  n : Nat
structure Pver where
  t : Int
  v : Pv
structure Pcol where
  name : ByteArray
  l : List Pver

def VC (w : World) (c : List Value) (p : Pv) : Prop := ∃ ad len cap g, c = [.int .i64 p.kind, .slice ad len cap, .float .f64 p.n] ∧ IsB w g (.slice ad len cap) p.bs ∧ Pl.Fits p.n ∧ (∀ z ∈ p.bs, z < 256) ∧ p.bs.length ≤ 1048576 ∧ U8 w g p.bs
theorem VC.stay {T : TypeId → Prop} {w w' : World} (h : Stay T w w') (hT : T 5) {c : List Value} {p : Pv} (hv : VC w c p) : VC w' c p := by
  obtain ⟨ad, len, cap, g, h1, h2, h3, h4, h6, h5⟩ := hv
  obtain ⟨k1, k2⟩ := h2.stay h hT h5
  exact ⟨ad, len, cap, g, h1, k1, h3, h4, h6, k2⟩

def VA (w : World) (c : List Value) (p : Pv) : Prop := ∃ ad len cap g, c = [.int .i64 p.kind, .slice ad len cap, .float .f64 p.n] ∧ IsB w g (.slice ad len cap) p.bs ∧ Pl.Fits p.n ∧ (∀ z ∈ p.bs, z < 256) ∧ p.bs.length ≤ 1048576
theorem VC.va {w : World} {c : List Value} {p : Pv} (h : VC w c p) : VA w c p := by
  obtain ⟨ad, len, cap, g, h1, h2, h3, h4, h5, _⟩ := h
  exact ⟨ad, len, cap, g, h1, h2, h3, h4, h5⟩
theorem VA.moves {w w' : World} {c : List Value} {p : Pv} (h : VA w c p) (m : Moves [] w w') : VA w' c p := by
  obtain ⟨ad, len, cap, g, h1, h2, h3, h4, h5⟩ := h
  exact ⟨ad, len, cap, g, h1, h2.moves m (by simp), h3, h4, h5⟩

def VerC (w : World) (c : List Value) (x : Pver) : Prop := ∃ d, c = .int .i64 x.t :: d ∧ VC w d x.v
theorem VerC.stay {T : TypeId → Prop} {w w' : World} (h : Stay T w w') (hT : T 5) {c : List Value} {x : Pver} (hv : VerC w c x) : VerC w' c x := by
  obtain ⟨d, h1, h2⟩ := hv
  exact ⟨d, h1, h2.stay h hT⟩

def VersAt (w : World) (v : Value) (xs : List Pver) : Prop := ∃ css, Lies w 146 4 v css ∧ All2 (VerC w) css xs
def ColC (w : World) (c : List Value) (x : Pcol) : Prop := ∃ lv, c = [.string x.name, lv] ∧ VersAt w lv x.l
def ColsAt (w : World) (v : Value) (xs : List Pcol) : Prop := ∃ css, Lies w 144 2 v css ∧ All2 (ColC w) css xs
def RowAt (w : World) (v : Value) (xs : List Pcol) : Prop := ∃ lv, v = .agg #[lv] ∧ ColsAt w lv xs

theorem VersAt.stay {T : TypeId → Prop} {w w' : World} (h : Stay T w w') (hT : T 5) (hT2 : T 146) {v : Value} {xs : List Pver} (hv : VersAt w v xs) : VersAt w' v xs := by
  obtain ⟨css, h1, h2⟩ := hv
  exact ⟨css, h1.stay h hT2, h2.mono fun _ _ k => k.stay h hT⟩
theorem ColC.stay {T : TypeId → Prop} {w w' : World} (h : Stay T w w') (hT : T 5) (hT2 : T 146) {c : List Value} {x : Pcol} (hv : ColC w c x) : ColC w' c x := by
  obtain ⟨lv, h1, h2⟩ := hv
  exact ⟨lv, h1, h2.stay h hT hT2⟩
theorem VersAt.moves {w w' : World} (m : Moves [] w w') {v : Value} {xs : List Pver} (hv : VersAt w v xs) : VersAt w' v xs := hv.stay (T := fun _ => True) (Stay.ofMoves m) trivial trivial
theorem VC.moves {w w' : World} (m : Moves [] w w') {c : List Value} {p : Pv} (hv : VC w c p) : VC w' c p := hv.stay (T := fun _ => True) (Stay.ofMoves m) trivial
theorem VerC.moves {w w' : World} (m : Moves [] w w') {c : List Value} {p : Pver} (hv : VerC w c p) : VerC w' c p := hv.stay (T := fun _ => True) (Stay.ofMoves m) trivial
theorem ColC.moves {w w' : World} (m : Moves [] w w') {c : List Value} {p : Pcol} (hv : ColC w c p) : ColC w' c p := hv.stay (T := fun _ => True) (Stay.ofMoves m) trivial trivial
theorem ColsAt.nil (w : World) : ColsAt w (.slice none 0 0) [] := ⟨[], Lies.nil _ _ _, trivial⟩
theorem VersAt.slice {w : World} {v : Value} {xs : List Pver} (h : VersAt w v xs) : ∃ ad cap, v = .slice ad xs.length cap ∧ xs.length ≤ cap := by
  obtain ⟨css, h1, h2⟩ := h
  obtain ⟨ad, cap, e, k⟩ := h1.slice
  rw [h2.length] at e k
  exact ⟨ad, cap, e, k⟩
theorem ColsAt.slice {w : World} {v : Value} {xs : List Pcol} (h : ColsAt w v xs) : ∃ ad cap, v = .slice ad xs.length cap ∧ xs.length ≤ cap := by
  obtain ⟨css, h1, h2⟩ := h
  obtain ⟨ad, cap, e, k⟩ := h1.slice
  rw [h2.length] at e k
  exact ⟨ad, cap, e, k⟩

theorem ColsAt.at {w : World} {ad : Option Addr} {n cap : Nat} {xs : List Pcol} (h : ColsAt w (.slice ad n cap) xs) {k : Nat} {x : Pcol} (hk : xs[k]? = some x) :
    ∃ g off a2 n2 c2, ad = some ⟨g, off, none⟩ ∧ w.cell? ⟨g, off + k * 2, none⟩ = some (.string x.name) ∧ w.cell? ⟨g, off + k * 2 + 1, none⟩ = some (.slice a2 n2 c2) ∧ n2 = x.l.length ∧ n2 ≤ c2 ∧ VersAt w (.slice a2 n2 c2) x.l := by
  obtain ⟨css, h1, h2⟩ := h
  obtain ⟨c, hc, lv, rfl, h3⟩ := h2.get hk
  obtain ⟨g, off, e, h4⟩ := h1.at hc
  obtain ⟨a2, c2, rfl, hle⟩ := h3.slice
  exact ⟨g, off, a2, _, c2, e, h4 0 _ rfl, h4 1 _ rfl, rfl, hle, h3⟩
theorem VersAt.at {w : World} {ad : Option Addr} {n cap : Nat} {xs : List Pver} (h : VersAt w (.slice ad n cap) xs) {k : Nat} {x : Pver} (hk : xs[k]? = some x) :
    ∃ g off a2 n2 c2, ad = some ⟨g, off, none⟩ ∧ w.cell? ⟨g, off + k * 4, none⟩ = some (.int .i64 x.t) ∧ w.cell? ⟨g, off + k * 4 + 1, none⟩ = some (.int .i64 x.v.kind) ∧ w.cell? ⟨g, off + k * 4 + 2, none⟩ = some (.slice a2 n2 c2) ∧ w.cell? ⟨g, off + k * 4 + 3, none⟩ = some (.float .f64 x.v.n) ∧ VC w [.int .i64 x.v.kind, .slice a2 n2 c2, .float .f64 x.v.n] x.v := by
  obtain ⟨css, h1, h2⟩ := h
  obtain ⟨c, hc, d, rfl, h3⟩ := h2.get hk
  obtain ⟨g, off, e, h4⟩ := h1.at hc
  have h3' := h3
  obtain ⟨a2, n2, c2, g2, rfl, _⟩ := h3
  exact ⟨g, off, a2, n2, c2, e, h4 0 _ rfl, h4 1 _ rfl, h4 2 _ rfl, h4 3 _ rfl, h3'⟩

def Pv.vm (p : Pv) (bv : Value) (g : Nat) : Vm := ⟨p.kind, bv, g, p.bs, p.n⟩
theorem VA.vis {w : World} {k : Int} {ad : Option Addr} {len cap n : Nat} {p : Pv} (h : VA w [.int .i64 k, .slice ad len cap, .float .f64 n] p) : ∃ g, VIs w (.agg #[.int .i64 k, .slice ad len cap, .float .f64 n]) (p.vm (.slice ad len cap) g) ∧ p.bs.length ≤ 1048576 := by
  obtain ⟨ad', len', cap', g, h1, h2, h3, h4, h6⟩ := h
  simp at h1
  obtain ⟨rfl, ⟨rfl, rfl, rfl⟩, rfl⟩ := h1
  exact ⟨g, ⟨rfl, ⟨h2, h3, h4⟩⟩, h6⟩

def GrowV (W w : World) (v : Value) (xs : List Pver) : Prop := Grow VerC 146 4 W w v xs
def GrowC (W w : World) (v : Value) (xs : List Pcol) : Prop := Grow ColC 144 2 W w v xs
theorem GrowV.nil (W w : World) : GrowV W w (.slice none 0 0) [] := ⟨Fresh.nil _, [], OwnL.nil _ _ _, trivial⟩
theorem GrowC.nil (W w : World) : GrowC W w (.slice none 0 0) [] := ⟨Fresh.nil _, [], OwnL.nil _ _ _, trivial⟩
theorem GrowV.at {W w : World} {v : Value} {xs : List Pver} (h : GrowV W w v xs) : VersAt w v xs := by
  obtain ⟨_, css, h1, h2⟩ := h
  exact ⟨css, Lies.ofOwn h1, h2⟩
theorem GrowC.at {W w : World} {v : Value} {xs : List Pcol} (h : GrowC W w v xs) : ColsAt w v xs := by
  obtain ⟨_, css, h1, h2⟩ := h
  exact ⟨css, Lies.ofOwn h1, h2⟩
theorem GrowV.moves {W w w' : World} {S : List Nat} (m : Moves S w w') {v : Value} {xs : List Pver} (h : GrowV W w v xs) (hv : ∀ k, v.ownBlock = some k → k ∉ S) (hs : Stay (· = 5) w w') : GrowV W w' v xs := by
  obtain ⟨h0, css, h1, h2⟩ := h
  exact ⟨h0, css, h1.moves m hv, h2.mono fun _ _ k => k.stay hs rfl⟩
theorem GrowC.moves {W w w' : World} {S : List Nat} (m : Moves S w w') {v : Value} {xs : List Pcol} (h : GrowC W w v xs) (hv : ∀ k, v.ownBlock = some k → k ∉ S) (hs : Stay (fun t => t = 5 ∨ t = 146) w w') : GrowC W w' v xs := by
  obtain ⟨h0, css, h1, h2⟩ := h
  exact ⟨h0, css, h1.moves m hv, h2.mono fun _ _ k => k.stay hs (.inl rfl) (.inr rfl)⟩
theorem GrowV.moves0 {W w w' : World} (m : Moves [] w w') {v : Value} {xs : List Pver} (h : GrowV W w v xs) : GrowV W w' v xs := h.moves m (by simp) (Stay.ofMoves m)
theorem GrowC.moves0 {W w w' : World} (m : Moves [] w w') {v : Value} {xs : List Pcol} (h : GrowC W w v xs) : GrowC W w' v xs := h.moves m (by simp) (Stay.ofMoves m)
theorem GrowV.slice {W w : World} {v : Value} {xs : List Pver} (h : GrowV W w v xs) : ∃ ad cap, v = .slice ad xs.length cap ∧ xs.length ≤ cap := h.at.slice
theorem GrowC.slice {W w : World} {v : Value} {xs : List Pcol} (h : GrowC W w v xs) : ∃ ad cap, v = .slice ad xs.length cap ∧ xs.length ≤ cap := h.at.slice

theorem VerC.one {w : World} {c : List Value} {x : Pver} (h : VerC w c x) : ∀ u ∈ c, u.oneCell' = true := by
  obtain ⟨d, rfl, ad, len, cap, g, rfl, _⟩ := h
  intro u hu
  simp only [List.mem_cons, List.not_mem_nil, or_false] at hu
  rcases hu with rfl | rfl | rfl | rfl <;> rfl
theorem ColC.one {w : World} {c : List Value} {x : Pcol} (h : ColC w c x) : ∀ u ∈ c, u.oneCell' = true := by
  obtain ⟨lv, rfl, h2⟩ := h
  obtain ⟨ad, cap, rfl, _⟩ := h2.slice
  intro u hu
  simp only [List.mem_cons, List.not_mem_nil, or_false] at hu
  rcases hu with rfl | rfl <;> rfl

theorem ver_info : (Tryz.prog.info? 146).map (fun i => (i.zero, i.size, i.bytes)) = some (some (.agg #[.int .i64 0, .int .i64 0, .slice none 0 0, .float .f64 0]), 4, 48) := by kernel_rfl
theorem col_info : (Tryz.prog.info? 144).map (fun i => (i.zero, i.size, i.bytes)) = some (some (.agg #[.string ByteArray.empty, .slice none 0 0]), 2, 40) := by kernel_rfl

theorem growV_wp {o : Oper} {a : Act} {K : Act → World → Prop} {Q : Exit → Act → World → Prop} {W w : World} (s x : Operand)
    (ho : o.op = .call { callee := .builtin .append, args := #[s, x], argTypes := #[142, 142] })
    (v yv : Value) (xs ys : List Pver) (hs : a.eval s = v) (hx : a.eval x = yv)
    (hv : GrowV W w v xs) (hy : VersAt w yv ys) (hm : Moves [] W w) (hb : xs.length + ys.length ≤ 1048576)
    (h : ∀ v' w', GrowV W w' v' (xs ++ ys) → Moves [] W w' → Moves v.ownBlock.toList w w' → Stay (· ≠ 146) w w' → Lain w v v' → K (a.put o.dst v') w') :
    o.wp Tryz.prog a w K Q := by
  obtain ⟨ds, hd, hys⟩ := hy
  exact grow_append s x _ 146 _ 4 48 ver_info Tryz.underlying142 rfl (by omega) (by omega) (fun _ _ _ h => h.one) (fun _ _ _ _ h hs => h.stay hs (by decide)) ho v yv xs ys ds hs hx hv hd hys hm hb h
theorem growV_step {ops : Array Oper} {o : Oper} {a : Act} {K : Act → World → Prop} {Q : Exit → Act → World → Prop} {W w : World} (s x : Operand)
    (ho : o.op = .call { callee := .builtin .append, args := #[s, x], argTypes := #[142, 142] })
    (v yv : Value) (xs ys : List Pver) (hs : a.eval s = v) (hx : a.eval x = yv) (hw : Region.wanted o (yielded ops a.tmps) = true)
    (hv : GrowV W w v xs) (hy : VersAt w yv ys) (hm : Moves [] W w) (hb : xs.length + ys.length ≤ 1048576)
    (h : ∀ v' w', GrowV W w' v' (xs ++ ys) → Moves [] W w' → Moves v.ownBlock.toList w w' → Stay (· ≠ 146) w w' → Lain w v v' → K (a.put o.dst v') w') :
    if Region.wanted o (yielded ops a.tmps) then o.wp Tryz.prog a w K Q else K (a.put o.dst undef) w := by
  rw [if_pos hw]
  exact growV_wp s x ho v yv xs ys hs hx hv hy hm hb h
theorem growC_wp {o : Oper} {a : Act} {K : Act → World → Prop} {Q : Exit → Act → World → Prop} {W w : World} (s x : Operand)
    (ho : o.op = .call { callee := .builtin .append, args := #[s, x], argTypes := #[95, 95] })
    (v yv : Value) (xs ys : List Pcol) (hs : a.eval s = v) (hx : a.eval x = yv)
    (hv : GrowC W w v xs) (hy : ColsAt w yv ys) (hm : Moves [] W w) (hb : xs.length + ys.length ≤ 1048576)
    (h : ∀ v' w', GrowC W w' v' (xs ++ ys) → Moves [] W w' → Moves v.ownBlock.toList w w' → Stay (· ≠ 144) w w' → Lain w v v' → K (a.put o.dst v') w') :
    o.wp Tryz.prog a w K Q := by
  obtain ⟨ds, hd, hys⟩ := hy
  exact grow_append s x _ 144 _ 2 40 col_info Tryz.underlying95 rfl (by omega) (by omega) (fun _ _ _ h => h.one) (fun _ _ _ _ h hs => h.stay hs (by decide) (by decide)) ho v yv xs ys ds hs hx hv hd hys hm hb h
theorem growC_step {ops : Array Oper} {o : Oper} {a : Act} {K : Act → World → Prop} {Q : Exit → Act → World → Prop} {W w : World} (s x : Operand)
    (ho : o.op = .call { callee := .builtin .append, args := #[s, x], argTypes := #[95, 95] })
    (v yv : Value) (xs ys : List Pcol) (hs : a.eval s = v) (hx : a.eval x = yv) (hw : Region.wanted o (yielded ops a.tmps) = true)
    (hv : GrowC W w v xs) (hy : ColsAt w yv ys) (hm : Moves [] W w) (hb : xs.length + ys.length ≤ 1048576)
    (h : ∀ v' w', GrowC W w' v' (xs ++ ys) → Moves [] W w' → Moves v.ownBlock.toList w w' → Stay (· ≠ 144) w w' → Lain w v v' → K (a.put o.dst v') w') :
    if Region.wanted o (yielded ops a.tmps) then o.wp Tryz.prog a w K Q else K (a.put o.dst undef) w := by
  rw [if_pos hw]
  exact growC_wp s x ho v yv xs ys hs hx hv hy hm hb h

theorem vers_new (w : World) (c0 c1 c2 c3 : Value) (x : Pver) (h : VerC w [c0, c1, c2, c3] x) : VersAt (w.alloc (.cells #[c0, c1, c2, c3] 146)) (.slice (some ⟨w.heap.size, 0, none⟩) 1 1) [x] :=
  ⟨_, lies_new w [c0, c1, c2, c3] _, h.moves ((Moves.refl _ _).alloc _), trivial⟩
theorem cols_new (w : World) (c0 c1 : Value) (x : Pcol) (h : ColC w [c0, c1] x) : ColsAt (w.alloc (.cells #[c0, c1] 144)) (.slice (some ⟨w.heap.size, 0, none⟩) 1 1) [x] :=
  ⟨_, lies_new w [c0, c1] _, h.moves ((Moves.refl _ _).alloc _), trivial⟩
end Go.Proofs.YtfhdodopjgfedaaGreat
/-
  Rows: what their functions answer, as plain functions of plain data; the contracts of the small ones.
-/
namespace Go.Proofs.YtfhdodopjgfedaaGreat
open Go.RowKit

def pname (s : ByteArray) : Bool := decide (1 ≤ s.size) && decide (s.size ≤ 16)
def ptime (t : Int) : Bool := decide (0 ≤ t) && decide (t ≤ 1099511627776)
def pvr (p : Pv) : Bool := vright (p.vm (.slice none 0 0) 0)
def pcanon (p : Pv) : Pv := ⟨kd p.kind, if kd p.kind = 1 then p.bs else [], if kd p.kind = 2 then Pl.canon p.n else 0⟩
def verGood (xs : List Pver) (k : Nat) : Bool := match xs[k]? with
  | none => false
  | some x => ptime x.t && pvr x.v && (k == 0 || match xs[k - 1]? with | none => false | some y => decide (x.t < y.t))
def prightV (xs : List Pver) : Bool := decide (1 ≤ xs.length) && decide (xs.length ≤ 2) && (List.range xs.length).all (verGood xs)
def nlt (a b : ByteArray) : Bool := Op.bytesLess a.toList b.toList
def colGood (R : List Pcol) (k : Nat) : Bool := match R[k]? with
  | none => false
  | some x => pname x.name && prightV x.l && (k == 0 || match R[k - 1]? with | none => false | some y => nlt y.name x.name)
def pright (R : List Pcol) : Bool := decide (R.length ≤ 4) && (List.range R.length).all (colGood R)
def pcanonV (x : Pver) : Pver := ⟨x.t, pcanon x.v⟩
def pcanonC (c : Pcol) : Pcol := ⟨c.name, c.l.map pcanonV⟩
def pasked (R : List Pcol) : List Pcol := if pright R then R else []
theorem pvr_vm (p : Pv) (bv : Value) (g : Nat) : vright (p.vm bv g) = pvr p := rfl

theorem name_w (s : ByteArray) (w : World) : Calls Tryz.prog 121 #[.string s] w fun e w' => e = .returned (.bool (pname s)) ∧ w = w' := by
  unfold pname
  go_enter Tryz.func121, Tryz.ntmps121
  go_wp2
  · rename_i h
    have h1 : decide (1 ≤ s.size) = true := decide_eq_true (by omega)
    have h2 : decide ((s.size : Int) ≤ 16) = decide (s.size ≤ 16) := by rw [decide_eq_decide]; omega
    go_ret
    exact ⟨by rw [h1, Bool.true_and, ← h2]; rfl, rfl⟩
  · rename_i h
    have h1 : decide (1 ≤ s.size) = false := decide_eq_false (by omega)
    go_ret
    exact ⟨by rw [h1, Bool.false_and]; rfl, rfl⟩
theorem rightTime_w (t : Int) (w : World) : Calls Tryz.prog 211 #[.int .i64 t] w fun e w' => e = .returned (.bool (ptime t)) ∧ w = w' := by
  unfold ptime
  go_enter Tryz.func211, Tryz.ntmps211
  go_wp2
  · rename_i h
    have h1 : decide (0 ≤ t) = true := decide_eq_true h
    go_ret
    exact ⟨by rw [h1, Bool.true_and]; rfl, rfl⟩
  · rename_i h
    have h1 : decide (0 ≤ t) = false := decide_eq_false (by omega)
    go_ret
    exact ⟨by rw [h1, Bool.false_and]; rfl, rfl⟩

theorem right4_w (W w : World) (k : Int) (ad : Option Addr) (len cap n : Nat) (p : Pv) (h : VA W [.int .i64 k, .slice ad len cap, .float .f64 n] p) (m : Moves [] W w) :
    Calls Tryz.prog 159 #[.agg #[.int .i64 k, .slice ad len cap, .float .f64 n]] w fun e w' => e = .returned (.bool (pvr p)) ∧ Moves [] W w' := by
  obtain ⟨g, hV, hl⟩ := h.vis
  refine (right_b W w _ _ hV m).mono ?_
  rintro e w' ⟨rfl, m2⟩
  exact ⟨by rw [pvr_vm], m2⟩
@[go_sem] theorem run_field_row (w : World) (ad : Option Addr) (n cap : Nat) : (Instr.field 97 (.agg #[.slice ad n cap]) 0).run Tryz.prog w = .ok (.slice ad n cap) w := by
  unfold Instr.field
  simp [run_underlying Tryz.underlying97, Sem.run_bind, Result.andThen, asAgg, part, isAgg, run_underlying Tryz.underlying95]
theorem Tryz.size97 : (Tryz.prog.info? 97).map (·.size) = some 1 := by kernel_rfl
theorem ret_row {fn : Func} {p : Tmp} (h : fn.results = #[.cell p 97]) (tmps : Array Value) (w : World) (g : Nat) (x : Value) (hp : tmps.getD p undef = .pointer (some ⟨g, 0, none⟩)) (hg : w.heap[g]? = some (.cells #[x] 97 (0, 0))) :
    (results fn tmps).run Tryz.prog w = .ok (.agg #[x]) w :=
  results_cell_row h tmps w g 97 _ (0, 0) _ hp hg Tryz.underlying97 rfl Tryz.size97
theorem pair_cells {w : World} {p : Nat} {a b : Value} {t : TypeId} (h : w.heap[p]? = some (.cells #[a, b] t (0, 0))) : w.cell? ⟨p, 0, none⟩ = some a ∧ w.cell? ⟨p, 1, none⟩ = some b := by
  simp [World.cell?, h]
theorem quad_cells {w : World} {p : Nat} {a b c d : Value} {t : TypeId} (h : w.heap[p]? = some (.cells #[a, b, c, d] t (0, 0))) : w.cell? ⟨p, 0, none⟩ = some a ∧ w.cell? ⟨p, 1, none⟩ = some b ∧ w.cell? ⟨p, 2, none⟩ = some c ∧ w.cell? ⟨p, 3, none⟩ = some d := by
  simp [World.cell?, h]
theorem GrowV.open {W w : World} {v : Value} {xs : List Pver} (h : GrowV W w v xs) : ∃ ad n cap, v = .slice ad n cap ∧ Hid (n = xs.length) := by
  obtain ⟨ad, cap, rfl, _⟩ := h.slice
  exact ⟨ad, _, cap, rfl, rfl⟩
theorem GrowC.open {W w : World} {v : Value} {xs : List Pcol} (h : GrowC W w v xs) : ∃ ad n cap, v = .slice ad n cap ∧ Hid (n = xs.length) := by
  obtain ⟨ad, cap, rfl, _⟩ := h.slice
  exact ⟨ad, _, cap, rfl, rfl⟩
theorem Grow.neT {α : Type} {EC : World → List Value → α → Prop} {e : TypeId} {size : Nat} {W w : World} {v : Value} {xs : List α} (h : Grow EC e size W w v xs) {p : Nat} {c : Array Value} {t : TypeId} {fz : Nat × Nat} (hp : w.heap[p]? = some (.cells c t fz)) (ht : t ≠ e) : p ∉ v.ownBlock.toList := by
  obtain ⟨_, css, h1, _⟩ := h
  intro hk
  exact h1.ne hp ht (by cases hq : v.ownBlock <;> simp_all)
end Go.Proofs.YtfhdodopjgfedaaGreat
