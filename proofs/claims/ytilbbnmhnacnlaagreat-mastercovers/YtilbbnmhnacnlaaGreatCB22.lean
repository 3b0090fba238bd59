/- ours -/
import Derived.Test.YtilbbnmhnacnlaaGreatCB04
import Derived.Test.YtilbbnmhnacnlaaGreatCB21
import Derived.Test.YtilbbnmhnacnlaaGreatCTk4
import Derived.Laws.CopyRow
import Derived.Test.YtilbbnmhnacnlaaGreatCB14
import Derived.Lib.Bytealg
import Derived.Lib.AppendZerosOnto
import Derived.Lib.Overlaps
import Derived.Test.YtilbbnmhnacnlaaGreatCB19
import Derived.Test.YtilbbnmhnacnlaaGreatCB18
import Derived.Test.YtilbbnmhnacnlaaGreatCB00
import Derived.Test.YtilbbnmhnacnlaaGreatCB12
/-
  Rows with names, as plain data, and how lists of them lie in memory; lists of one's own that grow, that are written in their midst. Plain facts, no program in sight but for the numbers of its types.
-/
namespace Go.Proofs.YtilbbnmhnacnlaaGreat
open Go.RowKit

structure Pnam where
  name : ByteArray
  r : List Pcol
def NamC (w : World) (c : List Value) (x : Pnam) : Prop := ∃ lv, c = [.string x.name, lv] ∧ ColsAt w lv x.r
def NamsAt (w : World) (v : Value) (xs : List Pnam) : Prop := ∃ css, Lies w 99 2 v css ∧ All2 (NamC w) css xs
def GrowN (W w : World) (v : Value) (xs : List Pnam) : Prop := Grow NamC 99 2 W w v xs

theorem ColsAt.stayX {T : TypeId → Prop} {w w' : World} (st : Stay T w w') (h1 : T 5) (h2 : T 146) (h3 : T 144) {v : Value} {xs : List Pcol} (h : ColsAt w v xs) : ColsAt w' v xs := by
  obtain ⟨css, k1, k2⟩ := h
  exact ⟨css, k1.stay st h3, k2.mono fun _ _ k => k.stay st h1 h2⟩
theorem NamC.stay {T : TypeId → Prop} {w w' : World} (st : Stay T w w') (h1 : T 5) (h2 : T 146) (h3 : T 144) {c : List Value} {x : Pnam} (h : NamC w c x) : NamC w' c x := by
  obtain ⟨lv, e, k⟩ := h
  exact ⟨lv, e, k.stayX st h1 h2 h3⟩
theorem NamC.one {w : World} {c : List Value} {x : Pnam} (h : NamC w c x) : ∀ u ∈ c, u.oneCell' = true := by
  obtain ⟨lv, rfl, h2⟩ := h
  obtain ⟨ad, cap, rfl, _⟩ := h2.slice
  intro u hu
  simp only [List.mem_cons, List.not_mem_nil, or_false] at hu
  rcases hu with rfl | rfl <;> rfl
theorem NamsAt.stay {T : TypeId → Prop} {w w' : World} (st : Stay T w w') (h1 : T 5) (h2 : T 146) (h3 : T 144) (h4 : T 99) {v : Value} {xs : List Pnam} (h : NamsAt w v xs) : NamsAt w' v xs := by
  obtain ⟨css, k1, k2⟩ := h
  exact ⟨css, k1.stay st h4, k2.mono fun _ _ k => k.stay st h1 h2 h3⟩
theorem NamsAt.moves {w w' : World} (m : Moves [] w w') {v : Value} {xs : List Pnam} (h : NamsAt w v xs) : NamsAt w' v xs := h.stay (T := fun _ => True) (Stay.ofMoves m) trivial trivial trivial trivial
theorem NamC.moves {w w' : World} (m : Moves [] w w') {c : List Value} {x : Pnam} (h : NamC w c x) : NamC w' c x := h.stay (T := fun _ => True) (Stay.ofMoves m) trivial trivial trivial
theorem NamsAt.slice {w : World} {v : Value} {xs : List Pnam} (h : NamsAt w v xs) : ∃ ad cap, v = .slice ad xs.length cap ∧ xs.length ≤ cap := by
  obtain ⟨css, h1, h2⟩ := h
  obtain ⟨ad, cap, e, k⟩ := h1.slice
  rw [h2.length] at e k
  exact ⟨ad, cap, e, k⟩
theorem NamsAt.at {w : World} {ad : Option Addr} {n cap : Nat} {xs : List Pnam} (h : NamsAt w (.slice ad n cap) xs) {k : Nat} {x : Pnam} (hk : xs[k]? = some x) :
    ∃ g off a2 n2 c2, ad = some ⟨g, off, none⟩ ∧ w.cell? ⟨g, off + k * 2, none⟩ = some (.string x.name) ∧ w.cell? ⟨g, off + k * 2 + 1, none⟩ = some (.slice a2 n2 c2) ∧ n2 = x.r.length ∧ ColsAt w (.slice a2 n2 c2) x.r := by
  obtain ⟨css, h1, h2⟩ := h
  obtain ⟨c, hc, lv, rfl, h3⟩ := h2.get hk
  obtain ⟨g, off, e, h4⟩ := h1.at hc
  obtain ⟨a2, c2, rfl, hle⟩ := h3.slice
  exact ⟨g, off, a2, _, c2, e, h4 0 _ rfl, h4 1 _ rfl, rfl, h3⟩
theorem GrowN.nil (W w : World) : GrowN W w (.slice none 0 0) [] := ⟨Fresh.nil _, [], OwnL.nil _ _ _, trivial⟩
theorem GrowN.at {W w : World} {v : Value} {xs : List Pnam} (h : GrowN W w v xs) : NamsAt w v xs := by
  obtain ⟨_, css, h1, h2⟩ := h
  exact ⟨css, Lies.ofOwn h1, h2⟩
theorem GrowN.moves {W w w' : World} {S : List Nat} (m : Moves S w w') {v : Value} {xs : List Pnam} (h : GrowN W w v xs) (hv : ∀ k, v.ownBlock = some k → k ∉ S) (hs : Stay (fun t => t = 5 ∨ t = 146 ∨ t = 144) w w') : GrowN W w' v xs := by
  obtain ⟨h0, css, h1, h2⟩ := h
  exact ⟨h0, css, h1.moves m hv, h2.mono fun _ _ k => k.stay hs (.inl rfl) (.inr (.inl rfl)) (.inr (.inr rfl))⟩
theorem GrowN.moves0 {W w w' : World} (m : Moves [] w w') {v : Value} {xs : List Pnam} (h : GrowN W w v xs) : GrowN W w' v xs := h.moves m (by simp) (Stay.ofMoves m)
theorem GrowN.slice {W w : World} {v : Value} {xs : List Pnam} (h : GrowN W w v xs) : ∃ ad cap, v = .slice ad xs.length cap ∧ xs.length ≤ cap := h.at.slice
theorem GrowN.open {W w : World} {v : Value} {xs : List Pnam} (h : GrowN W w v xs) : ∃ ad n cap, v = .slice ad n cap ∧ Hid (n = xs.length) ∧ n ≤ cap := by
  obtain ⟨ad, cap, rfl, hc⟩ := h.slice
  exact ⟨ad, _, cap, rfl, rfl, hc⟩
theorem nam_info : (Tryz.prog.info? 99).map (fun i => (i.zero, i.size, i.bytes)) = some (some (.agg #[.string ByteArray.empty, .slice none 0 0]), 2, 40) := by kernel_rfl
theorem growN_wp {o : Oper} {a : Act} {K : Act → World → Prop} {Q : Exit → Act → World → Prop} {W w : World} (s x : Operand)
    (ho : o.op = .call { callee := .builtin .append, args := #[s, x], argTypes := #[46, 46] })
    (v yv : Value) (xs ys : List Pnam) (hs : a.eval s = v) (hx : a.eval x = yv)
    (hv : GrowN W w v xs) (hy : NamsAt w yv ys) (hm : W.heap.size ≤ w.heap.size) (hb : xs.length + ys.length ≤ 1048576)
    (h : ∀ v' w', GrowN W w' v' (xs ++ ys) → Moves v.ownBlock.toList w w' → Stay (· ≠ 99) w w' → Lain w v v' → K (a.put o.dst v') w') :
    o.wp Tryz.prog a w K Q := by
  obtain ⟨ds, hd, hys⟩ := hy
  have e : ∀ u xs, Grow NamC 99 2 (cutTo W w) u v xs → True := fun _ _ _ => trivial
  refine grow_append (W := cutTo W w) s x _ 99 _ 2 40 nam_info Tryz.underlying46 rfl (by omega) (by omega) (fun _ _ _ h => h.one) (fun _ _ _ _ h hs => h.stay hs (by decide) (by decide) (by decide)) ho v yv xs ys ds hs hx ?_ hd hys (cutTo_moves hm) hb ?_
  · unfold GrowN Grow Fresh at hv
    unfold Grow Fresh
    rw [cutTo_size hm]
    exact hv
  · intro v' w' h1 _ h3 h4 h5
    refine h v' w' ?_ h3 h4 h5
    unfold Grow Fresh at h1
    rw [cutTo_size hm] at h1
    exact h1
theorem growN_step {ops : Array Oper} {o : Oper} {a : Act} {K : Act → World → Prop} {Q : Exit → Act → World → Prop} {W w : World} (s x : Operand)
    (ho : o.op = .call { callee := .builtin .append, args := #[s, x], argTypes := #[46, 46] })
    (v yv : Value) (xs ys : List Pnam) (hs : a.eval s = v) (hx : a.eval x = yv) (hw : Region.wanted o (yielded ops a.tmps) = true)
    (hv : GrowN W w v xs) (hy : NamsAt w yv ys) (hm : W.heap.size ≤ w.heap.size) (hb : xs.length + ys.length ≤ 1048576)
    (h : ∀ v' w', GrowN W w' v' (xs ++ ys) → Moves v.ownBlock.toList w w' → Stay (· ≠ 99) w w' → Lain w v v' → K (a.put o.dst v') w') :
    if Region.wanted o (yielded ops a.tmps) then o.wp Tryz.prog a w K Q else K (a.put o.dst undef) w := by
  rw [if_pos hw]
  exact growN_wp s x ho v yv xs ys hs hx hv hy hm hb h
theorem nams_new (w : World) (c0 c1 : Value) (x : Pnam) (h : NamC w [c0, c1] x) : NamsAt (w.alloc (.cells #[c0, c1] 99)) (.slice (some ⟨w.heap.size, 0, none⟩) 1 1) [x] :=
  ⟨_, lies_new w [c0, c1] _, h.moves ((Moves.refl _ _).alloc _), trivial⟩

end Go.Proofs.YtilbbnmhnacnlaaGreat
/-
  's[i:]' and 's[:i]' of a list of rows by names, as one operation of a drawn region.
-/
namespace Go.Proofs.YtilbbnmhnacnlaaGreat
open Go.RowKit

end Go.Proofs.YtilbbnmhnacnlaaGreat
/-
  Names in their order, as a list of rows has them: where a name is, or would be: the library's search, the table's place.
-/
namespace Go.Proofs.YtilbbnmhnacnlaaGreat
open Go.RowKit

end Go.Proofs.YtilbbnmhnacnlaaGreat
/-
  The library's Insert of one row into a list of one's own: the list with it at its place, in the same block or in a new one; nothing else is written.
-/
namespace Go.Proofs.YtilbbnmhnacnlaaGreat
open Go.RowKit

end Go.Proofs.YtilbbnmhnacnlaaGreat
/-
  The library's Delete of one row of a list of one's own.
-/
namespace Go.Proofs.YtilbbnmhnacnlaaGreat
open Go.RowKit

end Go.Proofs.YtilbbnmhnacnlaaGreat
/-
  A table's rows as plain data: where a name is, what Set makes of them.
-/
namespace Go.Proofs.YtilbbnmhnacnlaaGreat
open Go.RowKit

end Go.Proofs.YtilbbnmhnacnlaaGreat
/-
  Set of a table.
-/
namespace Go.Proofs.YtilbbnmhnacnlaaGreat
open Go.RowKit

end Go.Proofs.YtilbbnmhnacnlaaGreat
/-
  The rows of some lists, in memory of their own.
-/
namespace Go.Proofs.YtilbbnmhnacnlaaGreat
open Go.RowKit

end Go.Proofs.YtilbbnmhnacnlaaGreat
/-
  Find and Range of a table.
-/
namespace Go.Proofs.YtilbbnmhnacnlaaGreat
open Go.RowKit

end Go.Proofs.YtilbbnmhnacnlaaGreat
/-
  The document's own Find and Put of rows by names.
-/
namespace Go.Proofs.YtilbbnmhnacnlaaGreat
open Go.RowKit

end Go.Proofs.YtilbbnmhnacnlaaGreat
/-
  The document's own Put of rows by names.
-/
namespace Go.Proofs.YtilbbnmhnacnlaaGreat
open Go.RowKit

end Go.Proofs.YtilbbnmhnacnlaaGreat
/-
  The document's own Set of rows by names.
-/
namespace Go.Proofs.YtilbbnmhnacnlaaGreat
open Go.RowKit

end Go.Proofs.YtilbbnmhnacnlaaGreat
/-
  The document's own Range of rows by names.
-/
namespace Go.Proofs.YtilbbnmhnacnlaaGreat
open Go.RowKit

end Go.Proofs.YtilbbnmhnacnlaaGreat
/-
  The document's own Same of rows that are the same; the program's own.
-/
namespace Go.Proofs.YtilbbnmhnacnlaaGreat
open Go.RowKit

end Go.Proofs.YtilbbnmhnacnlaaGreat
/-
  The document's own Same of lists of rows that are the same.
-/
namespace Go.Proofs.YtilbbnmhnacnlaaGreat
open Go.RowKit

end Go.Proofs.YtilbbnmhnacnlaaGreat
/-
  A table and the list that the document has of it: what tells says.
-/
namespace Go.Proofs.YtilbbnmhnacnlaaGreat
open Go.RowKit

end Go.Proofs.YtilbbnmhnacnlaaGreat
/-
  Tables as bytes: what is written.
-/
namespace Go.Proofs.YtilbbnmhnacnlaaGreat
open Go.RowKit

def encN (x : Pnam) : List Nat := be 4 x.name.size ++ sbs x.name ++ pencR x.r
def encNs (xs : List Pnam) : List Nat := (xs.map encN).flatten
theorem encNs_step {l : List Pnam} {j : Nat} {x : Pnam} (h : l[j]? = some x) : encNs (l.take (j + 1)) = encNs (l.take j) ++ encN x := by
  rw [List.take_add_one, h]
  simp [encNs]
theorem pname_size {s : ByteArray} (h : pname s = true) : s.size ≤ 16 := by unfold pname at h; simp only [Bool.and_eq_true, decide_eq_true_eq] at h; exact h.2
theorem encN_len {x : Pnam} (h1 : pname x.name = true) (h2 : pright x.r = true) : (encN x).length ≤ 337 := by
  have a := pname_size h1
  have b := (pencR_len h2).2
  unfold encN
  simp only [List.length_append, be_length, sbs_length]
  omega
theorem encNs_len {xs : List Pnam} (h : ∀ x ∈ xs, pname x.name = true ∧ pright x.r = true) : (encNs xs).length ≤ xs.length * 337 := by
  induction xs with
  | nil => simp [encNs]
  | cons x l ih =>
    have h1 := ih (fun y hy => h y (List.mem_cons_of_mem _ hy))
    have h2 := encN_len (h x List.mem_cons_self).1 (h x List.mem_cons_self).2
    have e : encNs (x :: l) = encN x ++ encNs l := by simp [encNs]
    rw [e, List.length_append, List.length_cons]
    omega
end Go.Proofs.YtilbbnmhnacnlaaGreat
/-
  Names of columns as they are drawn: pick, Col, Head, and the law's own col.
-/
namespace Go.Proofs.YtilbbnmhnacnlaaGreat
open Go.RowKit

end Go.Proofs.YtilbbnmhnacnlaaGreat
/-
  The law's own made: a row by the document's own puts: one that may be, with few names.
-/
namespace Go.Proofs.YtilbbnmhnacnlaaGreat
open Go.RowKit

end Go.Proofs.YtilbbnmhnacnlaaGreat
/-
  law6's some and known.
-/
namespace Go.Proofs.YtilbbnmhnacnlaaGreat
open Go.RowKit

end Go.Proofs.YtilbbnmhnacnlaaGreat
/-
  Tables out of bytes: what is read.
-/
namespace Go.Proofs.YtilbbnmhnacnlaaGreat
open Go.RowKit

def dNam (bs : List Nat) : Option (Pnam × List Nat) := match dText 16 bs with
  | none => none
  | some (tx, b1) => match dGood tAny b1 with
    | none => none
    | some (R, b2) => some (⟨strOf tx, R⟩, b2)
theorem dNam_of {bs tx b1 b2 : List Nat} {R : List Pcol} (h1 : dText 16 bs = some (tx, b1)) (h2 : dGood tAny b1 = some (R, b2)) : dNam bs = some (⟨strOf tx, R⟩, b2) := by
  unfold dNam
  rw [h1]
  dsimp only
  rw [h2]
theorem dNam_no1 {bs : List Nat} (h1 : dText 16 bs = none) : dNam bs = none := by
  unfold dNam
  rw [h1]
theorem dNam_no2 {bs tx b1 : List Nat} (h1 : dText 16 bs = some (tx, b1)) (h2 : dGood tAny b1 = none) : dNam bs = none := by
  unfold dNam
  rw [h1]
  dsimp only
  rw [h2]
theorem TookR_ok {w w' : World} {p g : Nat} {bs rest : List Nat} {R : List Pcol} {e : Ending} (h : TookR w w' p g bs e) (hd : dGood tAny bs = some (R, rest)) : ∃ ad n cap, e = .returned (.agg #[.slice ad n cap]) ∧ GrowC w w' (.slice ad n cap) R ∧ RdIs w' p g rest false ∧ Moves [p] w w' := by
  rcases h with ⟨c', rest', ad, n, cap, h1, h2⟩ | ⟨h1, _⟩
  · rw [hd] at h1
    simp only [Option.some.injEq, Prod.mk.injEq] at h1
    obtain ⟨rfl, rfl⟩ := h1
    exact ⟨ad, n, cap, h2⟩
  · rw [hd] at h1; simp at h1
theorem TookR_no {w w' : World} {p g : Nat} {bs : List Nat} {e : Ending} (h : TookR w w' p g bs e) (hd : dGood tAny bs = none) : e = .panicked (stop p) ∧ ∃ bs', RdIs w' p g bs' true ∧ Moves [p] w w' := by
  rcases h with ⟨c', rest', ad, n, cap, h1, h2⟩ | ⟨_, h2⟩
  · rw [hd] at h1; simp at h1
  · exact h2

end Go.Proofs.YtilbbnmhnacnlaaGreat
/-
  Package change: changes as plain data; Right of a change, of a list, as the program and as the document have it.
-/
namespace Go.Proofs.YtilbbnmhnacnlaaGreat
open Go.RowKit

structure Pchg where
  kind : Int
  col : ByteArray
  t : Int
  v : Pv
def cRight (c : Pchg) : Int := if ¬ (1 ≤ c.kind ∧ c.kind ≤ 5) then 24 else if c.kind = 4 then 0 else if pname c.col = false then 1 else if c.kind = 3 then 0 else if ptime c.t = false then 1 else if c.kind = 2 then 0 else if pvr c.v = false then 1 else if c.kind = 5 ∧ c.v.kind ≠ 2 then 24 else 0

end Go.Proofs.YtilbbnmhnacnlaaGreat
/-
  Package change: rightList, add, apply, Apply: for every row and all changes the calls return what the chapter says, and write nothing that was there.
-/
namespace Go.Proofs.YtilbbnmhnacnlaaGreat
open Go.RowKit

end Go.Proofs.YtilbbnmhnacnlaaGreat
/-
  Package change: add, apply, Apply.
-/
namespace Go.Proofs.YtilbbnmhnacnlaaGreat
open Go.RowKit

end Go.Proofs.YtilbbnmhnacnlaaGreat
/-
  Package change: Apply: for every row and every list of changes the call returns what the chapter says, and writes nothing that was there.
-/
namespace Go.Proofs.YtilbbnmhnacnlaaGreat
open Go.RowKit

end Go.Proofs.YtilbbnmhnacnlaaGreat
/-
  Sums in one column, as plain data: what was added is there, newest first.
-/
namespace Go.Proofs.YtilbbnmhnacnlaaGreat
open Go.RowKit

end Go.Proofs.YtilbbnmhnacnlaaGreat
/-
  The document's own At, Newest, DropCol of a row that may be.
-/
namespace Go.Proofs.YtilbbnmhnacnlaaGreat
open Go.RowKit

end Go.Proofs.YtilbbnmhnacnlaaGreat
/-
  The document's own Drop of a row that may be.
-/
namespace Go.Proofs.YtilbbnmhnacnlaaGreat
open Go.RowKit

end Go.Proofs.YtilbbnmhnacnlaaGreat
/-
  The document's own Apply of a row that may be: it says what the program's says.
-/
namespace Go.Proofs.YtilbbnmhnacnlaaGreat
open Go.RowKit

end Go.Proofs.YtilbbnmhnacnlaaGreat
/-
  A change as it is drawn: one that may be; the law's own made: a row by the document's own changes.
-/
namespace Go.Proofs.YtilbbnmhnacnlaaGreat
open Go.RowKit

end Go.Proofs.YtilbbnmhnacnlaaGreat
/-
  Arguments opened: lists of changes as they are drawn.
-/
namespace Go.Proofs.YtilbbnmhnacnlaaGreat
open Go.RowKit
open Go.ChangeShapes Go.WideShapes

end Go.Proofs.YtilbbnmhnacnlaaGreat
/-
  The law's own made: a row by the document's own changes: one that may be.
-/
namespace Go.Proofs.YtilbbnmhnacnlaaGreat
open Go.RowKit

end Go.Proofs.YtilbbnmhnacnlaaGreat
/-
  A list of changes of the call's own that grows; keep.Changes.
-/
namespace Go.Proofs.YtilbbnmhnacnlaaGreat
open Go.RowKit

end Go.Proofs.YtilbbnmhnacnlaaGreat
/-
  Changes as bytes: what is written.
-/
namespace Go.Proofs.YtilbbnmhnacnlaaGreat
open Go.RowKit

end Go.Proofs.YtilbbnmhnacnlaaGreat
/-
  Answers as plain data, how they lie in memory; as bytes, there and back.
-/
namespace Go.Proofs.YtilbbnmhnacnlaaGreat
open Go.RowKit

structure Pans where
  code : Int
  rows : List Pnam
  lo : ByteArray
  hi : ByteArray
  grp : Int
  gen : Int
  old : Int
  to : Int
  act : Int
  at' : ByteArray
  st : List Nat
def AnsC (w : World) (c : List Value) (p : Pans) : Prop := ∃ ar nr cr sa ns cs g, c = [.int .i64 p.code, .slice ar nr cr, .string p.lo, .string p.hi, .int .i64 p.grp, .int .i64 p.gen, .int .i64 p.old, .int .i64 p.to, .int .i64 p.act, .string p.at', .slice sa ns cs] ∧ NamsAt w (.slice ar nr cr) p.rows ∧ IsB w g (.slice sa ns cs) p.st ∧ U8 w g p.st ∧ (∀ z ∈ p.st, z < 256)
theorem AnsC.moves {w w' : World} (m : Moves [] w w') {c : List Value} {p : Pans} (h : AnsC w c p) : AnsC w' c p := by
  obtain ⟨ar, nr, cr, sa, ns, cs, g, e, h1, h2, h3, h4⟩ := h
  obtain ⟨k1, k2⟩ := h2.stay (T := fun _ => True) (Stay.ofMoves m) trivial h3
  exact ⟨ar, nr, cr, sa, ns, cs, g, e, h1.moves m, k1, k2, h4⟩

def wi (n a b : Int) : Bool := decide (a ≤ n) && decide (n ≤ b)
theorem wi_iff {n a b : Int} : wi n a b = true ↔ a ≤ n ∧ n ≤ b := by simp [wi]
def rRow (x : Pnam) : Bool := pname x.name && pright x.r
def rRows (xs : List Pnam) : Bool := decide (xs.length ≤ 16) && xs.all rRow
def rPlace (s : ByteArray) : Bool := decide (s.size ≤ 16)
def rAns (p : Pans) : Bool := wi p.code 0 255 && (rRows p.rows && (spR ⟨p.lo, p.hi⟩ && (wi p.grp 0 255 && (wi p.to 0 255 && (wi p.act 0 255 && (wi p.gen 0 1073741824 && (wi p.old 0 1073741824 && (rPlace p.at' && decide (p.st.length ≤ 1048576)))))))))
theorem rAns_iff {p : Pans} : rAns p = true ↔ wi p.code 0 255 = true ∧ rRows p.rows = true ∧ spR ⟨p.lo, p.hi⟩ = true ∧ wi p.grp 0 255 = true ∧ wi p.to 0 255 = true ∧ wi p.act 0 255 = true ∧ wi p.gen 0 1073741824 = true ∧ wi p.old 0 1073741824 = true ∧ rPlace p.at' = true ∧ p.st.length ≤ 1048576 := by
  unfold rAns
  simp only [Bool.and_eq_true, decide_eq_true_eq]

def encX (s : ByteArray) : List Nat := be 4 s.size ++ zbs s
def encA (p : Pans) : List Nat := [p.code.toNat] ++ ([p.rows.length] ++ (encNs p.rows ++ (encX p.lo ++ (encX p.hi ++ ([p.grp.toNat] ++ ([p.to.toNat] ++ ([p.act.toNat] ++ (be 4 p.gen.toNat ++ (be 4 p.old.toNat ++ (encX p.at' ++ (be 4 p.st.length ++ p.st)))))))))))

def dSpan : List Nat → Option (Psp × List Nat) := pbn (dText 16) fun lo => pbn (dText 16) fun hi => fun bs => if spR ⟨strOf lo, strOf hi⟩ then some (⟨strOf lo, strOf hi⟩, bs) else none
def dAns : List Nat → Option (Pans × List Nat) :=
  pbn (dNum 1) fun code => pbn (dNum 1) fun n => pbn (iter dNam n) fun xs => pbn dSpan fun s => pbn (dNum 1) fun g => pbn (dNum 1) fun to => pbn (dNum 1) fun act => pbn (dNum 4) fun gen => pbn (dNum 4) fun old => pbn (dText 16) fun at' => pbn (dText 1048576) fun st => fun bs =>
    if rAns ⟨(code : Int), xs, s.lo, s.hi, (g : Int), (gen : Int), (old : Int), (to : Int), (act : Int), strOf at', st⟩ then some (⟨(code : Int), xs, s.lo, s.hi, (g : Int), (gen : Int), (old : Int), (to : Int), (act : Int), strOf at', st⟩, bs) else none

end Go.Proofs.YtilbbnmhnacnlaaGreat
