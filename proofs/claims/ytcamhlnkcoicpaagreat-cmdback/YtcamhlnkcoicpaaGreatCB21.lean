/-
  Open5, Row13, Known5, Made5, Chgs5, Cw5, Cd5, Am0, Am1, Am2: our texts of these names, laid into one.
-/
import Derived.Test.YtcamhlnkcoicpaaGreatCB15
import Derived.Test.YtcamhlnkcoicpaaGreatCB16
import Derived.Test.YtcamhlnkcoicpaaGreatCB19
import Derived.Test.YtcamhlnkcoicpaaGreatCKeep5
import Derived.Test.YtcamhlnkcoicpaaGreatCChg0
import Derived.Test.YtcamhlnkcoicpaaGreatCTT6
import Derived.Test.YtcamhlnkcoicpaaGreatCB09
import Derived.Test.YtcamhlnkcoicpaaGreatCB08
/-
  Arguments opened: lists of changes as they are drawn.
-/
namespace Go.Proofs.YtcamhlnkcoicpaaGreat
open Go.RowKit
open Go.ChangeShapes Go.WideShapes

/-- A list of changes as they are drawn. -/
def ChArgs (W : World) (v : Value) : Prop := ∃ ad len cap, v = .slice ad len cap ∧ len ≤ cap ∧ ∀ k, k < len → ∃ b off kind col time t n x a2 l2 c2, ad = some ⟨b, off, none⟩ ∧ W.cell? ⟨b, off + k * 7, none⟩ = some (.int .i64 kind) ∧ W.cell? ⟨b, off + k * 7 + 1, none⟩ = some (.int .i64 col) ∧ W.cell? ⟨b, off + k * 7 + 2, none⟩ = some (.int .i64 time) ∧ W.cell? ⟨b, off + k * 7 + 3, none⟩ = some (.bool t) ∧ W.cell? ⟨b, off + k * 7 + 4, none⟩ = some (.int .i64 n) ∧ W.cell? ⟨b, off + k * 7 + 5, none⟩ = some (.float .f64 x) ∧ W.cell? ⟨b, off + k * 7 + 6, none⟩ = some (.slice a2 l2 c2) ∧ KArg W (.agg #[.bool t, .int .i64 n, .float .f64 x, .slice a2 l2 c2])
set_option maxRecDepth 100000 in
theorem chargs_of_raw {H : Type} {enc : TypeId × Value → H} {W : World} {base fuel : Nat} {spare : Nat → Bool} {held : Bool} {v : Value} {x : DataW H × List MemPlace}
    (h : DataW.trod enc Tryz.prog W base spare held fuel 47 [v] = some x) : ChArgs W v := by
  have c7 : Tryz.prog.cellsOf 180 = 7 := by kernel_rfl
  rcases Go.Deep.open_slice Tryz.underlying47 h with ⟨hcs, _⟩ | ⟨ad, len, cap, m, n, D, Pls, hcs, _, hl, hm, hmm, _, hx⟩
  · simp at hcs
    subst hcs
    exact ⟨none, 0, 0, rfl, Nat.le_refl _, fun k hk => absurd hk (by omega)⟩
  · simp at hcs
    subst hcs
    have hlm : len ≤ m := by rw [hmm]; split <;> omega
    refine ⟨_, _, _, rfl, hl, fun k hk => ?_⟩
    obtain ⟨cs', h1, h2⟩ := hx k (by omega)
    obtain ⟨cs0, h01, _⟩ := hx 0 (by omega)
    rw [c7] at h1 h01
    obtain ⟨b, off, rfl, hlen, hcell⟩ := struct_cells (by omega) h01 h1
    obtain ⟨xs, q, hk, hxy, _, hxl, hf⟩ := DataW.trod_struct Tryz.underlying180 h2
    have c3 : Tryz.prog.cellsOf 3 = 1 := by kernel_rfl
    have c2 : Tryz.prog.cellsOf 2 = 1 := by kernel_rfl
    have cV : Tryz.prog.cellsOf 46 = 4 := by kernel_rfl
    match xs, hxl, cs', hlen with
    | [y0, y1, y2, y3], _, [v0, v1, v2, v3, v4, v5, v6], _ =>
      have g0 := hf 0 _ rfl
      have g1 := hf 1 _ rfl
      have g2 := hf 2 _ rfl
      have g3 := hf 3 _ rfl
      simp [c3, c2, cV] at g0 g1 g2 g3
      obtain ⟨z0, hz0, _, _⟩ := DataW.trod_int Tryz.underlying3 g0
      obtain ⟨z1, hz1, _, _⟩ := DataW.trod_int Tryz.underlying3 g1
      obtain ⟨z2, hz2, _, _⟩ := DataW.trod_int Tryz.underlying2 g2
      obtain ⟨t, n, x, a2, l2, c2, rfl, rfl, rfl, rfl, hK⟩ := karg_of_raw g3
      simp at hz0 hz1 hz2
      subst hz0 hz1 hz2
      exact ⟨b, off, z0, z1, z2, t, n, x, a2, l2, c2, rfl, hcell 0 _ rfl, hcell 1 _ rfl, hcell 2 _ rfl, hcell 3 _ rfl, hcell 4 _ rfl, hcell 5 _ rfl, hcell 6 _ rfl, hK⟩
end Go.Proofs.YtcamhlnkcoicpaaGreat
/-
  The program's own Same of rows that are the same.
-/
namespace Go.Proofs.YtcamhlnkcoicpaaGreat
open Go.RowKit

end Go.Proofs.YtcamhlnkcoicpaaGreat
/-
  Package change's Holds; the law's own known: some of chapter 5's runs.
-/
namespace Go.Proofs.YtcamhlnkcoicpaaGreat
open Go.RowKit

set_option maxRecDepth 100000 in
theorem condByte_w (w : World) (has want : Bool) (col : ByteArray) (k : Int) (a : Option Addr) (n cap x : Nat) (r : Int) (hr : (has = false ∧ r = 0) ∨ (has = true ∧ want = false ∧ r = 1) ∨ (has = true ∧ want = true ∧ r = 2)) :
    Calls Tryz.prog 160 #[.agg #[.bool has, .bool want, .string col, .int .i64 k, .slice a n cap, .float .f64 x]] w fun e w' => e = .returned (.int .u8 r) ∧ Moves [] w w' := by
  have hb := heap_alloc_new w (.cells #[.bool has, .bool want, .string col, .int .i64 k, .slice a n cap, .float .f64 x] 30)
  have mb : Moves [] w (w.alloc (.cells #[.bool has, .bool want, .string col, .int .i64 k, .slice a n cap, .float .f64 x] 30)) := (Moves.refl _ _).alloc _
  obtain ⟨x0, x1, _⟩ := six_cells hb
  rcases hr with ⟨rfl, rfl⟩ | ⟨rfl, rfl, rfl⟩ | ⟨rfl, rfl, rfl⟩
  all_goals go_enter Tryz.func160, Tryz.ntmps160
  all_goals go_wp2_with fail
  all_goals go_ret
  all_goals exact ⟨rfl, mb⟩

end Go.Proofs.YtcamhlnkcoicpaaGreat
/-
  The law's own made: a row by the document's own changes: one that may be.
-/
namespace Go.Proofs.YtcamhlnkcoicpaaGreat
open Go.RowKit

end Go.Proofs.YtcamhlnkcoicpaaGreat
/-
  A list of changes of the call's own that grows; keep.Changes.
-/
namespace Go.Proofs.YtcamhlnkcoicpaaGreat
open Go.RowKit

/-- The six cells of a change; what its value points at lies in an elder world. -/
def ChgC (V : World) (_ : World) (c : List Value) (x : Pchg) : Prop := ∃ a n cap, c = [.int .i64 x.kind, .string x.col, .int .i64 x.t, .int .i64 x.v.kind, .slice a n cap, .float .f64 x.v.n] ∧ VA V [.int .i64 x.v.kind, .slice a n cap, .float .f64 x.v.n] x.v
def GrowX (V W w : World) (v : Value) (xs : List Pchg) : Prop := Grow (ChgC V) 27 6 W w v xs
theorem chg_info : (Tryz.prog.info? 27).map (fun i => (i.zero, i.size, i.bytes)) = some (some (.agg #[.int .i64 0, .string ByteArray.empty, .int .i64 0, .int .i64 0, .slice none 0 0, .float .f64 0]), 6, 72) := by kernel_rfl
theorem ChgC.one {V w : World} {c : List Value} {x : Pchg} (h : ChgC V w c x) : ∀ u ∈ c, u.oneCell' = true := by
  obtain ⟨a, n, cap, rfl, _⟩ := h
  intro u hu
  simp only [List.mem_cons, List.not_mem_nil, or_false] at hu
  rcases hu with rfl | rfl | rfl | rfl | rfl | rfl <;> rfl
theorem GrowX.moves0 {V W w w' : World} (m : Moves [] w w') {v : Value} {xs : List Pchg} (h : GrowX V W w v xs) : GrowX V W w' v xs := by
  obtain ⟨h0, css, h1, h2⟩ := h
  exact ⟨h0, css, h1.moves m (by simp), h2⟩
theorem GrowX.nil (V W w : World) : GrowX V W w (.slice none 0 0) [] := ⟨Fresh.nil _, [], OwnL.nil _ _ _, trivial⟩
theorem GrowX.open {V W w : World} {v : Value} {xs : List Pchg} (h : GrowX V W w v xs) : ∃ ad n cap, v = .slice ad n cap ∧ Hid (n = xs.length) := by
  obtain ⟨_, css, h1, h2⟩ := h
  obtain ⟨ad, cap, e, _⟩ := (Lies.ofOwn h1).slice
  exact ⟨ad, css.length, cap, e, h2.length⟩
/-- One new change. -/
theorem chg_new (V w : World) (x : Pchg) (a : Option Addr) (n cap : Nat) (hv : VA V [.int .i64 x.v.kind, .slice a n cap, .float .f64 x.v.n] x.v) : ∃ ds, Lies (w.alloc (.cells #[.int .i64 x.kind, .string x.col, .int .i64 x.t, .int .i64 x.v.kind, .slice a n cap, .float .f64 x.v.n] 27)) 27 6 (.slice (some ⟨w.heap.size, 0, none⟩) 1 1) ds ∧ All2 (ChgC V (w.alloc (.cells #[.int .i64 x.kind, .string x.col, .int .i64 x.t, .int .i64 x.v.kind, .slice a n cap, .float .f64 x.v.n] 27))) ds [x] := by
  refine ⟨[[.int .i64 x.kind, .string x.col, .int .i64 x.t, .int .i64 x.v.kind, .slice a n cap, .float .f64 x.v.n]], ⟨by simp, _, 1, rfl, by simp, fun h => by simp at h, .inr ⟨_, 0, _, _, rfl, heap_alloc_new _ _, fun k c hk j u hj => ?_⟩⟩, ⟨a, n, cap, rfl, hv⟩, trivial⟩
  cases k with
  | zero =>
    simp at hk
    subst hk
    simpa using hj
  | succ k => simp at hk
theorem growX_append {ops : Array Oper} {rest : List Oper} {o : Oper} {a : Act} {Q : Exit → Act → World → Prop} {V W w : World} (s x : Operand)
    (ho : o.op = .call { callee := .builtin .append, args := #[s, x], argTypes := #[28, 28] })
    (v yv : Value) (xs ys : List Pchg) (ds : List (List Value)) (hs : a.eval s = v) (hx : a.eval x = yv) (hw : Region.wanted o (yielded ops a.tmps) = true)
    (hv : GrowX V W w v xs) (hd : Lies w 27 6 yv ds) (hys : All2 (ChgC V w) ds ys) (hm : Moves [] W w) (hb : xs.length + ys.length ≤ 1048576)
    (h : ∀ v' w', GrowX V W w' v' (xs ++ ys) → Moves [] W w' → wpList Tryz.prog ops Q rest (a.put o.dst v') w') :
    wpList Tryz.prog ops Q (o :: rest) a w := by
  refine wpList_wanted hw (wpList_plain rfl fun K hK => ?_)
  exact grow_append s x _ 27 _ 6 72 chg_info Tryz.underlying28 rfl (by omega) (by omega) (fun _ _ _ h => h.one) (fun _ _ _ _ h _ => h) ho v yv xs ys ds hs hx hv hd hys hm hb (fun v' w' h1 h2 _ _ _ => hK _ _ (h v' w' h1 h2))
end Go.Proofs.YtcamhlnkcoicpaaGreat
/-
  Changes as bytes: what is written.
-/
namespace Go.Proofs.YtcamhlnkcoicpaaGreat
open Go.RowKit

/-- A change, as it is written. -/
def cenc (c : Pchg) : List Nat := [c.kind.toNat] ++ (if c.kind = 4 then [] else be 4 c.col.size ++ sbs c.col ++ (if c.kind = 3 then [] else be 8 c.t.toNat ++ (if c.kind = 2 then [] else penc c.v)))
theorem Wrote.keep {w w' : World} {p k : Nat} {a a' : Option Nat} {bs : List Nat} (h : Wrote w p a w' a' bs) (hk : k ∉ p :: a.toList) (hlt : k < w.heap.size) : k ∉ p :: a'.toList := by
  rcases h.2.2 with e | ⟨j, e, hj⟩
  · rw [e]; exact hk
  · rw [e]
    intro hm
    rcases List.mem_cons.1 hm with rfl | hm
    · exact hk List.mem_cons_self
    · simp at hm
      omega
theorem kindByte_w (k : Int) (h0 : 0 ≤ k) (h1 : k ≤ 255) (w : World) : Calls Tryz.prog 162 #[.int .i64 k] w fun e w' => e = .returned (.int .u8 k) ∧ w = w' := by
  have h2 : ¬ k < 0 := by omega
  have h3 : ¬ 255 < k := by omega
  have h4 : IntKind.u8.wrap k = k := by rw [IntKind.wrap_u8]; omega
  go_enter Tryz.func162, Tryz.ntmps162
  go_wp2
  go_ret
  exact ⟨rfl, rfl⟩
theorem three_c {w : World} {p : Nat} {x0 x1 x2 : Value} {t : TypeId} (h : w.heap[p]? = some (.cells #[x0, x1, x2] t (0, 0))) : w.cell? ⟨p, 0, none⟩ = some x0 ∧ w.cell? ⟨p, 1, none⟩ = some x1 ∧ w.cell? ⟨p, 2, none⟩ = some x2 := by
  simp [World.cell?, h]
end Go.Proofs.YtcamhlnkcoicpaaGreat
/-
  Conditions as bytes: what is written.
-/
namespace Go.Proofs.YtcamhlnkcoicpaaGreat
open Go.RowKit

/-- A condition, as it is written. -/
def cdenc (has want : Bool) (col : ByteArray) (v : Pv) : List Nat := if has then (if want then [2] ++ be 4 col.size ++ sbs col ++ penc v else [1] ++ be 4 col.size ++ sbs col) else [0]
end Go.Proofs.YtcamhlnkcoicpaaGreat
/-
  Answers as plain data, how they lie in memory; as bytes, there and back.
-/
namespace Go.Proofs.YtcamhlnkcoicpaaGreat
open Go.RowKit

def wi (n a b : Int) : Bool := decide (a ≤ n) && decide (n ≤ b)
theorem wi_iff {n a b : Int} : wi n a b = true ↔ a ≤ n ∧ n ≤ b := by simp [wi]
def rPlace (s : ByteArray) : Bool := decide (s.size ≤ 16)
/-- As bytes. -/
def encX (s : ByteArray) : List Nat := be 4 s.size ++ zbs s
/-- What is read. -/
def dSpan : List Nat → Option (Psp × List Nat) := pbn (dText 16) fun lo => pbn (dText 16) fun hi => fun bs => if spR ⟨strOf lo, strOf hi⟩ then some (⟨strOf lo, strOf hi⟩, bs) else none
theorem dText_mono (most : Nat) : Mono (dText most) := by
  intro bs x r h t
  obtain ⟨h1, h2, h3⟩ := dText_yes h
  obtain ⟨k1, k2, k3, k4⟩ := h1
  have e1 : (bs ++ t).take 4 = bs.take 4 := List.take_append_of_le_length k1
  have e2 : (bs ++ t).drop 4 = bs.drop 4 ++ t := List.drop_append_of_le_length k1
  have hok : textB (bs ++ t) most = true := by
    rw [textB_iff]
    unfold textOk
    rw [e1, e2]
    exact ⟨by rw [List.length_append]; omega, k2, k3, by rw [List.length_append]; omega⟩
  unfold dText
  rw [if_pos hok, e1, e2, List.take_append_of_le_length k4, List.drop_append_of_le_length k4, h2, h3]
end Go.Proofs.YtcamhlnkcoicpaaGreat
/-
  cmd's within, rightPlace, rightRows, rightAnswer, of any answer.
-/
namespace Go.Proofs.YtcamhlnkcoicpaaGreat
open Go.RowKit

theorem eleven_cells {w : World} {p : Nat} {a0 a1 a2 a3 a4 a5 a6 a7 a8 a9 a10 : Value} {t : TypeId} (h : w.heap[p]? = some (.cells #[a0, a1, a2, a3, a4, a5, a6, a7, a8, a9, a10] t (0, 0))) :
    w.cell? ⟨p, 0, none⟩ = some a0 ∧ w.cell? ⟨p, 1, none⟩ = some a1 ∧ w.cell? ⟨p, 2, none⟩ = some a2 ∧ w.cell? ⟨p, 3, none⟩ = some a3 ∧ w.cell? ⟨p, 4, none⟩ = some a4 ∧ w.cell? ⟨p, 5, none⟩ = some a5 ∧ w.cell? ⟨p, 6, none⟩ = some a6 ∧ w.cell? ⟨p, 7, none⟩ = some a7 ∧ w.cell? ⟨p, 8, none⟩ = some a8 ∧ w.cell? ⟨p, 9, none⟩ = some a9 ∧ w.cell? ⟨p, 10, none⟩ = some a10 := by
  simp [World.cell?, h]

theorem cwithin_w (n a b : Int) (w : World) : Calls Tryz.prog 51 #[.int .i64 n, .int .i64 a, .int .i64 b] w fun e w' => e = .returned (.bool (wi n a b)) ∧ w = w' := by
  unfold wi
  by_cases h1 : a ≤ n
  · by_cases h2 : n ≤ b
    · rw [decide_eq_true h1, decide_eq_true h2]
      go_enter Tryz.func51, Tryz.ntmps51
      go_wp2
      go_ret
      exact ⟨rfl, rfl⟩
    · rw [decide_eq_true h1, decide_eq_false h2]
      go_enter Tryz.func51, Tryz.ntmps51
      go_wp2
      go_ret
      exact ⟨rfl, rfl⟩
  · rw [decide_eq_false h1]
    go_enter Tryz.func51, Tryz.ntmps51
    go_wp2
    go_ret
    exact ⟨rfl, rfl⟩
theorem cplace_w (s : ByteArray) (w : World) : Calls Tryz.prog 50 #[.string s] w fun e w' => e = .returned (.bool (rPlace s)) ∧ w = w' := by
  unfold rPlace
  by_cases h1 : s.size ≤ 16
  · have h1' : (s.size : Int) ≤ 16 := by omega
    rw [decide_eq_true h1]
    go_enter Tryz.func50, Tryz.ntmps50
    go_wp2
    go_ret
    exact ⟨rfl, rfl⟩
  · have h1' : ¬ (s.size : Int) ≤ 16 := by omega
    rw [decide_eq_false h1]
    go_enter Tryz.func50, Tryz.ntmps50
    go_wp2
    go_ret
    exact ⟨rfl, rfl⟩

end Go.Proofs.YtcamhlnkcoicpaaGreat
/-
  span.Write behind anything; cmd's writeAnswer and EncodeAnswer of an answer that may be written.
-/
namespace Go.Proofs.YtcamhlnkcoicpaaGreat
open Go.RowKit

set_option maxRecDepth 100000 in
set_option maxHeartbeats 4000000 in
theorem spWriteF_w (lo hi : ByteArray) (p : Nat) (a : Option Nat) (bs : List Nat) (w : World) (h : Wr w p a bs) (hb : bs.length ≤ 1000000000) (h1 : lo.size ≤ 1000) (h2 : hi.size ≤ 1000) :
    Calls Tryz.prog 139 #[.pointer (some ⟨p, 0, none⟩), .agg #[.string lo, .string hi]] w fun e w' => e = .returned (.tuple #[]) ∧ ∃ a', Wrote w p a w' a' (bs ++ encX lo ++ encX hi) := by
  have hbx := heap_alloc_new w (.cells #[.string lo, .string hi] 34)
  have m0 : Moves [] w (w.alloc (.cells #[.string lo, .string hi] 34)) := (Moves.refl _ _).alloc _
  have hPp : w.heap.size ∉ p :: a.toList := zne h (Nat.le_refl _)
  obtain ⟨P, hP⟩ : ∃ P, w.heap.size = P := ⟨_, rfl⟩
  rw [hP] at hbx hPp
  have hr0 := h.moves m0 (by simp) (by simp)
  obtain ⟨g1, cap1, w1, hrun1, hB1, m1, hg1⟩ := zbytes_run (w.alloc (.cells #[.string lo, .string hi] 34)) lo
  have hr1 := hr0.moves m1 (by simp) (by simp)
  have hne1 : g1 ∉ p :: a.toList := zne hr0 hg1
  have hl0 : bs.length + 2000000 ≤ 1099511627776 := by omega
  have l1 : (bs ++ be 4 (zbs lo).length ++ zbs lo).length = bs.length + 4 + lo.size := by rw [List.length_append, List.length_append, be_length, zbs_length]
  have hl1 : (bs ++ be 4 (zbs lo).length ++ zbs lo).length + 2000000 ≤ 1099511627776 := by omega
  have hl2 : (zbs lo).length ≤ 1048576 := by rw [zbs_length]; omega
  have hl3 : (zbs hi).length ≤ 1048576 := by rw [zbs_length]; omega
  have hpe : ∀ w1 : World, (binOp .eql 105 (.pointer (some ⟨p, 0, none⟩)) (.pointer none)).run Tryz.prog w1 = .ok (.bool false) w1 := by intro w1; kernel_rfl
  go_enter Tryz.func139, Tryz.ntmps139
  go_wp2_with fail
  refine (wtext_any p a bs (zbs lo) g1 _ w1 hr1 hl0 hB1 hl2 hne1).mono ?_
  rintro _ w2 ⟨rfl, a2, hw2⟩
  obtain ⟨g2, cap2, w3, hrun2, hB2, m3, hg2⟩ := zbytes_run w2 hi
  have hr3 := hw2.1.moves m3 (by simp) (by simp)
  have hb2 := hw2.2.1.at (m1.at hbx (by simp)) hPp
  obtain ⟨c0, c1, _, _⟩ := sp_cells hb2
  have hne2 : g2 ∉ p :: a2.toList := zne hw2.1 hg2
  clear hl0 hrun1 hB1 hr1 hne1 hbx hr0
  go_wp2_with fail
  refine (wtext_any p a2 (bs ++ be 4 (zbs lo).length ++ zbs lo) (zbs hi) g2 _ w3 hr3 hl1 hB2 hl3 hne2).mono ?_
  rintro _ w4 ⟨rfl, a4, hw4⟩
  go_wp2_with fail
  go_end0
  refine ⟨rfl, a4, ?_⟩
  have e : bs ++ encX lo ++ encX hi = bs ++ be 4 (zbs lo).length ++ zbs lo ++ be 4 (zbs hi).length ++ zbs hi := by
    unfold encX
    rw [zbs_length, zbs_length]
    simp
  rw [e]
  exact (zafter (m0.then m1) hw2).step (zafter m3 hw4)

theorem sbs_zbs (s : ByteArray) : sbs s = zbs s := rfl

end Go.Proofs.YtcamhlnkcoicpaaGreat
