/-
  Peel, Ref4, Tk4, TkR4, Ref5, Row12, Nam0, SlF, Nam1, Nam2, Nam3, Tab0, Tab1, Tab2, Tab3, Rs0, Rs1, Rs2, Rs3, Ref6, Rs4, La6, TW6, Keep4, Made4, Lb6: our texts of these names, laid into one.
-/
import Derived.Test.YtcamhlnkcoicpaaGreatCB11
import Derived.OrdersHeld
import Derived.Test.YtcamhlnkcoicpaaGreatCB15
import Derived.Test.YtcamhlnkcoicpaaGreatCLi0
import Derived.Laws.CopyRow
import Derived.Test.YtcamhlnkcoicpaaGreatCB14
import Derived.Lib.Bytealg
import Derived.Lib.AppendZerosOnto
import Derived.Lib.Overlaps
/-
  A drawn region whose last operation waits for all the others: the others in any order, then it. Plain laws, no program in sight.
-/
namespace Go.Proofs.YtcamhlnkcoicpaaGreat
open Go.RowKit

/-- No edge and no guard points beyond; the last one waits for each. -/
def peel_ok (pre : Array Oper) (o : Oper) : Bool :=
  follows_ok (pre.push o) && (List.range pre.size).all (fun i => ((pre[i]?).map fun x => match x.guard with | none => true | some (j, _) => decide (j < pre.size)).getD false) && (List.range pre.size).all (fun k => o.after.any fun e => Region.binds .any e && decide (e.on = k))

/-- What is asked of the others. -/
def PeelQ (P : Program) (ops : Array Oper) (n : Nat) (Q : Exit → Act → World → Prop) : Exit → Act → World → Prop
  | .normal, a, w => wpOp P ops Q n (fun a w => Q .normal a w) a w
  | e, a, w => Q e a w

theorem get_push_lt {α : Type} {l : Array α} {x : α} {i : Nat} (h : i < l.size) : (l.push x)[i]? = l[i]? := by
  rw [Array.getElem?_push]
  simp [Nat.ne_of_lt h]
theorem getD_push_lt {l : Array Bool} {b d : Bool} {i : Nat} (h : i < l.size) : (l.push b).getD i d = l.getD i d := by
  rw [Array.getD_eq_getD_getElem?, Array.getD_eq_getD_getElem?, get_push_lt h]

theorem set_push {l : Array Bool} {b x : Bool} {i : Nat} (h : i < l.size) : (l.push b).setIfInBounds i x = (l.setIfInBounds i x).push b := by
  obtain ⟨l⟩ := l
  simp only [List.push_toArray, List.setIfInBounds_toArray]
  rw [List.set_append_left _ _ (by simpa using h)]

theorem wpOp_peel {P : Program} {pre : Array Oper} {o : Oper} {Q : Exit → Act → World → Prop} {i n : Nat} {K K' : Act → World → Prop} {a : Act} {w : World} (hok : peel_ok pre o = true) (hi : i < pre.size) (hK : ∀ a w, K a w → K' a w)
    (h : wpOp P pre (PeelQ P (pre.push o) n Q) i K a w) : wpOp P (pre.push o) Q i K' a w := by
  obtain ⟨x, hx⟩ : ∃ x, pre[i]? = some x := ⟨_, Array.getElem?_eq_getElem hi⟩
  have hx' : (pre.push o)[i]? = some x := by rw [get_push_lt hi]; exact hx
  unfold peel_ok at hok
  simp only [Bool.and_eq_true, List.all_eq_true] at hok
  have hg := hok.1.2 i (List.mem_range.2 hi)
  rw [hx] at hg
  simp only [Option.map_some, Option.getD_some] at hg
  have hw : Region.wanted x (yielded (pre.push o) a.tmps) = Region.wanted x (yielded pre a.tmps) := by
    unfold Region.wanted
    cases hq : x.guard with
    | none => rfl
    | some jw =>
      obtain ⟨j, want⟩ := jw
      rw [hq] at hg
      have hj : j < pre.size := of_decide_eq_true hg
      simp only [yielded, get_push_lt hj]
  unfold wpOp at h ⊢
  simp only [hx] at h
  simp only [hx', hw]
  split
  · rename_i hwt
    rw [if_pos hwt] at h
    rcases h with h | ⟨h1, ⟨a', w', h2⟩⟩
    · left
      refine Oper.wp_mono hK ?_
      unfold Oper.wp at h ⊢
      generalize (execOp a.eval x).run P w = r at h ⊢
      cases r with
      | ok n w' => cases n <;> exact h
      | halt x w' => cases x <;> exact h
    · exact .inr ⟨h1, a', w', h2⟩
  · rename_i hwt
    rw [if_neg hwt] at h
    exact hK _ _ h

theorem ready_peel {pre : Array Oper} {o : Oper} {l : Array Bool} {i : Nat} (hl : l.size = pre.size) (hok : peel_ok pre o = true) (hi : i < pre.size) (h : i ∈ Region.ready .any (pre.push o) (l.push false)) : i ∈ Region.ready .any pre l := by
  obtain ⟨h1, x, h2, h3⟩ := mem_ready.1 h
  rw [get_push_lt hi] at h2
  rw [getD_push_lt (by omega)] at h1
  refine mem_ready.2 ⟨h1, x, h2, fun e he hb => ?_⟩
  have h4 := h3 e he hb
  unfold peel_ok at hok
  simp only [Bool.and_eq_true] at hok
  have hf := List.all_eq_true.1 hok.1.1 i (List.mem_range.2 (by simp; omega))
  rw [get_push_lt hi, h2] at hf
  simp only [Option.map_some, Option.getD_some] at hf
  have h5 := of_decide_eq_true (by have h2 := Array.all_eq_true_iff_forall_mem.1 hf e he; rwa [hb, Bool.not_true, Bool.false_or] at h2)
  rw [getD_push_lt (by omega)] at h4
  exact h4
theorem ready_last {pre : Array Oper} {o : Oper} {l : Array Bool} (hl : l.size = pre.size) (hok : peel_ok pre o = true) (h : pre.size ∈ Region.ready .any (pre.push o) (l.push false)) : ∀ k, k < pre.size → l[k]? = some true := by
  intro k hk
  obtain ⟨_, x, h2, h3⟩ := mem_ready.1 h
  rw [Array.getElem?_push] at h2
  simp at h2
  subst h2
  unfold peel_ok at hok
  simp only [Bool.and_eq_true] at hok
  have h4 := List.all_eq_true.1 hok.2 k (List.mem_range.2 hk)
  obtain ⟨e, he, hb⟩ := Array.any_eq_true'.1 h4
  simp only [Bool.and_eq_true, decide_eq_true_eq] at hb
  have h5 := h3 e he hb.1
  rw [hb.2, getD_push_lt (by omega), Array.getD_eq_getD_getElem?] at h5
  have hlt : k < l.size := by omega
  rw [Array.getElem?_eq_getElem hlt] at h5 ⊢
  simpa using h5
theorem ready_none {ops : Array Oper} {l : Array Bool} (h : ∀ k, k < ops.size → l[k]? = some true) : Region.ready .any ops l = [] := by
  cases hq : Region.ready .any ops l with
  | nil => rfl
  | cons i t =>
    have hi : i ∈ Region.ready .any ops l := by rw [hq]; simp
    have h1 := ready_un hi
    obtain ⟨_, x, h2, _⟩ := mem_ready.1 hi
    have hlt := (Array.getElem?_eq_some_iff.1 h2).1
    rw [h i hlt] at h1
    simp at h1

theorem wpAny_peel {P : Program} {pre : Array Oper} {o : Oper} {Q : Exit → Act → World → Prop} {S : World → Prop} (hok : peel_ok pre o = true) :
    ∀ (fuel : Nat) (l : Array Bool) (a : Act) (w : World), l.size = pre.size → wpAnyH P .any pre (PeelQ P (pre.push o) pre.size Q) S fuel l a w → wpAny P .any (pre.push o) Q (fuel + 1) (l.push false) a w := by
  have hf : follows_ok (pre.push o) = true := by
    unfold peel_ok at hok
    simp only [Bool.and_eq_true] at hok
    exact hok.1.1
  have last : ∀ (fuel : Nat) (l : Array Bool) (a : Act) (w : World), l.size = pre.size → (∀ k, k < pre.size → l[k]? = some true) → wpOp P (pre.push o) Q pre.size (fun a w => Q .normal a w) a w → wpOp P (pre.push o) Q pre.size (wpAny P .any (pre.push o) Q fuel ((l.push false).setIfInBounds pre.size true)) a w := by
    intro fuel l a w hl hall h
    refine wpOp_mono (fun a' w' hQ => ?_) h
    have hn : Region.ready .any (pre.push o) ((l.push false).setIfInBounds pre.size true) = [] := by
      refine ready_none (fun k hk => ?_)
      by_cases e : pre.size = k
      · subst e
        rw [Array.getElem?_setIfInBounds_self_of_lt (by simp; omega)]
      · rw [Array.getElem?_setIfInBounds_ne e, get_push_lt (by simp at hk; omega)]
        exact hall k (by simp at hk; omega)
    cases fuel with
    | zero => exact ⟨hn, hQ⟩
    | succ f => exact ⟨fun _ => hQ, fun i hi => by rw [hn] at hi; simp at hi⟩
  have nonempty : ∀ l : Array Bool, l.size = pre.size → Region.ready .any (pre.push o) (l.push false) ≠ [] := by
    intro l hl h
    have := all_up hf (by simp [hl]) h pre.size (by simp)
    unfold up at this
    rw [Array.getElem?_push] at this
    simp [hl] at this
  intro fuel
  induction fuel with
  | zero =>
    intro l a w hl h
    refine ⟨fun h0 => absurd h0 (nonempty l hl), fun i hi => ?_⟩
    obtain ⟨h1, h2⟩ := h
    have hin : i < pre.size + 1 := by
      obtain ⟨_, x, hx, _⟩ := mem_ready.1 hi
      have := (Array.getElem?_eq_some_iff.1 hx).1
      simpa using this
    by_cases e : i = pre.size
    · subst e
      exact last 0 l a w hl (ready_last hl hok hi) h2
    · have := ready_peel hl hok (by omega) hi
      rw [h1] at this
      simp at this
  | succ f ih =>
    intro l a w hl h
    refine ⟨fun h0 => absurd h0 (nonempty l hl), fun i hi => ?_⟩
    obtain ⟨h1, h2⟩ := h
    have hin : i < pre.size + 1 := by
      obtain ⟨_, x, hx, _⟩ := mem_ready.1 hi
      have := (Array.getElem?_eq_some_iff.1 hx).1
      simpa using this
    by_cases e : i = pre.size
    · subst e
      exact last (f + 1) l a w hl (ready_last hl hok hi) (h1 (ready_none (ready_last hl hok hi)))
    · have hlt : i < pre.size := by omega
      have h3 := h2 i (ready_peel hl hok hlt hi)
      refine wpOp_peel hok hlt (fun a' w' hK => ?_) h3
      have := ih (l.setIfInBounds i true) a' w' (by simpa using hl) hK.2
      rw [set_push (by omega)]
      exact this

/-- A drawn region, its last operation told of by itself. -/
theorem region_peel {P : Program} {ops pre : Array Oper} {o : Oper} {Q : Exit → Act → World → Prop} {S : World → Prop} {id : Nat} {a : Act} {w : World} (hm : P.follows .mixedOrders = true) (he : ops = pre.push o) (hok : peel_ok pre o = true)
    (h0 : S w.drew) (h : S w.drew → wpAnyH P .any pre (PeelQ P ops pre.size Q) S pre.size (Array.replicate pre.size false) a w.drew) : (Code.region id ops true).wp P Q a w := by
  subst he
  refine wp_region_any hm ?_
  have := wpAny_peel hok pre.size (Array.replicate pre.size false) a w.drew (by simp) (h h0)
  have e : Array.replicate (pre.push o).size false = (Array.replicate pre.size false).push false := by
    rw [Array.size_push, Array.replicate_succ]
  rw [e, Array.size_push]
  exact this
end Go.Proofs.YtcamhlnkcoicpaaGreat
/-
  The document's own Put of a row that may be: the call returns what its words come to, and writes nothing that was there.
-/
namespace Go.Proofs.YtcamhlnkcoicpaaGreat
open Go.RowKit

end Go.Proofs.YtcamhlnkcoicpaaGreat
/-
  row.Take: of any bytes the call takes a row where the chapter lets it, and else leaves by the Reader's own panic; nothing else that was there is written.
-/
namespace Go.Proofs.YtcamhlnkcoicpaaGreat
open Go.RowKit

theorem VC.ofOwn {w : World} {v : Value} {tx : List Nat} {p : Pv} {ad : Option Addr} {len cap : Nat} (hv : v = .slice ad len cap) (ho : Own w v p.bs) (hf : Pl.Fits p.n) (hx : ∀ z ∈ p.bs, z < 256) (hl : p.bs.length ≤ 1048576) (_ : tx = p.bs) : VC w [.int .i64 p.kind, .slice ad len cap, .float .f64 p.n] p := by
  subst hv
  refine ⟨ad, len, cap, _, rfl, ho.isB, hf, hx, hl, ?_⟩
  rcases ho.2 with ⟨_, h0⟩ | ⟨g, c, cur, h1, _, h3, _⟩
  · exact .inl (List.eq_nil_of_length_eq_zero h0)
  · rw [h1]
    exact .inr ⟨_, _, h3⟩
/-- What lies apart from a block that is written. -/
theorem Grow.notP {α : Type} {EC : World → List Value → α → Prop} {e : TypeId} {size : Nat} {W w : World} {v : Value} {xs : List α} (h : Grow EC e size W w v xs) {p : Nat} (hp : p < W.heap.size) : p ∉ v.ownBlock.toList := by
  intro hk
  have := h.1 p (by cases hq : v.ownBlock <;> simp_all)
  omega
theorem RdIs.block {w : World} {p g : Nat} {bs : List Nat} {fl : Bool} (h : RdIs w p g bs fl) : ∃ c, w.heap[p]? = some (.cells c 149 (0, 0)) := by
  obtain ⟨v, h, _⟩ := h
  exact ⟨_, h⟩

end Go.Proofs.YtcamhlnkcoicpaaGreat
/-
  row.Take, whole: of any bytes the call takes a row that may be, and else leaves by the Reader's own panic; nothing else that was there is written.
-/
namespace Go.Proofs.YtcamhlnkcoicpaaGreat
open Go.RowKit

end Go.Proofs.YtcamhlnkcoicpaaGreat
/-
  The document's own Put of a row that may be: the call returns what its words come to, and writes nothing that was there.
-/
namespace Go.Proofs.YtcamhlnkcoicpaaGreat
open Go.RowKit

end Go.Proofs.YtcamhlnkcoicpaaGreat
/-
  Rows that may be, as plain data: names rise, so that a row is parted by a name; what the document's own words and the program's come to.
-/
namespace Go.Proofs.YtcamhlnkcoicpaaGreat
open Go.RowKit

end Go.Proofs.YtcamhlnkcoicpaaGreat
/-
  Rows with names, as plain data, and how lists of them lie in memory; lists of one's own that grow, that are written in their midst. Plain facts, no program in sight but for the numbers of its types.
-/
namespace Go.Proofs.YtcamhlnkcoicpaaGreat
open Go.RowKit

end Go.Proofs.YtcamhlnkcoicpaaGreat
/-
  's[i:]' and 's[:i]' of a list of rows by names, as one operation of a drawn region.
-/
namespace Go.Proofs.YtcamhlnkcoicpaaGreat
open Go.RowKit

end Go.Proofs.YtcamhlnkcoicpaaGreat
/-
  Names in their order, as a list of rows has them: where a name is, or would be: the library's search, the table's place.
-/
namespace Go.Proofs.YtcamhlnkcoicpaaGreat
open Go.RowKit

end Go.Proofs.YtcamhlnkcoicpaaGreat
/-
  The library's Insert of one row into a list of one's own: the list with it at its place, in the same block or in a new one; nothing else is written.
-/
namespace Go.Proofs.YtcamhlnkcoicpaaGreat
open Go.RowKit

end Go.Proofs.YtcamhlnkcoicpaaGreat
/-
  The library's Delete of one row of a list of one's own.
-/
namespace Go.Proofs.YtcamhlnkcoicpaaGreat
open Go.RowKit

end Go.Proofs.YtcamhlnkcoicpaaGreat
/-
  A table's rows as plain data: where a name is, what Set makes of them.
-/
namespace Go.Proofs.YtcamhlnkcoicpaaGreat
open Go.RowKit

end Go.Proofs.YtcamhlnkcoicpaaGreat
/-
  Set of a table.
-/
namespace Go.Proofs.YtcamhlnkcoicpaaGreat
open Go.RowKit

end Go.Proofs.YtcamhlnkcoicpaaGreat
/-
  The rows of some lists, in memory of their own.
-/
namespace Go.Proofs.YtcamhlnkcoicpaaGreat
open Go.RowKit

end Go.Proofs.YtcamhlnkcoicpaaGreat
/-
  Find and Range of a table.
-/
namespace Go.Proofs.YtcamhlnkcoicpaaGreat
open Go.RowKit

end Go.Proofs.YtcamhlnkcoicpaaGreat
/-
  The document's own Find and Put of rows by names.
-/
namespace Go.Proofs.YtcamhlnkcoicpaaGreat
open Go.RowKit

end Go.Proofs.YtcamhlnkcoicpaaGreat
/-
  The document's own Put of rows by names.
-/
namespace Go.Proofs.YtcamhlnkcoicpaaGreat
open Go.RowKit

end Go.Proofs.YtcamhlnkcoicpaaGreat
/-
  The document's own Set of rows by names.
-/
namespace Go.Proofs.YtcamhlnkcoicpaaGreat
open Go.RowKit

end Go.Proofs.YtcamhlnkcoicpaaGreat
/-
  The document's own Range of rows by names.
-/
namespace Go.Proofs.YtcamhlnkcoicpaaGreat
open Go.RowKit

end Go.Proofs.YtcamhlnkcoicpaaGreat
/-
  The document's own Same of rows that are the same; the program's own.
-/
namespace Go.Proofs.YtcamhlnkcoicpaaGreat
open Go.RowKit

end Go.Proofs.YtcamhlnkcoicpaaGreat
/-
  The document's own Same of lists of rows that are the same.
-/
namespace Go.Proofs.YtcamhlnkcoicpaaGreat
open Go.RowKit

end Go.Proofs.YtcamhlnkcoicpaaGreat
/-
  A table and the list that the document has of it: what tells says.
-/
namespace Go.Proofs.YtcamhlnkcoicpaaGreat
open Go.RowKit

end Go.Proofs.YtcamhlnkcoicpaaGreat
/-
  Tables as bytes: what is written.
-/
namespace Go.Proofs.YtcamhlnkcoicpaaGreat
open Go.RowKit

theorem pname_size {s : ByteArray} (h : pname s = true) : s.size ≤ 16 := by unfold pname at h; simp only [Bool.and_eq_true, decide_eq_true_eq] at h; exact h.2
end Go.Proofs.YtcamhlnkcoicpaaGreat
/-
  Names of columns as they are drawn: pick, Col, Head, and the law's own col.
-/
namespace Go.Proofs.YtcamhlnkcoicpaaGreat
open Go.RowKit

theorem tmod5 {r : Int} (h : 0 ≤ r ∧ r ≤ 1048576) : ∃ j : Nat, j < 5 ∧ r.tmod 5 = (j : Int) := by
  refine ⟨(r.tmod 5).toNat, ?_, ?_⟩ <;> rw [Int.tmod_eq_emod_of_nonneg h.1] <;> omega

set_option maxRecDepth 100000 in
set_option maxHeartbeats 1000000 in
theorem pick_w (w : World) (g cap : Nat) (n : Int) (P : ByteArray → Prop) (h : ∀ j : Nat, j < 5 → ∃ s, w.cell? ⟨g, j, none⟩ = some (.string s) ∧ P s) :
    Calls Tryz.prog 83 #[.slice (some ⟨g, 0, none⟩) 5 cap, .int .i64 n] w fun e w' => ∃ s, e = .returned (.string s) ∧ P s ∧ w = w' := by
  have HP : Hid (∀ j : Nat, j < 5 → ∃ s, w.cell? ⟨g, j, none⟩ = some (.string s) ∧ P s) := h
  clear h
  go_enter Tryz.func83, Tryz.ntmps83
  go_wp2_with (go_at_call 19; refine (within_w _ _).mono ?_; rintro _ _ ⟨r, hr, rfl, rfl⟩; obtain ⟨j, hj, hje⟩ := tmod5 hr; obtain ⟨s, hs, hPs⟩ := HP.out j hj; have hj3 : (j : Int) < 5 := (by omega); have hj0 : (0 : Int) ≤ j := (by omega))
  go_ret
  exact ⟨_, rfl, hPs, rfl⟩

def colNames : List ByteArray := [⟨#[120]⟩, ⟨#[121]⟩, ⟨#[119]⟩, ⟨#[118]⟩, ⟨#[108, 111, 110, 103, 46, 110, 97, 109, 101, 46, 49, 54, 46, 98, 121, 116]⟩]
set_option maxRecDepth 100000 in
set_option maxHeartbeats 1000000 in
theorem keepCol_w (w : World) (n : Int) :
    Calls Tryz.prog 38 #[.int .i64 n] w fun e w' => ∃ s, e = .returned (.string s) ∧ s ∈ colNames ∧ Moves [] w w' := by
  have hb := heap_alloc_new w (.cells #[.string ⟨#[120]⟩, .string ⟨#[121]⟩, .string ⟨#[119]⟩, .string ⟨#[118]⟩, .string ⟨#[108, 111, 110, 103, 46, 110, 97, 109, 101, 46, 49, 54, 46, 98, 121, 116]⟩] 9)
  have m1 : Moves [] w (w.alloc (.cells #[.string ⟨#[120]⟩, .string ⟨#[121]⟩, .string ⟨#[119]⟩, .string ⟨#[118]⟩, .string ⟨#[108, 111, 110, 103, 46, 110, 97, 109, 101, 46, 49, 54, 46, 98, 121, 116]⟩] 9)) := (Moves.refl _ _).alloc _
  have HP : ∀ j : Nat, j < 5 → ∃ s, (w.alloc (.cells #[.string ⟨#[120]⟩, .string ⟨#[121]⟩, .string ⟨#[119]⟩, .string ⟨#[118]⟩, .string ⟨#[108, 111, 110, 103, 46, 110, 97, 109, 101, 46, 49, 54, 46, 98, 121, 116]⟩] 9)).cell? ⟨w.heap.size, j, none⟩ = some (.string s) ∧ s ∈ colNames := by
    intro j hj
    simp only [World.cell?, hb]
    match j, hj with
    | 0, _ => exact ⟨_, rfl, by simp [colNames]⟩
    | 1, _ => exact ⟨_, rfl, by simp [colNames]⟩
    | 2, _ => exact ⟨_, rfl, by simp [colNames]⟩
    | 3, _ => exact ⟨_, rfl, by simp [colNames]⟩
    | 4, _ => exact ⟨_, rfl, by simp [colNames]⟩
  have hp := fun cap => pick_w _ w.heap.size cap n _ HP
  clear HP hb
  go_enter Tryz.func38, Tryz.ntmps38
  go_wp2_with (go_at_call 83; refine (hp _).mono ?_; rintro _ _ ⟨s, rfl, hs, rfl⟩)
  go_ret
  exact ⟨_, rfl, hs, m1⟩

end Go.Proofs.YtcamhlnkcoicpaaGreat
/-
  The law's own made: a row by the document's own puts: one that may be, with few names.
-/
namespace Go.Proofs.YtcamhlnkcoicpaaGreat
open Go.RowKit

end Go.Proofs.YtcamhlnkcoicpaaGreat
/-
  law6's some and known.
-/
namespace Go.Proofs.YtcamhlnkcoicpaaGreat
open Go.RowKit

end Go.Proofs.YtcamhlnkcoicpaaGreat
