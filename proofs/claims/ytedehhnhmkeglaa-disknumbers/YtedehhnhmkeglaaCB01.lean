/-
  Li0, Par0, Open0, Kp0, Sp0, Sp1, Sp2, Sp3, Sp4, Sp5, Sp6, Sp7, Sp8, Sp9, Sp10, Sp11, SpS, SpV, SpZ, Open, RefR, RefT, Rest, Val0, Val1, Val2, Val3, Val4, Val5, Val6, Any, Any2, Peel: our texts of these names, laid into one.
-/
import Derived.Test.YtedehhnhmkeglaaCB00
import Derived.Sort.Walk0
import Derived.Laws.CopyRow
import Derived.Lib.ConvBytes
import Derived.Deep.Slices
import Derived.Deep.Fields
import Derived.ChangeShapes
import Derived.WalkLawsBesides
import Derived.Deep.RegionHeld3
import Derived.BigQuiet
import Derived.Lib.BytesEntry
import Derived.Laws.Externs
import Derived.Laws.ResultCell
import Derived.Orders
import Derived.Laws.Tables
import Derived.OrdersHeld
/-
  Lists of one's own, of elements of any size: how they lie, how they grow; what stays; texts as bytes. Plain laws, no program in sight but for the numbers of its types.
-/
namespace Go.Proofs.Ytedehhnhmkeglaa
open Go.RowKit

/-- Two lists, element by element. -/
def All2 {α β : Type} (R : α → β → Prop) : List α → List β → Prop
  | [], [] => True
  | a :: s, b :: t => R a b ∧ All2 R s t
  | _, _ => False

theorem All2.length {α β : Type} {R : α → β → Prop} : ∀ {s : List α} {t : List β}, All2 R s t → s.length = t.length
  | [], [], _ => rfl
  | _ :: _, _ :: _, h => by simp [All2.length h.2]
  | [], _ :: _, h => h.elim
  | _ :: _, [], h => h.elim
theorem All2.get {α β : Type} {R : α → β → Prop} : ∀ {s : List α} {t : List β}, All2 R s t → ∀ {k : Nat} {b : β}, t[k]? = some b → ∃ a, s[k]? = some a ∧ R a b
  | [], [], _, _, _, hk => by simp at hk
  | a :: _, _ :: _, h, 0, _, hk => by simp at hk; subst hk; exact ⟨a, rfl, h.1⟩
  | _ :: s, _ :: t, h, k + 1, b, hk => by
    obtain ⟨a, h1, h2⟩ := All2.get h.2 (k := k) (b := b) (by simpa using hk)
    exact ⟨a, by simpa using h1, h2⟩
  | [], _ :: _, h, _, _, _ => h.elim
  | _ :: _, [], h, _, _, _ => h.elim
theorem All2.mono {α β : Type} {R S : α → β → Prop} (hRS : ∀ a b, R a b → S a b) : ∀ {s : List α} {t : List β}, All2 R s t → All2 S s t
  | [], [], _ => trivial
  | _ :: _, _ :: _, h => ⟨hRS _ _ h.1, All2.mono hRS h.2⟩
  | [], _ :: _, h => h.elim
  | _ :: _, [], h => h.elim
theorem All2.append {α β : Type} {R : α → β → Prop} : ∀ {s : List α} {t : List β} {s' : List α} {t' : List β}, All2 R s t → All2 R s' t' → All2 R (s ++ s') (t ++ t')
  | [], [], _, _, _, h => h
  | _ :: _, _ :: _, _, _, h, k => ⟨h.1, All2.append h.2 k⟩
  | [], _ :: _, _, _, h, _ => h.elim
  | _ :: _, [], _, _, h, _ => h.elim
theorem one_cell {w : World} {p : Nat} {a : Value} {t : TypeId} (h : w.heap[p]? = some (.cells #[a] t (0, 0))) : w.cell? ⟨p, 0, none⟩ = some a ∧ w.frozen? ⟨p, 0, none⟩ = false := by
  simp [World.cell?, World.frozen?, h]
theorem set_one {w : World} {p : Nat} {a : Value} {t : TypeId} (h : w.heap[p]? = some (.cells #[a] t (0, 0))) (u : Value) : (w.setCell ⟨p, 0, none⟩ u).heap[p]? = some (.cells #[u] t (0, 0)) := heap_set (i := 0) h u
/-- The bytes of a text. -/
def zbs (s : ByteArray) : List Nat := s.data.toList.map UInt8.toNat
theorem zbs_length (s : ByteArray) : (zbs s).length = s.size := by unfold zbs; rw [List.length_map]; rfl
theorem zbs_oct (s : ByteArray) : ∀ b ∈ zbs s, b < 256 := by
  intro b hb
  simp only [zbs, List.mem_map] at hb
  obtain ⟨u, _, rfl⟩ := hb
  exact u.toNat_lt
/-- []byte("..") of a row that is the call's own, with its bytes. -/
theorem conv_exact {W w : World} {c : List Nat} {g : Nat} {fz : Nat × Nat} (hW : W.heap.size ≤ g) (m : Moves [] W w) (hg : w.heap[g]? = some (.cells (c.map fun (b : Nat) => Value.int .u8 (b : Int)).toArray 5 fz)) :
    ∃ w', (convert 30 30 (.slice (some ⟨g, 0, none⟩) c.length c.length)).run Try.prog w = .ok (.slice (some ⟨g, 0, none⟩) c.length c.length) w' ∧ IsB w' g (.slice (some ⟨g, 0, none⟩) c.length c.length) c ∧ Moves [] W w' ∧ ∀ k, k ≠ g → w'.heap[k]? = w.heap[k]? := by
  have hsh : w.shape? g = some (5, c.length) := by unfold World.shape?; rw [hg]; simp
  have hlt : g < w.heap.size := (Array.getElem?_eq_some_iff.1 hg).1
  have hfr : ∃ f, (w.freeze ⟨g, c.length, none⟩ 1).heap[g]? = some (.cells (c.map fun (b : Nat) => Value.int .u8 (b : Int)).toArray 5 f) := by
    have h' : w.heap[g] = .cells (c.map fun (b : Nat) => Value.int .u8 (b : Int)).toArray 5 fz := by simpa [Array.getElem?_eq_getElem hlt] using hg
    show ∃ f, (Array.modify _ _ _)[g]? = _
    rw [Array.getElem?_eq_getElem (by simpa using hlt), Array.getElem_modify_self, h']
    exact ⟨_, rfl⟩
  have hne : ∀ k, k ≠ g → (w.freeze ⟨g, c.length, none⟩ 1).heap[k]? = w.heap[k]? := fun k hk => by
    show (Array.modify _ _ _)[k]? = _
    rw [Array.getElem?_modify, if_neg (fun e => hk e.symm)]
  refine ⟨w.freeze ⟨g, c.length, none⟩ 1, ?_, ?_, ?_, hne⟩
  · simp [convert, run_underlying Try.underlying30, run_underlying Try.underlying5, markStringish, hsh]
  · obtain ⟨f, hf⟩ := hfr
    refine ⟨_, _, _, rfl, rfl, Nat.le_refl _, fun h => by simp at h, .inr ⟨0, rfl, fun j b hj => ?_⟩⟩
    unfold World.cell?
    simp only [hf]
    simp [hj]
  · exact m.trans (T := [g]) ⟨rfl, rfl, rfl, by simp [World.freeze], fun k _ hn => hne k (by simpa using hn)⟩ (fun x hx => .inr (by simp at hx; omega))
end Go.Proofs.Ytedehhnhmkeglaa
/-
  Readers of bytes as plain functions: a number, one behind another; what is read of a beginning is read of the whole.
-/
namespace Go.Proofs.Ytedehhnhmkeglaa
open Go.RowKit

theorem zbs_strOf {bs : List Nat} (h : ∀ b ∈ bs, b < 256) : zbs (strOf bs) = bs := by
  unfold zbs strOf
  simp only [List.map_map]
  conv => rhs; rw [← List.map_id bs]
  exact List.map_congr_left fun b hb => UInt8.toNat_ofNat_of_lt (h b hb)
end Go.Proofs.Ytedehhnhmkeglaa
/-
  Arguments opened: integers, lists of integers, strings, lists of strings.
-/
namespace Go.Proofs.Ytedehhnhmkeglaa
open Go.RowKit
open Go.ChangeShapes Go.WideShapes

end Go.Proofs.Ytedehhnhmkeglaa
/-
  keep's Head and Row, book's Within, as plain functions.
-/
namespace Go.Proofs.Ytedehhnhmkeglaa
open Go.RowKit

end Go.Proofs.Ytedehhnhmkeglaa
/-
  Spans as plain data: Right, Has, Meet, Split, Join of two texts, and what follows of them.
-/
namespace Go.Proofs.Ytedehhnhmkeglaa
open Go.RowKit Go

end Go.Proofs.Ytedehhnhmkeglaa
/-
  Package span, and the document's own: Right, Has, Meet: for every two texts the call returns, and writes nothing that was there.
-/
namespace Go.Proofs.Ytedehhnhmkeglaa
open Go.RowKit

end Go.Proofs.Ytedehhnhmkeglaa
/-
  The document's own Right, Has, Meet of spans.
-/
namespace Go.Proofs.Ytedehhnhmkeglaa
open Go.RowKit

end Go.Proofs.Ytedehhnhmkeglaa
/-
  Split and Join of spans, the program's and the document's own.
-/
namespace Go.Proofs.Ytedehhnhmkeglaa
open Go.RowKit

end Go.Proofs.Ytedehhnhmkeglaa
/-
  Join of spans, the program's and the document's own.
-/
namespace Go.Proofs.Ytedehhnhmkeglaa
open Go.RowKit

end Go.Proofs.Ytedehhnhmkeglaa
/-
  Lists of spans, as plain data and as they lie; Cover.
-/
namespace Go.Proofs.Ytedehhnhmkeglaa
open Go.RowKit

end Go.Proofs.Ytedehhnhmkeglaa
/-
  The document's own Cover.
-/
namespace Go.Proofs.Ytedehhnhmkeglaa
open Go.RowKit

end Go.Proofs.Ytedehhnhmkeglaa
/-
  Apart of spans, the program's and the document's own.
-/
namespace Go.Proofs.Ytedehhnhmkeglaa
open Go.RowKit

end Go.Proofs.Ytedehhnhmkeglaa
/-
  The document's own Apart.
-/
namespace Go.Proofs.Ytedehhnhmkeglaa
open Go.RowKit

end Go.Proofs.Ytedehhnhmkeglaa
/-
  law7's known, made, two, lists: they return, two and lists and known true.
-/
namespace Go.Proofs.Ytedehhnhmkeglaa
open Go.RowKit

end Go.Proofs.Ytedehhnhmkeglaa
/-
  law7's two and made.
-/
namespace Go.Proofs.Ytedehhnhmkeglaa
open Go.RowKit

end Go.Proofs.Ytedehhnhmkeglaa
/-
  Lists of spans that the call itself makes: they grow by append.
-/
namespace Go.Proofs.Ytedehhnhmkeglaa
open Go.RowKit

end Go.Proofs.Ytedehhnhmkeglaa
/-
  What is split: plain facts; SpanSplits' walk.
-/
namespace Go.Proofs.Ytedehhnhmkeglaa
open Go.RowKit

end Go.Proofs.Ytedehhnhmkeglaa
/-
  What covers all: split, joined it covers all; each name is in just one; no two meet. Plain facts.
-/
namespace Go.Proofs.Ytedehhnhmkeglaa
open Go.RowKit

end Go.Proofs.Ytedehhnhmkeglaa
/-
  Lists of texts: as they are handed in, and of the call's own.
-/
namespace Go.Proofs.Ytedehhnhmkeglaa
open Go.RowKit
open Go.ChangeShapes Go.WideShapes

/-- These texts lie there, one behind the other. -/
def StrsAt (w : World) (ad : Option Addr) (ss : List ByteArray) : Prop := ∀ (k : Nat) s, ss[k]? = some s → ∃ g off, ad = some ⟨g, off, none⟩ ∧ w.cell? ⟨g, off + k, none⟩ = some (.string s)
/-- A list of texts of the call's own. -/
def OwnZ (w : World) (v : Value) (ss : List ByteArray) : Prop := w.ownsRow 0 9 1 v ss.length (ss.map Value.string)
theorem OwnZ.moves {w w' : World} {v : Value} {ss : List ByteArray} {S : List Nat} (h : OwnZ w v ss) (m : Moves S w w') (hg : ∀ k, v.ownBlock = some k → k ∉ S) : OwnZ w' v ss := by
  refine ⟨h.1, ?_⟩
  rcases h.2 with hn | ⟨g, cap, cur, rfl, hb, hgg, rest⟩
  · exact .inl hn
  · exact .inr ⟨g, cap, cur, rfl, hb, m.at hgg (hg g rfl), rest⟩
theorem OwnZ.at {w : World} {v : Value} {ss : List ByteArray} (h : OwnZ w v ss) : ∃ ad cap, v = .slice ad ss.length cap ∧ ss.length ≤ cap ∧ StrsAt w ad ss := by
  rcases h.2 with ⟨rfl, h0⟩ | ⟨g, cap, cur, rfl, hb, hgg, h1, h2, h3, h4⟩
  · have : ss = [] := List.eq_nil_of_length_eq_zero h0
    subst this
    exact ⟨none, 0, rfl, Nat.le_refl _, fun k s hs => by simp at hs⟩
  · refine ⟨_, cap, rfl, h1, fun k s hs => ?_⟩
    have hlt := (List.getElem?_eq_some_iff.1 hs).1
    have e1 : (ss.map Value.string)[k]? = some (.string s) := by rw [List.getElem?_map, hs]; rfl
    rw [← h4, List.getElem?_take, if_pos (by omega)] at e1
    exact ⟨g, 0, rfl, by simp only [World.cell?, hgg, Nat.zero_add]; simpa using e1⟩
theorem OwnZ.lt {w : World} {v : Value} {ss : List ByteArray} (h : OwnZ w v ss) {k : Nat} (hk : v.ownBlock = some k) : k < w.heap.size := (World.ownsRow.lt h k hk).2
theorem Try.info9 : (Try.prog.info? 9).map (fun i => (i.zero, i.size, i.bytes)) = some (some (.string ⟨#[]⟩), 1, 16) := by kernel_rfl

end Go.Proofs.Ytedehhnhmkeglaa
/-
  Arguments opened: a slice of bytes and a slice of things to be written or read, as the rows' reading finds them in memory.
-/
namespace Go.Proofs.Ytedehhnhmkeglaa
open Go.RowKit
open Go.ChangeShapes Go.WideShapes

end Go.Proofs.Ytedehhnhmkeglaa
/-
  What the document's own reading does: each method takes the bytes that the document says and returns what they stand for, or marks itself as bad; no other memory is written.
-/
namespace Go.Proofs.Ytedehhnhmkeglaa
open Go.RowKit

end Go.Proofs.Ytedehhnhmkeglaa
/-
  What the document's own reading of a Text does, and what 'rest' does where nothing can be read: it marks the document's Reader as bad.
-/
namespace Go.Proofs.Ytedehhnhmkeglaa
open Go.RowKit

end Go.Proofs.Ytedehhnhmkeglaa
/-
  What 'rest' does where the next thing cannot be read: it marks the document's Reader as bad.
-/
namespace Go.Proofs.Ytedehhnhmkeglaa
open Go.RowKit

end Go.Proofs.Ytedehhnhmkeglaa
/-
  Values as plain data: their order, by Kind, bytes and number; what it is an order by. Plain facts, no program in sight.
-/
namespace Go.Proofs.Ytedehhnhmkeglaa
open Go.RowKit

end Go.Proofs.Ytedehhnhmkeglaa
/-
  What bytes' comparison and package value's functions do: for every value the call returns, and writes nothing that was there.
-/
namespace Go.Proofs.Ytedehhnhmkeglaa
open Go.RowKit

end Go.Proofs.Ytedehhnhmkeglaa
/-
  What package value's Order and Same do: for every two values the call returns their order, and writes nothing that was there.
-/
namespace Go.Proofs.Ytedehhnhmkeglaa
open Go.RowKit

end Go.Proofs.Ytedehhnhmkeglaa
/-
  What package value's Canon, Plus and Right do: for every value the call returns what the chapter says, and writes nothing that was there.
-/
namespace Go.Proofs.Ytedehhnhmkeglaa
open Go.RowKit

@[go_sem] theorem run_store_flt {P : Program} (w : World) (a : Addr) (m : Mode) (k : FloatKind) (b : Nat) : (store a (.float k b) m).run P w = stored P w a (.float k b) m := run_store P w a _ m rfl

end Go.Proofs.Ytedehhnhmkeglaa
/-
  What package value's Plus and Right do: for every value the call returns what the chapter says, and writes nothing that was there.
-/
namespace Go.Proofs.Ytedehhnhmkeglaa
open Go.RowKit

end Go.Proofs.Ytedehhnhmkeglaa
/-
  What the drawn value and the law's own 'known' do: the call returns a value that may be, or true, and writes nothing that was there.
-/
namespace Go.Proofs.Ytedehhnhmkeglaa
open Go.RowKit

end Go.Proofs.Ytedehhnhmkeglaa
/-
  The contracts of values once more, told of by an elder world that the running one has grown out of.
-/
namespace Go.Proofs.Ytedehhnhmkeglaa
open Go.RowKit

end Go.Proofs.Ytedehhnhmkeglaa
/-
  A region that draws its order, by one condition that every operation keeps, whichever comes up: plain laws over the guide's own, no program in sight.
-/
namespace Go.Proofs.Ytedehhnhmkeglaa
open Go.RowKit

section
variable {P : Program} {ops : Array Oper} {Q : Exit → Act → World → Prop} {a0 : Act} {W : World} {n : Nat} {L C D : Nat → Nat} {T : TypeId} {Z : Array Value} {src : Nat → Value} {Res : Nat → Value → Array Value → Prop}

end
end Go.Proofs.Ytedehhnhmkeglaa
/-
  The operations of 'x1, .., xn := f1(y1), .., fn(yn)' over boxed values, each by what it does to a state and a world.
-/
namespace Go.Proofs.Ytedehhnhmkeglaa
open Go.RowKit

end Go.Proofs.Ytedehhnhmkeglaa
/-
  A drawn region whose last operation waits for all the others: the others in any order, then it. Plain laws, no program in sight.
-/
namespace Go.Proofs.Ytedehhnhmkeglaa
open Go.RowKit

end Go.Proofs.Ytedehhnhmkeglaa
