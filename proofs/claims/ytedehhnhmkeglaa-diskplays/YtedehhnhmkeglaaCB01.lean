/-
  Read, ReadW, Known, Back1, Li0, Par0, Open0, Kp0, Sp0, Sp1, Sp2, Sp3, Sp4, Sp5, Sp6, Sp7, Sp8, Sp9, Sp10, Sp11, SpS, SpV, SpZ: our texts of these names, laid into one.
-/
import Derived.Test.YtedehhnhmkeglaaCB00
import Derived.Recover
import Derived.LaidEqlPtr
import Derived.Deep.RegionWith
import Derived.Deep.RegionHeld3
import Derived.Sort.Walk0
import Derived.Laws.CopyRow
import Derived.Lib.ConvBytes
import Derived.Deep.Slices
import Derived.Deep.Fields
import Derived.ChangeShapes
import Derived.WalkLawsBesides
/-
  What Read does: it calls its function once with a Reader of the bytes, closes the Reader behind it, and returns whether all bytes were taken; where the Reader's own panic left the function it returns false.
-/
namespace Go.Proofs.Ytedehhnhmkeglaa
open Go.RowKit

end Go.Proofs.Ytedehhnhmkeglaa
/-
  What Read does, whatever its function: where the function comes to its end, Read returns whether all bytes were taken; where the Reader's own panic left it, false. Behind it nothing is written but the Reader.
-/
namespace Go.Proofs.Ytedehhnhmkeglaa
open Go.RowKit

end Go.Proofs.Ytedehhnhmkeglaa
/-
  What 'known' does: it returns true, and writes nothing that was there.
-/
namespace Go.Proofs.Ytedehhnhmkeglaa
open Go.RowKit

/-- The bytes as a string. -/
def strOf (bs : List Nat) : ByteArray := ⟨(bs.map UInt8.ofNat).toArray⟩

theorem run_str {w : World} {g : Nat} {v : Value} {bs : List Nat} (h : IsB w g v bs) (ho : ∀ b ∈ bs, b < 256) : (convert 30 9 v).run Try.prog w = .ok (.string (strOf bs)) w := by
  obtain ⟨ad, n, cap, rfl, hn, hc, ha, hh⟩ := h
  rcases hh with rfl | ⟨off, rfl, hcell⟩
  · simp at hn
    subst hn
    cases ad with
    | none =>
      rw [run_convert_bytes_string w 30 9 5 none 0 cap Try.underlying30 Try.underlying5 Try.underlying9]
      rfl
    | some a =>
      have := run_convert_bytes_back (P := Try.prog) w 30 9 5 a cap [] Try.underlying30 Try.underlying5 Try.underlying9 (fun j hj => by simp at hj)
      exact this
  · have := run_convert_bytes_back (P := Try.prog) w 30 9 5 ⟨g, off, none⟩ cap (bs.map UInt8.ofNat) Try.underlying30 Try.underlying5 Try.underlying9 (fun j hj => by
      have hj' : j < bs.length := by simpa using hj
      have h1 := hcell j bs[j] (by simp)
      have e : (⟨g, off, none⟩ : Addr).add j = ⟨g, off + j, none⟩ := by unfold Addr.add; split <;> simp_all
      have h2 := ho bs[j] (List.getElem_mem hj')
      have e2 : (bs.map UInt8.ofNat)[j].toNat = bs[j] := by
        rw [List.getElem_map]
        exact UInt8.toNat_ofNat_of_lt h2
      rw [e, h1, e2])
    rw [List.length_map, hn] at this
    exact this

end Go.Proofs.Ytedehhnhmkeglaa
/-
  What the function that OctetBack hands to Read does: it reads all that was written, finds it the same, and nothing is left.
-/
namespace Go.Proofs.Ytedehhnhmkeglaa
open Go.RowKit

theorem Moves.cellOf {S : List Nat} {w w' : World} (m : Moves S w w') {a : Addr} {v : Value} (h : w.cell? a = some v) (ha : a.block ∉ S) : w'.cell? a = some v :=
  (World.cell?_of_block (w := w) (m.block a.block (lt_of_cell h) ha)).trans h

end Go.Proofs.Ytedehhnhmkeglaa
/-
  Lists of one's own, of elements of any size: how they lie, how they grow; what stays; texts as bytes. Plain laws, no program in sight but for the numbers of its types.
-/
namespace Go.Proofs.Ytedehhnhmkeglaa
open Go.RowKit

/-- Two lists, element by element. -/
def All2 {α β : Type} (R : α → β → Prop) : List α → List β → Prop
  | [], [] => True
  | a :: s, b :: t => R a b ∧ All2 R s t
  | _, _ => False

theorem All2.length {α β : Type} {R : α → β → Prop} : ∀ {s : List α} {t : List β}, All2 R s t → s.length = t.length
  | [], [], _ => rfl
  | _ :: _, _ :: _, h => by simp [All2.length h.2]
  | [], _ :: _, h => h.elim
  | _ :: _, [], h => h.elim
theorem All2.get {α β : Type} {R : α → β → Prop} : ∀ {s : List α} {t : List β}, All2 R s t → ∀ {k : Nat} {b : β}, t[k]? = some b → ∃ a, s[k]? = some a ∧ R a b
  | [], [], _, _, _, hk => by simp at hk
  | a :: _, _ :: _, h, 0, _, hk => by simp at hk; subst hk; exact ⟨a, rfl, h.1⟩
  | _ :: s, _ :: t, h, k + 1, b, hk => by
    obtain ⟨a, h1, h2⟩ := All2.get h.2 (k := k) (b := b) (by simpa using hk)
    exact ⟨a, by simpa using h1, h2⟩
  | [], _ :: _, h, _, _, _ => h.elim
  | _ :: _, [], h, _, _, _ => h.elim
theorem All2.mono {α β : Type} {R S : α → β → Prop} (hRS : ∀ a b, R a b → S a b) : ∀ {s : List α} {t : List β}, All2 R s t → All2 S s t
  | [], [], _ => trivial
  | _ :: _, _ :: _, h => ⟨hRS _ _ h.1, All2.mono hRS h.2⟩
  | [], _ :: _, h => h.elim
  | _ :: _, [], h => h.elim
theorem All2.append {α β : Type} {R : α → β → Prop} : ∀ {s : List α} {t : List β} {s' : List α} {t' : List β}, All2 R s t → All2 R s' t' → All2 R (s ++ s') (t ++ t')
  | [], [], _, _, _, h => h
  | _ :: _, _ :: _, _, _, h, k => ⟨h.1, All2.append h.2 k⟩
  | [], _ :: _, _, _, h, _ => h.elim
  | _ :: _, [], _, _, h, _ => h.elim
theorem All2.mem {α β : Type} {R : α → β → Prop} {p : α → Prop} (hp : ∀ a b, R a b → p a) : ∀ {s : List α} {t : List β}, All2 R s t → ∀ a ∈ s, p a
  | [], [], _, a, ha => by simp at ha
  | x :: s, _ :: _, h, a, ha => by
    rcases List.mem_cons.1 ha with rfl | ha
    · exact hp _ _ h.1
    · exact All2.mem hp h.2 a ha
  | [], _ :: _, h, _, _ => h.elim
  | _ :: _, [], h, _, _ => h.elim

theorem one_cell {w : World} {p : Nat} {a : Value} {t : TypeId} (h : w.heap[p]? = some (.cells #[a] t (0, 0))) : w.cell? ⟨p, 0, none⟩ = some a ∧ w.frozen? ⟨p, 0, none⟩ = false := by
  simp [World.cell?, World.frozen?, h]
theorem set_one {w : World} {p : Nat} {a : Value} {t : TypeId} (h : w.heap[p]? = some (.cells #[a] t (0, 0))) (u : Value) : (w.setCell ⟨p, 0, none⟩ u).heap[p]? = some (.cells #[u] t (0, 0)) := heap_set (i := 0) h u
/-- The bytes of a text. -/
def zbs (s : ByteArray) : List Nat := s.data.toList.map UInt8.toNat
theorem zbs_length (s : ByteArray) : (zbs s).length = s.size := by unfold zbs; rw [List.length_map]; rfl
theorem zbs_oct (s : ByteArray) : ∀ b ∈ zbs s, b < 256 := by
  intro b hb
  simp only [zbs, List.mem_map] at hb
  obtain ⟨u, _, rfl⟩ := hb
  exact u.toNat_lt
/-- []byte("..") of a row that is the call's own, with its bytes. -/
theorem conv_exact {W w : World} {c : List Nat} {g : Nat} {fz : Nat × Nat} (hW : W.heap.size ≤ g) (m : Moves [] W w) (hg : w.heap[g]? = some (.cells (c.map fun (b : Nat) => Value.int .u8 (b : Int)).toArray 5 fz)) :
    ∃ w', (convert 30 30 (.slice (some ⟨g, 0, none⟩) c.length c.length)).run Try.prog w = .ok (.slice (some ⟨g, 0, none⟩) c.length c.length) w' ∧ IsB w' g (.slice (some ⟨g, 0, none⟩) c.length c.length) c ∧ Moves [] W w' ∧ ∀ k, k ≠ g → w'.heap[k]? = w.heap[k]? := by
  have hsh : w.shape? g = some (5, c.length) := by unfold World.shape?; rw [hg]; simp
  have hlt : g < w.heap.size := (Array.getElem?_eq_some_iff.1 hg).1
  have hfr : ∃ f, (w.freeze ⟨g, c.length, none⟩ 1).heap[g]? = some (.cells (c.map fun (b : Nat) => Value.int .u8 (b : Int)).toArray 5 f) := by
    have h' : w.heap[g] = .cells (c.map fun (b : Nat) => Value.int .u8 (b : Int)).toArray 5 fz := by simpa [Array.getElem?_eq_getElem hlt] using hg
    show ∃ f, (Array.modify _ _ _)[g]? = _
    rw [Array.getElem?_eq_getElem (by simpa using hlt), Array.getElem_modify_self, h']
    exact ⟨_, rfl⟩
  have hne : ∀ k, k ≠ g → (w.freeze ⟨g, c.length, none⟩ 1).heap[k]? = w.heap[k]? := fun k hk => by
    show (Array.modify _ _ _)[k]? = _
    rw [Array.getElem?_modify, if_neg (fun e => hk e.symm)]
  refine ⟨w.freeze ⟨g, c.length, none⟩ 1, ?_, ?_, ?_, hne⟩
  · simp [convert, run_underlying Try.underlying30, run_underlying Try.underlying5, markStringish, hsh]
  · obtain ⟨f, hf⟩ := hfr
    refine ⟨_, _, _, rfl, rfl, Nat.le_refl _, fun h => by simp at h, .inr ⟨0, rfl, fun j b hj => ?_⟩⟩
    unfold World.cell?
    simp only [hf]
    simp [hj]
  · exact m.trans (T := [g]) ⟨rfl, rfl, rfl, by simp [World.freeze], fun k _ hn => hne k (by simpa using hn)⟩ (fun x hx => .inr (by simp at hx; omega))
end Go.Proofs.Ytedehhnhmkeglaa
/-
  Readers of bytes as plain functions: a number, one behind another; what is read of a beginning is read of the whole.
-/
namespace Go.Proofs.Ytedehhnhmkeglaa
open Go.RowKit

theorem zbs_strOf {bs : List Nat} (h : ∀ b ∈ bs, b < 256) : zbs (strOf bs) = bs := by
  unfold zbs strOf
  simp only [List.map_map]
  conv => rhs; rw [← List.map_id bs]
  exact List.map_congr_left fun b hb => UInt8.toNat_ofNat_of_lt (h b hb)
end Go.Proofs.Ytedehhnhmkeglaa
/-
  Arguments opened: integers, lists of integers, strings, lists of strings.
-/
namespace Go.Proofs.Ytedehhnhmkeglaa
open Go.RowKit
open Go.ChangeShapes Go.WideShapes

/-- Element i of a list of structs. -/
theorem struct_cells {W : World} {base i sz : Nat} {ad : Addr} {cs0 cs' : List Value} (hsz : 0 < sz) (h0 : W.cells? base (ad.add (0 * sz)) sz = some cs0) (h1 : W.cells? base (ad.add (i * sz)) sz = some cs') : ∃ b off, ad = ⟨b, off, none⟩ ∧ cs'.length = sz ∧ ∀ j u, cs'[j]? = some u → W.cell? ⟨b, off + i * sz + j, none⟩ = some u := by
  obtain ⟨_, hlen, hcell⟩ := World.cells?_some h1
  have hsp : ad.spot = none := by
    obtain ⟨_, hlen, hcell⟩ := World.cells?_some h0
    have e0 := hcell 0 hsz
    cases cs0 with
    | nil => simp at hlen; omega
    | cons v t =>
      have := World.cell?_spot e0
      simpa [Addr.add] using this
  obtain ⟨b, off, spot⟩ := ad
  simp at hsp
  subst hsp
  refine ⟨b, off, rfl, hlen, fun j u hj => ?_⟩
  have hjl : j < sz := by
    have := (List.getElem?_eq_some_iff.1 hj).1
    omega
  have e := hcell j hjl
  rw [Go.Deep.add_add] at e
  have ea : (⟨b, off, none⟩ : Addr).add (i * sz + j) = ⟨b, off + i * sz + j, none⟩ := by
    unfold Addr.add; split <;> simp_all [Nat.add_assoc]
  rw [ea, hj] at e
  exact e

end Go.Proofs.Ytedehhnhmkeglaa
/-
  keep's Head and Row, book's Within, as plain functions.
-/
namespace Go.Proofs.Ytedehhnhmkeglaa
open Go.RowKit

end Go.Proofs.Ytedehhnhmkeglaa
/-
  Spans as plain data: Right, Has, Meet, Split, Join of two texts, and what follows of them.
-/
namespace Go.Proofs.Ytedehhnhmkeglaa
open Go.RowKit Go

end Go.Proofs.Ytedehhnhmkeglaa
/-
  Package span, and the document's own: Right, Has, Meet: for every two texts the call returns, and writes nothing that was there.
-/
namespace Go.Proofs.Ytedehhnhmkeglaa
open Go.RowKit

end Go.Proofs.Ytedehhnhmkeglaa
/-
  The document's own Right, Has, Meet of spans.
-/
namespace Go.Proofs.Ytedehhnhmkeglaa
open Go.RowKit

end Go.Proofs.Ytedehhnhmkeglaa
/-
  Split and Join of spans, the program's and the document's own.
-/
namespace Go.Proofs.Ytedehhnhmkeglaa
open Go.RowKit

end Go.Proofs.Ytedehhnhmkeglaa
/-
  Join of spans, the program's and the document's own.
-/
namespace Go.Proofs.Ytedehhnhmkeglaa
open Go.RowKit

end Go.Proofs.Ytedehhnhmkeglaa
/-
  Lists of spans, as plain data and as they lie; Cover.
-/
namespace Go.Proofs.Ytedehhnhmkeglaa
open Go.RowKit

end Go.Proofs.Ytedehhnhmkeglaa
/-
  The document's own Cover.
-/
namespace Go.Proofs.Ytedehhnhmkeglaa
open Go.RowKit

end Go.Proofs.Ytedehhnhmkeglaa
/-
  Apart of spans, the program's and the document's own.
-/
namespace Go.Proofs.Ytedehhnhmkeglaa
open Go.RowKit

end Go.Proofs.Ytedehhnhmkeglaa
/-
  The document's own Apart.
-/
namespace Go.Proofs.Ytedehhnhmkeglaa
open Go.RowKit

end Go.Proofs.Ytedehhnhmkeglaa
/-
  law7's known, made, two, lists: they return, two and lists and known true.
-/
namespace Go.Proofs.Ytedehhnhmkeglaa
open Go.RowKit

end Go.Proofs.Ytedehhnhmkeglaa
/-
  law7's two and made.
-/
namespace Go.Proofs.Ytedehhnhmkeglaa
open Go.RowKit

end Go.Proofs.Ytedehhnhmkeglaa
/-
  Lists of spans that the call itself makes: they grow by append.
-/
namespace Go.Proofs.Ytedehhnhmkeglaa
open Go.RowKit

end Go.Proofs.Ytedehhnhmkeglaa
/-
  What is split: plain facts; SpanSplits' walk.
-/
namespace Go.Proofs.Ytedehhnhmkeglaa
open Go.RowKit

end Go.Proofs.Ytedehhnhmkeglaa
/-
  What covers all: split, joined it covers all; each name is in just one; no two meet. Plain facts.
-/
namespace Go.Proofs.Ytedehhnhmkeglaa
open Go.RowKit

end Go.Proofs.Ytedehhnhmkeglaa
/-
  Lists of texts: as they are handed in, and of the call's own.
-/
namespace Go.Proofs.Ytedehhnhmkeglaa
open Go.RowKit
open Go.ChangeShapes Go.WideShapes

/-- These texts lie there, one behind the other. -/
def StrsAt (w : World) (ad : Option Addr) (ss : List ByteArray) : Prop := ∀ (k : Nat) s, ss[k]? = some s → ∃ g off, ad = some ⟨g, off, none⟩ ∧ w.cell? ⟨g, off + k, none⟩ = some (.string s)
theorem StrsAt.moves {w w' : World} {ad : Option Addr} {ss : List ByteArray} (h : StrsAt w ad ss) (m : Moves [] w w') : StrsAt w' ad ss := by
  intro k s hs
  obtain ⟨g, off, h1, h2⟩ := h k s hs
  exact ⟨g, off, h1, m.cell h2⟩
/-- A list of texts of the call's own. -/
def OwnZ (w : World) (v : Value) (ss : List ByteArray) : Prop := w.ownsRow 0 9 1 v ss.length (ss.map Value.string)
theorem OwnZ.empty {w : World} {g : Nat} (h : w.heap[g]? = some (.cells #[] 9 (0, 0))) : OwnZ w (.slice (some ⟨g, 0, none⟩) 0 0) [] := by
  unfold OwnZ
  refine ⟨by simp, .inr ⟨g, 0, #[], rfl, Nat.zero_le _, h, Nat.le_refl _, by simp [maxLen], by simp, by simp⟩⟩
theorem OwnZ.moves {w w' : World} {v : Value} {ss : List ByteArray} {S : List Nat} (h : OwnZ w v ss) (m : Moves S w w') (hg : ∀ k, v.ownBlock = some k → k ∉ S) : OwnZ w' v ss := by
  refine ⟨h.1, ?_⟩
  rcases h.2 with hn | ⟨g, cap, cur, rfl, hb, hgg, rest⟩
  · exact .inl hn
  · exact .inr ⟨g, cap, cur, rfl, hb, m.at hgg (hg g rfl), rest⟩
theorem OwnZ.at {w : World} {v : Value} {ss : List ByteArray} (h : OwnZ w v ss) : ∃ ad cap, v = .slice ad ss.length cap ∧ ss.length ≤ cap ∧ StrsAt w ad ss := by
  rcases h.2 with ⟨rfl, h0⟩ | ⟨g, cap, cur, rfl, hb, hgg, h1, h2, h3, h4⟩
  · have : ss = [] := List.eq_nil_of_length_eq_zero h0
    subst this
    exact ⟨none, 0, rfl, Nat.le_refl _, fun k s hs => by simp at hs⟩
  · refine ⟨_, cap, rfl, h1, fun k s hs => ?_⟩
    have hlt := (List.getElem?_eq_some_iff.1 hs).1
    have e1 : (ss.map Value.string)[k]? = some (.string s) := by rw [List.getElem?_map, hs]; rfl
    rw [← h4, List.getElem?_take, if_pos (by omega)] at e1
    exact ⟨g, 0, rfl, by simp only [World.cell?, hgg, Nat.zero_add]; simpa using e1⟩
theorem OwnZ.lt {w : World} {v : Value} {ss : List ByteArray} (h : OwnZ w v ss) {k : Nat} (hk : v.ownBlock = some k) : k < w.heap.size := (World.ownsRow.lt h k hk).2
theorem Try.info9 : (Try.prog.info? 9).map (fun i => (i.zero, i.size, i.bytes)) = some (some (.string ⟨#[]⟩), 1, 16) := by kernel_rfl

/-- append to a list of the call's own, whatever is appended. -/
theorem strs_append {ops : Array Oper} {rest : List Oper} {o : Oper} {a : Act} {Q : Exit → Act → World → Prop} {w : World} (s x : Operand)
    (ho : o.op = .call { callee := .builtin .append, args := #[s, x], argTypes := #[37, 37] })
    (v : Value) (ad : Option Addr) (n cap : Nat) (xs ys : List ByteArray) (hs : a.eval s = v) (hx : a.eval x = .slice ad n cap) (hw : Region.wanted o (yielded ops a.tmps) = true)
    (hv : OwnZ w v xs) (hc : StrsAt w ad ys) (hn : n = ys.length) (hnil : ad = none → cap = 0) (hb : xs.length + ys.length ≤ 1000000)
    (h : ∀ v' w', OwnZ w' v' (xs ++ ys) → Moves v.ownBlock.toList w w' → Lain w v v' → wpList Try.prog ops Q rest (a.put o.dst v') w') :
    wpList Try.prog ops Q (o :: rest) a w := by
  refine wpList_wanted hw ?_
  obtain ⟨i0, hi, hz0, hz1, hz2⟩ := info_parts Try.info9
  have fin : ∀ v' w', w'.ownsRow 0 9 1 v' (xs.length + ys.length) (xs.map Value.string ++ ys.map Value.string) → w.grownBy w' v.ownBlock → Lain w v v' → wpList Try.prog ops Q rest (a.put o.dst v') w' := by
    intro v' w' h1 h2 h3
    refine h v' w' ?_ ?_ h3
    · unfold OwnZ; rw [List.map_append, List.length_append]; exact h1
    · exact (Moves.refl _ _).grown h2 (fun k hk => .inl (by rw [hk]; simp))
  cases ad with
  | none =>
    have hys : ys = [] := by
      cases ys with
      | nil => rfl
      | cons y t => obtain ⟨_, _, h1, _⟩ := hc 0 y rfl; simp at h1
    subst hys
    obtain rfl : cap = 0 := hnil rfl
    simp at hn
    subst hn
    refine wpList_append_own_none rfl s x 37 ho 0 9 i0 1 Try.underlying37 hi v xs.length (xs.map Value.string) hs hv hx ?_
    exact fin v w (by simpa [OwnZ] using hv) (World.grownBy.refl _ _) (.inl rfl)
  | some y =>
    refine wpList_append_own_at _ rfl s x 37 ho 0 9 i0 (.string ⟨#[]⟩) 1 16 Try.underlying37 hi hz0 hz1 hz2 rfl (by decide) v xs.length (xs.map Value.string) hs hv y ys.length cap (ys.map Value.string) (by rw [hx, hn]) (by simp) ?_ (fun u hu => by simp only [List.mem_map] at hu; obtain ⟨b, _, rfl⟩ := hu; rfl) (by unfold maxLen; omega) (by omega) (by simp) ?_
    · intro j u hj
      simp only [List.getElem?_map, Option.map_eq_some_iff] at hj
      obtain ⟨z, hz, rfl⟩ := hj
      obtain ⟨g, off, e1, e2⟩ := hc j z hz
      simp only [Option.some.injEq] at e1
      subst e1
      have e : (⟨g, off, none⟩ : Addr).add j = ⟨g, off + j, none⟩ := by unfold Addr.add; split <;> simp_all
      rw [e]; exact e2
    · intro v' w' h1 h2 _ h4
      exact fin v' w' h1 h2 h4

end Go.Proofs.Ytedehhnhmkeglaa
