/-
  What the function that 'reads' hands to Read does, round by round: both readings agree, or the program's Reader leaves it where the document's would be bad.
-/
import Derived.Test.YtmcgjfnilmadoaaRest
namespace Go.Proofs.Ytmcgjfnilmadoaa
open Go.RowKit

/-- The state in which the function goes round: both Readers have bs still to read; 'same' is true; 'at' is k. -/
structure RInv (w0 wr : World) (p g ql qs qr qa q : Nat) (lv : Value) (bs : List Nat) (k : Nat) (fl : Bool) : Prop where
  rd : RdIs wr p g bs fl
  pv : wr.heap[p + 1]? = some (.cells #[.pointer (some ⟨p, 0, none⟩)] 41 (0, 0))
  hl : wr.heap[ql]? = some (.cells #[lv] 27 (0, 0))
  hs : wr.heap[qs]? = some (.cells #[.bool true] 4 (0, 0))
  hr : wr.heap[qr]? = some (.cells #[.pointer (some ⟨q, 0, none⟩)] 59 (0, 0))
  ha : wr.heap[qa]? = some (.cells #[.int .i64 (k : Int)] 3 (0, 0))
  rf : RfIs wr q g bs false
  mv : Moves [] w0 wr

/-- What the blocks' kinds tell apart. -/
theorem ne_of_kind {w : World} {a b : Nat} {c c' : Array Value} {t t' : TypeId} (h : w.heap[a]? = some (.cells c t (0, 0))) (h' : w.heap[b]? = some (.cells c' t' (0, 0))) (ht : t ≠ t') : a ≠ b := by
  intro e
  rw [e, h'] at h
  simp at h
  exact ht h.2.symm

structure Apart (p ql qs qr qa q : Nat) : Prop where
  pql : p ≠ ql
  pqs : p ≠ qs
  pqr : p ≠ qr
  pqa : p ≠ qa
  pq : p ≠ q
  vql : p + 1 ≠ ql
  vqs : p + 1 ≠ qs
  vqr : p + 1 ≠ qr
  vqa : p + 1 ≠ qa
  vq : p + 1 ≠ q
  ls : ql ≠ qs
  lr : ql ≠ qr
  la : ql ≠ qa
  lq : ql ≠ q
  sr : qs ≠ qr
  sa : qs ≠ qa
  sq : qs ≠ q
  ra : qr ≠ qa
  rq : qr ≠ q
  aq : qa ≠ q

theorem RInv.apart {w0 wr : World} {p g ql qs qr qa q : Nat} {lv : Value} {bs : List Nat} {k : Nat} {fl : Bool} (h : RInv w0 wr p g ql qs qr qa q lv bs k fl) : Apart p ql qs qr qa q := by
  obtain ⟨⟨v, hp, _⟩, hpv, hl, hs, hr, ha, ⟨v2, hq, _⟩, _⟩ := h
  exact ⟨ne_of_kind hp hl (by decide), ne_of_kind hp hs (by decide), ne_of_kind hp hr (by decide), ne_of_kind hp ha (by decide), ne_of_kind hp hq (by decide),
    ne_of_kind hpv hl (by decide), ne_of_kind hpv hs (by decide), ne_of_kind hpv hr (by decide), ne_of_kind hpv ha (by decide), ne_of_kind hpv hq (by decide),
    ne_of_kind hl hs (by decide), ne_of_kind hl hr (by decide), ne_of_kind hl ha (by decide), ne_of_kind hl hq (by decide),
    ne_of_kind hs hr (by decide), ne_of_kind hs ha (by decide), ne_of_kind hs hq (by decide), ne_of_kind hr ha (by decide), ne_of_kind hr hq (by decide), ne_of_kind ha hq (by decide)⟩

/-- The program's Reader has read, the document's too, the answer is stored. -/
theorem RInv.both {w0 wr w2 w3 : World} {p g ql qs qr qa q : Nat} {lv : Value} {bs bs' : List Nat} {k : Nat} (h : RInv w0 wr p g ql qs qr qa q lv bs k false) (hp : w0.heap.size ≤ p) (hq : w0.heap.size ≤ q) (hqs : w0.heap.size ≤ qs) (hgs : g ≠ qs)
    (r2 : RdIs w2 p g bs' false) (m2 : Moves [p] wr.drew w2) (r3 : RfIs w3 q g bs' false) (m3 : Moves [q] w2 w3) : RInv w0 (w3.setCell ⟨qs, 0, none⟩ (.bool true)) p g ql qs qr qa q lv bs' k false := by
  have A := h.apart
  have ms := moves_set w3 qs 0 (.bool true)
  have hgq : g ≠ q := by obtain ⟨_, _, _, h⟩ := r3; exact h
  have far : ∀ {x : Nat} {o : Obj}, wr.heap[x]? = some o → x ≠ p → x ≠ q → x ≠ qs → (w3.setCell ⟨qs, 0, none⟩ (.bool true)).heap[x]? = some o := fun {x o} hx h1 h2 h3 =>
    ms.at (m3.at (m2.at hx (by simpa using h1)) (by simpa using h2)) (by simpa using h3)
  refine ⟨(r2.moves m3 (by simpa using A.pq) (by simpa using hgq)).moves ms (by simpa using A.pqs) (by simpa using hgs), far h.pv (by omega) A.vq A.vqs, far h.hl A.pql.symm A.lq A.ls, ?_, far h.hr A.pqr.symm A.rq A.sr.symm, far h.ha A.pqa.symm A.aq A.sa.symm, r3.moves ms (by simpa using A.sq.symm) (by simpa using hgs), ?_⟩
  · exact one_setCell (m3.at (m2.at h.hs (by simpa using A.pqs.symm)) (by simpa using A.sq))
  · have a1 : Moves [] w0 w2 := h.mv.drew.trans m2 (fun x hx => .inr (by simp at hx; omega))
    have a2 : Moves [] w0 w3 := a1.trans m3 (fun x hx => .inr (by simp at hx; omega))
    exact a2.trans ms (fun x hx => .inr (by simp at hx; omega))

/-- 'at' goes on. -/
theorem RInv.at1 {w0 wr : World} {p g ql qs qr qa q : Nat} {lv : Value} {bs : List Nat} {k : Nat} (h : RInv w0 wr p g ql qs qr qa q lv bs k false) (hqa : w0.heap.size ≤ qa) (hga : g ≠ qa) (z : Int) (hz : z = ((k + 1 : Nat) : Int)) :
    RInv w0 (wr.setCell ⟨qa, 0, none⟩ (.int .i64 z)) p g ql qs qr qa q lv bs (k + 1) false := by
  subst hz
  have A := h.apart
  have ms := moves_set wr qa 0 (.int .i64 ((k + 1 : Nat) : Int))
  exact ⟨h.rd.moves ms (by simpa using A.pqa) (by simpa using hga), ms.at h.pv (by simpa using A.vqa), ms.at h.hl (by simpa using A.la), ms.at h.hs (by simpa using A.sa), ms.at h.hr (by simpa using A.ra), one_setCell h.ha,
    h.rf.moves ms (by simpa using A.aq.symm) (by simpa using hga), h.mv.trans ms (fun x hx => .inr (by simp at hx; omega))⟩

/-- 'same' is stored again. -/
theorem RInv.same1 {w0 wr : World} {p g ql qs qr qa q : Nat} {lv : Value} {bs : List Nat} {k : Nat} (h : RInv w0 wr p g ql qs qr qa q lv bs k false) (hqs : w0.heap.size ≤ qs) (hgs : g ≠ qs) :
    RInv w0 (wr.setCell ⟨qs, 0, none⟩ (.bool true)).drew p g ql qs qr qa q lv bs k false := by
  have A := h.apart
  have ms : Moves [qs] wr (wr.setCell ⟨qs, 0, none⟩ (.bool true)).drew := ((Moves.refl _ _).setCell (.inl (by simp)) _).drew
  have hd : (wr.setCell ⟨qs, 0, none⟩ (.bool true)).drew.heap[qs]? = some (.cells #[.bool true] 4 (0, 0)) := one_setCell h.hs
  exact ⟨h.rd.moves ms (by simpa using A.pqs) (by simpa using hgs), ms.at h.pv (by simpa using A.vqs), ms.at h.hl (by simpa using A.ls), hd, ms.at h.hr (by simpa using A.sr.symm), ms.at h.ha (by simpa using A.sa.symm),
    h.rf.moves ms (by simpa using A.sq.symm) (by simpa using hgs), h.mv.trans ms (fun x hx => .inr (by simp at hx; omega))⟩

/-- The program's Reader has failed. -/
theorem RInv.failed {w0 wr w2 : World} {p g ql qs qr qa q : Nat} {lv : Value} {bs : List Nat} {k : Nat} (h : RInv w0 wr p g ql qs qr qa q lv bs k false) (hp : w0.heap.size ≤ p) (r2 : RdIs w2 p g bs true) (m2 : Moves [p] wr w2) : RInv w0 w2 p g ql qs qr qa q lv bs k true := by
  have A := h.apart
  have hgp : g ≠ p := by obtain ⟨_, _, _, h⟩ := r2; exact h
  exact ⟨r2, m2.at h.pv (by simp), m2.at h.hl (by simpa using A.pql.symm), m2.at h.hs (by simpa using A.pqs.symm), m2.at h.hr (by simpa using A.pqr.symm), m2.at h.ha (by simpa using A.pqa.symm),
    h.rf.moves m2 (by simpa using A.pq.symm) (by simpa using hgp), h.mv.trans m2 (fun x hx => .inr (by simp at hx; omega))⟩

theorem S_set2 {w : World} {qs qr : Nat} {rv : Value} {t : Bool} (ht : t = true) (h1 : w.cell? ⟨qs, 0, none⟩ = some (.bool true)) (h2 : w.cell? ⟨qr, 0, none⟩ = some rv) (hr : qr ≠ qs) :
    (w.setCell ⟨qs, 0, none⟩ (.bool t)).cell? ⟨qs, 0, none⟩ = some (.bool true) ∧ (w.setCell ⟨qs, 0, none⟩ (.bool t)).cell? ⟨qr, 0, none⟩ = some rv :=
  let h := S_set ht h1 h2 h2 hr hr
  ⟨h.1, h.2.1⟩

end Go.Proofs.Ytmcgjfnilmadoaa
