/- ours -/
import Derived.Test.YtcngllcifcpbkaaGreatCChg0
import Derived.Test.YtcngllcifcpbkaaGreatCRow12
/-
 Package change: rightList, add, apply, Apply: for every row and all changes the calls return what the chapter says, and write nothing that was there.
-/
namespace Go.Proofs.YtcngllcifcpbkaaGreat
open Go.RowKit

def cListE (cs : List Pchg) : Int := if 8 < cs.length then 3 else ((cs.map cRight).find? (fun e => e != 0)).getD 0
theorem cListE_upto {cs : List Pchg} {k : Nat} (hl : ¬ 8 < cs.length) (h : ∀ j c, j < k → cs[j]? = some c → cRight c = 0) : (∀ c, cs[k]? = some c → cRight c ≠ 0 → cListE cs = cRight c) ∧ (k = cs.length → cListE cs = 0) := by
 unfold cListE
 rw [if_neg hl]
 clear hl
 induction cs generalizing k with
 | nil => exact ⟨fun c hc => by simp at hc, fun _ => rfl⟩
 | cons a t ih =>
  cases k with
  | zero =>
   refine ⟨fun c hc h0 => ?_, fun h => by simp at h⟩
   simp at hc
   subst hc
   simp [h0]
  | succ k =>
   have ha := h 0 a (by omega) rfl
   obtain ⟨h1, h2⟩ := ih (k := k) fun j c hj hc => h (j + 1) c (by omega) (by simpa using hc)
   refine ⟨fun c hc h0 => ?_, fun hk => ?_⟩
   ·have := h1 c (by simpa using hc) h0
    simpa [ha] using this
   ·have := h2 (by simpa using hk)
    simpa [ha] using this

def negZ : Nat := 9223372036854775808
def pPlusE (p q : Pv) : Int := if p.kind = 2 ∧ q.kind = 2 then 0 else 24
def pPlus (p q : Pv) : Pv := if p.kind = 2 ∧ q.kind = 2 then ⟨2, [], Pl.sum p.n q.n⟩ else ⟨0, [], 0⟩
def cOld (R : List Pcol) (s : ByteArray) : Pv := (pAt R s 1099511627776).getD ⟨2, [], negZ⟩
def cAddE (R : List Pcol) (c : Pchg) : Int := if pPlusE (cOld R c.col) c.v = 0 then pPutE R c.col c.t (pPlus (cOld R c.col) c.v) else pPlusE (cOld R c.col) c.v
def cAdd (R : List Pcol) (c : Pchg) : List Pcol := if pPlusE (cOld R c.col) c.v = 0 then pPut R c.col c.t (pPlus (cOld R c.col) c.v) else []
def cApE (R : List Pcol) (c : Pchg) : Int := if c.kind = 1 then pPutE R c.col c.t c.v else if c.kind = 5 then cAddE R c else 0
def cAp (R : List Pcol) (c : Pchg) : List Pcol := if c.kind = 1 then pPut R c.col c.t c.v else if c.kind = 2 then pDrop R c.col c.t else if c.kind = 3 then pDropCol R c.col else if c.kind = 5 then cAdd R c else []
def cFold : List Pchg → List Pcol → Int × List Pcol
 | [], R => (0, R)
 | c :: cs, R => if cApE R c = 0 then cFold cs (cAp R c) else (cApE R c, [])
def cApplyE (R : List Pcol) (cs : List Pchg) : Int := if cListE cs = 0 then (cFold cs (pcopy R)).1 else cListE cs
def cApply (R : List Pcol) (cs : List Pchg) : List Pcol := if cListE cs = 0 then (cFold cs (pcopy R)).2 else []

theorem VC.negZ (w : World) : VC w [.int .i64 2, .slice none 0 0, .float .f64 9223372036854775808] ⟨2, [], Go.Proofs.YtcngllcifcpbkaaGreat.negZ⟩ := ⟨none, 0, 0, 0, rfl, isB_nil _ _, by unfold Pl.Fits Go.Proofs.YtcngllcifcpbkaaGreat.negZ; decide, by simp, by simp, .inl rfl⟩
end Go.Proofs.YtcngllcifcpbkaaGreat
/-
 Package change: add, apply, Apply.
-/
namespace Go.Proofs.YtcngllcifcpbkaaGreat
open Go.RowKit

end Go.Proofs.YtcngllcifcpbkaaGreat
/-
 Package change: Apply: for every row and every list of changes the call returns what the chapter says, and writes nothing that was there.
-/
namespace Go.Proofs.YtcngllcifcpbkaaGreat
open Go.RowKit

theorem cFold_nil (R : List Pcol) : cFold [] R = (0, R) := rfl
theorem cFold_cons (c : Pchg) (cs : List Pchg) (R : List Pcol) : cFold (c :: cs) R = if cApE R c = 0 then cFold cs (cAp R c) else (cApE R c, []) := rfl
theorem cRight_kind {c : Pchg} (h : cRight c = 0) : 1 ≤ c.kind ∧ c.kind ≤ 5 := by
 unfold cRight at h
 by_cases hk : ¬ (1 ≤ c.kind ∧ c.kind ≤ 5)
 ·rw [if_pos hk] at h
  simp at h
 ·simpa using hk
theorem cListE_all {cs : List Pchg} (h : cListE cs = 0) : cs.length ≤ 8 ∧ ∀ c ∈ cs, cRight c = 0 := by
 unfold cListE at h
 by_cases h8 : 8 < cs.length
 ·rw [if_pos h8] at h
  simp at h
 ·rw [if_neg h8] at h
  refine ⟨by omega, fun c hc => ?_⟩
  cases hf : (cs.map cRight).find? (fun e => e != 0) with
  | none =>
   have := List.find?_eq_none.1 hf (cRight c) (List.mem_map.2 ⟨c, hc, rfl⟩)
   simpa using this
  | some e =>
   rw [hf] at h
   have := List.find?_some hf
   simp at h this
   exact absurd h this

end Go.Proofs.YtcngllcifcpbkaaGreat
