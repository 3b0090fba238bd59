/-
  Answers as plain data, how they lie in memory; as bytes, there and back.
-/
import Derived.Test.YtfhdodopjgfedaaGreatCTT6
import Derived.Test.YtfhdodopjgfedaaGreatCTW6
import Derived.Test.YtfhdodopjgfedaaGreatCSp12
import Derived.Test.YtfhdodopjgfedaaGreatCPar0
namespace Go.Proofs.YtfhdodopjgfedaaGreat
open Go.RowKit

structure Pans where
  code : Int
  rows : List Pnam
  lo : ByteArray
  hi : ByteArray
  grp : Int
  gen : Int
  old : Int
  to : Int
  act : Int
  at' : ByteArray
  st : List Nat
/-- The cells of an answer. -/
def AnsC (w : World) (c : List Value) (p : Pans) : Prop := ∃ ar nr cr sa ns cs g, c = [.int .i64 p.code, .slice ar nr cr, .string p.lo, .string p.hi, .int .i64 p.grp, .int .i64 p.gen, .int .i64 p.old, .int .i64 p.to, .int .i64 p.act, .string p.at', .slice sa ns cs] ∧ NamsAt w (.slice ar nr cr) p.rows ∧ IsB w g (.slice sa ns cs) p.st ∧ U8 w g p.st ∧ (∀ z ∈ p.st, z < 256)
theorem AnsC.moves {w w' : World} (m : Moves [] w w') {c : List Value} {p : Pans} (h : AnsC w c p) : AnsC w' c p := by
  obtain ⟨ar, nr, cr, sa, ns, cs, g, e, h1, h2, h3, h4⟩ := h
  obtain ⟨k1, k2⟩ := h2.stay (T := fun _ => True) (Stay.ofMoves m) trivial h3
  exact ⟨ar, nr, cr, sa, ns, cs, g, e, h1.moves m, k1, k2, h4⟩

def wi (n a b : Int) : Bool := decide (a ≤ n) && decide (n ≤ b)
theorem wi_iff {n a b : Int} : wi n a b = true ↔ a ≤ n ∧ n ≤ b := by simp [wi]
def rRow (x : Pnam) : Bool := pname x.name && pright x.r
def rRows (xs : List Pnam) : Bool := decide (xs.length ≤ 16) && xs.all rRow
def rPlace (s : ByteArray) : Bool := decide (s.size ≤ 16)
/-- May it be written? -/
def rAns (p : Pans) : Bool := wi p.code 0 255 && (rRows p.rows && (spR ⟨p.lo, p.hi⟩ && (wi p.grp 0 255 && (wi p.to 0 255 && (wi p.act 0 255 && (wi p.gen 0 1073741824 && (wi p.old 0 1073741824 && (rPlace p.at' && decide (p.st.length ≤ 1048576)))))))))
theorem rAns_iff {p : Pans} : rAns p = true ↔ wi p.code 0 255 = true ∧ rRows p.rows = true ∧ spR ⟨p.lo, p.hi⟩ = true ∧ wi p.grp 0 255 = true ∧ wi p.to 0 255 = true ∧ wi p.act 0 255 = true ∧ wi p.gen 0 1073741824 = true ∧ wi p.old 0 1073741824 = true ∧ rPlace p.at' = true ∧ p.st.length ≤ 1048576 := by
  unfold rAns
  simp only [Bool.and_eq_true, decide_eq_true_eq]

/-- As bytes. -/
def encX (s : ByteArray) : List Nat := be 4 s.size ++ zbs s
def encA (p : Pans) : List Nat := [p.code.toNat] ++ ([p.rows.length] ++ (encNs p.rows ++ (encX p.lo ++ (encX p.hi ++ ([p.grp.toNat] ++ ([p.to.toNat] ++ ([p.act.toNat] ++ (be 4 p.gen.toNat ++ (be 4 p.old.toNat ++ (encX p.at' ++ (be 4 p.st.length ++ p.st)))))))))))

/-- What is read. -/
def dSpan : List Nat → Option (Psp × List Nat) := pbn (dText 16) fun lo => pbn (dText 16) fun hi => fun bs => if spR ⟨strOf lo, strOf hi⟩ then some (⟨strOf lo, strOf hi⟩, bs) else none
def dAns : List Nat → Option (Pans × List Nat) :=
  pbn (dNum 1) fun code => pbn (dNum 1) fun n => pbn (iter dNam n) fun xs => pbn dSpan fun s => pbn (dNum 1) fun g => pbn (dNum 1) fun to => pbn (dNum 1) fun act => pbn (dNum 4) fun gen => pbn (dNum 4) fun old => pbn (dText 16) fun at' => pbn (dText 1048576) fun st => fun bs =>
    if rAns ⟨(code : Int), xs, s.lo, s.hi, (g : Int), (gen : Int), (old : Int), (to : Int), (act : Int), strOf at', st⟩ then some (⟨(code : Int), xs, s.lo, s.hi, (g : Int), (gen : Int), (old : Int), (to : Int), (act : Int), strOf at', st⟩, bs) else none

end Go.Proofs.YtfhdodopjgfedaaGreat
