/-
  Keep4, Made4: our texts of these names, laid into one.
-/
import Derived.Test.YtcngllcifcpbkaaCBaseJ
import Derived.Test.YtcngllcifcpbkaaCRow12
import Derived.Test.YtcngllcifcpbkaaCBaseY
/-
  Names of columns as they are drawn: pick, Col, Head, and the law's own col.
-/
namespace Go.Proofs.Ytcngllcifcpbkaa
open Go.RowKit

end Go.Proofs.Ytcngllcifcpbkaa
/-
  The law's own made: a row by the document's own puts: one that may be, with few names.
-/
namespace Go.Proofs.Ytcngllcifcpbkaa
open Go.RowKit

theorem refPut_p (W w : World) (v : Value) (R : List Pcol) (s : ByteArray) (t : Int) (kv : Int) (adv : Option Addr) (nv cv xv : Nat) (p : Pv) (h : RowAt W v R) (hv : VA W [.int .i64 kv, .slice adv nv cv, .float .f64 xv] p) (m : Moves [] W w) (hr : pright R = true) :
    Calls Try.prog 13 #[v, .string s, .int .i64 t, .agg #[.int .i64 kv, .slice adv nv cv, .float .f64 xv]] w fun e w' => ∃ ad n cap, e = .returned (.tuple #[.agg #[.slice ad n cap], .int .i64 (pPutE R s t p)]) ∧ ColsAt w' (.slice ad n cap) (pPut R s t p) ∧ Moves [] w w' := by
  obtain ⟨e1, e2⟩ := rPut_eq hr s t p
  have h1 := refPut_yes W w v R s t kv adv nv cv xv p h hv m hr
  rw [e1, e2] at h1
  exact h1

theorem pright_nil : pright [] = true := by decide

end Go.Proofs.Ytcngllcifcpbkaa
