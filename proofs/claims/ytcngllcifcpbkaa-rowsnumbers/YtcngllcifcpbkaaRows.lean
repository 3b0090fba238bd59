/-
  No cell of these rows narrows 'for every input' (looked for: loops, veiled, ifaces, maps, wideKeys, modest, calm, conditions, laid).
  DERIVED. THE GIVEN ROWS OF THIS SEAT. 2 by the template 'for every input the law returns true; each argument reads behind the call as it read before'; 0 by the template 'total and deterministic' (their statements: YtcngllcifcpbkaaTotals.lean).
  GIVEN WITH THE SEED: the statements are not yours to turn. If you find one false, say at which input.
  Laid BY PROGRAM, IN A SANDBOX (cutbox-rows.mjs): the forced cells as the released guide's own fill.sh prints them over the translation 0a89e3d8b3d8eda2… (all of the seat's roots in one cut). By AI agents, Wed Nov 11 2026. No macro, syntax, notation, axiom, sorry.
-/
import Derived.Test.YtcngllcifcpbkaaChecked
import GoSem.Claim
import GoSem.ClaimJoined
import GoSem.ClaimMapViews
import Derived.JoinedTies
import Derived.KernelRfl
namespace Go.Proofs.Ytcngllcifcpbkaa
/- THE CELL 'sum', in the pinned program and in every row, IS THE sha256 OF THE DUMP (.gsa) THAT YtcngllcifcpbkaaProg.lean LOADS. Nothing in Lean hashes anything: it is a label: what it is worth is what the hold of that sum in a sandbox is worth. -/
noncomputable def Try.pinned : Pinned := { name := "ytcngllcifcpbkaa", sum := "0a89e3d8b3d8eda20556cb745a59c36d30383334a0678cba94eb90566d98f310", checked := Try.checked }
namespace Rows
def none {H : Type} : Left H := { results := [], args := [] }

/-- 'wardmotelaw6.RowsNumbers': WHATEVER THE INPUT: true; the input reads as it did. -/
def rowsNumbersSpec : ChangeSpec := { name := "rowsNumbers", fn := fun _ => fun
  | [] => { results := [.lit (.bool true)], args := [] }
  | _ => none }
def rowsNumbersRow : OpenClaim := { program := "ytcngllcifcpbkaa", sum := "0a89e3d8b3d8eda20556cb745a59c36d30383334a0678cba94eb90566d98f310", func := "wardmote/wardmotelaw6.RowsNumbers", spec := "rowsNumbers", inPlace := ["math.Float64bits", "math.Float64frombits", "internal/bytealg.abigen_runtime_cmpstring", "slices.overlaps[wardmote/api.Named]"], unfollowed := true, recurses := true, apart := false }
def RowsNumbersSaid : Prop := rowsNumbersRow.holds Try.pinned (OpenSpec.ofChange rowsNumbersSpec)

/-- ITS FALSE NEIGHBOUR: 'it returns false'. Refute it at one input. -/
def rowsNumbersWrong : ChangeSpec := { name := "rowsNumbers", fn := fun _ => fun
  | [] => { results := [.lit (.bool false)], args := [] }
  | _ => none }
def RowsNumbersWrongFalsely : Prop := rowsNumbersRow.holds Try.pinned (OpenSpec.ofChange rowsNumbersWrong)

/-- 'wardmotelaw6.RowsCopies': WHATEVER THE INPUT: true; the input reads as it did. -/
def rowsCopiesSpec : ChangeSpec := { name := "rowsCopies", fn := fun _ => fun
  | [d1, d2] => { results := [.lit (.bool true)], args := [d1, d2] }
  | _ => none }
def rowsCopiesRow : OpenClaim := { program := "ytcngllcifcpbkaa", sum := "0a89e3d8b3d8eda20556cb745a59c36d30383334a0678cba94eb90566d98f310", func := "wardmote/wardmotelaw6.RowsCopies", spec := "rowsCopies", inPlace := ["math.Float64bits", "math.Float64frombits", "internal/bytealg.abigen_runtime_cmpstring", "slices.overlaps[wardmote/api.Named]", "internal/bytealg.Compare"], unfollowed := true, recurses := true, apart := false }
def RowsCopiesSaid : Prop := rowsCopiesRow.holds Try.pinned (OpenSpec.ofChange rowsCopiesSpec)

/-- ITS FALSE NEIGHBOUR: 'it returns false'. Refute it at one input. -/
def rowsCopiesWrong : ChangeSpec := { name := "rowsCopies", fn := fun _ => fun
  | [d1, d2] => { results := [.lit (.bool false)], args := [d1, d2] }
  | _ => none }
def RowsCopiesWrongFalsely : Prop := rowsCopiesRow.holds Try.pinned (OpenSpec.ofChange rowsCopiesWrong)

/- THE SECOND FORM. 'bulk': how many values and letters a reading holds, each counted each time it is reached (what is shared counts as often as it is met; a slice's spare places count too). A statement '..UptoSaid' is the law's where the arguments, and the package variables that the reading takes, are together of bulk at most 1048576: NARROWER than '..Said'. Prove '..Said' where nothing that the law and all that it calls make is longer than what came in: it says more and counts as full. Else prove '..UptoSaid'. A law counts once. -/
mutual
def uptoBulk {H : Type} : DataW H → Nat
  | .lit (.string bytes) => bytes.length + 1
  | .lit _ => 1
  | .nil => 1
  | .ptr d => uptoBulk d + 1
  | .slice elems spare => uptoBulkAll elems + uptoBulkAll spare + 1
  | .agg parts => uptoBulkAll parts + 1
  | .iface _ d => uptoBulk d + 1
  | .map entries => uptoBulkEntries entries + 1
  | .held _ => 1
def uptoBulkAll {H : Type} : List (DataW H) → Nat
  | [] => 0
  | d :: r => uptoBulk d + uptoBulkAll r
def uptoBulkEntries {H : Type} : List (Lit × DataW H) → Nat
  | [] => 0
  | x :: r => uptoBulkEntry x + uptoBulkEntries r
def uptoBulkEntry {H : Type} : Lit × DataW H → Nat
  | (.string bytes, d) => bytes.length + uptoBulk d + 1
  | (_, d) => uptoBulk d + 1
 end
def uptoSmall : (H : Type) → List (DataW H) → Bool := fun _ ds => decide (uptoBulkAll ds ≤ 1048576)
def OpenSpec.upto (s : _root_.Go.ChangeSpec) : _root_.Go.OpenSpec := { _root_.Go.OpenSpec.ofChange s with cond := some uptoSmall }

/-- 'wardmotelaw6.RowsNumbers', WHERE WHAT IT READS IS OF BULK AT MOST 1048576: true; the input reads as it did. -/
def rowsNumbersUptoRow : OpenClaim := { program := "ytcngllcifcpbkaa", sum := "0a89e3d8b3d8eda20556cb745a59c36d30383334a0678cba94eb90566d98f310", func := "wardmote/wardmotelaw6.RowsNumbers", spec := "rowsNumbers", inPlace := ["math.Float64bits", "math.Float64frombits", "internal/bytealg.abigen_runtime_cmpstring", "slices.overlaps[wardmote/api.Named]"], unfollowed := true, recurses := true, apart := false, narrowed := true }
def RowsNumbersUptoSaid : Prop := rowsNumbersUptoRow.holds Try.pinned (OpenSpec.upto rowsNumbersSpec)

/-- 'wardmotelaw6.RowsCopies', WHERE WHAT IT READS IS OF BULK AT MOST 1048576: true; the input reads as it did. -/
def rowsCopiesUptoRow : OpenClaim := { program := "ytcngllcifcpbkaa", sum := "0a89e3d8b3d8eda20556cb745a59c36d30383334a0678cba94eb90566d98f310", func := "wardmote/wardmotelaw6.RowsCopies", spec := "rowsCopies", inPlace := ["math.Float64bits", "math.Float64frombits", "internal/bytealg.abigen_runtime_cmpstring", "slices.overlaps[wardmote/api.Named]", "internal/bytealg.Compare"], unfollowed := true, recurses := true, apart := false, narrowed := true }
def RowsCopiesUptoSaid : Prop := rowsCopiesUptoRow.holds Try.pinned (OpenSpec.upto rowsCopiesSpec)

end Rows
end Go.Proofs.Ytcngllcifcpbkaa
