/-
  No cell of these rows narrows 'for every input' (looked for: loops, veiled, ifaces, maps, wideKeys, modest, calm, conditions, laid).
  DERIVED. THE GIVEN ROWS OF THIS SEAT. 3 by the template 'for every input the law returns true; each argument reads behind the call as it read before'; 0 by the template 'total and deterministic' (their statements: YtilbbnmhnacnlaaGreatTotals.lean).
  GIVEN WITH THE SEED: the statements are not yours to turn. If you find one false, say at which input.
  Laid BY PROGRAM, IN A SANDBOX (cutbox-rows.mjs): the forced cells as the released guide's own fill.sh prints them over the translation 8af4954f4a1a28f7… (all of the seat's roots in one cut). By AI agents, Wed Nov 11 2026. No macro, syntax, notation, axiom, sorry.
-/
import Derived.Test.YtilbbnmhnacnlaaGreatChecked
import GoSem.Claim
import GoSem.ClaimJoined
import GoSem.ClaimMapViews
import Derived.JoinedTies
import Derived.KernelRfl
namespace Go.Proofs.YtilbbnmhnacnlaaGreat
/- THE CELL 'sum', in the pinned program and in every row, IS THE sha256 OF THE DUMP (.gsa) THAT YtilbbnmhnacnlaaGreatProg.lean LOADS. Nothing in Lean hashes anything: it is a label: what it is worth is what the hold of that sum in a sandbox is worth. -/
noncomputable def Tryz.pinned : Pinned := { name := "ytilbbnmhnacnlaagreat", sum := "8af4954f4a1a28f7a8815dc7fb23a51b932e79808187762a7beaa13767347db9", checked := Tryz.checked }
namespace Rows
def none {H : Type} : Left H := { results := [], args := [] }

/-- 'wardmotelaw12.MasterCovers': WHATEVER THE INPUT: true; the input reads as it did. -/
def masterCoversSpec : ChangeSpec := { name := "masterCovers", fn := fun _ => fun
  | [d] => { results := [.lit (.bool true)], args := [d] }
  | _ => none }
def masterCoversRow : OpenClaim := { program := "ytilbbnmhnacnlaagreat", sum := "8af4954f4a1a28f7a8815dc7fb23a51b932e79808187762a7beaa13767347db9", func := "wardmote/wardmotelaw12.MasterCovers", spec := "masterCovers", inPlace := ["math.Float64frombits", "math.Float64bits", "internal/bytealg.abigen_runtime_cmpstring", "slices.overlaps[wardmote/once.told]"], unfollowed := true, recurses := true, apart := false }
def MasterCoversSaid : Prop := masterCoversRow.holds Tryz.pinned (OpenSpec.ofChange masterCoversSpec)

/-- ITS FALSE NEIGHBOUR: 'it returns false'. Refute it at one input. -/
def masterCoversWrong : ChangeSpec := { name := "masterCovers", fn := fun _ => fun
  | [d] => { results := [.lit (.bool false)], args := [d] }
  | _ => none }
def MasterCoversWrongFalsely : Prop := masterCoversRow.holds Tryz.pinned (OpenSpec.ofChange masterCoversWrong)

/-- 'wardmotelaw12.MasterOnce': WHATEVER THE INPUT: true; the input reads as it did. -/
def masterOnceSpec : ChangeSpec := { name := "masterOnce", fn := fun _ => fun
  | [d1, d2, d3] => { results := [.lit (.bool true)], args := [d1, d2, d3] }
  | _ => none }
def masterOnceRow : OpenClaim := { program := "ytilbbnmhnacnlaagreat", sum := "8af4954f4a1a28f7a8815dc7fb23a51b932e79808187762a7beaa13767347db9", func := "wardmote/wardmotelaw12.MasterOnce", spec := "masterOnce", inPlace := ["internal/bytealg.abigen_runtime_cmpstring", "math.Float64frombits", "math.Float64bits", "slices.overlaps[wardmote/once.told]"], unfollowed := true, recurses := true, apart := false }
def MasterOnceSaid : Prop := masterOnceRow.holds Tryz.pinned (OpenSpec.ofChange masterOnceSpec)

/-- ITS FALSE NEIGHBOUR: 'it returns false'. Refute it at one input. -/
def masterOnceWrong : ChangeSpec := { name := "masterOnce", fn := fun _ => fun
  | [d1, d2, d3] => { results := [.lit (.bool false)], args := [d1, d2, d3] }
  | _ => none }
def MasterOnceWrongFalsely : Prop := masterOnceRow.holds Tryz.pinned (OpenSpec.ofChange masterOnceWrong)

/-- 'wardmotelaw12.MasterGives': WHATEVER THE INPUT: true; the input reads as it did. -/
def masterGivesSpec : ChangeSpec := { name := "masterGives", fn := fun _ => fun
  | [d1, d2] => { results := [.lit (.bool true)], args := [d1, d2] }
  | _ => none }
def masterGivesRow : OpenClaim := { program := "ytilbbnmhnacnlaagreat", sum := "8af4954f4a1a28f7a8815dc7fb23a51b932e79808187762a7beaa13767347db9", func := "wardmote/wardmotelaw12.MasterGives", spec := "masterGives", inPlace := ["internal/bytealg.abigen_runtime_cmpstring", "math.Float64frombits", "math.Float64bits", "slices.overlaps[wardmote/once.told]"], unfollowed := true, recurses := true, apart := false }
def MasterGivesSaid : Prop := masterGivesRow.holds Tryz.pinned (OpenSpec.ofChange masterGivesSpec)

/-- ITS FALSE NEIGHBOUR: 'it returns false'. Refute it at one input. -/
def masterGivesWrong : ChangeSpec := { name := "masterGives", fn := fun _ => fun
  | [d1, d2] => { results := [.lit (.bool false)], args := [d1, d2] }
  | _ => none }
def MasterGivesWrongFalsely : Prop := masterGivesRow.holds Tryz.pinned (OpenSpec.ofChange masterGivesWrong)

/- THE SECOND FORM. 'bulk': how many values and letters a reading holds, each counted each time it is reached (what is shared counts as often as it is met; a slice's spare places count too). A statement '..UptoSaid' is the law's where the arguments, and the package variables that the reading takes, are together of bulk at most 1048576: NARROWER than '..Said'. Prove '..Said' where nothing that the law and all that it calls make is longer than what came in: it says more and counts as full. Else prove '..UptoSaid'. A law counts once. -/
mutual
def uptoBulk {H : Type} : DataW H → Nat
  | .lit (.string bytes) => bytes.length + 1
  | .lit _ => 1
  | .nil => 1
  | .ptr d => uptoBulk d + 1
  | .slice elems spare => uptoBulkAll elems + uptoBulkAll spare + 1
  | .agg parts => uptoBulkAll parts + 1
  | .iface _ d => uptoBulk d + 1
  | .map entries => uptoBulkEntries entries + 1
  | .held _ => 1
def uptoBulkAll {H : Type} : List (DataW H) → Nat
  | [] => 0
  | d :: r => uptoBulk d + uptoBulkAll r
def uptoBulkEntries {H : Type} : List (Lit × DataW H) → Nat
  | [] => 0
  | x :: r => uptoBulkEntry x + uptoBulkEntries r
def uptoBulkEntry {H : Type} : Lit × DataW H → Nat
  | (.string bytes, d) => bytes.length + uptoBulk d + 1
  | (_, d) => uptoBulk d + 1
 end
def uptoSmall : (H : Type) → List (DataW H) → Bool := fun _ ds => decide (uptoBulkAll ds ≤ 1048576)
def OpenSpec.upto (s : _root_.Go.ChangeSpec) : _root_.Go.OpenSpec := { _root_.Go.OpenSpec.ofChange s with cond := some uptoSmall }

/-- 'wardmotelaw12.MasterCovers', WHERE WHAT IT READS IS OF BULK AT MOST 1048576: true; the input reads as it did. -/
def masterCoversUptoRow : OpenClaim := { program := "ytilbbnmhnacnlaagreat", sum := "8af4954f4a1a28f7a8815dc7fb23a51b932e79808187762a7beaa13767347db9", func := "wardmote/wardmotelaw12.MasterCovers", spec := "masterCovers", inPlace := ["math.Float64frombits", "math.Float64bits", "internal/bytealg.abigen_runtime_cmpstring", "slices.overlaps[wardmote/once.told]"], unfollowed := true, recurses := true, apart := false, narrowed := true }
def MasterCoversUptoSaid : Prop := masterCoversUptoRow.holds Tryz.pinned (OpenSpec.upto masterCoversSpec)

/-- 'wardmotelaw12.MasterOnce', WHERE WHAT IT READS IS OF BULK AT MOST 1048576: true; the input reads as it did. -/
def masterOnceUptoRow : OpenClaim := { program := "ytilbbnmhnacnlaagreat", sum := "8af4954f4a1a28f7a8815dc7fb23a51b932e79808187762a7beaa13767347db9", func := "wardmote/wardmotelaw12.MasterOnce", spec := "masterOnce", inPlace := ["internal/bytealg.abigen_runtime_cmpstring", "math.Float64frombits", "math.Float64bits", "slices.overlaps[wardmote/once.told]"], unfollowed := true, recurses := true, apart := false, narrowed := true }
def MasterOnceUptoSaid : Prop := masterOnceUptoRow.holds Tryz.pinned (OpenSpec.upto masterOnceSpec)

/-- 'wardmotelaw12.MasterGives', WHERE WHAT IT READS IS OF BULK AT MOST 1048576: true; the input reads as it did. -/
def masterGivesUptoRow : OpenClaim := { program := "ytilbbnmhnacnlaagreat", sum := "8af4954f4a1a28f7a8815dc7fb23a51b932e79808187762a7beaa13767347db9", func := "wardmote/wardmotelaw12.MasterGives", spec := "masterGives", inPlace := ["internal/bytealg.abigen_runtime_cmpstring", "math.Float64frombits", "math.Float64bits", "slices.overlaps[wardmote/once.told]"], unfollowed := true, recurses := true, apart := false, narrowed := true }
def MasterGivesUptoSaid : Prop := masterGivesUptoRow.holds Tryz.pinned (OpenSpec.upto masterGivesSpec)

end Rows
end Go.Proofs.YtilbbnmhnacnlaaGreat
