/-
  No cell of these rows narrows 'for every input' (looked for: loops, veiled, ifaces, maps, wideKeys, modest, calm, conditions, laid).
  DERIVED. THE GIVEN ROWS OF THIS SEAT. 5 by the template 'for every input the law returns true; each argument reads behind the call as it read before'; 0 by the template 'total and deterministic' (their statements: YtfegflimnngfaaaTotals.lean).
  GIVEN WITH THE SEED: the statements are not yours to turn. If you find one false, say at which input.
  Laid BY PROGRAM, IN A SANDBOX (cutbox-rows.mjs): the forced cells as the released guide's own fill.sh prints them over the translation 3ad1a296e2df9a1b… (all of the seat's roots in one cut). By AI agents, Wed Nov 11 2026. No macro, syntax, notation, axiom, sorry.
-/
import Derived.Test.YtfegflimnngfaaaChecked
import GoSem.Claim
import GoSem.ClaimJoined
import GoSem.ClaimMapViews
import Derived.JoinedTies
import Derived.KernelRfl
namespace Go.Proofs.Ytfegflimnngfaaa
/- THE CELL 'sum', in the pinned program and in every row, IS THE sha256 OF THE DUMP (.gsa) THAT YtfegflimnngfaaaProg.lean LOADS. Nothing in Lean hashes anything: it is a label: what it is worth is what the hold of that sum in a sandbox is worth. -/
noncomputable def Try.pinned : Pinned := { name := "ytfegflimnngfaaa", sum := "3ad1a296e2df9a1bf02c52e0c50ec64054259d591b6d52f9b4bc941038af0417", checked := Try.checked }
namespace Rows
def none {H : Type} : Left H := { results := [], args := [] }

/-- 'wardmotelaw4.RowPlays': WHATEVER THE INPUT: true; the input reads as it did. -/
def rowPlaysSpec : ChangeSpec := { name := "rowPlays", fn := fun _ => fun
  | [d] => { results := [.lit (.bool true)], args := [d] }
  | _ => none }
def rowPlaysRow : OpenClaim := { program := "ytfegflimnngfaaa", sum := "3ad1a296e2df9a1bf02c52e0c50ec64054259d591b6d52f9b4bc941038af0417", func := "wardmote/wardmotelaw4.RowPlays", spec := "rowPlays", inPlace := ["math.Float64bits", "math.Float64frombits", "internal/bytealg.Compare"], apart := false }
def RowPlaysSaid : Prop := rowPlaysRow.holds Try.pinned (OpenSpec.ofChange rowPlaysSpec)

/-- ITS FALSE NEIGHBOUR: 'it returns false'. Refute it at one input. -/
def rowPlaysWrong : ChangeSpec := { name := "rowPlays", fn := fun _ => fun
  | [d] => { results := [.lit (.bool false)], args := [d] }
  | _ => none }
def RowPlaysWrongFalsely : Prop := rowPlaysRow.holds Try.pinned (OpenSpec.ofChange rowPlaysWrong)

/-- 'wardmotelaw4.RowBytes': WHATEVER THE INPUT: true; the input reads as it did. -/
def rowBytesSpec : ChangeSpec := { name := "rowBytes", fn := fun _ => fun
  | [d1, d2, d3, d4] => { results := [.lit (.bool true)], args := [d1, d2, d3, d4] }
  | _ => none }
def rowBytesRow : OpenClaim := { program := "ytfegflimnngfaaa", sum := "3ad1a296e2df9a1bf02c52e0c50ec64054259d591b6d52f9b4bc941038af0417", func := "wardmote/wardmotelaw4.RowBytes", spec := "rowBytes", inPlace := ["math.Float64bits", "math.Float64frombits"], unfollowed := true, recurses := true, apart := false }
def RowBytesSaid : Prop := rowBytesRow.holds Try.pinned (OpenSpec.ofChange rowBytesSpec)

/-- ITS FALSE NEIGHBOUR: 'it returns false'. Refute it at one input. -/
def rowBytesWrong : ChangeSpec := { name := "rowBytes", fn := fun _ => fun
  | [d1, d2, d3, d4] => { results := [.lit (.bool false)], args := [d1, d2, d3, d4] }
  | _ => none }
def RowBytesWrongFalsely : Prop := rowBytesRow.holds Try.pinned (OpenSpec.ofChange rowBytesWrong)

/-- 'wardmotelaw4.RowNewest': WHATEVER THE INPUT: true; the input reads as it did. -/
def rowNewestSpec : ChangeSpec := { name := "rowNewest", fn := fun _ => fun
  | [d1, d2] => { results := [.lit (.bool true)], args := [d1, d2] }
  | _ => none }
def rowNewestRow : OpenClaim := { program := "ytfegflimnngfaaa", sum := "3ad1a296e2df9a1bf02c52e0c50ec64054259d591b6d52f9b4bc941038af0417", func := "wardmote/wardmotelaw4.RowNewest", spec := "rowNewest", inPlace := ["math.Float64bits", "math.Float64frombits"], apart := false }
def RowNewestSaid : Prop := rowNewestRow.holds Try.pinned (OpenSpec.ofChange rowNewestSpec)

/-- ITS FALSE NEIGHBOUR: 'it returns false'. Refute it at one input. -/
def rowNewestWrong : ChangeSpec := { name := "rowNewest", fn := fun _ => fun
  | [d1, d2] => { results := [.lit (.bool false)], args := [d1, d2] }
  | _ => none }
def RowNewestWrongFalsely : Prop := rowNewestRow.holds Try.pinned (OpenSpec.ofChange rowNewestWrong)

/-- 'wardmotelaw4.RowTimes': WHATEVER THE INPUT: true; the input reads as it did. -/
def rowTimesSpec : ChangeSpec := { name := "rowTimes", fn := fun _ => fun
  | [d1, d2, d3, d4] => { results := [.lit (.bool true)], args := [d1, d2, d3, d4] }
  | _ => none }
def rowTimesRow : OpenClaim := { program := "ytfegflimnngfaaa", sum := "3ad1a296e2df9a1bf02c52e0c50ec64054259d591b6d52f9b4bc941038af0417", func := "wardmote/wardmotelaw4.RowTimes", spec := "rowTimes", inPlace := ["math.Float64bits", "math.Float64frombits"], apart := false }
def RowTimesSaid : Prop := rowTimesRow.holds Try.pinned (OpenSpec.ofChange rowTimesSpec)

/-- ITS FALSE NEIGHBOUR: 'it returns false'. Refute it at one input. -/
def rowTimesWrong : ChangeSpec := { name := "rowTimes", fn := fun _ => fun
  | [d1, d2, d3, d4] => { results := [.lit (.bool false)], args := [d1, d2, d3, d4] }
  | _ => none }
def RowTimesWrongFalsely : Prop := rowTimesRow.holds Try.pinned (OpenSpec.ofChange rowTimesWrong)

/-- 'wardmotelaw4.RowColumns': WHATEVER THE INPUT: true; the input reads as it did. -/
def rowColumnsSpec : ChangeSpec := { name := "rowColumns", fn := fun _ => fun
  | [d1, d2] => { results := [.lit (.bool true)], args := [d1, d2] }
  | _ => none }
def rowColumnsRow : OpenClaim := { program := "ytfegflimnngfaaa", sum := "3ad1a296e2df9a1bf02c52e0c50ec64054259d591b6d52f9b4bc941038af0417", func := "wardmote/wardmotelaw4.RowColumns", spec := "rowColumns", inPlace := ["math.Float64bits", "math.Float64frombits"], apart := false }
def RowColumnsSaid : Prop := rowColumnsRow.holds Try.pinned (OpenSpec.ofChange rowColumnsSpec)

/-- ITS FALSE NEIGHBOUR: 'it returns false'. Refute it at one input. -/
def rowColumnsWrong : ChangeSpec := { name := "rowColumns", fn := fun _ => fun
  | [d1, d2] => { results := [.lit (.bool false)], args := [d1, d2] }
  | _ => none }
def RowColumnsWrongFalsely : Prop := rowColumnsRow.holds Try.pinned (OpenSpec.ofChange rowColumnsWrong)

/- THE SECOND FORM. 'bulk': how many values and letters a reading holds, each counted each time it is reached (what is shared counts as often as it is met; a slice's spare places count too). A statement '..UptoSaid' is the law's where the arguments, and the package variables that the reading takes, are together of bulk at most 1048576: NARROWER than '..Said'. Prove '..Said' where nothing that the law and all that it calls make is longer than what came in: it says more and counts as full. Else prove '..UptoSaid'. A law counts once. -/
mutual
def uptoBulk {H : Type} : DataW H → Nat
  | .lit (.string bytes) => bytes.length + 1
  | .lit _ => 1
  | .nil => 1
  | .ptr d => uptoBulk d + 1
  | .slice elems spare => uptoBulkAll elems + uptoBulkAll spare + 1
  | .agg parts => uptoBulkAll parts + 1
  | .iface _ d => uptoBulk d + 1
  | .map entries => uptoBulkEntries entries + 1
  | .held _ => 1
def uptoBulkAll {H : Type} : List (DataW H) → Nat
  | [] => 0
  | d :: r => uptoBulk d + uptoBulkAll r
def uptoBulkEntries {H : Type} : List (Lit × DataW H) → Nat
  | [] => 0
  | x :: r => uptoBulkEntry x + uptoBulkEntries r
def uptoBulkEntry {H : Type} : Lit × DataW H → Nat
  | (.string bytes, d) => bytes.length + uptoBulk d + 1
  | (_, d) => uptoBulk d + 1
 end
def uptoSmall : (H : Type) → List (DataW H) → Bool := fun _ ds => decide (uptoBulkAll ds ≤ 1048576)
def OpenSpec.upto (s : _root_.Go.ChangeSpec) : _root_.Go.OpenSpec := { _root_.Go.OpenSpec.ofChange s with cond := some uptoSmall }

/-- 'wardmotelaw4.RowPlays', WHERE WHAT IT READS IS OF BULK AT MOST 1048576: true; the input reads as it did. -/
def rowPlaysUptoRow : OpenClaim := { program := "ytfegflimnngfaaa", sum := "3ad1a296e2df9a1bf02c52e0c50ec64054259d591b6d52f9b4bc941038af0417", func := "wardmote/wardmotelaw4.RowPlays", spec := "rowPlays", inPlace := ["math.Float64bits", "math.Float64frombits", "internal/bytealg.Compare"], apart := false, narrowed := true }
def RowPlaysUptoSaid : Prop := rowPlaysUptoRow.holds Try.pinned (OpenSpec.upto rowPlaysSpec)

/-- 'wardmotelaw4.RowBytes', WHERE WHAT IT READS IS OF BULK AT MOST 1048576: true; the input reads as it did. -/
def rowBytesUptoRow : OpenClaim := { program := "ytfegflimnngfaaa", sum := "3ad1a296e2df9a1bf02c52e0c50ec64054259d591b6d52f9b4bc941038af0417", func := "wardmote/wardmotelaw4.RowBytes", spec := "rowBytes", inPlace := ["math.Float64bits", "math.Float64frombits"], unfollowed := true, recurses := true, apart := false, narrowed := true }
def RowBytesUptoSaid : Prop := rowBytesUptoRow.holds Try.pinned (OpenSpec.upto rowBytesSpec)

/-- 'wardmotelaw4.RowNewest', WHERE WHAT IT READS IS OF BULK AT MOST 1048576: true; the input reads as it did. -/
def rowNewestUptoRow : OpenClaim := { program := "ytfegflimnngfaaa", sum := "3ad1a296e2df9a1bf02c52e0c50ec64054259d591b6d52f9b4bc941038af0417", func := "wardmote/wardmotelaw4.RowNewest", spec := "rowNewest", inPlace := ["math.Float64bits", "math.Float64frombits"], apart := false, narrowed := true }
def RowNewestUptoSaid : Prop := rowNewestUptoRow.holds Try.pinned (OpenSpec.upto rowNewestSpec)

/-- 'wardmotelaw4.RowTimes', WHERE WHAT IT READS IS OF BULK AT MOST 1048576: true; the input reads as it did. -/
def rowTimesUptoRow : OpenClaim := { program := "ytfegflimnngfaaa", sum := "3ad1a296e2df9a1bf02c52e0c50ec64054259d591b6d52f9b4bc941038af0417", func := "wardmote/wardmotelaw4.RowTimes", spec := "rowTimes", inPlace := ["math.Float64bits", "math.Float64frombits"], apart := false, narrowed := true }
def RowTimesUptoSaid : Prop := rowTimesUptoRow.holds Try.pinned (OpenSpec.upto rowTimesSpec)

/-- 'wardmotelaw4.RowColumns', WHERE WHAT IT READS IS OF BULK AT MOST 1048576: true; the input reads as it did. -/
def rowColumnsUptoRow : OpenClaim := { program := "ytfegflimnngfaaa", sum := "3ad1a296e2df9a1bf02c52e0c50ec64054259d591b6d52f9b4bc941038af0417", func := "wardmote/wardmotelaw4.RowColumns", spec := "rowColumns", inPlace := ["math.Float64bits", "math.Float64frombits"], apart := false, narrowed := true }
def RowColumnsUptoSaid : Prop := rowColumnsUptoRow.holds Try.pinned (OpenSpec.upto rowColumnsSpec)

end Rows
end Go.Proofs.Ytfegflimnngfaaa
