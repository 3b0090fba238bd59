/-
  No cell of these rows narrows 'for every input' (looked for: loops, veiled, ifaces, maps, wideKeys, modest, calm, conditions, laid).
  DERIVED. THE GIVEN ROWS OF THIS SEAT. 5 by the template 'for every input the law returns true; each argument reads behind the call as it read before'; 0 by the template 'total and deterministic' (their statements: YtoijkdknjbgebaaTotals.lean).
  GIVEN WITH THE SEED: the statements are not yours to turn. If you find one false, say at which input.
  Laid BY PROGRAM, IN A SANDBOX (cutbox-rows.mjs): the forced cells as the released guide's own fill.sh prints them over the translation 22690b8f61889292… (all of the seat's roots in one cut). By AI agents, Wed Nov 11 2026. No macro, syntax, notation, axiom, sorry.
-/
import Derived.Test.YtoijkdknjbgebaaChecked
import GoSem.Claim
import GoSem.ClaimJoined
import GoSem.ClaimMapViews
import Derived.JoinedTies
import Derived.KernelRfl
namespace Go.Proofs.Ytoijkdknjbgebaa
/- THE CELL 'sum', in the pinned program and in every row, IS THE sha256 OF THE DUMP (.gsa) THAT YtoijkdknjbgebaaProg.lean LOADS. Nothing in Lean hashes anything: it is a label: what it is worth is what the hold of that sum in a sandbox is worth. -/
noncomputable def Try.pinned : Pinned := { name := "ytoijkdknjbgebaa", sum := "22690b8f618892922a83e641787f0ade3f2a7ce3eb76df19338e896e390d2d8f", checked := Try.checked }
namespace Rows
def none {H : Type} : Left H := { results := [], args := [] }

/-- 'wardmotelaw9.OnceNumbers': WHATEVER THE INPUT: true; the input reads as it did. -/
def onceNumbersSpec : ChangeSpec := { name := "onceNumbers", fn := fun _ => fun
  | [] => { results := [.lit (.bool true)], args := [] }
  | _ => none }
def onceNumbersRow : OpenClaim := { program := "ytoijkdknjbgebaa", sum := "22690b8f618892922a83e641787f0ade3f2a7ce3eb76df19338e896e390d2d8f", func := "wardmote/wardmotelaw9.OnceNumbers", spec := "onceNumbers", inPlace := ["slices.overlaps[wardmote/once.told]"], unfollowed := true, recurses := true, apart := false }
def OnceNumbersSaid : Prop := onceNumbersRow.holds Try.pinned (OpenSpec.ofChange onceNumbersSpec)

/-- ITS FALSE NEIGHBOUR: 'it returns false'. Refute it at one input. -/
def onceNumbersWrong : ChangeSpec := { name := "onceNumbers", fn := fun _ => fun
  | [] => { results := [.lit (.bool false)], args := [] }
  | _ => none }
def OnceNumbersWrongFalsely : Prop := onceNumbersRow.holds Try.pinned (OpenSpec.ofChange onceNumbersWrong)

/-- 'wardmotelaw9.OncePlays': WHATEVER THE INPUT: true; the input reads as it did. -/
def oncePlaysSpec : ChangeSpec := { name := "oncePlays", fn := fun _ => fun
  | [d] => { results := [.lit (.bool true)], args := [d] }
  | _ => none }
def oncePlaysRow : OpenClaim := { program := "ytoijkdknjbgebaa", sum := "22690b8f618892922a83e641787f0ade3f2a7ce3eb76df19338e896e390d2d8f", func := "wardmote/wardmotelaw9.OncePlays", spec := "oncePlays", inPlace := ["slices.overlaps[wardmote/once.told]"], unfollowed := true, recurses := true, apart := false }
def OncePlaysSaid : Prop := oncePlaysRow.holds Try.pinned (OpenSpec.ofChange oncePlaysSpec)

/-- ITS FALSE NEIGHBOUR: 'it returns false'. Refute it at one input. -/
def oncePlaysWrong : ChangeSpec := { name := "oncePlays", fn := fun _ => fun
  | [d] => { results := [.lit (.bool false)], args := [d] }
  | _ => none }
def OncePlaysWrongFalsely : Prop := oncePlaysRow.holds Try.pinned (OpenSpec.ofChange oncePlaysWrong)

/-- 'wardmotelaw9.OnceJoins': WHATEVER THE INPUT: true; the input reads as it did. -/
def onceJoinsSpec : ChangeSpec := { name := "onceJoins", fn := fun _ => fun
  | [d1, d2] => { results := [.lit (.bool true)], args := [d1, d2] }
  | _ => none }
def onceJoinsRow : OpenClaim := { program := "ytoijkdknjbgebaa", sum := "22690b8f618892922a83e641787f0ade3f2a7ce3eb76df19338e896e390d2d8f", func := "wardmote/wardmotelaw9.OnceJoins", spec := "onceJoins", inPlace := ["slices.overlaps[wardmote/once.told]"], unfollowed := true, recurses := true, apart := false }
def OnceJoinsSaid : Prop := onceJoinsRow.holds Try.pinned (OpenSpec.ofChange onceJoinsSpec)

/-- ITS FALSE NEIGHBOUR: 'it returns false'. Refute it at one input. -/
def onceJoinsWrong : ChangeSpec := { name := "onceJoins", fn := fun _ => fun
  | [d1, d2] => { results := [.lit (.bool false)], args := [d1, d2] }
  | _ => none }
def OnceJoinsWrongFalsely : Prop := onceJoinsRow.holds Try.pinned (OpenSpec.ofChange onceJoinsWrong)

/-- 'wardmotelaw9.OnceBytes': WHATEVER THE INPUT: true; the input reads as it did. -/
def onceBytesSpec : ChangeSpec := { name := "onceBytes", fn := fun _ => fun
  | [d1, d2, d3] => { results := [.lit (.bool true)], args := [d1, d2, d3] }
  | _ => none }
def onceBytesRow : OpenClaim := { program := "ytoijkdknjbgebaa", sum := "22690b8f618892922a83e641787f0ade3f2a7ce3eb76df19338e896e390d2d8f", func := "wardmote/wardmotelaw9.OnceBytes", spec := "onceBytes", inPlace := ["slices.overlaps[wardmote/once.told]"], unfollowed := true, recurses := true, apart := false }
def OnceBytesSaid : Prop := onceBytesRow.holds Try.pinned (OpenSpec.ofChange onceBytesSpec)

/-- ITS FALSE NEIGHBOUR: 'it returns false'. Refute it at one input. -/
def onceBytesWrong : ChangeSpec := { name := "onceBytes", fn := fun _ => fun
  | [d1, d2, d3] => { results := [.lit (.bool false)], args := [d1, d2, d3] }
  | _ => none }
def OnceBytesWrongFalsely : Prop := onceBytesRow.holds Try.pinned (OpenSpec.ofChange onceBytesWrong)

/-- 'wardmotelaw9.OnceLast': WHATEVER THE INPUT: true; the input reads as it did. -/
def onceLastSpec : ChangeSpec := { name := "onceLast", fn := fun _ => fun
  | [d] => { results := [.lit (.bool true)], args := [d] }
  | _ => none }
def onceLastRow : OpenClaim := { program := "ytoijkdknjbgebaa", sum := "22690b8f618892922a83e641787f0ade3f2a7ce3eb76df19338e896e390d2d8f", func := "wardmote/wardmotelaw9.OnceLast", spec := "onceLast", inPlace := ["slices.overlaps[wardmote/once.told]"], unfollowed := true, recurses := true, apart := false }
def OnceLastSaid : Prop := onceLastRow.holds Try.pinned (OpenSpec.ofChange onceLastSpec)

/-- ITS FALSE NEIGHBOUR: 'it returns false'. Refute it at one input. -/
def onceLastWrong : ChangeSpec := { name := "onceLast", fn := fun _ => fun
  | [d] => { results := [.lit (.bool false)], args := [d] }
  | _ => none }
def OnceLastWrongFalsely : Prop := onceLastRow.holds Try.pinned (OpenSpec.ofChange onceLastWrong)

/- THE SECOND FORM. 'bulk': how many values and letters a reading holds, each counted each time it is reached (what is shared counts as often as it is met; a slice's spare places count too). A statement '..UptoSaid' is the law's where the arguments, and the package variables that the reading takes, are together of bulk at most 1048576: NARROWER than '..Said'. Prove '..Said' where nothing that the law and all that it calls make is longer than what came in: it says more and counts as full. Else prove '..UptoSaid'. A law counts once. -/
mutual
def uptoBulk {H : Type} : DataW H → Nat
  | .lit (.string bytes) => bytes.length + 1
  | .lit _ => 1
  | .nil => 1
  | .ptr d => uptoBulk d + 1
  | .slice elems spare => uptoBulkAll elems + uptoBulkAll spare + 1
  | .agg parts => uptoBulkAll parts + 1
  | .iface _ d => uptoBulk d + 1
  | .map entries => uptoBulkEntries entries + 1
  | .held _ => 1
def uptoBulkAll {H : Type} : List (DataW H) → Nat
  | [] => 0
  | d :: r => uptoBulk d + uptoBulkAll r
def uptoBulkEntries {H : Type} : List (Lit × DataW H) → Nat
  | [] => 0
  | x :: r => uptoBulkEntry x + uptoBulkEntries r
def uptoBulkEntry {H : Type} : Lit × DataW H → Nat
  | (.string bytes, d) => bytes.length + uptoBulk d + 1
  | (_, d) => uptoBulk d + 1
 end
def uptoSmall : (H : Type) → List (DataW H) → Bool := fun _ ds => decide (uptoBulkAll ds ≤ 1048576)
def OpenSpec.upto (s : _root_.Go.ChangeSpec) : _root_.Go.OpenSpec := { _root_.Go.OpenSpec.ofChange s with cond := some uptoSmall }

/-- 'wardmotelaw9.OnceNumbers', WHERE WHAT IT READS IS OF BULK AT MOST 1048576: true; the input reads as it did. -/
def onceNumbersUptoRow : OpenClaim := { program := "ytoijkdknjbgebaa", sum := "22690b8f618892922a83e641787f0ade3f2a7ce3eb76df19338e896e390d2d8f", func := "wardmote/wardmotelaw9.OnceNumbers", spec := "onceNumbers", inPlace := ["slices.overlaps[wardmote/once.told]"], unfollowed := true, recurses := true, apart := false, narrowed := true }
def OnceNumbersUptoSaid : Prop := onceNumbersUptoRow.holds Try.pinned (OpenSpec.upto onceNumbersSpec)

/-- 'wardmotelaw9.OncePlays', WHERE WHAT IT READS IS OF BULK AT MOST 1048576: true; the input reads as it did. -/
def oncePlaysUptoRow : OpenClaim := { program := "ytoijkdknjbgebaa", sum := "22690b8f618892922a83e641787f0ade3f2a7ce3eb76df19338e896e390d2d8f", func := "wardmote/wardmotelaw9.OncePlays", spec := "oncePlays", inPlace := ["slices.overlaps[wardmote/once.told]"], unfollowed := true, recurses := true, apart := false, narrowed := true }
def OncePlaysUptoSaid : Prop := oncePlaysUptoRow.holds Try.pinned (OpenSpec.upto oncePlaysSpec)

/-- 'wardmotelaw9.OnceJoins', WHERE WHAT IT READS IS OF BULK AT MOST 1048576: true; the input reads as it did. -/
def onceJoinsUptoRow : OpenClaim := { program := "ytoijkdknjbgebaa", sum := "22690b8f618892922a83e641787f0ade3f2a7ce3eb76df19338e896e390d2d8f", func := "wardmote/wardmotelaw9.OnceJoins", spec := "onceJoins", inPlace := ["slices.overlaps[wardmote/once.told]"], unfollowed := true, recurses := true, apart := false, narrowed := true }
def OnceJoinsUptoSaid : Prop := onceJoinsUptoRow.holds Try.pinned (OpenSpec.upto onceJoinsSpec)

/-- 'wardmotelaw9.OnceBytes', WHERE WHAT IT READS IS OF BULK AT MOST 1048576: true; the input reads as it did. -/
def onceBytesUptoRow : OpenClaim := { program := "ytoijkdknjbgebaa", sum := "22690b8f618892922a83e641787f0ade3f2a7ce3eb76df19338e896e390d2d8f", func := "wardmote/wardmotelaw9.OnceBytes", spec := "onceBytes", inPlace := ["slices.overlaps[wardmote/once.told]"], unfollowed := true, recurses := true, apart := false, narrowed := true }
def OnceBytesUptoSaid : Prop := onceBytesUptoRow.holds Try.pinned (OpenSpec.upto onceBytesSpec)

/-- 'wardmotelaw9.OnceLast', WHERE WHAT IT READS IS OF BULK AT MOST 1048576: true; the input reads as it did. -/
def onceLastUptoRow : OpenClaim := { program := "ytoijkdknjbgebaa", sum := "22690b8f618892922a83e641787f0ade3f2a7ce3eb76df19338e896e390d2d8f", func := "wardmote/wardmotelaw9.OnceLast", spec := "onceLast", inPlace := ["slices.overlaps[wardmote/once.told]"], unfollowed := true, recurses := true, apart := false, narrowed := true }
def OnceLastUptoSaid : Prop := onceLastUptoRow.holds Try.pinned (OpenSpec.upto onceLastSpec)

end Rows
end Go.Proofs.Ytoijkdknjbgebaa
