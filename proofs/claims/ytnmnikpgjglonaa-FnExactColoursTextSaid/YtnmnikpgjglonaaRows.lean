/-
  No cell of these rows narrows 'for every input' (looked for: loops, veiled, ifaces, maps, wideKeys, modest, calm, conditions, laid).
  DERIVED. THE GIVEN ROWS OF THIS SEAT. 7 by the template 'for every input the law returns true; each argument reads behind the call as it read before'; 0 by the template 'total and deterministic' (their statements: YtnmnikpgjglonaaTotals.lean).
  GIVEN WITH THE SEED: the statements are not yours to turn. If you find one false, say at which input.
  Laid BY PROGRAM, IN A SANDBOX (cutbox-rows.mjs): the forced cells as the released guide's own fill.sh prints them over the translation d29eb5288b629c17… (all of the seat's roots in one cut). By AI agents, Wed Nov 11 2026. No macro, syntax, notation, axiom, sorry.
-/
import Derived.Test.YtnmnikpgjglonaaChecked
import GoSem.Claim
import GoSem.ClaimJoined
import GoSem.ClaimMapViews
import Derived.JoinedTies
import Derived.KernelRfl
namespace Go.Proofs.Ytnmnikpgjglonaa
/- THE CELL 'sum', in the pinned program and in every row, IS THE sha256 OF THE DUMP (.gsa) THAT YtnmnikpgjglonaaProg.lean LOADS. Nothing in Lean hashes anything: it is a label: what it is worth is what the hold of that sum in a sandbox is worth. -/
noncomputable def Try.pinned : Pinned := { name := "ytnmnikpgjglonaa", sum := "d29eb5288b629c17ee0bd22d9ee1dca22bbabb1d3533a455368cece749f572b3", checked := Try.checked }
namespace Rows
def none {H : Type} : Left H := { results := [], args := [] }

/-- 'laws.FnExactValidColours': WHATEVER THE INPUT: true; the input reads as it did. -/
def fnExactValidColoursSpec : ChangeSpec := { name := "fnExactValidColours", fn := fun _ => fun
  | [d] => { results := [.lit (.bool true)], args := [d] }
  | _ => none }
def fnExactValidColoursRow : OpenClaim := { program := "ytnmnikpgjglonaa", sum := "d29eb5288b629c17ee0bd22d9ee1dca22bbabb1d3533a455368cece749f572b3", func := "loop.example/g00856/laws.FnExactValidColours", spec := "fnExactValidColours", unfollowed := true, recurses := true, apart := false }
def FnExactValidColoursSaid : Prop := fnExactValidColoursRow.holds Try.pinned (OpenSpec.ofChange fnExactValidColoursSpec)

/-- ITS FALSE NEIGHBOUR: 'it returns false'. Refute it at one input. -/
def fnExactValidColoursWrong : ChangeSpec := { name := "fnExactValidColours", fn := fun _ => fun
  | [d] => { results := [.lit (.bool false)], args := [d] }
  | _ => none }
def FnExactValidColoursWrongFalsely : Prop := fnExactValidColoursRow.holds Try.pinned (OpenSpec.ofChange fnExactValidColoursWrong)

/-- 'laws.FnExactSameColours': WHATEVER THE INPUT: true; the input reads as it did. -/
def fnExactSameColoursSpec : ChangeSpec := { name := "fnExactSameColours", fn := fun _ => fun
  | [d1, d2] => { results := [.lit (.bool true)], args := [d1, d2] }
  | _ => none }
def fnExactSameColoursRow : OpenClaim := { program := "ytnmnikpgjglonaa", sum := "d29eb5288b629c17ee0bd22d9ee1dca22bbabb1d3533a455368cece749f572b3", func := "loop.example/g00856/laws.FnExactSameColours", spec := "fnExactSameColours", unfollowed := true, recurses := true, apart := false }
def FnExactSameColoursSaid : Prop := fnExactSameColoursRow.holds Try.pinned (OpenSpec.ofChange fnExactSameColoursSpec)

/-- ITS FALSE NEIGHBOUR: 'it returns false'. Refute it at one input. -/
def fnExactSameColoursWrong : ChangeSpec := { name := "fnExactSameColours", fn := fun _ => fun
  | [d1, d2] => { results := [.lit (.bool false)], args := [d1, d2] }
  | _ => none }
def FnExactSameColoursWrongFalsely : Prop := fnExactSameColoursRow.holds Try.pinned (OpenSpec.ofChange fnExactSameColoursWrong)

/-- 'laws.FnExactColoursText': WHATEVER THE INPUT: true; the input reads as it did. -/
def fnExactColoursTextSpec : ChangeSpec := { name := "fnExactColoursText", fn := fun _ => fun
  | [d] => { results := [.lit (.bool true)], args := [d] }
  | _ => none }
def fnExactColoursTextRow : OpenClaim := { program := "ytnmnikpgjglonaa", sum := "d29eb5288b629c17ee0bd22d9ee1dca22bbabb1d3533a455368cece749f572b3", func := "loop.example/g00856/laws.FnExactColoursText", spec := "fnExactColoursText", inPlace := ["internal/bytealg.MakeNoZero"], unfollowed := true, recurses := true, apart := false }
def FnExactColoursTextSaid : Prop := fnExactColoursTextRow.holds Try.pinned (OpenSpec.ofChange fnExactColoursTextSpec)

/-- ITS FALSE NEIGHBOUR: 'it returns false'. Refute it at one input. -/
def fnExactColoursTextWrong : ChangeSpec := { name := "fnExactColoursText", fn := fun _ => fun
  | [d] => { results := [.lit (.bool false)], args := [d] }
  | _ => none }
def FnExactColoursTextWrongFalsely : Prop := fnExactColoursTextRow.holds Try.pinned (OpenSpec.ofChange fnExactColoursTextWrong)

/-- 'laws.FnExactCountColours': WHATEVER THE INPUT: true; the input reads as it did. -/
def fnExactCountColoursSpec : ChangeSpec := { name := "fnExactCountColours", fn := fun _ => fun
  | [d] => { results := [.lit (.bool true)], args := [d] }
  | _ => none }
def fnExactCountColoursRow : OpenClaim := { program := "ytnmnikpgjglonaa", sum := "d29eb5288b629c17ee0bd22d9ee1dca22bbabb1d3533a455368cece749f572b3", func := "loop.example/g00856/laws.FnExactCountColours", spec := "fnExactCountColours", unfollowed := true, recurses := true, apart := false }
def FnExactCountColoursSaid : Prop := fnExactCountColoursRow.holds Try.pinned (OpenSpec.ofChange fnExactCountColoursSpec)

/-- ITS FALSE NEIGHBOUR: 'it returns false'. Refute it at one input. -/
def fnExactCountColoursWrong : ChangeSpec := { name := "fnExactCountColours", fn := fun _ => fun
  | [d] => { results := [.lit (.bool false)], args := [d] }
  | _ => none }
def FnExactCountColoursWrongFalsely : Prop := fnExactCountColoursRow.holds Try.pinned (OpenSpec.ofChange fnExactCountColoursWrong)

/-- 'laws.FnExactFloatsOf': WHATEVER THE INPUT: true; the input reads as it did. -/
def fnExactFloatsOfSpec : ChangeSpec := { name := "fnExactFloatsOf", fn := fun _ => fun
  | [d] => { results := [.lit (.bool true)], args := [d] }
  | _ => none }
def fnExactFloatsOfRow : OpenClaim := { program := "ytnmnikpgjglonaa", sum := "d29eb5288b629c17ee0bd22d9ee1dca22bbabb1d3533a455368cece749f572b3", func := "loop.example/g00856/laws.FnExactFloatsOf", spec := "fnExactFloatsOf", inPlace := ["internal/reflectlite.ValueOf", "internal/reflectlite.Swapper", "(internal/reflectlite.Value).Len"], unfollowed := true, recurses := true, apart := false }
def FnExactFloatsOfSaid : Prop := fnExactFloatsOfRow.holds Try.pinned (OpenSpec.ofChange fnExactFloatsOfSpec)

/-- ITS FALSE NEIGHBOUR: 'it returns false'. Refute it at one input. -/
def fnExactFloatsOfWrong : ChangeSpec := { name := "fnExactFloatsOf", fn := fun _ => fun
  | [d] => { results := [.lit (.bool false)], args := [d] }
  | _ => none }
def FnExactFloatsOfWrongFalsely : Prop := fnExactFloatsOfRow.holds Try.pinned (OpenSpec.ofChange fnExactFloatsOfWrong)

/-- 'laws.FnExactLongestFloat': WHATEVER THE INPUT: true; the input reads as it did. -/
def fnExactLongestFloatSpec : ChangeSpec := { name := "fnExactLongestFloat", fn := fun _ => fun
  | [d] => { results := [.lit (.bool true)], args := [d] }
  | _ => none }
def fnExactLongestFloatRow : OpenClaim := { program := "ytnmnikpgjglonaa", sum := "d29eb5288b629c17ee0bd22d9ee1dca22bbabb1d3533a455368cece749f572b3", func := "loop.example/g00856/laws.FnExactLongestFloat", spec := "fnExactLongestFloat", inPlace := ["internal/reflectlite.ValueOf", "internal/reflectlite.Swapper", "(internal/reflectlite.Value).Len"], unfollowed := true, recurses := true, apart := false }
def FnExactLongestFloatSaid : Prop := fnExactLongestFloatRow.holds Try.pinned (OpenSpec.ofChange fnExactLongestFloatSpec)

/-- ITS FALSE NEIGHBOUR: 'it returns false'. Refute it at one input. -/
def fnExactLongestFloatWrong : ChangeSpec := { name := "fnExactLongestFloat", fn := fun _ => fun
  | [d] => { results := [.lit (.bool false)], args := [d] }
  | _ => none }
def FnExactLongestFloatWrongFalsely : Prop := fnExactLongestFloatRow.holds Try.pinned (OpenSpec.ofChange fnExactLongestFloatWrong)

/-- 'laws.FnExactMirrorColours': WHATEVER THE INPUT: true; the input reads as it did. -/
def fnExactMirrorColoursSpec : ChangeSpec := { name := "fnExactMirrorColours", fn := fun _ => fun
  | [d] => { results := [.lit (.bool true)], args := [d] }
  | _ => none }
def fnExactMirrorColoursRow : OpenClaim := { program := "ytnmnikpgjglonaa", sum := "d29eb5288b629c17ee0bd22d9ee1dca22bbabb1d3533a455368cece749f572b3", func := "loop.example/g00856/laws.FnExactMirrorColours", spec := "fnExactMirrorColours", unfollowed := true, recurses := true, apart := false }
def FnExactMirrorColoursSaid : Prop := fnExactMirrorColoursRow.holds Try.pinned (OpenSpec.ofChange fnExactMirrorColoursSpec)

/-- ITS FALSE NEIGHBOUR: 'it returns false'. Refute it at one input. -/
def fnExactMirrorColoursWrong : ChangeSpec := { name := "fnExactMirrorColours", fn := fun _ => fun
  | [d] => { results := [.lit (.bool false)], args := [d] }
  | _ => none }
def FnExactMirrorColoursWrongFalsely : Prop := fnExactMirrorColoursRow.holds Try.pinned (OpenSpec.ofChange fnExactMirrorColoursWrong)

/- THE SECOND FORM. 'bulk': how many values and letters a reading holds, each counted each time it is reached (what is shared counts as often as it is met; a slice's spare places count too). A statement '..UptoSaid' is the law's where the arguments, and the package variables that the reading takes, are together of bulk at most 1048576: NARROWER than '..Said'. Prove '..Said' where nothing that the law and all that it calls make is longer than what came in: it says more and counts as full. Else prove '..UptoSaid'. A law counts once. -/
mutual
def uptoBulk {H : Type} : DataW H → Nat
  | .lit (.string bytes) => bytes.length + 1
  | .lit _ => 1
  | .nil => 1
  | .ptr d => uptoBulk d + 1
  | .slice elems spare => uptoBulkAll elems + uptoBulkAll spare + 1
  | .agg parts => uptoBulkAll parts + 1
  | .iface _ d => uptoBulk d + 1
  | .map entries => uptoBulkEntries entries + 1
  | .held _ => 1
def uptoBulkAll {H : Type} : List (DataW H) → Nat
  | [] => 0
  | d :: r => uptoBulk d + uptoBulkAll r
def uptoBulkEntries {H : Type} : List (Lit × DataW H) → Nat
  | [] => 0
  | x :: r => uptoBulkEntry x + uptoBulkEntries r
def uptoBulkEntry {H : Type} : Lit × DataW H → Nat
  | (.string bytes, d) => bytes.length + uptoBulk d + 1
  | (_, d) => uptoBulk d + 1
 end
def uptoSmall : (H : Type) → List (DataW H) → Bool := fun _ ds => decide (uptoBulkAll ds ≤ 1048576)
def OpenSpec.upto (s : _root_.Go.ChangeSpec) : _root_.Go.OpenSpec := { _root_.Go.OpenSpec.ofChange s with cond := some uptoSmall }

/-- 'laws.FnExactValidColours', WHERE WHAT IT READS IS OF BULK AT MOST 1048576: true; the input reads as it did. -/
def fnExactValidColoursUptoRow : OpenClaim := { program := "ytnmnikpgjglonaa", sum := "d29eb5288b629c17ee0bd22d9ee1dca22bbabb1d3533a455368cece749f572b3", func := "loop.example/g00856/laws.FnExactValidColours", spec := "fnExactValidColours", unfollowed := true, recurses := true, apart := false, narrowed := true }
def FnExactValidColoursUptoSaid : Prop := fnExactValidColoursUptoRow.holds Try.pinned (OpenSpec.upto fnExactValidColoursSpec)

/-- 'laws.FnExactSameColours', WHERE WHAT IT READS IS OF BULK AT MOST 1048576: true; the input reads as it did. -/
def fnExactSameColoursUptoRow : OpenClaim := { program := "ytnmnikpgjglonaa", sum := "d29eb5288b629c17ee0bd22d9ee1dca22bbabb1d3533a455368cece749f572b3", func := "loop.example/g00856/laws.FnExactSameColours", spec := "fnExactSameColours", unfollowed := true, recurses := true, apart := false, narrowed := true }
def FnExactSameColoursUptoSaid : Prop := fnExactSameColoursUptoRow.holds Try.pinned (OpenSpec.upto fnExactSameColoursSpec)

/-- 'laws.FnExactColoursText', WHERE WHAT IT READS IS OF BULK AT MOST 1048576: true; the input reads as it did. -/
def fnExactColoursTextUptoRow : OpenClaim := { program := "ytnmnikpgjglonaa", sum := "d29eb5288b629c17ee0bd22d9ee1dca22bbabb1d3533a455368cece749f572b3", func := "loop.example/g00856/laws.FnExactColoursText", spec := "fnExactColoursText", inPlace := ["internal/bytealg.MakeNoZero"], unfollowed := true, recurses := true, apart := false, narrowed := true }
def FnExactColoursTextUptoSaid : Prop := fnExactColoursTextUptoRow.holds Try.pinned (OpenSpec.upto fnExactColoursTextSpec)

/-- 'laws.FnExactCountColours', WHERE WHAT IT READS IS OF BULK AT MOST 1048576: true; the input reads as it did. -/
def fnExactCountColoursUptoRow : OpenClaim := { program := "ytnmnikpgjglonaa", sum := "d29eb5288b629c17ee0bd22d9ee1dca22bbabb1d3533a455368cece749f572b3", func := "loop.example/g00856/laws.FnExactCountColours", spec := "fnExactCountColours", unfollowed := true, recurses := true, apart := false, narrowed := true }
def FnExactCountColoursUptoSaid : Prop := fnExactCountColoursUptoRow.holds Try.pinned (OpenSpec.upto fnExactCountColoursSpec)

/-- 'laws.FnExactFloatsOf', WHERE WHAT IT READS IS OF BULK AT MOST 1048576: true; the input reads as it did. -/
def fnExactFloatsOfUptoRow : OpenClaim := { program := "ytnmnikpgjglonaa", sum := "d29eb5288b629c17ee0bd22d9ee1dca22bbabb1d3533a455368cece749f572b3", func := "loop.example/g00856/laws.FnExactFloatsOf", spec := "fnExactFloatsOf", inPlace := ["internal/reflectlite.ValueOf", "internal/reflectlite.Swapper", "(internal/reflectlite.Value).Len"], unfollowed := true, recurses := true, apart := false, narrowed := true }
def FnExactFloatsOfUptoSaid : Prop := fnExactFloatsOfUptoRow.holds Try.pinned (OpenSpec.upto fnExactFloatsOfSpec)

/-- 'laws.FnExactLongestFloat', WHERE WHAT IT READS IS OF BULK AT MOST 1048576: true; the input reads as it did. -/
def fnExactLongestFloatUptoRow : OpenClaim := { program := "ytnmnikpgjglonaa", sum := "d29eb5288b629c17ee0bd22d9ee1dca22bbabb1d3533a455368cece749f572b3", func := "loop.example/g00856/laws.FnExactLongestFloat", spec := "fnExactLongestFloat", inPlace := ["internal/reflectlite.ValueOf", "internal/reflectlite.Swapper", "(internal/reflectlite.Value).Len"], unfollowed := true, recurses := true, apart := false, narrowed := true }
def FnExactLongestFloatUptoSaid : Prop := fnExactLongestFloatUptoRow.holds Try.pinned (OpenSpec.upto fnExactLongestFloatSpec)

/-- 'laws.FnExactMirrorColours', WHERE WHAT IT READS IS OF BULK AT MOST 1048576: true; the input reads as it did. -/
def fnExactMirrorColoursUptoRow : OpenClaim := { program := "ytnmnikpgjglonaa", sum := "d29eb5288b629c17ee0bd22d9ee1dca22bbabb1d3533a455368cece749f572b3", func := "loop.example/g00856/laws.FnExactMirrorColours", spec := "fnExactMirrorColours", unfollowed := true, recurses := true, apart := false, narrowed := true }
def FnExactMirrorColoursUptoSaid : Prop := fnExactMirrorColoursUptoRow.holds Try.pinned (OpenSpec.upto fnExactMirrorColoursSpec)

end Rows
end Go.Proofs.Ytnmnikpgjglonaa
